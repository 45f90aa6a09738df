/- The walk of the law FnSquareGo. -/
import Derived.Test.YtnchjpjlabeababDs
import Derived.Test.YtnchjpjlabeababSw
namespace Go.Proofs.Ytnchjpjlabeabab.Laws
open Go.ChangeShapes Go.WideShapes Go.ChangeAt Go.RowKit Base Sq Rd
set_option linter.unusedVariables false
set_option maxRecDepth 20000

theorem numV_in' {s x y : Int} (h : 0 ≤ x ∧ x < s ∧ 0 ≤ y ∧ y < s) : numV s x y = x + s * y := if_pos h
theorem goV_neg {s a dx dy : Int} (h : goV s a dx dy < 0) : goV s a dx dy = -1 := by
  unfold goV numV at *
  split at h
  · split at h
    · next h1 h2 =>
      obtain ⟨hs, ha⟩ := okB_yes h1.1
      rcases hs with rfl | rfl | rfl <;> omega
    · next h1 h2 => rw [if_pos h1, if_neg h2]
  · next h1 => rw [if_neg h1]
/-- going back leads back -/
theorem goV_back {s a dx dy : Int} (hok : okB s a = true) (h : 0 ≤ goV s a dx dy) :
    (-4 ≤ dx ∧ dx ≤ 4) ∧ (-4 ≤ dy ∧ dy ≤ 4) ∧ goV s (goV s a dx dy) (-dx) (-dy) = a ∧ goV s a dx dy - a = dx + s * dy := by
  obtain ⟨hs, ha0, _, ha1⟩ := okB_yes hok
  unfold goV numV at h
  split at h
  · next h1 =>
    split at h
    · next h2 =>
      have e : goV s a dx dy = a % s + dx + s * (a / s + dy) := by unfold goV numV; rw [if_pos h1, if_pos h2]
      obtain ⟨_, hdx, hdy⟩ := h1
      have hok2 : okB s (goV s a dx dy) = true := by
        rw [e]
        refine okB_of hs ?_ ?_
        · rcases hs with rfl | rfl | rfl <;> omega
        · rcases hs with rfl | rfl | rfl <;> omega
      refine ⟨hdx, hdy, ?_, ?_⟩
      · unfold goV at hok2 ⊢
        rw [if_pos ⟨hok2, by omega, by omega⟩]
        have e' := e
        unfold goV at e'
        rw [e']
        rcases hs with rfl | rfl | rfl
        · rw [numV_in' (by omega)]; omega
        · rw [numV_in' (by omega)]; omega
        · rw [numV_in' (by omega)]; omega
      · rw [e]; rcases hs with rfl | rfl | rfl <;> omega
    · omega
  · omega
theorem goV_stay {s a : Int} (hok : okB s a = true) : goV s a 0 0 = a := by
  obtain ⟨hs, ha0, _, ha1⟩ := okB_yes hok
  unfold goV
  rw [if_pos ⟨hok, by omega, by omega⟩]
  rcases hs with rfl | rfl | rfl
  · rw [numV_in' (by omega)]; omega
  · rw [numV_in' (by omega)]; omega
  · rw [numV_in' (by omega)]; omega

set_option maxHeartbeats 2000000 in
theorem fnSquareGo_walk (w : World) (A : Option Addr) (n c : Nat) (zs : List Int) (h : IsRow .u8 w A n c zs) :
    Calls Try.prog 4 #[.slice A n c] w fun e w' => e = .returned (.bool true) ∧ Below w.heap.size w w' := by
  by_cases hn : 1048576 < n
  · have hd : decide (1048576 < (n : Int)) = true := decide_eq_true (by omega)
    clear h
    go_enter Try.func4, Try.ntmps4
    go_wp2_with fail
    go_ret
    exact ⟨rfl, Below.refl _ _⟩
  have hd : decide (1048576 < (n : Int)) = false := decide_eq_false (by omega)
  have hn2 : n ≤ 1048576 := by omega
  have HH := Lib.hid h
  clear h hn
  go_enter Try.func4, Try.ntmps4
  go_wp2_with fail
  refine (drawSquareGo_any _ _ _ _ _ HH.out hn2).mono ?_
  rintro e w1 ⟨s, a, dx, dy, rfl, hb1⟩
  go_wp2_with fail
  refine (impl_go _ _ _ _ _).mono ?_
  rintro e w2 ⟨rfl, hb2⟩
  have hb := hb1.trans (hb2.mono hb1.size)
  clear hb1 hb2
  obtain ⟨G, hG⟩ : ∃ G, goV s a dx dy = G := ⟨_, rfl⟩
  have HG := Lib.hid hG
  clear hG
  cases hok : okB s a
  · have HO := Lib.hid hok
    clear hok
    rw [HG.out]
    go_wp2_with (first | (go_at_call 19; refine (spec_go _ _ _ _ _).mono ?_; rw [HG.out]; rintro e w' ⟨rfl, rfl⟩) | (go_at_call 20; refine (sq_ok _ _ _).mono ?_; rw [HO.out]; rintro e w' ⟨rfl, rfl⟩))
    go_ret
    exact ⟨rb (by first | rfl | simp), hb⟩
  · have HO := Lib.hid hok
    have HST := Lib.hid (goV_stay hok)
    by_cases hneg : goV s a dx dy < 0
    · have hG1 : G = -1 := by rw [← HG.out]; exact goV_neg hneg
      clear hok hneg
      subst hG1
      rw [HG.out]
      go_wp2_with (first | (go_at_call 19; refine (spec_go _ _ _ _ _).mono ?_; rw [HG.out]; rintro e w' ⟨rfl, rfl⟩) | (go_at_call 20; refine (sq_ok _ _ _).mono ?_; rw [HO.out]; rintro e w' ⟨rfl, rfl⟩) | (go_at_call 18; refine (impl_go _ _ _ _ _).mono ?_; rw [HST.out]; rintro e w3 ⟨rfl, hb3⟩))
      go_ret
      exact ⟨rb (by first | rfl | simp), hb.trans (hb3.mono hb.size)⟩
    · obtain ⟨⟨d1, d2⟩, ⟨d3, d4⟩, hback, hdiff⟩ := goV_back (dx := dx) (dy := dy) hok (by omega)
      rw [HG.out] at hback hdiff hneg
      have HBK := Lib.hid hback
      obtain ⟨hs, ha0, ha15, ha1⟩ := okB_yes hok
      have hm1 : -16 ≤ s * dy ∧ s * dy ≤ 16 := by rcases hs with rfl | rfl | rfl <;> omega
      obtain ⟨hm2, hm3⟩ := hm1
      have hw1 : IntKind.i64.wrap (s * dy) = s * dy := IntWalk.i64_in _ (by omega)
      have hw2 : IntKind.i64.wrap (dx + s * dy) = dx + s * dy := IntWalk.i64_in _ (by omega)
      have hw3 : IntKind.i64.wrap (G - a) = dx + s * dy := by rw [hdiff]; exact hw2
      have hG0 : 0 ≤ G := by omega
      clear hok hneg hback hdiff hs
      rw [HG.out]
      go_wp2_with (first | (go_at_call 19; refine (spec_go _ _ _ _ _).mono ?_; rw [HG.out]; rintro e w' ⟨rfl, rfl⟩) | (go_at_call 20; refine (sq_ok _ _ _).mono ?_; rw [HO.out]; rintro e w' ⟨rfl, rfl⟩) | (go_at_call 18; refine (impl_go _ _ _ _ _).mono ?_; rw [HBK.out]; rintro e w3 ⟨rfl, hb3⟩) | (go_at_call 18; refine (impl_go _ _ _ _ _).mono ?_; rw [HST.out]; rintro e w4 ⟨rfl, hb4⟩))
      go_ret
      exact ⟨rb (by first | rfl | simp), (hb.trans (hb3.mono hb.size)).trans (hb4.mono (Nat.le_trans hb.size hb3.size))⟩
end Go.Proofs.Ytnchjpjlabeabab.Laws
