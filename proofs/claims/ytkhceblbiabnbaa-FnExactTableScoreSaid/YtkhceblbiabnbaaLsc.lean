/- The walks of FnExactTableScore and FnTableScore. -/
import Derived.Test.YtkhceblbiabnbaaTsc
import Derived.Test.YtkhceblbiabnbaaRd
namespace Go.Proofs.Ytkhceblbiabnbaa.Laws
open Go.ChangeShapes Go.WideShapes Go.ChangeAt Go.RowKit Base Sq Sc Rd
set_option linter.unusedVariables false
set_option maxRecDepth 20000

theorem fnExactTableScore_walk (w : World) (v : Int) (w0 : (Lit.int .i64 v).wf = true) :
    Calls Try.prog 3 #[.int .i64 v] w fun e w' => e = .returned (.bool true) ∧ Below w.heap.size w w' := by
  clear w0
  go_enter Try.func3, Try.ntmps3
  go_wp2_with (first | (go_at_call 9; refine (specScore_any _ _).mono ?_; rintro e w' ⟨rfl, rfl⟩) | (go_at_call 10; refine (score_any _ _).mono ?_; rintro e w' ⟨rfl, rfl⟩))
  go_ret
  exact ⟨rfl, Below.refl _ _⟩

set_option maxHeartbeats 2000000 in
theorem drawTableScore_any (A : Option Addr) (n c : Nat) (zs : List Int) (w : World) (h : IsRow .u8 w A n c zs) (hn : n ≤ 1048576) :
    Calls Try.prog 11 #[.slice A n c] w fun e w' => ∃ v : Int, e = .returned (.int .i64 v) ∧ -1 ≤ v ∧ v ≤ 102 ∧ Below w.heap.size w w' := by
  go_enter Try.func11, Try.ntmps11
  go_wp2_with fail
  refine (open_any _ _ _ _ _ h hn).mono ?_
  rintro e w0 ⟨g, rfl, hg, hr0, hb0⟩
  clear h
  go_wp2_with fail
  refine (pick_any _ _ _ _ hr0 (by omega) (by omega)).mono ?_
  rintro e w1 ⟨v, rfl, v0, v1, hr1, hbut⟩
  have hb1 := hb0.trans (hbut.below hb0.size hg)
  have v2 : v < 104 := by omega
  have e1 : IntKind.i64.wrap (v - 1) = v - 1 := IntWalk.i64_in _ (by omega)
  clear hr0 hb0 hbut v1
  go_wp2_with fail
  go_ret
  exact ⟨v - 1, rfl, by omega, by omega, hb1⟩

theorem score_facts {v : Int} (h1 : 2 ≤ v) (h2 : v ≤ 98) :
    (wonB v = true ∧ lostB v = false ∧ 0 < scoreV v ∧ scoreV (v + 2) < scoreV v ∧ 0 < scoreV (v + 2)) ∨ (wonB v = false ∧ lostB v = true ∧ scoreV v < 0 ∧ scoreV v < scoreV (v + 2) ∧ scoreV (v + 2) ≤ 0) := by
  have e1 : scoreV v = if v % 2 = 0 then v - 102 else 102 - v := if_neg (by omega)
  have e2 : scoreV (v + 2) = if (v + 2) % 2 = 0 then v + 2 - 102 else 102 - (v + 2) := if_neg (by omega)
  rw [e1, e2]
  unfold wonB lostB
  rw [decide_eq_true h1]
  rcases (show v % 2 = 0 ∨ v % 2 = 1 by omega) with h | h
  · refine .inr ?_
    rw [decide_eq_true h, if_pos h, if_pos (by omega)]
    exact ⟨rfl, rfl, by omega, by omega, by omega⟩
  · refine .inl ?_
    rw [decide_eq_false (by omega), if_neg (by omega), if_neg (by omega)]
    exact ⟨rfl, rfl, by omega, by omega, by omega⟩

set_option maxHeartbeats 4000000 in
theorem fnTableScore_walk (w : World) (A : Option Addr) (n c : Nat) (zs : List Int) (h : IsRow .u8 w A n c zs) :
    Calls Try.prog 4 #[.slice A n c] w fun e w' => e = .returned (.bool true) ∧ Below w.heap.size w w' := by
  by_cases hn : 1048576 < n
  · have hd : decide (1048576 < (n : Int)) = true := decide_eq_true (by omega)
    clear h
    go_enter Try.func4, Try.ntmps4
    go_wp2_with fail
    go_ret
    exact ⟨rfl, Below.refl _ _⟩
  have hd : decide (1048576 < (n : Int)) = false := decide_eq_false (by omega)
  have hn2 : n ≤ 1048576 := by omega
  have HH := Lib.hid h
  clear h hn
  go_enter Try.func4, Try.ntmps4
  go_wp2_with fail
  refine (drawTableScore_any _ _ _ _ _ HH.out hn2).mono ?_
  rintro e w1 ⟨v, rfl, h1, h2, hb1⟩
  have HF := Lib.hid (score_facts (v := v))
  by_cases hlow : v < 2
  · have hd : decide (v < 2) = true := decide_eq_true hlow
    generalize hs : scoreV v = s
    have HS := Lib.hid hs
    clear hs
    go_wp2_with (first | (go_at_call 9; refine (specScore_any _ _).mono ?_; rw [HS.out]; rintro e w' ⟨rfl, rfl⟩) | (go_at_call 10; refine (score_any _ _).mono ?_; rw [HS.out]; rintro e w' ⟨rfl, rfl⟩))
    go_ret
    exact ⟨rb (by first | rfl | simp), hb1⟩
  · have hd : decide (v < 2) = false := decide_eq_false hlow
    by_cases hhi : 98 < v
    · have hd2 : decide (98 < v) = true := decide_eq_true hhi
      generalize hs : scoreV v = s
      have HS := Lib.hid hs
      clear hs
      go_wp2_with (first | (go_at_call 9; refine (specScore_any _ _).mono ?_; rw [HS.out]; rintro e w' ⟨rfl, rfl⟩) | (go_at_call 10; refine (score_any _ _).mono ?_; rw [HS.out]; rintro e w' ⟨rfl, rfl⟩))
      go_ret
      exact ⟨rb (by first | rfl | simp), hb1⟩
    · have hd2 : decide (98 < v) = false := decide_eq_false hhi
      have hf := HF.out (by omega) (by omega)
      have e1 : IntKind.i64.wrap (v + 2) = v + 2 := IntWalk.i64_in _ (by omega)
      generalize hs : scoreV v = s at hf
      generalize hq : scoreV (v + 2) = q at hf
      have HS := Lib.hid hs
      have HQ := Lib.hid hq
      clear hs hq
      rcases hf with ⟨g1, g2, g3, g4, g5⟩ | ⟨g1, g2, g3, g4, g5⟩
      · have G1 := Lib.hid g1
        have G2 := Lib.hid g2
        have x1 : decide (0 < s) = true := decide_eq_true g3
        have x2 : decide (q < s) = true := decide_eq_true g4
        have x3 : decide (0 < q) = true := decide_eq_true g5
        clear g1 g2
        go_wp2_with (first
          | (go_at_call 9; refine (specScore_any _ _).mono ?_; rw [HS.out]; rintro e w' ⟨rfl, rfl⟩)
          | (go_at_call 10; refine (score_any _ _).mono ?_; rw [HS.out]; rintro e w' ⟨rfl, rfl⟩)
          | (go_at_call 10; refine (score_any _ _).mono ?_; rw [HQ.out]; rintro e w' ⟨rfl, rfl⟩)
          | (go_at_call 12; refine (zgWon_any _ _ (by omega)).mono ?_; rw [G1.out]; rintro e w' ⟨rfl, rfl⟩)
          | (go_at_call 13; refine (zgLost_any _ _ (by omega)).mono ?_; rw [G2.out]; rintro e w' ⟨rfl, rfl⟩))
        go_ret
        exact ⟨rb (by first | rfl | simp), hb1⟩
      · have G1 := Lib.hid g1
        have G2 := Lib.hid g2
        have x1 : decide (s < 0) = true := decide_eq_true g3
        have x2 : decide (s < q) = true := decide_eq_true g4
        have x3 : decide (q ≤ 0) = true := decide_eq_true g5
        clear g1 g2
        go_wp2_with (first
          | (go_at_call 9; refine (specScore_any _ _).mono ?_; rw [HS.out]; rintro e w' ⟨rfl, rfl⟩)
          | (go_at_call 10; refine (score_any _ _).mono ?_; rw [HS.out]; rintro e w' ⟨rfl, rfl⟩)
          | (go_at_call 10; refine (score_any _ _).mono ?_; rw [HQ.out]; rintro e w' ⟨rfl, rfl⟩)
          | (go_at_call 12; refine (zgWon_any _ _ (by omega)).mono ?_; rw [G1.out]; rintro e w' ⟨rfl, rfl⟩)
          | (go_at_call 13; refine (zgLost_any _ _ (by omega)).mono ?_; rw [G2.out]; rintro e w' ⟨rfl, rfl⟩))
        go_ret
        exact ⟨rb (by first | rfl | simp), hb1⟩
end Go.Proofs.Ytkhceblbiabnbaa.Laws
