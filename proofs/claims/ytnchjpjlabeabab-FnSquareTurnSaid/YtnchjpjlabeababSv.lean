/- The model's l1Turn; SquareTurn and SquareGet of the program and of the model. -/
import Derived.Test.YtnchjpjlabeababSu
import Derived.Test.YtnchjpjlabeababSt
namespace Go.Proofs.Ytnchjpjlabeabab.Sq
open Go.ChangeShapes Go.WideShapes Go.ChangeAt Go.RowKit Base
set_option linter.unusedVariables false
set_option maxRecDepth 20000

theorem l1Turn_hi (s k a : Int) (w : World) (hs : s = 2 ∨ s = 3 ∨ s = 4) (h0 : 0 ≤ a) (h1 : a ≤ 15) (h2 : a < s * s) (hk : 4 ≤ k ∧ k ≤ 7) :
    Calls Try.prog 50 #[.int .i64 s, .int .i64 k, .int .i64 a] w fun e w' => e = .returned (.int .i64 ((rot s (k % 4).toNat (a / s, a % s)).1 + s * (rot s (k % 4).toNat (a / s, a % s)).2)) ∧ w = w' := by
  obtain ⟨hx, hy⟩ := div_bd hs h0 h2
  have hrb := fun n => rot_bd s n (a / s, a % s) hy hx
  obtain ⟨q, hq0, hqs, hqb⟩ : ∃ q : Nat → Int × Int, Hid (∀ n, q n = rot s n (a / s, a % s)) ∧ Hid (∀ n, (s - 1 - (q n).2, (q n).1) = q (n + 1)) ∧ (∀ n, (0 ≤ (q n).1 ∧ (q n).1 < s) ∧ (0 ≤ (q n).2 ∧ (q n).2 < s)) :=
    ⟨fun n => rot s n (a / s, a % s), Lib.hid (fun _ => rfl), Lib.hid (fun _ => rfl), hrb⟩
  obtain ⟨hk1, hk2⟩ := hk
  have H := hq0.out (k % 4).toNat
  rw [← H]
  have HK := Lib.hid (hq0.out 0)
  clear h2 hx hy hrb H hq0
  rcases hs with rfl | rfl | rfl
  all_goals
    go_enter Try.func50, Try.ntmps50
    go_wp2
    go_loop [7, 8, 10] (fun x y i => ∃ n : Nat, (n : Int) ≤ k % 4 ∧ i = .int .i64 (k % 4 - n) ∧ x = .int .i64 (q n).1 ∧ y = .int .i64 (q n).2) (fun _ _ i => (intOf i).toNat)
    case atStart => exact ⟨0, by omega, by simp, by rw [HK.out]; rfl, by rw [HK.out]; rfl⟩
    case round =>
      obtain ⟨n, hn, rfl, rfl, rfl⟩ := hrel
      obtain ⟨⟨hr1, hr2⟩, hr3, hr4⟩ := hqb n
      by_cases hlt : (n : Int) < k % 4
      · go_wp2
        go_round
        case rel => exact ⟨n + 1, by omega, by go_num, by rw [← hqs.out]; rfl, by rw [← hqs.out]⟩
        case measure => simp [intOf]; omega
      · obtain rfl : n = (k % 4).toNat := by omega
        go_wp2
        go_ret
        exact ⟨rfl, rfl⟩
theorem l1Turn_lo (s k a : Int) (w : World) (hs : s = 2 ∨ s = 3 ∨ s = 4) (h0 : 0 ≤ a) (h1 : a ≤ 15) (h2 : a < s * s) (hk : 0 ≤ k ∧ k ≤ 3) :
    Calls Try.prog 50 #[.int .i64 s, .int .i64 k, .int .i64 a] w fun e w' => e = .returned (.int .i64 ((rot s (k % 4).toNat (a % s, a / s)).1 + s * (rot s (k % 4).toNat (a % s, a / s)).2)) ∧ w = w' := by
  obtain ⟨hx, hy⟩ := div_bd hs h0 h2
  have hrb := fun n => rot_bd s n (a % s, a / s) hx hy
  obtain ⟨q, hq0, hqs, hqb⟩ : ∃ q : Nat → Int × Int, Hid (∀ n, q n = rot s n (a % s, a / s)) ∧ Hid (∀ n, (s - 1 - (q n).2, (q n).1) = q (n + 1)) ∧ (∀ n, (0 ≤ (q n).1 ∧ (q n).1 < s) ∧ (0 ≤ (q n).2 ∧ (q n).2 < s)) :=
    ⟨fun n => rot s n (a % s, a / s), Lib.hid (fun _ => rfl), Lib.hid (fun _ => rfl), hrb⟩
  obtain ⟨hk1, hk2⟩ := hk
  have H := hq0.out (k % 4).toNat
  rw [← H]
  have HK := Lib.hid (hq0.out 0)
  clear h2 hx hy hrb H hq0
  rcases hs with rfl | rfl | rfl
  all_goals
    go_enter Try.func50, Try.ntmps50
    go_wp2
    go_loop [7, 8, 10] (fun x y i => ∃ n : Nat, (n : Int) ≤ k % 4 ∧ i = .int .i64 (k % 4 - n) ∧ x = .int .i64 (q n).1 ∧ y = .int .i64 (q n).2) (fun _ _ i => (intOf i).toNat)
    case atStart => exact ⟨0, by omega, by simp, by rw [HK.out]; rfl, by rw [HK.out]; rfl⟩
    case round =>
      obtain ⟨n, hn, rfl, rfl, rfl⟩ := hrel
      obtain ⟨⟨hr1, hr2⟩, hr3, hr4⟩ := hqb n
      by_cases hlt : (n : Int) < k % 4
      · go_wp2
        go_round
        case rel => exact ⟨n + 1, by omega, by go_num, by rw [← hqs.out]; rfl, by rw [← hqs.out]⟩
        case measure => simp [intOf]; omega
      · obtain rfl : n = (k % 4).toNat := by omega
        go_wp2
        go_ret
        exact ⟨rfl, rfl⟩

theorem l1Turn_any (s k a : Int) (w : World) (hs : s = 2 ∨ s = 3 ∨ s = 4) (h0 : 0 ≤ a) (h1 : a ≤ 15) (h2 : a < s * s) (hk : 0 ≤ k ∧ k ≤ 7) :
    Calls Try.prog 50 #[.int .i64 s, .int .i64 k, .int .i64 a] w fun e w' => e = .returned (.int .i64 ((turnV s k (a % s) (a / s)).1 + s * (turnV s k (a % s) (a / s)).2)) ∧ w = w' := by
  by_cases h : 4 ≤ k
  · have := l1Turn_hi s k a w hs h0 h1 h2 (by omega)
    unfold turnV; rw [if_pos h]; exact this
  · have := l1Turn_lo s k a w hs h0 h1 h2 (by omega)
    unfold turnV; rw [if_neg h]; exact this

/-- where a square comes by a turn -/
def turnAt (s k a : Int) : Int := if okB s a = true ∧ (0 ≤ k ∧ k ≤ 7) then (turnV s k (a % s) (a / s)).1 + s * (turnV s k (a % s) (a / s)).2 else -1
theorem spec_turn (s k a : Int) (w : World) :
    Calls Try.prog 23 #[.int .i64 s, .int .i64 k, .int .i64 a] w fun e w' => e = .returned (.int .i64 (turnAt s k a)) ∧ w = w' := by
  by_cases h0 : okB s a = true
  · obtain ⟨hs, ha1, ha2, ha3⟩ := okB_yes h0
    have H0 := Lib.hid h0
    by_cases h1 : 0 ≤ k ∧ k ≤ 7
    · have H1 := Lib.hid (inB_yes h1)
      rw [show turnAt s k a = _ from if_pos ⟨h0, h1⟩]
      clear h0
      go_enter Try.func23, Try.ntmps23
      go_wp2_with (first | (go_at_call 44; refine (sp_sq_ok _ _ _).mono ?_; rw [H0.out]; rintro e w' ⟨rfl, rfl⟩) | (go_at_call 45; refine (in_any _ _ _ _).mono ?_; rw [H1.out]; rintro e w' ⟨rfl, rfl⟩) | (go_at_call 50; refine (l1Turn_any _ _ _ _ hs ha1 ha2 ha3 h1).mono ?_; rintro e w' ⟨rfl, rfl⟩))
      go_ret
      exact ⟨rfl, rfl⟩
    · have H1 := Lib.hid (inB_no h1)
      rw [show turnAt s k a = _ from if_neg (fun h => h1 h.2)]
      clear h0 h1
      go_enter Try.func23, Try.ntmps23
      go_wp2_with (first | (go_at_call 44; refine (sp_sq_ok _ _ _).mono ?_; rw [H0.out]; rintro e w' ⟨rfl, rfl⟩) | (go_at_call 45; refine (in_any _ _ _ _).mono ?_; rw [H1.out]; rintro e w' ⟨rfl, rfl⟩))
      go_ret
      exact ⟨rfl, rfl⟩
  · rw [show turnAt s k a = _ from if_neg (fun h => h0 h.1)]
    have H0 : Hid (okB s a = false) := Lib.hid (by simpa using h0)
    clear h0
    go_enter Try.func23, Try.ntmps23
    go_wp2_with (go_at_call 44; refine (sp_sq_ok _ _ _).mono ?_; rw [H0.out]; rintro e w' ⟨rfl, rfl⟩)
    go_ret
    exact ⟨rfl, rfl⟩
theorem impl_turn (s k a : Int) (w : World) :
    Calls Try.prog 22 #[.int .i64 s, .int .i64 k, .int .i64 a] w fun e w' => e = .returned (.int .i64 (turnAt s k a)) ∧ Below w.heap.size w w' := by
  by_cases h0 : okB s a = true
  · obtain ⟨hs, ha1, ha2, ha3⟩ := okB_yes h0
    obtain ⟨hr, hq⟩ := div_bd hs ha1 ha3
    have H0 := Lib.hid h0
    by_cases h1 : 0 ≤ k ∧ k ≤ 7
    · have H1 := Lib.hid (inB_yes h1)
      obtain ⟨⟨hv1, hv2⟩, hv3, hv4⟩ := turnV_bd s k _ _ hr hq
      rw [show turnAt s k a = _ from if_pos ⟨h0, h1⟩, ← numV_in ⟨hv1, hv2, hv3, hv4⟩]
      clear h0
      go_enter Try.func22, Try.ntmps22
      go_wp2_with (first | (go_at_call 20; refine (sq_ok _ _ _).mono ?_; rw [H0.out]; rintro e w' ⟨rfl, rfl⟩) | (go_at_call 48; refine (turnOk_any _ _).mono ?_; rw [H1.out]; rintro e w' ⟨rfl, rfl⟩))
      refine (squareAt_any _ _ _ hs ha1 ha2).mono ?_
      rintro e w1 ⟨rfl, hb1⟩
      go_wp2_with fail
      refine (turned_any _ _ _ _ _ hs hr hq h1).mono ?_
      rintro e w2 ⟨rfl, hb2⟩
      go_wp2_with fail
      refine (number_any _ _ _ _ hs).mono ?_
      rintro e w3 ⟨rfl, hb3⟩
      go_wp2_with fail
      go_ret
      exact ⟨rfl, (hb1.trans (hb2.mono hb1.size)).trans (hb3.mono (by have := hb1.size; have := hb2.size; omega))⟩
    · have H1 := Lib.hid (inB_no h1)
      rw [show turnAt s k a = _ from if_neg (fun h => h1 h.2)]
      clear h0 h1
      go_enter Try.func22, Try.ntmps22
      go_wp2_with (first | (go_at_call 20; refine (sq_ok _ _ _).mono ?_; rw [H0.out]; rintro e w' ⟨rfl, rfl⟩) | (go_at_call 48; refine (turnOk_any _ _).mono ?_; rw [H1.out]; rintro e w' ⟨rfl, rfl⟩))
      go_ret
      exact ⟨rfl, Below.refl _ _⟩
  · rw [show turnAt s k a = _ from if_neg (fun h => h0 h.1)]
    have H0 : Hid (okB s a = false) := Lib.hid (by simpa using h0)
    clear h0
    go_enter Try.func22, Try.ntmps22
    go_wp2_with (go_at_call 20; refine (sq_ok _ _ _).mono ?_; rw [H0.out]; rintro e w' ⟨rfl, rfl⟩)
    go_ret
    exact ⟨rfl, Below.refl _ _⟩

end Go.Proofs.Ytnchjpjlabeabab.Sq
