/- The model's l1Go and l1Turn; SquareGo and SquareTurn of the program and of the model. -/
import Derived.Test.YtcgfklljbblhlaaGreatDoorSr
namespace Go.Proofs.YtcgfklljbblhlaaGreatDoor.Sq
open Go.ChangeShapes Go.WideShapes Go.ChangeAt Go.RowKit Base
set_option linter.unusedVariables false
set_option maxRecDepth 20000

theorem numV_in {s x y : Int} (h : 0 ≤ x ∧ x < s ∧ 0 ≤ y ∧ y < s) : numV s x y = x + s * y := if_pos h
theorem numV_out {s x y : Int} (h : ¬ (0 ≤ x ∧ x < s ∧ 0 ≤ y ∧ y < s)) : numV s x y = -1 := if_neg h
theorem inB_yes {n lo hi : Int} (h : lo ≤ n ∧ n ≤ hi) : inB n lo hi = true := decide_eq_true h
theorem inB_no {n lo hi : Int} (h : ¬ (lo ≤ n ∧ n ≤ hi)) : inB n lo hi = false := decide_eq_false h

theorem l1Go_2 (a dx dy : Int) (w : World) (ha1 : 0 ≤ a) (ha2 : a ≤ 15) (hdx1 : -100 ≤ dx) (hdx2 : dx ≤ 100) (hdy1 : -100 ≤ dy) (hdy2 : dy ≤ 100) :
    Calls Tryz.prog 95 #[.int .i64 2, .int .i64 a, .int .i64 dx, .int .i64 dy] w fun e w' => e = .returned (.int .i64 (numV 2 (a % 2 + dx) (a / 2 + dy))) ∧ w = w' := by
  have hq : 0 ≤ a / 2 ∧ a / 2 ≤ 15 := by omega
  have hr : 0 ≤ a % 2 ∧ a % 2 < 2 := by omega
  obtain ⟨hq1, hq2⟩ := hq
  obtain ⟨hr1, hr2⟩ := hr
  by_cases h1 : 0 ≤ a % 2 + dx ∧ a % 2 + dx ≤ 1
  · have H1 := Lib.hid (inB_yes h1)
    by_cases h2 : 0 ≤ a / 2 + dy ∧ a / 2 + dy ≤ 1
    · have H2 := Lib.hid (inB_yes h2)
      rw [numV_in (by omega)]
      clear h1 h2
      go_enter Tryz.func95, Tryz.ntmps95
      go_wp2_with (go_at_call 50; refine (in_any _ _ _ _).mono ?_; (first | rw [H1.out] | rw [H2.out]); rintro e w' ⟨rfl, rfl⟩)
      go_ret
      exact ⟨rfl, rfl⟩
    · have H2 := Lib.hid (inB_no h2)
      rw [numV_out (by omega)]
      clear h1 h2
      go_enter Tryz.func95, Tryz.ntmps95
      go_wp2_with (go_at_call 50; refine (in_any _ _ _ _).mono ?_; (first | rw [H1.out] | rw [H2.out]); rintro e w' ⟨rfl, rfl⟩)
      go_ret
      exact ⟨rfl, rfl⟩
  · have H1 := Lib.hid (inB_no h1)
    rw [numV_out (by omega)]
    clear h1
    go_enter Tryz.func95, Tryz.ntmps95
    go_wp2_with (go_at_call 50; refine (in_any _ _ _ _).mono ?_; rw [H1.out]; rintro e w' ⟨rfl, rfl⟩)
    go_ret
    exact ⟨rfl, rfl⟩
theorem l1Go_3 (a dx dy : Int) (w : World) (ha1 : 0 ≤ a) (ha2 : a ≤ 15) (hdx1 : -100 ≤ dx) (hdx2 : dx ≤ 100) (hdy1 : -100 ≤ dy) (hdy2 : dy ≤ 100) :
    Calls Tryz.prog 95 #[.int .i64 3, .int .i64 a, .int .i64 dx, .int .i64 dy] w fun e w' => e = .returned (.int .i64 (numV 3 (a % 3 + dx) (a / 3 + dy))) ∧ w = w' := by
  have hq : 0 ≤ a / 3 ∧ a / 3 ≤ 15 := by omega
  have hr : 0 ≤ a % 3 ∧ a % 3 < 3 := by omega
  obtain ⟨hq1, hq2⟩ := hq
  obtain ⟨hr1, hr2⟩ := hr
  by_cases h1 : 0 ≤ a % 3 + dx ∧ a % 3 + dx ≤ 2
  · have H1 := Lib.hid (inB_yes h1)
    by_cases h2 : 0 ≤ a / 3 + dy ∧ a / 3 + dy ≤ 2
    · have H2 := Lib.hid (inB_yes h2)
      rw [numV_in (by omega)]
      clear h1 h2
      go_enter Tryz.func95, Tryz.ntmps95
      go_wp2_with (go_at_call 50; refine (in_any _ _ _ _).mono ?_; (first | rw [H1.out] | rw [H2.out]); rintro e w' ⟨rfl, rfl⟩)
      go_ret
      exact ⟨rfl, rfl⟩
    · have H2 := Lib.hid (inB_no h2)
      rw [numV_out (by omega)]
      clear h1 h2
      go_enter Tryz.func95, Tryz.ntmps95
      go_wp2_with (go_at_call 50; refine (in_any _ _ _ _).mono ?_; (first | rw [H1.out] | rw [H2.out]); rintro e w' ⟨rfl, rfl⟩)
      go_ret
      exact ⟨rfl, rfl⟩
  · have H1 := Lib.hid (inB_no h1)
    rw [numV_out (by omega)]
    clear h1
    go_enter Tryz.func95, Tryz.ntmps95
    go_wp2_with (go_at_call 50; refine (in_any _ _ _ _).mono ?_; rw [H1.out]; rintro e w' ⟨rfl, rfl⟩)
    go_ret
    exact ⟨rfl, rfl⟩
theorem l1Go_4 (a dx dy : Int) (w : World) (ha1 : 0 ≤ a) (ha2 : a ≤ 15) (hdx1 : -100 ≤ dx) (hdx2 : dx ≤ 100) (hdy1 : -100 ≤ dy) (hdy2 : dy ≤ 100) :
    Calls Tryz.prog 95 #[.int .i64 4, .int .i64 a, .int .i64 dx, .int .i64 dy] w fun e w' => e = .returned (.int .i64 (numV 4 (a % 4 + dx) (a / 4 + dy))) ∧ w = w' := by
  have hq : 0 ≤ a / 4 ∧ a / 4 ≤ 15 := by omega
  have hr : 0 ≤ a % 4 ∧ a % 4 < 4 := by omega
  obtain ⟨hq1, hq2⟩ := hq
  obtain ⟨hr1, hr2⟩ := hr
  by_cases h1 : 0 ≤ a % 4 + dx ∧ a % 4 + dx ≤ 3
  · have H1 := Lib.hid (inB_yes h1)
    by_cases h2 : 0 ≤ a / 4 + dy ∧ a / 4 + dy ≤ 3
    · have H2 := Lib.hid (inB_yes h2)
      rw [numV_in (by omega)]
      clear h1 h2
      go_enter Tryz.func95, Tryz.ntmps95
      go_wp2_with (go_at_call 50; refine (in_any _ _ _ _).mono ?_; (first | rw [H1.out] | rw [H2.out]); rintro e w' ⟨rfl, rfl⟩)
      go_ret
      exact ⟨rfl, rfl⟩
    · have H2 := Lib.hid (inB_no h2)
      rw [numV_out (by omega)]
      clear h1 h2
      go_enter Tryz.func95, Tryz.ntmps95
      go_wp2_with (go_at_call 50; refine (in_any _ _ _ _).mono ?_; (first | rw [H1.out] | rw [H2.out]); rintro e w' ⟨rfl, rfl⟩)
      go_ret
      exact ⟨rfl, rfl⟩
  · have H1 := Lib.hid (inB_no h1)
    rw [numV_out (by omega)]
    clear h1
    go_enter Tryz.func95, Tryz.ntmps95
    go_wp2_with (go_at_call 50; refine (in_any _ _ _ _).mono ?_; rw [H1.out]; rintro e w' ⟨rfl, rfl⟩)
    go_ret
    exact ⟨rfl, rfl⟩
theorem l1Go_any (s a dx dy : Int) (w : World) (hs : s = 2 ∨ s = 3 ∨ s = 4) (ha : 0 ≤ a ∧ a ≤ 15) (hdx : -100 ≤ dx ∧ dx ≤ 100) (hdy : -100 ≤ dy ∧ dy ≤ 100) :
    Calls Tryz.prog 95 #[.int .i64 s, .int .i64 a, .int .i64 dx, .int .i64 dy] w fun e w' => e = .returned (.int .i64 (numV s (a % s + dx) (a / s + dy))) ∧ w = w' := by
  rcases hs with rfl | rfl | rfl
  · exact l1Go_2 a dx dy w ha.1 ha.2 hdx.1 hdx.2 hdy.1 hdy.2
  · exact l1Go_3 a dx dy w ha.1 ha.2 hdx.1 hdx.2 hdy.1 hdy.2
  · exact l1Go_4 a dx dy w ha.1 ha.2 hdx.1 hdx.2 hdy.1 hdy.2

theorem div_bd {s a : Int} (hs : s = 2 ∨ s = 3 ∨ s = 4) (h0 : 0 ≤ a) (h1 : a < s * s) : (0 ≤ a % s ∧ a % s < s) ∧ (0 ≤ a / s ∧ a / s < s) := by
  rcases hs with rfl | rfl | rfl <;> omega

end Go.Proofs.YtcgfklljbblhlaaGreatDoor.Sq
