/- The model's l1Go and l1Turn; SquareGo and SquareTurn of the program and of the model. -/
import Derived.Test.YtpopnhndmlfnmaaSt
namespace Go.Proofs.Ytpopnhndmlfnmaa.Sq
open Go.ChangeShapes Go.WideShapes Go.ChangeAt Go.RowKit Base
set_option linter.unusedVariables false

theorem numV_in {s x y : Int} (h : 0 ≤ x ∧ x < s ∧ 0 ≤ y ∧ y < s) : numV s x y = x + s * y := if_pos h
theorem numV_out {s x y : Int} (h : ¬ (0 ≤ x ∧ x < s ∧ 0 ≤ y ∧ y < s)) : numV s x y = -1 := if_neg h
theorem inB_yes {n lo hi : Int} (h : lo ≤ n ∧ n ≤ hi) : inB n lo hi = true := decide_eq_true h
theorem inB_no {n lo hi : Int} (h : ¬ (lo ≤ n ∧ n ≤ hi)) : inB n lo hi = false := decide_eq_false h

theorem l1Go_2 (a dx dy : Int) (w : World) (ha1 : 0 ≤ a) (ha2 : a ≤ 15) (hdx1 : -100 ≤ dx) (hdx2 : dx ≤ 100) (hdy1 : -100 ≤ dy) (hdy2 : dy ≤ 100) :
    Calls Try.prog 40 #[.int .i64 2, .int .i64 a, .int .i64 dx, .int .i64 dy] w fun e w' => e = .returned (.int .i64 (numV 2 (a % 2 + dx) (a / 2 + dy))) ∧ w = w' := by
  have hq : 0 ≤ a / 2 ∧ a / 2 ≤ 15 := by omega
  have hr : 0 ≤ a % 2 ∧ a % 2 < 2 := by omega
  obtain ⟨hq1, hq2⟩ := hq
  obtain ⟨hr1, hr2⟩ := hr
  by_cases h1 : 0 ≤ a % 2 + dx ∧ a % 2 + dx ≤ 1
  · have H1 := Lib.hid (inB_yes h1)
    by_cases h2 : 0 ≤ a / 2 + dy ∧ a / 2 + dy ≤ 1
    · have H2 := Lib.hid (inB_yes h2)
      rw [numV_in (by omega)]
      clear h1 h2
      go_enter Try.func40, Try.ntmps40
      go_wp2_with (go_at_call 39; refine (in_any _ _ _ _).mono ?_; (first | rw [H1.out] | rw [H2.out]); rintro e w' ⟨rfl, rfl⟩)
      go_ret
      exact ⟨rfl, rfl⟩
    · have H2 := Lib.hid (inB_no h2)
      rw [numV_out (by omega)]
      clear h1 h2
      go_enter Try.func40, Try.ntmps40
      go_wp2_with (go_at_call 39; refine (in_any _ _ _ _).mono ?_; (first | rw [H1.out] | rw [H2.out]); rintro e w' ⟨rfl, rfl⟩)
      go_ret
      exact ⟨rfl, rfl⟩
  · have H1 := Lib.hid (inB_no h1)
    rw [numV_out (by omega)]
    clear h1
    go_enter Try.func40, Try.ntmps40
    go_wp2_with (go_at_call 39; refine (in_any _ _ _ _).mono ?_; rw [H1.out]; rintro e w' ⟨rfl, rfl⟩)
    go_ret
    exact ⟨rfl, rfl⟩
theorem l1Go_3 (a dx dy : Int) (w : World) (ha1 : 0 ≤ a) (ha2 : a ≤ 15) (hdx1 : -100 ≤ dx) (hdx2 : dx ≤ 100) (hdy1 : -100 ≤ dy) (hdy2 : dy ≤ 100) :
    Calls Try.prog 40 #[.int .i64 3, .int .i64 a, .int .i64 dx, .int .i64 dy] w fun e w' => e = .returned (.int .i64 (numV 3 (a % 3 + dx) (a / 3 + dy))) ∧ w = w' := by
  have hq : 0 ≤ a / 3 ∧ a / 3 ≤ 15 := by omega
  have hr : 0 ≤ a % 3 ∧ a % 3 < 3 := by omega
  obtain ⟨hq1, hq2⟩ := hq
  obtain ⟨hr1, hr2⟩ := hr
  by_cases h1 : 0 ≤ a % 3 + dx ∧ a % 3 + dx ≤ 2
  · have H1 := Lib.hid (inB_yes h1)
    by_cases h2 : 0 ≤ a / 3 + dy ∧ a / 3 + dy ≤ 2
    · have H2 := Lib.hid (inB_yes h2)
      rw [numV_in (by omega)]
      clear h1 h2
      go_enter Try.func40, Try.ntmps40
      go_wp2_with (go_at_call 39; refine (in_any _ _ _ _).mono ?_; (first | rw [H1.out] | rw [H2.out]); rintro e w' ⟨rfl, rfl⟩)
      go_ret
      exact ⟨rfl, rfl⟩
    · have H2 := Lib.hid (inB_no h2)
      rw [numV_out (by omega)]
      clear h1 h2
      go_enter Try.func40, Try.ntmps40
      go_wp2_with (go_at_call 39; refine (in_any _ _ _ _).mono ?_; (first | rw [H1.out] | rw [H2.out]); rintro e w' ⟨rfl, rfl⟩)
      go_ret
      exact ⟨rfl, rfl⟩
  · have H1 := Lib.hid (inB_no h1)
    rw [numV_out (by omega)]
    clear h1
    go_enter Try.func40, Try.ntmps40
    go_wp2_with (go_at_call 39; refine (in_any _ _ _ _).mono ?_; rw [H1.out]; rintro e w' ⟨rfl, rfl⟩)
    go_ret
    exact ⟨rfl, rfl⟩
theorem l1Go_4 (a dx dy : Int) (w : World) (ha1 : 0 ≤ a) (ha2 : a ≤ 15) (hdx1 : -100 ≤ dx) (hdx2 : dx ≤ 100) (hdy1 : -100 ≤ dy) (hdy2 : dy ≤ 100) :
    Calls Try.prog 40 #[.int .i64 4, .int .i64 a, .int .i64 dx, .int .i64 dy] w fun e w' => e = .returned (.int .i64 (numV 4 (a % 4 + dx) (a / 4 + dy))) ∧ w = w' := by
  have hq : 0 ≤ a / 4 ∧ a / 4 ≤ 15 := by omega
  have hr : 0 ≤ a % 4 ∧ a % 4 < 4 := by omega
  obtain ⟨hq1, hq2⟩ := hq
  obtain ⟨hr1, hr2⟩ := hr
  by_cases h1 : 0 ≤ a % 4 + dx ∧ a % 4 + dx ≤ 3
  · have H1 := Lib.hid (inB_yes h1)
    by_cases h2 : 0 ≤ a / 4 + dy ∧ a / 4 + dy ≤ 3
    · have H2 := Lib.hid (inB_yes h2)
      rw [numV_in (by omega)]
      clear h1 h2
      go_enter Try.func40, Try.ntmps40
      go_wp2_with (go_at_call 39; refine (in_any _ _ _ _).mono ?_; (first | rw [H1.out] | rw [H2.out]); rintro e w' ⟨rfl, rfl⟩)
      go_ret
      exact ⟨rfl, rfl⟩
    · have H2 := Lib.hid (inB_no h2)
      rw [numV_out (by omega)]
      clear h1 h2
      go_enter Try.func40, Try.ntmps40
      go_wp2_with (go_at_call 39; refine (in_any _ _ _ _).mono ?_; (first | rw [H1.out] | rw [H2.out]); rintro e w' ⟨rfl, rfl⟩)
      go_ret
      exact ⟨rfl, rfl⟩
  · have H1 := Lib.hid (inB_no h1)
    rw [numV_out (by omega)]
    clear h1
    go_enter Try.func40, Try.ntmps40
    go_wp2_with (go_at_call 39; refine (in_any _ _ _ _).mono ?_; rw [H1.out]; rintro e w' ⟨rfl, rfl⟩)
    go_ret
    exact ⟨rfl, rfl⟩
theorem l1Go_any (s a dx dy : Int) (w : World) (hs : s = 2 ∨ s = 3 ∨ s = 4) (ha : 0 ≤ a ∧ a ≤ 15) (hdx : -100 ≤ dx ∧ dx ≤ 100) (hdy : -100 ≤ dy ∧ dy ≤ 100) :
    Calls Try.prog 40 #[.int .i64 s, .int .i64 a, .int .i64 dx, .int .i64 dy] w fun e w' => e = .returned (.int .i64 (numV s (a % s + dx) (a / s + dy))) ∧ w = w' := by
  rcases hs with rfl | rfl | rfl
  · exact l1Go_2 a dx dy w ha.1 ha.2 hdx.1 hdx.2 hdy.1 hdy.2
  · exact l1Go_3 a dx dy w ha.1 ha.2 hdx.1 hdx.2 hdy.1 hdy.2
  · exact l1Go_4 a dx dy w ha.1 ha.2 hdx.1 hdx.2 hdy.1 hdy.2

/-- where a square goes -/
def goV (s a dx dy : Int) : Int := if okB s a = true ∧ (-4 ≤ dx ∧ dx ≤ 4) ∧ (-4 ≤ dy ∧ dy ≤ 4) then numV s (a % s + dx) (a / s + dy) else -1
theorem spec_go (s a dx dy : Int) (w : World) :
    Calls Try.prog 13 #[.int .i64 s, .int .i64 a, .int .i64 dx, .int .i64 dy] w fun e w' => e = .returned (.int .i64 (goV s a dx dy)) ∧ w = w' := by
  by_cases h0 : okB s a = true
  · obtain ⟨hs, ha1, ha2, ha3⟩ := okB_yes h0
    have H0 := Lib.hid h0
    by_cases h1 : -4 ≤ dx ∧ dx ≤ 4
    · have H1 := Lib.hid (inB_yes h1)
      by_cases h2 : -4 ≤ dy ∧ dy ≤ 4
      · have H2 := Lib.hid (inB_yes h2)
        rw [show goV s a dx dy = _ from if_pos ⟨h0, h1, h2⟩]
        clear h0
        go_enter Try.func13, Try.ntmps13
        go_wp2_with (first | (go_at_call 19; refine (sp_sq_ok _ _ _).mono ?_; rw [H0.out]; rintro e w' ⟨rfl, rfl⟩) | (go_at_call 39; refine (in_any _ _ _ _).mono ?_; (first | rw [H1.out] | rw [H2.out]); rintro e w' ⟨rfl, rfl⟩) | (go_at_call 40; refine (l1Go_any _ _ _ _ _ hs ⟨ha1, ha2⟩ (by omega) (by omega)).mono ?_; rintro e w' ⟨rfl, rfl⟩))
        go_ret
        exact ⟨rfl, rfl⟩
      · have H2 := Lib.hid (inB_no h2)
        rw [show goV s a dx dy = _ from if_neg (fun h => h2 h.2.2)]
        clear h0 h1 h2
        go_enter Try.func13, Try.ntmps13
        go_wp2_with (first | (go_at_call 19; refine (sp_sq_ok _ _ _).mono ?_; rw [H0.out]; rintro e w' ⟨rfl, rfl⟩) | (go_at_call 39; refine (in_any _ _ _ _).mono ?_; (first | rw [H1.out] | rw [H2.out]); rintro e w' ⟨rfl, rfl⟩))
        go_ret
        exact ⟨rfl, rfl⟩
    · have H1 := Lib.hid (inB_no h1)
      rw [show goV s a dx dy = _ from if_neg (fun h => h1 h.2.1)]
      clear h0 h1
      go_enter Try.func13, Try.ntmps13
      go_wp2_with (first | (go_at_call 19; refine (sp_sq_ok _ _ _).mono ?_; rw [H0.out]; rintro e w' ⟨rfl, rfl⟩) | (go_at_call 39; refine (in_any _ _ _ _).mono ?_; rw [H1.out]; rintro e w' ⟨rfl, rfl⟩))
      go_ret
      exact ⟨rfl, rfl⟩
  · rw [show goV s a dx dy = _ from if_neg (fun h => h0 h.1)]
    have H0 : Hid (okB s a = false) := Lib.hid (by simpa using h0)
    clear h0
    go_enter Try.func13, Try.ntmps13
    go_wp2_with (go_at_call 19; refine (sp_sq_ok _ _ _).mono ?_; rw [H0.out]; rintro e w' ⟨rfl, rfl⟩)
    go_ret
    exact ⟨rfl, rfl⟩
theorem div_bd {s a : Int} (hs : s = 2 ∨ s = 3 ∨ s = 4) (h0 : 0 ≤ a) (h1 : a < s * s) : (0 ≤ a % s ∧ a % s < s) ∧ (0 ≤ a / s ∧ a / s < s) := by
  rcases hs with rfl | rfl | rfl <;> omega
theorem impl_go (s a dx dy : Int) (w : World) :
    Calls Try.prog 12 #[.int .i64 s, .int .i64 a, .int .i64 dx, .int .i64 dy] w fun e w' => e = .returned (.int .i64 (goV s a dx dy)) ∧ Below w.heap.size w w' := by
  by_cases h0 : okB s a = true
  · obtain ⟨hs, ha1, ha2, ha3⟩ := okB_yes h0
    obtain ⟨⟨hr1, hr2⟩, hq1, hq2⟩ := div_bd hs ha1 ha3
    have H0 := Lib.hid h0
    by_cases h1 : -4 ≤ dx ∧ dx ≤ 4
    · have H1 := Lib.hid (inB_yes h1)
      by_cases h2 : -4 ≤ dy ∧ dy ≤ 4
      · have H2 := Lib.hid (inB_yes h2)
        rw [show goV s a dx dy = _ from if_pos ⟨h0, h1, h2⟩]
        clear h0
        go_enter Try.func12, Try.ntmps12
        go_wp2_with (first | (go_at_call 14; refine (sq_ok _ _ _).mono ?_; rw [H0.out]; rintro e w' ⟨rfl, rfl⟩) | (go_at_call 35; refine (within_any _ _ _ (by omega)).mono ?_; (first | rw [H1.out] | rw [H2.out]); rintro e w' ⟨rfl, rfl⟩))
        refine (squareAt_any _ _ _ hs ha1 ha2).mono ?_
        rintro e w1 ⟨rfl, hb1⟩
        go_wp2_with fail
        refine (shifted_any _ _ _ _ _ _ (by omega) (by omega) (by omega) (by omega)).mono ?_
        rintro e w2 ⟨rfl, hb2⟩
        go_wp2_with fail
        refine (number_any _ _ _ _ hs).mono ?_
        rintro e w3 ⟨rfl, hb3⟩
        go_wp2_with fail
        go_ret
        exact ⟨rfl, (hb1.trans (hb2.mono hb1.size)).trans (hb3.mono (by have := hb1.size; have := hb2.size; omega))⟩
      · have H2 := Lib.hid (inB_no h2)
        rw [show goV s a dx dy = _ from if_neg (fun h => h2 h.2.2)]
        clear h0 h1 h2
        go_enter Try.func12, Try.ntmps12
        go_wp2_with (first | (go_at_call 14; refine (sq_ok _ _ _).mono ?_; rw [H0.out]; rintro e w' ⟨rfl, rfl⟩) | (go_at_call 35; refine (within_any _ _ _ (by omega)).mono ?_; (first | rw [H1.out] | rw [H2.out]); rintro e w' ⟨rfl, rfl⟩))
        go_ret
        exact ⟨rfl, Below.refl _ _⟩
    · have H1 := Lib.hid (inB_no h1)
      rw [show goV s a dx dy = _ from if_neg (fun h => h1 h.2.1)]
      clear h0 h1
      go_enter Try.func12, Try.ntmps12
      go_wp2_with (first | (go_at_call 14; refine (sq_ok _ _ _).mono ?_; rw [H0.out]; rintro e w' ⟨rfl, rfl⟩) | (go_at_call 35; refine (within_any _ _ _ (by omega)).mono ?_; rw [H1.out]; rintro e w' ⟨rfl, rfl⟩))
      go_ret
      exact ⟨rfl, Below.refl _ _⟩
  · rw [show goV s a dx dy = _ from if_neg (fun h => h0 h.1)]
    have H0 : Hid (okB s a = false) := Lib.hid (by simpa using h0)
    clear h0
    go_enter Try.func12, Try.ntmps12
    go_wp2_with (go_at_call 14; refine (sq_ok _ _ _).mono ?_; rw [H0.out]; rintro e w' ⟨rfl, rfl⟩)
    go_ret
    exact ⟨rfl, Below.refl _ _⟩

end Go.Proofs.Ytpopnhndmlfnmaa.Sq
