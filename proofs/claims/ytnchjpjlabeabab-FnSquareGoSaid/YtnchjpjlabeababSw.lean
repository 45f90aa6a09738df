/- The model's l1Go and l1Turn; SquareGo and SquareTurn of the program and of the model. -/
import Derived.Test.YtnchjpjlabeababSu
namespace Go.Proofs.Ytnchjpjlabeabab.Sq
open Go.ChangeShapes Go.WideShapes Go.ChangeAt Go.RowKit Base
set_option linter.unusedVariables false
set_option maxRecDepth 20000

/-- where a square goes -/
def goV (s a dx dy : Int) : Int := if okB s a = true ∧ (-4 ≤ dx ∧ dx ≤ 4) ∧ (-4 ≤ dy ∧ dy ≤ 4) then numV s (a % s + dx) (a / s + dy) else -1
theorem spec_go (s a dx dy : Int) (w : World) :
    Calls Try.prog 19 #[.int .i64 s, .int .i64 a, .int .i64 dx, .int .i64 dy] w fun e w' => e = .returned (.int .i64 (goV s a dx dy)) ∧ w = w' := by
  by_cases h0 : okB s a = true
  · obtain ⟨hs, ha1, ha2, ha3⟩ := okB_yes h0
    have H0 := Lib.hid h0
    by_cases h1 : -4 ≤ dx ∧ dx ≤ 4
    · have H1 := Lib.hid (inB_yes h1)
      by_cases h2 : -4 ≤ dy ∧ dy ≤ 4
      · have H2 := Lib.hid (inB_yes h2)
        rw [show goV s a dx dy = _ from if_pos ⟨h0, h1, h2⟩]
        clear h0
        go_enter Try.func19, Try.ntmps19
        go_wp2_with (first | (go_at_call 44; refine (sp_sq_ok _ _ _).mono ?_; rw [H0.out]; rintro e w' ⟨rfl, rfl⟩) | (go_at_call 45; refine (in_any _ _ _ _).mono ?_; (first | rw [H1.out] | rw [H2.out]); rintro e w' ⟨rfl, rfl⟩) | (go_at_call 46; refine (l1Go_any _ _ _ _ _ hs ⟨ha1, ha2⟩ (by omega) (by omega)).mono ?_; rintro e w' ⟨rfl, rfl⟩))
        go_ret
        exact ⟨rfl, rfl⟩
      · have H2 := Lib.hid (inB_no h2)
        rw [show goV s a dx dy = _ from if_neg (fun h => h2 h.2.2)]
        clear h0 h1 h2
        go_enter Try.func19, Try.ntmps19
        go_wp2_with (first | (go_at_call 44; refine (sp_sq_ok _ _ _).mono ?_; rw [H0.out]; rintro e w' ⟨rfl, rfl⟩) | (go_at_call 45; refine (in_any _ _ _ _).mono ?_; (first | rw [H1.out] | rw [H2.out]); rintro e w' ⟨rfl, rfl⟩))
        go_ret
        exact ⟨rfl, rfl⟩
    · have H1 := Lib.hid (inB_no h1)
      rw [show goV s a dx dy = _ from if_neg (fun h => h1 h.2.1)]
      clear h0 h1
      go_enter Try.func19, Try.ntmps19
      go_wp2_with (first | (go_at_call 44; refine (sp_sq_ok _ _ _).mono ?_; rw [H0.out]; rintro e w' ⟨rfl, rfl⟩) | (go_at_call 45; refine (in_any _ _ _ _).mono ?_; rw [H1.out]; rintro e w' ⟨rfl, rfl⟩))
      go_ret
      exact ⟨rfl, rfl⟩
  · rw [show goV s a dx dy = _ from if_neg (fun h => h0 h.1)]
    have H0 : Hid (okB s a = false) := Lib.hid (by simpa using h0)
    clear h0
    go_enter Try.func19, Try.ntmps19
    go_wp2_with (go_at_call 44; refine (sp_sq_ok _ _ _).mono ?_; rw [H0.out]; rintro e w' ⟨rfl, rfl⟩)
    go_ret
    exact ⟨rfl, rfl⟩
theorem impl_go (s a dx dy : Int) (w : World) :
    Calls Try.prog 18 #[.int .i64 s, .int .i64 a, .int .i64 dx, .int .i64 dy] w fun e w' => e = .returned (.int .i64 (goV s a dx dy)) ∧ Below w.heap.size w w' := by
  by_cases h0 : okB s a = true
  · obtain ⟨hs, ha1, ha2, ha3⟩ := okB_yes h0
    obtain ⟨⟨hr1, hr2⟩, hq1, hq2⟩ := div_bd hs ha1 ha3
    have H0 := Lib.hid h0
    by_cases h1 : -4 ≤ dx ∧ dx ≤ 4
    · have H1 := Lib.hid (inB_yes h1)
      by_cases h2 : -4 ≤ dy ∧ dy ≤ 4
      · have H2 := Lib.hid (inB_yes h2)
        rw [show goV s a dx dy = _ from if_pos ⟨h0, h1, h2⟩]
        clear h0
        go_enter Try.func18, Try.ntmps18
        go_wp2_with (first | (go_at_call 20; refine (sq_ok _ _ _).mono ?_; rw [H0.out]; rintro e w' ⟨rfl, rfl⟩) | (go_at_call 40; refine (within_any _ _ _ (by omega)).mono ?_; (first | rw [H1.out] | rw [H2.out]); rintro e w' ⟨rfl, rfl⟩))
        refine (squareAt_any _ _ _ hs ha1 ha2).mono ?_
        rintro e w1 ⟨rfl, hb1⟩
        go_wp2_with fail
        refine (shifted_any _ _ _ _ _ _ (by omega) (by omega) (by omega) (by omega)).mono ?_
        rintro e w2 ⟨rfl, hb2⟩
        go_wp2_with fail
        refine (number_any _ _ _ _ hs).mono ?_
        rintro e w3 ⟨rfl, hb3⟩
        go_wp2_with fail
        go_ret
        exact ⟨rfl, (hb1.trans (hb2.mono hb1.size)).trans (hb3.mono (by have := hb1.size; have := hb2.size; omega))⟩
      · have H2 := Lib.hid (inB_no h2)
        rw [show goV s a dx dy = _ from if_neg (fun h => h2 h.2.2)]
        clear h0 h1 h2
        go_enter Try.func18, Try.ntmps18
        go_wp2_with (first | (go_at_call 20; refine (sq_ok _ _ _).mono ?_; rw [H0.out]; rintro e w' ⟨rfl, rfl⟩) | (go_at_call 40; refine (within_any _ _ _ (by omega)).mono ?_; (first | rw [H1.out] | rw [H2.out]); rintro e w' ⟨rfl, rfl⟩))
        go_ret
        exact ⟨rfl, Below.refl _ _⟩
    · have H1 := Lib.hid (inB_no h1)
      rw [show goV s a dx dy = _ from if_neg (fun h => h1 h.2.1)]
      clear h0 h1
      go_enter Try.func18, Try.ntmps18
      go_wp2_with (first | (go_at_call 20; refine (sq_ok _ _ _).mono ?_; rw [H0.out]; rintro e w' ⟨rfl, rfl⟩) | (go_at_call 40; refine (within_any _ _ _ (by omega)).mono ?_; rw [H1.out]; rintro e w' ⟨rfl, rfl⟩))
      go_ret
      exact ⟨rfl, Below.refl _ _⟩
  · rw [show goV s a dx dy = _ from if_neg (fun h => h0 h.1)]
    have H0 : Hid (okB s a = false) := Lib.hid (by simpa using h0)
    clear h0
    go_enter Try.func18, Try.ntmps18
    go_wp2_with (go_at_call 20; refine (sq_ok _ _ _).mono ?_; rw [H0.out]; rintro e w' ⟨rfl, rfl⟩)
    go_ret
    exact ⟨rfl, Below.refl _ _⟩

end Go.Proofs.Ytnchjpjlabeabab.Sq
