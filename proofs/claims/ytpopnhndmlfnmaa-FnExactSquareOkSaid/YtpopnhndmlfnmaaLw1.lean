/- The walks of the exact laws of chapter 1 over whole numbers. -/
import Derived.Test.YtpopnhndmlfnmaaSg
namespace Go.Proofs.Ytpopnhndmlfnmaa.Laws
open Go.ChangeShapes Go.WideShapes Go.ChangeAt Go.RowKit Base Sq
set_option linter.unusedVariables false

theorem fnExactSquareOk_walk (w : World) (s : Int) (w0 : (Lit.int .i64 s).wf = true) (a : Int) (w1 : (Lit.int .i64 a).wf = true) :
    Calls Try.prog 5 #[.int .i64 s, .int .i64 a] w fun e w' => e = .returned (.bool true) ∧ Below w.heap.size w w' := by
  clear w0 w1
  go_enter Try.func5, Try.ntmps5
  go_wp2_with (first | (go_at_call 19; refine (sp_sq_ok _ _ _).mono ?_; rintro e w' ⟨rfl, rfl⟩) | (go_at_call 14; refine (sq_ok _ _ _).mono ?_; rintro e w' ⟨rfl, rfl⟩))
  go_ret
  exact ⟨rfl, Below.refl _ _⟩
theorem fnExactSquareGo_walk (w : World) (s : Int) (w0 : (Lit.int .i64 s).wf = true) (a : Int) (w1 : (Lit.int .i64 a).wf = true) (dx : Int) (w2 : (Lit.int .i64 dx).wf = true) (dy : Int) (w3 : (Lit.int .i64 dy).wf = true) :
    Calls Try.prog 7 #[.int .i64 s, .int .i64 a, .int .i64 dx, .int .i64 dy] w fun e w' => e = .returned (.bool true) ∧ Below w.heap.size w w' := by
  clear w0 w1 w2 w3
  go_enter Try.func7, Try.ntmps7
  go_wp2_with (go_at_call 13; refine (spec_go _ _ _ _ _).mono ?_; rintro e w' ⟨rfl, rfl⟩)
  refine (impl_go _ _ _ _ _).mono ?_
  rintro e w1 ⟨rfl, hb⟩
  go_wp2_with fail
  go_ret
  exact ⟨rfl, hb⟩
theorem fnExactSquareTurn_walk (w : World) (s : Int) (w0 : (Lit.int .i64 s).wf = true) (k : Int) (w1 : (Lit.int .i64 k).wf = true) (a : Int) (w2 : (Lit.int .i64 a).wf = true) :
    Calls Try.prog 8 #[.int .i64 s, .int .i64 k, .int .i64 a] w fun e w' => e = .returned (.bool true) ∧ Below w.heap.size w w' := by
  clear w0 w1 w2
  go_enter Try.func8, Try.ntmps8
  go_wp2_with (go_at_call 17; refine (spec_turn _ _ _ _).mono ?_; rintro e w' ⟨rfl, rfl⟩)
  refine (impl_turn _ _ _ _).mono ?_
  rintro e w1 ⟨rfl, hb⟩
  go_wp2_with fail
  go_ret
  exact ⟨rfl, hb⟩
theorem fnExactSquareGet_walk (w : World) (s : Int) (w0 : (Lit.int .i64 s).wf = true) (t : ByteArray) (w1 : t.size ≤ maxLen) :
    Calls Try.prog 6 #[.int .i64 s, .string t] w fun e w' => e = .returned (.bool true) ∧ Below w.heap.size w w' := by
  clear w0 
  unfold maxLen at w1
  go_enter Try.func6, Try.ntmps6
  go_wp2_with fail
  · go_ret
    exact ⟨rfl, Below.refl _ _⟩
  refine (spec_get _ _ _ (by omega)).mono ?_
  rintro e w2 ⟨rfl, hb⟩
  go_wp2_with fail
  refine (impl_get _ _ _ (by omega)).mono ?_
  rintro e w3 ⟨rfl, hb3⟩
  go_wp2_with fail
  go_ret
  exact ⟨rfl, hb.trans (hb3.mono hb.size)⟩
end Go.Proofs.Ytpopnhndmlfnmaa.Laws
