/- The walk of the exact law FnExactSquarePut. -/
import Derived.Test.YtebbcndfdjhioaaDoorPw
namespace Go.Proofs.YtebbcndfdjhioaaDoor.Laws
open Go.ChangeShapes Go.WideShapes Go.ChangeAt Go.RowKit Base Sq
set_option linter.unusedVariables false
set_option maxRecDepth 20000
theorem squarePut_any (s a : Int) (w : World) : Calls Tryd.prog 10 #[.int .i64 s, .int .i64 a] w fun e w' => e = .returned (.string (putV s a)) ∧ Below w.heap.size w w' := by
  cases h : okB s a
  · have HV : putV s a = ⟨#[]⟩ := by unfold putV; rw [h]; rfl
    rw [HV]
    go_enter Tryd.func10, Tryd.ntmps10
    go_wp2_with (go_at_call 35; refine (sq_ok _ _ _).mono ?_; rw [h]; rintro e w' ⟨rfl, rfl⟩)
    go_ret
    exact ⟨rfl, Below.refl _ _⟩
  · have HV : putV s a = putS (a % s) (a / s) := by unfold putV; rw [h]; rfl
    rw [HV]
    exact squarePut_yes s a w h
end Go.Proofs.YtebbcndfdjhioaaDoor.Laws
