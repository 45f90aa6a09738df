/- The walk of the exact law FnExactSquarePut. -/
import Derived.Test.YtnchjpjlabeababDoorPw
namespace Go.Proofs.YtnchjpjlabeababDoor.Laws
open Go.ChangeShapes Go.WideShapes Go.ChangeAt Go.RowKit Base Sq
set_option linter.unusedVariables false
set_option maxRecDepth 20000
theorem squarePut_any (s a : Int) (w : World) : Calls Tryd.prog 10 #[.int .i64 s, .int .i64 a] w fun e w' => e = .returned (.string (putV s a)) ∧ Below w.heap.size w w' := by
  cases h : okB s a
  · have HV : putV s a = ⟨#[]⟩ := by unfold putV; rw [h]; rfl
    rw [HV]
    go_enter Tryd.func10, Tryd.ntmps10
    go_wp2_with (go_at_call 12; refine (sq_ok _ _ _).mono ?_; rw [h]; rintro e w' ⟨rfl, rfl⟩)
    go_ret
    exact ⟨rfl, Below.refl _ _⟩
  · have HV : putV s a = putS (a % s) (a / s) := by unfold putV; rw [h]; rfl
    rw [HV]
    exact squarePut_yes s a w h
theorem fnExactSquarePut_walk (w : World) (s a : Int) (hs : (Lit.int .i64 s).wf = true) (ha : (Lit.int .i64 a).wf = true) :
    Calls Tryd.prog 5 #[.int .i64 s, .int .i64 a] w fun e w' => e = .returned (.bool true) ∧ Below w.heap.size w w' := by
  go_enter Tryd.func5, Tryd.ntmps5
  go_wp2_with fail
  refine (specSquarePut_any _ _ _).mono ?_
  rintro e w2 ⟨rfl, hb2⟩
  go_wp2_with fail
  refine (squarePut_any _ _ _).mono ?_
  rintro e w3 ⟨rfl, hb3⟩
  go_wp2_with fail
  go_ret
  exact ⟨rfl, hb2.trans (hb3.mono hb2.size)⟩
end Go.Proofs.YtnchjpjlabeababDoor.Laws
