/- The walk of the exact law FnExactCrc. -/
import Derived.Test.YtmfcgikfgikbfaaCrw
namespace Go.Proofs.Ytmfcgikfgikbfaa.Laws
open Go.ChangeShapes Go.WideShapes Go.ChangeAt Go.RowKit Base Crc
set_option linter.unusedVariables false
set_option maxRecDepth 20000

theorem fnExactCrc_walk (w : World) (s : ByteArray) (w0 : s.size ≤ maxLen) :
    Calls Try.prog 5 #[.string s] w fun e w' => e = .returned (.bool true) ∧ Below w.heap.size w w' := by
  have hs := w0
  unfold maxLen at w0
  go_enter Try.func5, Try.ntmps5
  go_wp2_with fail
  · go_ret
    exact ⟨rfl, Below.refl _ _⟩
  refine (specCrc_any _ _ hs).mono ?_
  rintro e w2 ⟨rfl, rfl⟩
  go_wp2_with fail
  refine (crc_any _ _ hs).mono ?_
  rintro e w3 ⟨rfl, rfl⟩
  go_wp2_with fail
  go_ret
  exact ⟨rfl, Below.refl _ _⟩
end Go.Proofs.Ytmfcgikfgikbfaa.Laws
