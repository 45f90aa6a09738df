/- TurnPos of the program. -/
import Derived.Test.YtmfcgikfgikbfaaGreatTn
namespace Go.Proofs.YtmfcgikfgikbfaaGreat.Ko
open Go.ChangeShapes Go.WideShapes Go.ChangeAt Go.RowKit Base Sq
set_option linter.unusedVariables false
set_option maxRecDepth 20000
attribute [local irreducible] wpQuiet

theorem idx_any (bs b0 kn : Nat) (W : World) (h : kn < 8) : Sem.run Tryz.prog (Instr.index 79 (.agg (arrK bs b0 8)) (.int .i64 (kn : Int))) W = .ok (.func (.func 71) #[] #[.pointer (some ⟨bs, 0, none⟩), .pointer (some ⟨b0 + kn, 0, none⟩)]) W := by
  rcases (show kn = 0 ∨ kn = 1 ∨ kn = 2 ∨ kn = 3 ∨ kn = 4 ∨ kn = 5 ∨ kn = 6 ∨ kn = 7 by omega) with rfl | rfl | rfl | rfl | rfl | rfl | rfl | rfl <;> kernel_rfl

end Go.Proofs.YtmfcgikfgikbfaaGreat.Ko
