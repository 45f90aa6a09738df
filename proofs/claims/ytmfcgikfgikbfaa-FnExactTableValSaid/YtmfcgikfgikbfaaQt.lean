/- Two pieces compared by '=='. -/
import Derived.Test.YtmfcgikfgikbfaaQa
import Derived.Laws.StructEq
namespace Go.Proofs.Ytmfcgikfgikbfaa.Ko
open Go.ChangeShapes Go.WideShapes Go.ChangeAt Go.RowKit Base Sq
set_option linter.unusedVariables false
set_option maxRecDepth 20000
theorem pieceFields : Try.prog.underlying 69 = some (.struct (Try.prog.fieldsOf 69)) := by
  unfold Program.fieldsOf; rw [Try.underlying69]
theorem pieceFree : Try.prog.stoodInHeld 69 = false := by kernel_rfl
theorem pieceGuard : Try.prog.eqGuardType Try.prog.depth 69 = false := by kernel_rfl
theorem eqGuardPiece (w : World) (x y : Operand) (xs ys : Array Value) : (eqGuard .eql 69 x y (.agg xs) (.agg ys)).run Try.prog w = .ok () w := run_eqGuard_agg w _ _ x y xs ys pieceGuard
theorem eqlPiece (w : World) (a b c d : Int) : (binOp .eql 69 (.agg #[.int .i64 a, .int .i64 b]) (.agg #[.int .i64 c, .int .i64 d])).run Try.prog w = .ok (.bool (a == c && b == d)) w := by
  have hi := Try.underlying3
  rw [run_eql_struct, run_equalIn_struct w 9999 _ _ _ pieceFields pieceFree]
  unfold Program.fieldsOf
  rw [Try.underlying69]
  by_cases h : a = c
  · by_cases h2 : b = d
    · simp [Op.eqFields, go_sem, hi, h, h2]
    · simp [Op.eqFields, go_sem, hi, h, h2]
  · simp [Op.eqFields, go_sem, hi, h]
end Go.Proofs.Ytmfcgikfgikbfaa.Ko
