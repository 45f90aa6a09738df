/- SquareOk of the model. -/
import Derived.Test.YtcgfklljbblhlaaSq
namespace Go.Proofs.Ytcgfklljbblhlaa.Sq
open Go.ChangeShapes Go.WideShapes Go.ChangeAt Go.RowKit Base
set_option linter.unusedVariables false
set_option maxRecDepth 20000

end Go.Proofs.Ytcgfklljbblhlaa.Sq
