/- SquareOk of the model. -/
import Derived.Test.YtnjhcjjeehccbaaDoorSq
namespace Go.Proofs.YtnjhcjjeehccbaaDoor.Sq
open Go.ChangeShapes Go.WideShapes Go.ChangeAt Go.RowKit Base
set_option linter.unusedVariables false
set_option maxRecDepth 20000

end Go.Proofs.YtnjhcjjeehccbaaDoor.Sq
