/- SquareOk of the model. -/
import Derived.Test.YtebbcndfdjhioaaDoorSq
namespace Go.Proofs.YtebbcndfdjhioaaDoor.Sq
open Go.ChangeShapes Go.WideShapes Go.ChangeAt Go.RowKit Base
set_option linter.unusedVariables false
set_option maxRecDepth 20000

end Go.Proofs.YtebbcndfdjhioaaDoor.Sq
