/- Two slices of whole numbers that hold the same are equal to the exact laws. -/
import Derived.Test.YtjanalljaacnoaaJa
namespace Go.Proofs.Ytjanalljaacnoaa.Ko
open Go.ChangeShapes Go.WideShapes Go.ChangeAt Go.RowKit Base Sq In
set_option linter.unusedVariables false
set_option maxRecDepth 20000
attribute [local irreducible] wpQuiet

end Go.Proofs.Ytjanalljaacnoaa.Ko
