/- Two slices of whole numbers that hold the same are equal to the exact laws. -/
import Derived.Test.YtmfcgikfgikbfaaGreatIn
import Derived.Test.YtmfcgikfgikbfaaGreatKo
namespace Go.Proofs.YtmfcgikfgikbfaaGreat.Ko
open Go.ChangeShapes Go.WideShapes Go.ChangeAt Go.RowKit Base Sq In
set_option linter.unusedVariables false
set_option maxRecDepth 20000
attribute [local irreducible] wpQuiet

end Go.Proofs.YtmfcgikfgikbfaaGreat.Ko
