/- What the laws on words, digits and texts draw. -/
import Derived.Test.YtgimjfffdnopiaaDoorDraw2
import Derived.Test.YtgimjfffdnopiaaDoorW1c
namespace Go.Proofs.YtgimjfffdnopiaaDoor
open Go.ChangeShapes Go.WideShapes Go.ChangeAt Go.RowKit
set_option linter.unusedVariables false

end Go.Proofs.YtgimjfffdnopiaaDoor
