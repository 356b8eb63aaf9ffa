/- Walks of the laws FnExactDateOk, FnExactDayOf, FnExactDateOf. -/
import Derived.Test.YtgimjfffdnopiaaDoorW7g
namespace Go.Proofs.YtgimjfffdnopiaaDoor
open Go.ChangeShapes Go.WideShapes Go.ChangeAt Go.RowKit
set_option linter.unusedVariables false

end Go.Proofs.YtgimjfffdnopiaaDoor
