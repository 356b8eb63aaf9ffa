/- Contracts: DateOk and DayOf of the reference (chapter 7). -/
import Derived.Test.YtmhfninjbcpifaaDoorW7c
import Derived.Test.YtmhfninjbcpifaaDoorDayIn
namespace Go.Proofs.YtmhfninjbcpifaaDoor
open Go.ChangeShapes Go.WideShapes Go.ChangeAt Go.RowKit
set_option linter.unusedVariables false

end Go.Proofs.YtmhfninjbcpifaaDoor
