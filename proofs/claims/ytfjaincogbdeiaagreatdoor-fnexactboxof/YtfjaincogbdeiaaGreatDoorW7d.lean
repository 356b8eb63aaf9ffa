/- Contracts: DateOk and DayOf of the reference (chapter 7). -/
import Derived.Test.YtfjaincogbdeiaaGreatDoorW7c
import Derived.Test.YtfjaincogbdeiaaGreatDoorDayIn
namespace Go.Proofs.YtfjaincogbdeiaaGreatDoor
open Go.ChangeShapes Go.WideShapes Go.ChangeAt Go.RowKit
set_option linter.unusedVariables false

end Go.Proofs.YtfjaincogbdeiaaGreatDoor
