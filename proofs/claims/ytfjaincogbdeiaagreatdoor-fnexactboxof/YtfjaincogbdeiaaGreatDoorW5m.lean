/- Contract: ShaStep of the reference (chapter 5). -/
import Derived.Test.YtfjaincogbdeiaaGreatDoorW5l
namespace Go.Proofs.YtfjaincogbdeiaaGreatDoor
open Go.ChangeShapes Go.WideShapes Go.ChangeAt Go.RowKit Go.Shelf
set_option linter.unusedVariables false

end Go.Proofs.YtfjaincogbdeiaaGreatDoor
