/- Contract: ShaStep, digestOf and Sha256 of the program (chapter 5). -/
import Derived.Test.YtfjaincogbdeiaaGreatDoorW5h
namespace Go.Proofs.YtfjaincogbdeiaaGreatDoor
open Go.ChangeShapes Go.WideShapes Go.ChangeAt Go.RowKit Go.Shelf
set_option linter.unusedVariables false

end Go.Proofs.YtfjaincogbdeiaaGreatDoor
