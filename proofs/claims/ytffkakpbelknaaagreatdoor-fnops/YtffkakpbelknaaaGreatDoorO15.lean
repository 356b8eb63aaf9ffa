/- Parts of the proof. -/
import Derived.Test.YtffkakpbelknaaaGreatDoorO12
import Derived.Test.YtffkakpbelknaaaGreatDoorO14
namespace Go.Proofs.YtffkakpbelknaaaGreatDoor
set_option maxHeartbeats 4000000
set_option maxRecDepth 100000
open Go.ChangeShapes Go.WideShapes Go.ChangeAt Go.RowKit
set_option linter.unusedVariables false
end Go.Proofs.YtffkakpbelknaaaGreatDoor
