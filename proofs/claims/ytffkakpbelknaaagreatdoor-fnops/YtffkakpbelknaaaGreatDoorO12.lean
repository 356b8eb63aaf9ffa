/- Parts of the proof. -/
import Derived.Test.YtffkakpbelknaaaGreatDoorO7
import Derived.Test.YtffkakpbelknaaaGreatDoorO11
namespace Go.Proofs.YtffkakpbelknaaaGreatDoor
set_option maxHeartbeats 4000000
set_option maxRecDepth 100000
open Go.ChangeShapes Go.WideShapes Go.ChangeAt Go.RowKit
set_option linter.unusedVariables false
theorem tPw : (Tryz.prog.globals[7]?).map (·.type) = some 246 := by kernel_rfl
theorem cPw : Tryz.prog.cellsOf 246 = 20 := by kernel_rfl
theorem cU8 : Tryz.prog.cellsOf 169 = 1 := by kernel_rfl
def p10L : List Int := [1, 10, 100, 1000, 10000, 100000, 1000000, 10000000, 100000000, 1000000000, 10000000000, 100000000000, 1000000000000, 10000000000000, 100000000000000, 1000000000000000, 10000000000000000, 100000000000000000, 1000000000000000000, 10000000000000000000]
theorem p10_eq : Lib.pow10Tab = p10L := by decide +kernel
end Go.Proofs.YtffkakpbelknaaaGreatDoor
