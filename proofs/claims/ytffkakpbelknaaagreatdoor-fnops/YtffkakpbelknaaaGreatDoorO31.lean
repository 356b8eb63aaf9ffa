/- Parts of the proof. -/
import Derived.Test.YtffkakpbelknaaaGreatDoorO27
import Derived.Test.YtffkakpbelknaaaGreatDoorO30
set_option maxHeartbeats 4000000
set_option maxRecDepth 100000
namespace Go.Proofs.YtffkakpbelknaaaGreatDoor
open Go.ChangeShapes Go.WideShapes Go.ChangeAt Go.RowKit
set_option linter.unusedVariables false
theorem laid_ops {W : World} (h : laidMetH Tryz.prog Rows.fnOpsRow.laid W) (hs : W.ShapedOpen Tryz.prog) : Tabs W /\ XTab W :=
 ⟨laid_FnExactOpText h, xtab_of hs⟩
end Go.Proofs.YtffkakpbelknaaaGreatDoor
