/- Parts of the proof. -/
import Derived.Shelf.Vars
import Derived.Test.YtffkakpbelknaaaGreatDoorO15
import Derived.Test.YtffkakpbelknaaaGreatDoorO29
namespace Go.Proofs.YtffkakpbelknaaaGreatDoor
set_option maxHeartbeats 4000000
set_option maxRecDepth 100000
open Go.ChangeShapes Go.WideShapes Go.ChangeAt Go.RowKit
set_option linter.unusedVariables false
theorem xtab_of {W : World} (h : W.ShapedOpen Tryz.prog) : XTab W :=
 cell_of_shapedOpen_int (P := Tryz.prog) (zero := #[.int .i64 0]) (t := 3) h (by decide +kernel) (by kernel_rfl) rfl (by kernel_rfl) (by kernel_rfl) Tryz.underlying3
end Go.Proofs.YtffkakpbelknaaaGreatDoor
