/- Joined: Laid8d. -/
import Derived.Shelf.Vars
import Derived.Test.YtffkakpbelknaaaGreatDoorF16
import Derived.Test.YtffkakpbelknaaaGreatDoorF18
/- Laid8d -/
namespace Go.Proofs.YtffkakpbelknaaaGreatDoor
open Go.ChangeShapes Go.WideShapes Go.ChangeAt Go.RowKit
set_option linter.unusedVariables false

theorem xtab_of {W : World} (h : W.ShapedOpen Tryz.prog) : XTab W :=
  cell_of_shapedOpen_int (P := Tryz.prog) (zero := #[.int .i64 0]) (t := 3) h (by decide +kernel) (by kernel_rfl) rfl (by kernel_rfl) (by kernel_rfl) Tryz.underlying3
theorem laid_feeds {W : World} (h : laidMetH Tryz.prog Rows.fnFeedsRow.laid W) (hs : W.ShapedOpen Tryz.prog) : ETab W ∧ XTab W ∧ MTab W ∧ PTab W :=
  ⟨(laid_mpe h).1, xtab_of hs, (laid_mpe h).2.1, (laid_mpe h).2.2⟩
end Go.Proofs.YtffkakpbelknaaaGreatDoor
