/- Boxes of items. -/
import Derived.Test.YtgimjfffdnopiaaW8g
namespace Go.Proofs.Ytgimjfffdnopiaa
open Go.ChangeShapes Go.WideShapes Go.ChangeAt Go.RowKit
set_option linter.unusedVariables false

abbrev iC (s t : ByteArray) (d : Int) : Obj := .cells #[.string s, .string t, .int .i64 d] 101
def IAt (w : World) (g : Nat) (s t : ByteArray) (d : Int) : Prop := w.heap[g]? = some (.cells #[.string s, .string t, .int .i64 d] 101 (0, 0))
theorem IAt.new (w : World) (s t : ByteArray) (d : Int) : IAt (w.alloc (iC s t d)) w.heap.size s t d := heap_alloc_new w _
theorem IAt.keep {w w' : World} {g B : Nat} {s t : ByteArray} {d : Int} (h : IAt w g s t d) (hb : Below B w w') (hB : w.heap.size ≤ B) : IAt w' g s t d := (hb.block g (by have : g < w.heap.size := (Array.getElem?_eq_some_iff.1 h).1; omega)).trans h
theorem IAt.c0 {w : World} {g : Nat} {s t : ByteArray} {d : Int} (h : IAt w g s t d) : w.cell? ⟨g, 0, none⟩ = some (.string s) := cell_of8 (i := 0) h rfl
theorem IAt.c1 {w : World} {g : Nat} {s t : ByteArray} {d : Int} (h : IAt w g s t d) : w.cell? ⟨g, 1, none⟩ = some (.string t) := cell_of8 (i := 1) h rfl
theorem IAt.c2 {w : World} {g : Nat} {s t : ByteArray} {d : Int} (h : IAt w g s t d) : w.cell? ⟨g, 2, none⟩ = some (.int .i64 d) := cell_of8 (i := 2) h rfl

end Go.Proofs.Ytgimjfffdnopiaa
