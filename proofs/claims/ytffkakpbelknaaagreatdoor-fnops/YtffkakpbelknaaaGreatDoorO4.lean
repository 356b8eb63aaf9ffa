/- Parts of the proof. -/
import Derived.Laws.CopyOwn
import Derived.Laws.Rows
import Derived.Laws.Tables
import Derived.Test.YtffkakpbelknaaaGreatDoorO3
namespace Go.Proofs.YtffkakpbelknaaaGreatDoor
set_option maxHeartbeats 4000000
set_option maxRecDepth 100000
open Go.ChangeShapes Go.WideShapes Go.ChangeAt Go.RowKit
set_option linter.unusedVariables false
def stK (k : IntKind) (xs : List Int) : Array Value := (xs.map (Value.int k)).toArray
theorem stK_get (k : IntKind) (xs : List Int) (j : Nat) (h : j < xs.length) : (stK k xs)[j]? = some (.int k xs[j]) := by simp [stK, h]
theorem stK_set (k : IntKind) (xs : List Int) (j : Nat) (x : Int) : (stK k xs).setIfInBounds j (.int k x) = stK k (xs.set j x) := by
 simp [stK, List.map_set]
def Arr (w : World) (g : Nat) (t : TypeId) (k : IntKind) (zs : List Int) : Prop := w.heap[g]? = some (.cells (stK k zs) t (0, 0))
theorem Arr.lt {w : World} {g : Nat} {t : TypeId} {k : IntKind} {zs : List Int} (h : Arr w g t k zs) : g < w.heap.size := (Array.getElem?_eq_some_iff.1 h).1
theorem Arr.cell {w : World} {g : Nat} {t : TypeId} {k : IntKind} {zs : List Int} (h : Arr w g t k zs) (j : Nat) (hj : j < zs.length) : w.cell? ⟨g, j, none⟩ = some (.int k zs[j]) := by
 rw [cell_of_row w g j _ t (0, 0) h]; exact stK_get k zs j hj
theorem Arr.frozen {w : World} {g : Nat} {t : TypeId} {k : IntKind} {zs : List Int} (h : Arr w g t k zs) (j : Nat) : w.frozen? ⟨g, j, none⟩ = false := frozen_of_row w g j _ t h
theorem Arr.set {w : World} {g : Nat} {t : TypeId} {k : IntKind} {zs : List Int} (h : Arr w g t k zs) (j : Nat) (x : Int) : Arr (w.setCell ⟨g, j, none⟩ (.int k x)) g t k (zs.set j x) := by
 unfold Arr
 rw [heap_setCell_same w g j _ t _ h, stK_set]
theorem Arr.other {w : World} {g : Nat} {t : TypeId} {k : IntKind} {zs : List Int} (h : Arr w g t k zs) (g' j : Nat) (v : Value) (hne : g ≠ g') : Arr (w.setCell ⟨g', j, none⟩ v) g t k zs := by
 unfold Arr
 rw [heap_setCell_other w _ g v hne]; exact h
theorem Arr.alloc {w : World} {g : Nat} {t : TypeId} {k : IntKind} {zs : List Int} (h : Arr w g t k zs) (o : Obj) : Arr (w.alloc o) g t k zs := by
 unfold Arr; rw [heap_alloc_old _ _ h.lt]; exact h
theorem Arr.new (w : World) (t : TypeId) (k : IntKind) (zs : List Int) : Arr (w.alloc (.cells (stK k zs) t)) w.heap.size t k zs := heap_alloc_new w _
theorem Arr.drewN {w : World} {g : Nat} {t : TypeId} {k : IntKind} {zs : List Int} (h : Arr w g t k zs) (n : Nat) : Arr (w.drewN n) g t k zs := h
theorem Arr.drew {w : World} {g : Nat} {t : TypeId} {k : IntKind} {zs : List Int} (h : Arr w g t k zs) : Arr w.drew g t k zs := h
theorem Arr.below {w w' : World} {B g : Nat} {t : TypeId} {k : IntKind} {zs : List Int} (h : Arr w g t k zs) (hb : Below B w w') (hg : g < B) : Arr w' g t k zs := by
 unfold Arr; rw [hb.block g hg]; exact h
theorem Arr.row {w : World} {g : Nat} {t : TypeId} {k : IntKind} {zs : List Int} (h : Arr w g t k zs) (ys : List Int) (hl : ys.length = zs.length) : Arr (w.setRow g (stK k ys)) g t k ys := setRow_heap _ _ _ _ _ _ h
end Go.Proofs.YtffkakpbelknaaaGreatDoor
