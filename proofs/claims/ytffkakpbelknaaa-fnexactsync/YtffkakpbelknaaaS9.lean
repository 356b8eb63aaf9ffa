/- Joined: W8i. -/
import Derived.Test.YtffkakpbelknaaaS7
import Derived.Test.YtffkakpbelknaaaS8
/- W8i -/
namespace Go.Proofs.Ytffkakpbelknaaa
open Go.ChangeShapes Go.WideShapes Go.ChangeAt Go.RowKit
set_option linter.unusedVariables false

theorem wpIf_skip {P : Program} {ops : Array Oper} {C : World → Prop} {R : Act → Prop} {o : Oper} {l : List Oper} {a : Act} (hw : Region.wanted o (yielded ops a.tmps) = false) (h : wpIf P ops C R l (a.put o.dst undef)) : wpIf P ops C R (o :: l) a := ⟨_, .inr ⟨hw, rfl⟩, h⟩
def ordB (its : List It) (k : Nat) : Bool := match k with
  | 0 => true
  | q + 1 => match its[q]?, its[q + 1]? with
    | some x, some y => Op.bytesLess x.id.toList y.id.toList
    | _, _ => true
def okB (its : List It) (k : Nat) : Bool := match its[k]? with
  | some x => itB x.id x.ti x.da && ordB its k
  | none => true
def itsB (its : List It) : Bool := (List.range its.length).all (okB its)
def fdB (u t : ByteArray) (its : List It) : Bool := itsB its && (nmB u 20 && ttB t && decide (its.length ≤ 12))
theorem its_out (its : List It) (k : Nat) (h : k < its.length) (hb : okB its k = false) : itsB its = false := by
  cases hw : itsB its with
  | false => rfl
  | true =>
    unfold itsB at hw
    have := List.all_eq_true.1 hw k (List.mem_range.2 h)
    rw [hb] at this
    cases this
theorem its_end (its : List It) (k : Nat) (h : ¬ k < its.length) (hb : ∀ j, j < k → okB its j = true) : itsB its = true := by
  unfold itsB
  refine List.all_eq_true.2 (fun j hj => hb j ?_)
  have := List.mem_range.1 hj
  omega
theorem okB_at (its : List It) (k : Nat) (h : k < its.length) : okB its k = (itB its[k].id its[k].ti its[k].da && ordB its k) := by
  unfold okB; rw [List.getElem?_eq_getElem h]
theorem ordB_at (its : List It) (q : Nat) (h : q + 1 < its.length) : ordB its (q + 1) = Op.bytesLess its[q].id.toList its[q + 1].id.toList := by
  show (match its[q]?, its[q + 1]? with | some x, some y => Op.bytesLess x.id.toList y.id.toList | _, _ => true) = _
  rw [List.getElem?_eq_getElem h, List.getElem?_eq_getElem (show q < its.length by omega)]
abbrev fV (u t : ByteArray) (v : Value) : Value := .agg #[.string u, .string t, v]
abbrev fC (u t : ByteArray) (v : Value) : Obj := .cells #[.string u, .string t, v] 29
def FAt (w : World) (g : Nat) (u t : ByteArray) (v : Value) : Prop := w.heap[g]? = some (.cells #[.string u, .string t, v] 29 (0, 0))
theorem FAt.new (w : World) (u t : ByteArray) (v : Value) : FAt (w.alloc (fC u t v)) w.heap.size u t v := heap_alloc_new w _
theorem FAt.drew8 {w : World} {g : Nat} {u t : ByteArray} {v : Value} (h : FAt w g u t v) : FAt w.drew g u t v := h
theorem FAt.keep {w w' : World} {g B : Nat} {u t : ByteArray} {v : Value} (h : FAt w g u t v) (hb : Below B w w') (hB : w.heap.size ≤ B) : FAt w' g u t v := (hb.block g (by have : g < w.heap.size := (Array.getElem?_eq_some_iff.1 h).1; omega)).trans h
theorem FAt.c0 {w : World} {g : Nat} {u t : ByteArray} {v : Value} (h : FAt w g u t v) : w.cell? ⟨g, 0, none⟩ = some (.string u) := cell_of8 (i := 0) h rfl
theorem FAt.c1 {w : World} {g : Nat} {u t : ByteArray} {v : Value} (h : FAt w g u t v) : w.cell? ⟨g, 1, none⟩ = some (.string t) := cell_of8 (i := 1) h rfl
theorem FAt.c2 {w : World} {g : Nat} {u t : ByteArray} {v : Value} (h : FAt w g u t v) : w.cell? ⟨g, 2, none⟩ = some v := cell_of8 (i := 2) h rfl
theorem FAt.other {w : World} {g : Nat} {u t : ByteArray} {v : Value} (h : FAt w g u t v) (p : Addr) (x : Value) (hp : g ≠ p.block) : FAt (w.setCell p x) g u t v := by
  unfold FAt
  rw [Below.heap_setCell _ _ _ _ hp]
  exact h
theorem FAt.set3 {w : World} {g : Nat} {u0 t0 : ByteArray} {v0 : Value} (h : FAt w g u0 t0 v0) (u t : ByteArray) (v : Value) : FAt (((w.setCell ⟨g, 0, none⟩ (.string u)).setCell ⟨g, 1, none⟩ (.string t)).setCell ⟨g, 2, none⟩ v) g u t v := by
  have h1 := heap_setCell_same w g 0 _ _ (.string u) h
  have h2 := heap_setCell_same _ g 1 _ _ (.string t) h1
  exact heap_setCell_same _ g 2 _ _ v h2
theorem FAt.free {w : World} {g : Nat} {u t : ByteArray} {v : Value} (h : FAt w g u t v) (j : Nat) : w.frozen? ⟨g, j, none⟩ = false := frozen_of_row w g j _ _ h

end Go.Proofs.Ytffkakpbelknaaa
