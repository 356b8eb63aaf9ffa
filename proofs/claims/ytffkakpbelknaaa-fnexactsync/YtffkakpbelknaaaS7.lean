/- Joined: W8g, W8j. -/
import Derived.Test.YtffkakpbelknaaaS3
import Derived.Test.YtffkakpbelknaaaS6
/- W8g -/
namespace Go.Proofs.Ytffkakpbelknaaa
open Go.ChangeShapes Go.WideShapes Go.ChangeAt Go.RowKit
set_option linter.unusedVariables false

structure It where
  id : ByteArray
  ti : ByteArray
  da : Int
def itC (x : It) : List Value := [.string x.id, .string x.ti, .int .i64 x.da]
theorem itC_len (x : It) : (itC x).length = 3 := rfl
def ItAt (w : World) (B : Nat) (v : Value) (its : List It) : Prop := RecAt 3 itC w B v its ∧ ∀ x ∈ its, x.id.size ≤ maxLen ∧ x.ti.size ≤ maxLen
theorem ItAt.raw {w : World} {B : Nat} {v : Value} {its : List It} (h : ItAt w B v its) : ∃ a cap, v = .slice a its.length cap ∧ its.length ≤ cap ∧ cap ≤ maxLen ∧
    ∀ j, j < its.length → ∃ b off, a = some ⟨b, off, none⟩ ∧ b < B ∧ ∀ i (h : i < its.length), w.cell? ⟨b, off + i * 3, none⟩ = some (.string its[i].id) ∧ w.cell? ⟨b, off + i * 3 + 1, none⟩ = some (.string its[i].ti) ∧ w.cell? ⟨b, off + i * 3 + 2, none⟩ = some (.int .i64 its[i].da) ∧ its[i].id.size ≤ maxLen ∧ its[i].ti.size ≤ maxLen := by
  obtain ⟨⟨a, cap, hv, h1, h2, hc⟩, hs⟩ := h
  refine ⟨a, cap, hv, h1, h2, fun j hj => ?_⟩
  obtain ⟨b, off, ha, hB, hr⟩ := hc (by omega)
  exact ⟨b, off, ha, hB, fun i hi => ⟨hr i hi 0 _ rfl, hr i hi 1 _ rfl, hr i hi 2 _ rfl, hs _ (List.getElem_mem hi)⟩⟩
theorem ItAt.below {w w' : World} {B : Nat} {v : Value} {its : List It} (h : ItAt w B v its) (hb : Below B w w') : ItAt w' B v its := ⟨h.1.below hb, h.2⟩
theorem ItAt.mono {w : World} {B B' : Nat} {v : Value} {its : List It} (h : ItAt w B v its) (hb : B ≤ B') : ItAt w B' v its := ⟨h.1.mono hb, h.2⟩

def szI (n : Int) (s t : ByteArray) : Int := if n - s.size < 0 then -1 else if n - s.size - t.size < 0 then -1 else n - s.size - t.size
theorem szI_bd (n : Int) (s t : ByteArray) (h : 0 ≤ n) : -1 ≤ szI n s t ∧ szI n s t ≤ n := by
  unfold szI
  split
  · omega
  · split <;> omega

end Go.Proofs.Ytffkakpbelknaaa

/- W8j -/
namespace Go.Proofs.Ytffkakpbelknaaa
open Go.ChangeShapes Go.WideShapes Go.ChangeAt Go.RowKit
set_option linter.unusedVariables false

abbrev iC (s t : ByteArray) (d : Int) : Obj := .cells #[.string s, .string t, .int .i64 d] 45
def IAt (w : World) (g : Nat) (s t : ByteArray) (d : Int) : Prop := w.heap[g]? = some (.cells #[.string s, .string t, .int .i64 d] 45 (0, 0))
theorem IAt.new (w : World) (s t : ByteArray) (d : Int) : IAt (w.alloc (iC s t d)) w.heap.size s t d := heap_alloc_new w _
theorem IAt.keep {w w' : World} {g B : Nat} {s t : ByteArray} {d : Int} (h : IAt w g s t d) (hb : Below B w w') (hB : w.heap.size ≤ B) : IAt w' g s t d := (hb.block g (by have : g < w.heap.size := (Array.getElem?_eq_some_iff.1 h).1; omega)).trans h
theorem IAt.c0 {w : World} {g : Nat} {s t : ByteArray} {d : Int} (h : IAt w g s t d) : w.cell? ⟨g, 0, none⟩ = some (.string s) := cell_of8 (i := 0) h rfl
theorem IAt.c1 {w : World} {g : Nat} {s t : ByteArray} {d : Int} (h : IAt w g s t d) : w.cell? ⟨g, 1, none⟩ = some (.string t) := cell_of8 (i := 1) h rfl
theorem IAt.c2 {w : World} {g : Nat} {s t : ByteArray} {d : Int} (h : IAt w g s t d) : w.cell? ⟨g, 2, none⟩ = some (.int .i64 d) := cell_of8 (i := 2) h rfl

end Go.Proofs.Ytffkakpbelknaaa
