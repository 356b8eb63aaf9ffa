/- Joined: OpenSl. -/
import Derived.ChangeArms
import Derived.Test.YtlipgmaiooljkaaGreatDoorH14
import Derived.Test.YtlipgmaiooljkaaGreatDoorH44
/- OpenSl -/
namespace Go.Proofs.YtlipgmaiooljkaaGreatDoor
open Go.ChangeShapes Go.WideShapes Go.Deep Go.RowKit
set_option linter.unusedVariables false

theorem Tryz.cellsStr17 : Tryz.prog.cellsOf 9 = 1 := by kernel_rfl
theorem Tryz.cellsI6417 : Tryz.prog.cellsOf 2 = 1 := by kernel_rfl
theorem Tryz.cellsLSlot : Tryz.prog.cellsOf 28 = 4 := by kernel_rfl
theorem listS17 {α : Type} {l : List α} {n : Nat} (h : l.length = n + 1) : ∃ a r, l = a :: r ∧ r.length = n := by
  cases l with
  | nil => cases h
  | cons a l => exact ⟨a, l, rfl, by simpa using h⟩
theorem list4s {α : Type} {l : List α} (h : l.length = 4) : ∃ a b c d, l = [a, b, c, d] := by
  obtain ⟨a, l0, rfl, h0⟩ := listS17 h
  obtain ⟨b, l1, rfl, h1⟩ := listS17 h0
  obtain ⟨c, l2, rfl, h2⟩ := listS17 h1
  obtain ⟨d, l3, rfl, h3⟩ := listS17 h2
  obtain rfl := List.eq_nil_of_length_eq_zero h3
  exact ⟨a, b, c, d, rfl⟩
def SlotIn (v : Value) (z : SlotD) : Prop := v = slV z ∧ z.sa.size ≤ maxLen ∧ z.no.size ≤ maxLen ∧ z.bx.size ≤ maxLen ∧ (Lit.int .i64 z.ro).wf = true
section
variable {H : Type} {enc : TypeId × Value → H} {w : World} {base : Nat} {spare : Nat → Bool} {held : Bool}
theorem open_slot_cells {n : Nat} {cs : List Value} {y : DataW H × List MemPlace} (h : DataW.trod enc Tryz.prog w base spare held n 28 cs = some y) : ∃ z : SlotD, cs = [.string z.sa, .int .i64 z.ro, .string z.no, .string z.bx] ∧ z.sa.size ≤ maxLen ∧ z.no.size ≤ maxLen ∧ z.bx.size ≤ maxLen ∧ (Lit.int .i64 z.ro).wf = true := by
  obtain ⟨xs, n', _, _, hl, hxl, hf⟩ := DataW.trod_struct Tryz.underlying28 h
  rw [Tryz.cellsLSlot] at hl
  clear h
  obtain ⟨c0, c1, c2, c3, rfl⟩ := list4s hl
  obtain ⟨x0, x1, x2, x3, rfl⟩ := list4s hxl
  have h0 := hf 0 _ rfl
  have h1 := hf 1 _ rfl
  have h2 := hf 2 _ rfl
  have h3 := hf 3 _ rfl
  simp [Tryz.cellsStr17, Tryz.cellsI6417] at h0 h1 h2 h3
  obtain ⟨s0, e0, _, b0⟩ := DataW.trod_string Tryz.underlying9 h0
  obtain ⟨d1, e1, _, b1⟩ := DataW.trod_int Tryz.underlying2 h1
  obtain ⟨s2, e2, _, b2⟩ := DataW.trod_string Tryz.underlying9 h2
  obtain ⟨s3, e3, _, b3⟩ := DataW.trod_string Tryz.underlying9 h3
  simp at e0 e1 e2 e3
  subst e0 e1 e2 e3
  exact ⟨⟨s0, d1, s2, s3⟩, rfl, b0, b2, b3, b1⟩
set_option maxRecDepth 100000 in
theorem open_slot {r : Reach} {b0 : Nat} {v : Value} {d : DataW H} {p : List MemPlace} (hv : Value.okWide Tryz.prog w r b0 28 v) (h : DataW.Trod enc Tryz.prog w base spare held 28 v d p) : ∃ z : SlotD, SlotIn v z := by
  obtain ⟨cs, rfl, hsz⟩ := okWide_struct Tryz.underlying28 hv
  obtain ⟨fuel, hf⟩ := h
  have hf' : DataW.trod enc Tryz.prog w base spare held fuel 28 cs.toList = some (d, p) := hf
  clear hf hv
  obtain ⟨z, e2, hF⟩ := open_slot_cells hf'
  clear hf' hsz
  obtain ⟨l⟩ := cs
  obtain rfl : l = [.string z.sa, .int .i64 z.ro, .string z.no, .string z.bx] := e2
  exact ⟨z, rfl, hF⟩
end
end Go.Proofs.YtlipgmaiooljkaaGreatDoor
