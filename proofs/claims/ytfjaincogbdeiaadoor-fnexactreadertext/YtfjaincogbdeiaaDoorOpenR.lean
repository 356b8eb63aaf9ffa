/- Readers as arguments, opened. -/
import Derived.Test.YtfjaincogbdeiaaDoorOpenF
import Derived.Test.YtfjaincogbdeiaaDoorW9i
namespace Go.Proofs.YtfjaincogbdeiaaDoor
open Go.ChangeShapes Go.WideShapes Go.Deep Go.RowKit
set_option linter.unusedVariables false

theorem Tryd.cellsBool : Tryd.prog.cellsOf 4 = 1 := by kernel_rfl
theorem Tryd.cellsLEntry : Tryd.prog.cellsOf 155 = 5 := by kernel_rfl
theorem Tryd.cellsLEntries : Tryd.prog.cellsOf 121 = 1 := by kernel_rfl
theorem Tryd.cellsLSub : Tryd.prog.cellsOf 123 = 3 := by kernel_rfl
theorem Tryd.cellsLSubs : Tryd.prog.cellsOf 42 = 1 := by kernel_rfl
theorem Tryd.cellsLReader : Tryd.prog.cellsOf 44 = 1 := by kernel_rfl
theorem list5 {α : Type} {l : List α} (h : l.length = 5) : ∃ a b c d e, l = [a, b, c, d, e] := by
  match l, h with
  | [a, b, c, d, e], _ => exact ⟨a, b, c, d, e, rfl⟩
theorem list1 {α : Type} {l : List α} (h : l.length = 1) : ∃ a, l = [a] := by
  match l, h with
  | [a], _ => exact ⟨a, rfl⟩
section
variable {H : Type} {enc : TypeId × Value → H} {w : World} {base : Nat} {spare : Nat → Bool} {held : Bool}
theorem open_entry {n : Nat} {cs : List Value} {y : DataW H × List MemPlace} (h : DataW.trod enc Tryd.prog w base spare held n 155 cs = some y) : ∃ z : En, cs = enC z ∧ EnSz z := by
  obtain ⟨xs, n', _, _, hl, hxl, hf⟩ := DataW.trod_struct Tryd.underlying155 h
  rw [Tryd.cellsLEntry] at hl
  clear h
  obtain ⟨c0, c1, c2, c3, c4, rfl⟩ := list5 hl
  obtain ⟨x0, x1, x2, rfl⟩ := list3 hxl
  have h0 := hf 0 _ rfl
  have h1 := hf 1 _ rfl
  have h2 := hf 2 _ rfl
  simp [Tryd.cellsLItem, Tryd.cellsBool] at h0 h1 h2
  obtain ⟨z, e0, b0⟩ := open_item h0
  obtain ⟨b1, e1, _⟩ := DataW.trod_bool Tryd.underlying4 h1
  obtain ⟨b2, e2, _⟩ := DataW.trod_bool Tryd.underlying4 h2
  simp [itC] at e0 e1 e2
  obtain ⟨rfl, rfl, rfl⟩ := e0
  subst e1 e2
  exact ⟨⟨z, b1, b2⟩, rfl, b0⟩
theorem open_entries {n : Nat} {v : Value} {y : DataW H × List MemPlace} (h : DataW.trod enc Tryd.prog w base spare held n 121 [v] = some y) : ∃ es, EnAt w w.heap.size v es := by
  obtain ⟨l, hl, hg⟩ := open_recs (C := enC) (G := EnSz) Tryd.underlying121 Tryd.cellsLEntry (by decide) (fun n cs y h => open_entry h) h
  exact ⟨l, hl, hg⟩
theorem open_sub {n : Nat} {cs : List Value} {y : DataW H × List MemPlace} (h : DataW.trod enc Tryd.prog w base spare held n 123 cs = some y) : ∃ z : Sb × Value, cs = sbC z ∧ EnAt w w.heap.size z.2 z.1.es ∧ SbSz z.1 := by
  obtain ⟨xs, n', _, _, hl, hxl, hf⟩ := DataW.trod_struct Tryd.underlying123 h
  rw [Tryd.cellsLSub] at hl
  clear h
  obtain ⟨c0, c1, c2, rfl⟩ := list3 hl
  obtain ⟨x0, x1, x2, rfl⟩ := list3 hxl
  have h0 := hf 0 _ rfl
  have h1 := hf 1 _ rfl
  have h2 := hf 2 _ rfl
  simp [Tryd.cellsStr, Tryd.cellsLEntries] at h0 h1 h2
  obtain ⟨s0, e0, _, b0⟩ := DataW.trod_string Tryd.underlying9 h0
  obtain ⟨s1, e1, _, b1⟩ := DataW.trod_string Tryd.underlying9 h1
  obtain ⟨es, hi⟩ := open_entries h2
  simp at e0 e1
  subst e0 e1
  exact ⟨(⟨s0, s1, es⟩, c2), rfl, hi, b0, b1⟩
theorem open_subs {n : Nat} {v : Value} {y : DataW H × List MemPlace} (h : DataW.trod enc Tryd.prog w base spare held n 42 [v] = some y) : ∃ ss, SbAt w w.heap.size v ss := by
  obtain ⟨l, hl, hg⟩ := open_recs (C := sbC) (G := fun z : Sb × Value => EnAt w w.heap.size z.2 z.1.es ∧ SbSz z.1) Tryd.underlying42 Tryd.cellsLSub (by decide) (fun n cs y h => open_sub h) h
  exact ⟨l.map Prod.fst, l, rfl, hl, hg⟩
/-- A reader in memory. -/
def RdAt (w : World) (v : Value) (ss : List Sb) : Prop := ∃ x, v = .agg #[x] ∧ SbAt w w.heap.size x ss
theorem open_reader_cells {n : Nat} {cs : List Value} {y : DataW H × List MemPlace} (h : DataW.trod enc Tryd.prog w base spare held n 44 cs = some y) : ∃ x ss, cs = [x] ∧ SbAt w w.heap.size x ss := by
  obtain ⟨xs, n', _, _, hl, hxl, hf⟩ := DataW.trod_struct Tryd.underlying44 h
  rw [Tryd.cellsLReader] at hl
  clear h
  obtain ⟨c0, rfl⟩ := list1 hl
  obtain ⟨x0, rfl⟩ := list1 hxl
  have h0 := hf 0 _ rfl
  simp [Tryd.cellsLSubs] at h0
  obtain ⟨ss, hs⟩ := open_subs h0
  exact ⟨c0, ss, rfl, hs⟩
set_option maxRecDepth 100000 in
theorem open_reader {r : Reach} {b0 : Nat} {v : Value} {d : DataW H} {p : List MemPlace} (hv : Value.okWide Tryd.prog w r b0 44 v) (h : DataW.Trod enc Tryd.prog w base spare held 44 v d p) : ∃ ss, RdAt w v ss := by
  obtain ⟨cs, rfl, hsz⟩ := okWide_struct Tryd.underlying44 hv
  obtain ⟨fuel, hf⟩ := h
  have hf' : DataW.trod enc Tryd.prog w base spare held fuel 44 cs.toList = some (d, p) := hf
  clear hf hv
  obtain ⟨x, ss, e2, hF⟩ := open_reader_cells hf'
  clear hf' hsz
  obtain ⟨l⟩ := cs
  obtain rfl : l = [x] := e2
  exact ⟨ss, x, rfl, hF⟩
end
end Go.Proofs.YtfjaincogbdeiaaDoor
