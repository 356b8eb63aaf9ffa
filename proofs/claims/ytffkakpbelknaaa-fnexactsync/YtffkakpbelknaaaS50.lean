/- Joined: OpenD, V14a. -/
import Derived.Test.YtffkakpbelknaaaS4
import Derived.Test.YtffkakpbelknaaaS40
import Derived.Test.YtffkakpbelknaaaS45
/- OpenD -/
namespace Go.Proofs.Ytffkakpbelknaaa
open Go.ChangeShapes Go.WideShapes Go.Deep Go.RowKit
set_option linter.unusedVariables false

theorem Try.cellsStrD : Try.prog.cellsOf 9 = 1 := by kernel_rfl
theorem Try.cellsI64D : Try.prog.cellsOf 2 = 1 := by kernel_rfl
theorem Try.cellsLFile : Try.prog.cellsOf 165 = 2 := by kernel_rfl
theorem Try.cellsLFiles : Try.prog.cellsOf 53 = 1 := by kernel_rfl
theorem Try.cellsLDOp : Try.prog.cellsOf 58 = 4 := by kernel_rfl
theorem Try.cellsLDOps : Try.prog.cellsOf 54 = 1 := by kernel_rfl
theorem Try.cellsLDisk : Try.prog.cellsOf 56 = 3 := by kernel_rfl
theorem list2D {α : Type} {l : List α} (h : l.length = 2) : ∃ a b, l = [a, b] := by
  match l, h with
  | [a, b], _ => exact ⟨a, b, rfl⟩
theorem list3D {α : Type} {l : List α} (h : l.length = 3) : ∃ a b c, l = [a, b, c] := by
  match l, h with
  | [a, b, c], _ => exact ⟨a, b, c, rfl⟩
theorem list4D {α : Type} {l : List α} (h : l.length = 4) : ∃ a b c d, l = [a, b, c, d] := by
  match l, h with
  | [a, b, c, d], _ => exact ⟨a, b, c, d, rfl⟩
/-- A disk that was handed in. -/
def DkAt (w : World) (v : Value) (L S : List Fi) (os : List DOp) : Prop := ∃ vl vs vo, v = dkV vl vs vo ∧ FiAt w w.heap.size vl L ∧ FiAt w w.heap.size vs S ∧ OaAt w w.heap.size vo os
section
variable {H : Type} {enc : TypeId × Value → H} {w : World} {base : Nat} {spare : Nat → Bool} {held : Bool}
theorem open_file {n : Nat} {cs : List Value} {y : DataW H × List MemPlace} (h : DataW.trod enc Try.prog w base spare held n 165 cs = some y) : ∃ z : Fi, cs = fiC z ∧ FiSz z := by
  obtain ⟨xs, n', _, _, hl, hxl, hf⟩ := DataW.trod_struct Try.underlying165 h
  rw [Try.cellsLFile] at hl
  clear h
  obtain ⟨c0, c1, rfl⟩ := list2D hl
  obtain ⟨x0, x1, rfl⟩ := list2D hxl
  have h0 := hf 0 _ rfl
  have h1 := hf 1 _ rfl
  simp [Try.cellsStrD] at h0 h1
  obtain ⟨s0, e0, _, b0⟩ := DataW.trod_string Try.underlying9 h0
  obtain ⟨s1, e1, _, b1⟩ := DataW.trod_string Try.underlying9 h1
  simp at e0 e1
  subst e0 e1
  exact ⟨⟨s0, s1⟩, rfl, b0, b1⟩
theorem open_dop {n : Nat} {cs : List Value} {y : DataW H × List MemPlace} (h : DataW.trod enc Try.prog w base spare held n 58 cs = some y) : ∃ z : DOp, cs = doC z ∧ DoSz z := by
  obtain ⟨xs, n', _, _, hl, hxl, hf⟩ := DataW.trod_struct Try.underlying58 h
  rw [Try.cellsLDOp] at hl
  clear h
  obtain ⟨c0, c1, c2, c3, rfl⟩ := list4D hl
  obtain ⟨x0, x1, x2, x3, rfl⟩ := list4D hxl
  have h0 := hf 0 _ rfl
  have h1 := hf 1 _ rfl
  have h2 := hf 2 _ rfl
  have h3 := hf 3 _ rfl
  simp [Try.cellsStrD, Try.cellsI64D] at h0 h1 h2 h3
  obtain ⟨d0, e0, _, b0⟩ := DataW.trod_int Try.underlying2 h0
  obtain ⟨s1, e1, _, b1⟩ := DataW.trod_string Try.underlying9 h1
  obtain ⟨s2, e2, _, b2⟩ := DataW.trod_string Try.underlying9 h2
  obtain ⟨s3, e3, _, b3⟩ := DataW.trod_string Try.underlying9 h3
  simp at e0 e1 e2 e3
  subst e0 e1 e2 e3
  exact ⟨⟨d0, s1, s2, s3⟩, rfl, b1, b2, b3⟩
theorem open_files {n : Nat} {v : Value} {y : DataW H × List MemPlace} (h : DataW.trod enc Try.prog w base spare held n 53 [v] = some y) : ∃ L, FiAt w w.heap.size v L := by
  obtain ⟨l, hl, hg⟩ := open_recs (C := fiC) (G := FiSz) Try.underlying53 Try.cellsLFile (by decide) (fun n cs y h => open_file h) h
  exact ⟨l, hl, hg⟩
theorem open_dops {n : Nat} {v : Value} {y : DataW H × List MemPlace} (h : DataW.trod enc Try.prog w base spare held n 54 [v] = some y) : ∃ L, OaAt w w.heap.size v L := by
  obtain ⟨l, hl, hg⟩ := open_recs (C := doC) (G := DoSz) Try.underlying54 Try.cellsLDOp (by decide) (fun n cs y h => open_dop h) h
  exact ⟨l, hl, hg⟩
theorem open_disk_cells {n : Nat} {cs : List Value} {y : DataW H × List MemPlace} (h : DataW.trod enc Try.prog w base spare held n 56 cs = some y) : ∃ a b c L S os, cs = [a, b, c] ∧ FiAt w w.heap.size a L ∧ FiAt w w.heap.size b S ∧ OaAt w w.heap.size c os := by
  obtain ⟨xs, n', _, _, hl, hxl, hf⟩ := DataW.trod_struct Try.underlying56 h
  rw [Try.cellsLDisk] at hl
  clear h
  obtain ⟨c0, c1, c2, rfl⟩ := list3D hl
  obtain ⟨x0, x1, x2, rfl⟩ := list3D hxl
  have h0 := hf 0 _ rfl
  have h1 := hf 1 _ rfl
  have h2 := hf 2 _ rfl
  simp [Try.cellsLFiles, Try.cellsLDOps] at h0 h1 h2
  obtain ⟨L, hL⟩ := open_files h0
  obtain ⟨S, hS⟩ := open_files h1
  obtain ⟨os, hO⟩ := open_dops h2
  exact ⟨c0, c1, c2, L, S, os, rfl, hL, hS, hO⟩
set_option maxRecDepth 100000 in
theorem open_disk {r : Reach} {b0 : Nat} {v : Value} {d : DataW H} {p : List MemPlace} (hv : Value.okWide Try.prog w r b0 56 v) (h : DataW.Trod enc Try.prog w base spare held 56 v d p) : ∃ L S os, DkAt w v L S os := by
  obtain ⟨cs, rfl, hsz⟩ := okWide_struct Try.underlying56 hv
  obtain ⟨fuel, hf⟩ := h
  have hf' : DataW.trod enc Try.prog w base spare held fuel 56 cs.toList = some (d, p) := hf
  clear hf hv
  obtain ⟨a, b, c, L, S, os, e2, hL, hS, hO⟩ := open_disk_cells hf'
  clear hf' hsz
  obtain ⟨l⟩ := cs
  obtain rfl : l = [a, b, c] := e2
  exact ⟨L, S, os, a, b, c, rfl, hL, hS, hO⟩
end
end Go.Proofs.Ytffkakpbelknaaa

/- V14a -/
namespace Go.Proofs.Ytffkakpbelknaaa
open Go.ChangeShapes Go.WideShapes Go.ChangeAt Go.RowKit
set_option linter.unusedVariables false

/-- A disk that a call made: its rows lie from B on. -/
def OwDk (w : World) (B : Nat) (vl vs vo : Value) (L S : List Fi) (os : List DOp) : Prop := OwnR 167 2 fiC w B vl L ∧ OwnR 167 2 fiC w B vs S ∧ OwnR 68 4 doC w B vo os

end Go.Proofs.Ytffkakpbelknaaa
