/- Polls and answers as arguments, opened. -/
import Derived.Test.YtlipgmaiooljkaaOpens
import Derived.Test.YtlipgmaiooljkaaW16a
import Derived.ChangeArms
namespace Go.Proofs.Ytlipgmaiooljkaa
open Go.ChangeShapes Go.WideShapes Go.Deep Go.RowKit
set_option linter.unusedVariables false

theorem Try.cellsStr16 : Try.prog.cellsOf 9 = 1 := by kernel_rfl
theorem Try.cellsI6416 : Try.prog.cellsOf 2 = 1 := by kernel_rfl
theorem Try.cellsBool16 : Try.prog.cellsOf 4 = 1 := by kernel_rfl
theorem Try.cellsLPoll : Try.prog.cellsOf 28 = 6 := by kernel_rfl
theorem Try.cellsLAnswer : Try.prog.cellsOf 34 = 4 := by kernel_rfl
theorem listS16 {α : Type} {l : List α} {n : Nat} (h : l.length = n + 1) : ∃ a r, l = a :: r ∧ r.length = n := by
  cases l with
  | nil => cases h
  | cons a l => exact ⟨a, l, rfl, by simpa using h⟩
theorem list6 {α : Type} {l : List α} (h : l.length = 6) : ∃ a b c d e f, l = [a, b, c, d, e, f] := by
  obtain ⟨a, l0, rfl, h0⟩ := listS16 h
  obtain ⟨b, l1, rfl, h1⟩ := listS16 h0
  obtain ⟨c, l2, rfl, h2⟩ := listS16 h1
  obtain ⟨d, l3, rfl, h3⟩ := listS16 h2
  obtain ⟨e, l4, rfl, h4⟩ := listS16 h3
  obtain ⟨f, l5, rfl, h5⟩ := listS16 h4
  obtain rfl := List.eq_nil_of_length_eq_zero h5
  exact ⟨a, b, c, d, e, f, rfl⟩
theorem list4 {α : Type} {l : List α} (h : l.length = 4) : ∃ a b c d, l = [a, b, c, d] := by
  obtain ⟨a, l0, rfl, h0⟩ := listS16 h
  obtain ⟨b, l1, rfl, h1⟩ := listS16 h0
  obtain ⟨c, l2, rfl, h2⟩ := listS16 h1
  obtain ⟨d, l3, rfl, h3⟩ := listS16 h2
  obtain rfl := List.eq_nil_of_length_eq_zero h3
  exact ⟨a, b, c, d, rfl⟩
section
variable {H : Type} {enc : TypeId × Value → H} {w : World} {base : Nat} {spare : Nat → Bool} {held : Bool}
theorem open_poll_cells {n : Nat} {cs : List Value} {y : DataW H × List MemPlace} (h : DataW.trod enc Try.prog w base spare held n 28 cs = some y) : ∃ z : PollD, cs = pkL z ∧ PkSz z := by
  obtain ⟨xs, n', _, _, hl, hxl, hf⟩ := DataW.trod_struct Try.underlying28 h
  rw [Try.cellsLPoll] at hl
  clear h
  obtain ⟨c0, c1, c2, c3, c4, c5, rfl⟩ := list6 hl
  obtain ⟨x0, x1, x2, x3, x4, x5, rfl⟩ := list6 hxl
  have h0 := hf 0 _ rfl
  have h1 := hf 1 _ rfl
  have h2 := hf 2 _ rfl
  have h3 := hf 3 _ rfl
  have h4 := hf 4 _ rfl
  have h5 := hf 5 _ rfl
  simp [Try.cellsStr16, Try.cellsI6416, Try.cellsBool16] at h0 h1 h2 h3 h4 h5
  obtain ⟨s0, e0, _, b0⟩ := DataW.trod_string Try.underlying9 h0
  obtain ⟨s1, e1, _, b1⟩ := DataW.trod_string Try.underlying9 h1
  obtain ⟨d2, e2, _, b2⟩ := DataW.trod_int Try.underlying2 h2
  obtain ⟨d3, e3, _, b3⟩ := DataW.trod_int Try.underlying2 h3
  obtain ⟨d4, e4, _, b4⟩ := DataW.trod_int Try.underlying2 h4
  obtain ⟨d5, e5, _⟩ := DataW.trod_bool Try.underlying4 h5
  simp at e0 e1 e2 e3 e4 e5
  subst e0 e1 e2 e3 e4 e5
  exact ⟨⟨s0, s1, d2, d3, d4, d5⟩, rfl, b0, b1⟩
set_option maxRecDepth 100000 in
theorem open_poll {r : Reach} {b0 : Nat} {v : Value} {d : DataW H} {p : List MemPlace} (hv : Value.okWide Try.prog w r b0 28 v) (h : DataW.Trod enc Try.prog w base spare held 28 v d p) : ∃ z : PollD, v = pkV z ∧ PkSz z := by
  obtain ⟨cs, rfl, hsz⟩ := okWide_struct Try.underlying28 hv
  obtain ⟨fuel, hf⟩ := h
  have hf' : DataW.trod enc Try.prog w base spare held fuel 28 cs.toList = some (d, p) := hf
  clear hf hv
  obtain ⟨z, e2, hF⟩ := open_poll_cells hf'
  clear hf' hsz
  obtain ⟨l⟩ := cs
  obtain rfl : l = pkL z := e2
  exact ⟨z, rfl, hF⟩

theorem open_answer_cells {n : Nat} {cs : List Value} {y : DataW H × List MemPlace} (h : DataW.trod enc Try.prog w base spare held n 34 cs = some y) : ∃ z : AnsD, cs = [.int .i64 z.c, .string z.m, .string z.u, .int .i64 z.af] ∧ AnSz z := by
  obtain ⟨xs, n', _, _, hl, hxl, hf⟩ := DataW.trod_struct Try.underlying34 h
  rw [Try.cellsLAnswer] at hl
  clear h
  obtain ⟨c0, c1, c2, c3, rfl⟩ := list4 hl
  obtain ⟨x0, x1, x2, x3, rfl⟩ := list4 hxl
  have h0 := hf 0 _ rfl
  have h1 := hf 1 _ rfl
  have h2 := hf 2 _ rfl
  have h3 := hf 3 _ rfl
  simp [Try.cellsStr16, Try.cellsI6416] at h0 h1 h2 h3
  obtain ⟨d0, e0, _, b0⟩ := DataW.trod_int Try.underlying2 h0
  obtain ⟨s1, e1, _, b1⟩ := DataW.trod_string Try.underlying9 h1
  obtain ⟨s2, e2, _, b2⟩ := DataW.trod_string Try.underlying9 h2
  obtain ⟨d3, e3, _, b3⟩ := DataW.trod_int Try.underlying2 h3
  simp at e0 e1 e2 e3
  subst e0 e1 e2 e3
  exact ⟨⟨d0, s1, s2, d3⟩, rfl, b1, b2⟩
set_option maxRecDepth 100000 in
theorem open_answer {r : Reach} {b0 : Nat} {v : Value} {d : DataW H} {p : List MemPlace} (hv : Value.okWide Try.prog w r b0 34 v) (h : DataW.Trod enc Try.prog w base spare held 34 v d p) : ∃ z : AnsD, v = anV z ∧ AnSz z := by
  obtain ⟨cs, rfl, hsz⟩ := okWide_struct Try.underlying34 hv
  obtain ⟨fuel, hf⟩ := h
  have hf' : DataW.trod enc Try.prog w base spare held fuel 34 cs.toList = some (d, p) := hf
  clear hf hv
  obtain ⟨z, e2, hF⟩ := open_answer_cells hf'
  clear hf' hsz
  obtain ⟨l⟩ := cs
  obtain rfl : l = [.int .i64 z.c, .string z.m, .string z.u, .int .i64 z.af] := e2
  exact ⟨z, rfl, hF⟩

/-- A row of polls that came in. -/
def PksAt (w : World) (B : Nat) (v : Value) (ps : List PollD) : Prop := RecAt 6 pkL w B v ps ∧ ∀ p ∈ ps, PkSz p
theorem open_polls_cell {n : Nat} {v : Value} {y : DataW H × List MemPlace} (h : DataW.trod enc Try.prog w base spare held n 40 [v] = some y) : ∃ ps, PksAt w w.heap.size v ps := by
  obtain ⟨l, hl, hg⟩ := open_recs (C := pkL) (G := fun z : PollD => PkSz z) Try.underlying40 Try.cellsLPoll (by decide) (fun n cs y h => open_poll_cells h) h
  exact ⟨l, hl, hg⟩
set_option maxRecDepth 100000 in
theorem open_polls {r : Reach} {b0 : Nat} {v : Value} {d : DataW H} {p : List MemPlace} (hv : Value.okWide Try.prog w r b0 40 v) (h : DataW.Trod enc Try.prog w base spare held 40 v d p) : ∃ ps, PksAt w w.heap.size v ps := by
  obtain ⟨a, len, cap, rfl⟩ := okWide_slice Try.underlying40 hv
  obtain ⟨fuel, hf⟩ := h
  exact open_polls_cell hf
end
end Go.Proofs.Ytlipgmaiooljkaa
