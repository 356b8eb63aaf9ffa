/- Joined: OpenR, V9a, V9b. -/
import Derived.Test.YtfgdbpjmjeaolaaGreatH16
import Derived.Test.YtfgdbpjmjeaolaaGreatH19
import Derived.Test.YtfgdbpjmjeaolaaGreatH30
/- OpenR -/
namespace Go.Proofs.YtfgdbpjmjeaolaaGreat
open Go.ChangeShapes Go.WideShapes Go.Deep Go.RowKit
set_option linter.unusedVariables false

theorem Tryz.cellsBool : Tryz.prog.cellsOf 4 = 1 := by kernel_rfl
theorem Tryz.cellsLEntry : Tryz.prog.cellsOf 135 = 5 := by kernel_rfl
theorem Tryz.cellsLEntries : Tryz.prog.cellsOf 66 = 1 := by kernel_rfl
theorem Tryz.cellsLSub : Tryz.prog.cellsOf 68 = 3 := by kernel_rfl
theorem Tryz.cellsLSubs : Tryz.prog.cellsOf 22 = 1 := by kernel_rfl
theorem Tryz.cellsLReader : Tryz.prog.cellsOf 24 = 1 := by kernel_rfl
theorem list5 {α : Type} {l : List α} (h : l.length = 5) : ∃ a b c d e, l = [a, b, c, d, e] := by
  match l, h with
  | [a, b, c, d, e], _ => exact ⟨a, b, c, d, e, rfl⟩
theorem list1 {α : Type} {l : List α} (h : l.length = 1) : ∃ a, l = [a] := by
  match l, h with
  | [a], _ => exact ⟨a, rfl⟩
section
variable {H : Type} {enc : TypeId × Value → H} {w : World} {base : Nat} {spare : Nat → Bool} {held : Bool}
theorem open_entry {n : Nat} {cs : List Value} {y : DataW H × List MemPlace} (h : DataW.trod enc Tryz.prog w base spare held n 135 cs = some y) : ∃ z : En, cs = enC z ∧ EnSz z := by
  obtain ⟨xs, n', _, _, hl, hxl, hf⟩ := DataW.trod_struct Tryz.underlying135 h
  rw [Tryz.cellsLEntry] at hl
  clear h
  obtain ⟨c0, c1, c2, c3, c4, rfl⟩ := list5 hl
  obtain ⟨x0, x1, x2, rfl⟩ := list3 hxl
  have h0 := hf 0 _ rfl
  have h1 := hf 1 _ rfl
  have h2 := hf 2 _ rfl
  simp [Tryz.cellsLItem, Tryz.cellsBool] at h0 h1 h2
  obtain ⟨z, e0, b0⟩ := open_item h0
  obtain ⟨b1, e1, _⟩ := DataW.trod_bool Tryz.underlying4 h1
  obtain ⟨b2, e2, _⟩ := DataW.trod_bool Tryz.underlying4 h2
  simp [itC] at e0 e1 e2
  obtain ⟨rfl, rfl, rfl⟩ := e0
  subst e1 e2
  exact ⟨⟨z, b1, b2⟩, rfl, b0⟩
theorem open_entries {n : Nat} {v : Value} {y : DataW H × List MemPlace} (h : DataW.trod enc Tryz.prog w base spare held n 66 [v] = some y) : ∃ es, EnAt w w.heap.size v es := by
  obtain ⟨l, hl, hg⟩ := open_recs (C := enC) (G := EnSz) Tryz.underlying66 Tryz.cellsLEntry (by decide) (fun n cs y h => open_entry h) h
  exact ⟨l, hl, hg⟩
theorem open_sub {n : Nat} {cs : List Value} {y : DataW H × List MemPlace} (h : DataW.trod enc Tryz.prog w base spare held n 68 cs = some y) : ∃ z : Sb × Value, cs = sbC z ∧ EnAt w w.heap.size z.2 z.1.es ∧ SbSz z.1 := by
  obtain ⟨xs, n', _, _, hl, hxl, hf⟩ := DataW.trod_struct Tryz.underlying68 h
  rw [Tryz.cellsLSub] at hl
  clear h
  obtain ⟨c0, c1, c2, rfl⟩ := list3 hl
  obtain ⟨x0, x1, x2, rfl⟩ := list3 hxl
  have h0 := hf 0 _ rfl
  have h1 := hf 1 _ rfl
  have h2 := hf 2 _ rfl
  simp [Tryz.cellsStr, Tryz.cellsLEntries] at h0 h1 h2
  obtain ⟨s0, e0, _, b0⟩ := DataW.trod_string Tryz.underlying9 h0
  obtain ⟨s1, e1, _, b1⟩ := DataW.trod_string Tryz.underlying9 h1
  obtain ⟨es, hi⟩ := open_entries h2
  simp at e0 e1
  subst e0 e1
  exact ⟨(⟨s0, s1, es⟩, c2), rfl, hi, b0, b1⟩
theorem open_subs {n : Nat} {v : Value} {y : DataW H × List MemPlace} (h : DataW.trod enc Tryz.prog w base spare held n 22 [v] = some y) : ∃ ss, SbAt w w.heap.size v ss := by
  obtain ⟨l, hl, hg⟩ := open_recs (C := sbC) (G := fun z : Sb × Value => EnAt w w.heap.size z.2 z.1.es ∧ SbSz z.1) Tryz.underlying22 Tryz.cellsLSub (by decide) (fun n cs y h => open_sub h) h
  exact ⟨l.map Prod.fst, l, rfl, hl, hg⟩
/-- A reader in memory. -/
def RdAt (w : World) (v : Value) (ss : List Sb) : Prop := ∃ x, v = .agg #[x] ∧ SbAt w w.heap.size x ss
theorem open_reader_cells {n : Nat} {cs : List Value} {y : DataW H × List MemPlace} (h : DataW.trod enc Tryz.prog w base spare held n 24 cs = some y) : ∃ x ss, cs = [x] ∧ SbAt w w.heap.size x ss := by
  obtain ⟨xs, n', _, _, hl, hxl, hf⟩ := DataW.trod_struct Tryz.underlying24 h
  rw [Tryz.cellsLReader] at hl
  clear h
  obtain ⟨c0, rfl⟩ := list1 hl
  obtain ⟨x0, rfl⟩ := list1 hxl
  have h0 := hf 0 _ rfl
  simp [Tryz.cellsLSubs] at h0
  obtain ⟨ss, hs⟩ := open_subs h0
  exact ⟨c0, ss, rfl, hs⟩
set_option maxRecDepth 100000 in
theorem open_reader {r : Reach} {b0 : Nat} {v : Value} {d : DataW H} {p : List MemPlace} (hv : Value.okWide Tryz.prog w r b0 24 v) (h : DataW.Trod enc Tryz.prog w base spare held 24 v d p) : ∃ ss, RdAt w v ss := by
  obtain ⟨cs, rfl, hsz⟩ := okWide_struct Tryz.underlying24 hv
  obtain ⟨fuel, hf⟩ := h
  have hf' : DataW.trod enc Tryz.prog w base spare held fuel 24 cs.toList = some (d, p) := hf
  clear hf hv
  obtain ⟨x, ss, e2, hF⟩ := open_reader_cells hf'
  clear hf' hsz
  obtain ⟨l⟩ := cs
  obtain rfl : l = [x] := e2
  exact ⟨ss, x, rfl, hF⟩
end
end Go.Proofs.YtfgdbpjmjeaolaaGreat

/- V9a -/
namespace Go.Proofs.YtfgdbpjmjeaolaaGreat
open Go.ChangeShapes Go.WideShapes Go.ChangeAt Go.RowKit
set_option linter.unusedVariables false

theorem RdAt.below {w w' : World} {v : Value} {ss : List Sb} (h : RdAt w v ss) (hb : Below w.heap.size w w') : RdAt w' v ss := by
  obtain ⟨x, hv, hi⟩ := h
  exact ⟨x, hv, (hi.below hb).mono hb.size⟩
theorem RdAt.drew {w : World} {v : Value} {ss : List Sb} (h : RdAt w v ss) : RdAt w.drew v ss := h
theorem RdAt.get {w : World} {x : Value} {ss : List Sb} (h : RdAt w (.agg #[x]) ss) : SbAt w w.heap.size x ss := by
  obtain ⟨y, hy, hz⟩ := h
  cases hy
  exact hz
theorem OutRd.at {ss : List Sb} {w w' : World} {x : Value} (h : OwnS w' w.heap.size x ss) (hs : ∀ s ∈ ss, SbSz s ∧ ∀ x ∈ s.es, EnSz x) : RdAt w' (.agg #[x]) ss := ⟨x, rfl, h.at hs⟩

end Go.Proofs.YtfgdbpjmjeaolaaGreat

/- V9b -/
namespace Go.Proofs.YtfgdbpjmjeaolaaGreat
open Go.ChangeShapes Go.WideShapes Go.ChangeAt Go.RowKit
set_option linter.unusedVariables false

theorem OutO.at {o : OpD} {w w' : World} {x : Value} (h : OwnR 83 3 itC w' w.heap.size x o.its) (hs : ∀ x ∈ o.its, x.id.size ≤ maxLen ∧ x.ti.size ≤ maxLen) (hz : OpSz o) : OpAt w' (opV o x) o := ⟨x, rfl, ItAt.of_own h hs, hz⟩

end Go.Proofs.YtfgdbpjmjeaolaaGreat
