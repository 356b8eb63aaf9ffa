/- Feeds as arguments, opened. -/
import Derived.Test.YtfjaincogbdeiaaDoorOpens
import Derived.Test.YtfjaincogbdeiaaDoorW8m
namespace Go.Proofs.YtfjaincogbdeiaaDoor
open Go.ChangeShapes Go.WideShapes Go.Deep Go.RowKit
set_option linter.unusedVariables false

theorem Tryd.cellsStr : Tryd.prog.cellsOf 9 = 1 := by kernel_rfl
theorem Tryd.cellsI64 : Tryd.prog.cellsOf 2 = 1 := by kernel_rfl
theorem Tryd.cellsLItem : Tryd.prog.cellsOf 101 = 3 := by kernel_rfl
theorem Tryd.cellsLItems : Tryd.prog.cellsOf 22 = 1 := by kernel_rfl
theorem Tryd.cellsLFeed : Tryd.prog.cellsOf 24 = 3 := by kernel_rfl
theorem list3 {α : Type} {l : List α} (h : l.length = 3) : ∃ a b c, l = [a, b, c] := by
  cases l with
  | nil => cases h
  | cons a l => cases l with
    | nil => cases h
    | cons b l => cases l with
      | nil => cases h
      | cons c l => cases l with
        | nil => exact ⟨a, b, c, rfl⟩
        | cons d l => simp at h
section
variable {H : Type} {enc : TypeId × Value → H} {w : World} {base : Nat} {spare : Nat → Bool} {held : Bool}
theorem open_item {n : Nat} {cs : List Value} {y : DataW H × List MemPlace} (h : DataW.trod enc Tryd.prog w base spare held n 101 cs = some y) : ∃ z : It, cs = itC z ∧ z.id.size ≤ maxLen ∧ z.ti.size ≤ maxLen := by
  obtain ⟨xs, n', _, _, hl, hxl, hf⟩ := DataW.trod_struct Tryd.underlying101 h
  rw [Tryd.cellsLItem] at hl
  clear h
  obtain ⟨c0, c1, c2, rfl⟩ := list3 hl
  obtain ⟨x0, x1, x2, rfl⟩ := list3 hxl
  have h0 := hf 0 _ rfl
  have h1 := hf 1 _ rfl
  have h2 := hf 2 _ rfl
  simp [Tryd.cellsStr, Tryd.cellsI64] at h0 h1 h2
  obtain ⟨s0, e0, _, b0⟩ := DataW.trod_string Tryd.underlying9 h0
  obtain ⟨s1, e1, _, b1⟩ := DataW.trod_string Tryd.underlying9 h1
  obtain ⟨d2, e2, _, b2⟩ := DataW.trod_int Tryd.underlying2 h2
  simp at e0 e1 e2
  subst e0 e1 e2
  exact ⟨⟨s0, s1, d2⟩, rfl, b0, b1⟩
theorem open_items {n : Nat} {v : Value} {y : DataW H × List MemPlace} (h : DataW.trod enc Tryd.prog w base spare held n 22 [v] = some y) : ∃ its, ItAt w w.heap.size v its := by
  obtain ⟨l, hl, hg⟩ := open_recs (C := itC) (G := fun z : It => z.id.size ≤ maxLen ∧ z.ti.size ≤ maxLen) Tryd.underlying22 Tryd.cellsLItem (by decide) (fun n cs y h => open_item h) h
  exact ⟨l, hl, hg⟩
theorem open_feed_cells {n : Nat} {cs : List Value} {y : DataW H × List MemPlace} (h : DataW.trod enc Tryd.prog w base spare held n 24 cs = some y) : ∃ u t x its, cs = [.string u, .string t, x] ∧ FeedAt w (fV u t x) u t its := by
  obtain ⟨xs, n', _, _, hl, hxl, hf⟩ := DataW.trod_struct Tryd.underlying24 h
  rw [Tryd.cellsLFeed] at hl
  clear h
  obtain ⟨c0, c1, c2, rfl⟩ := list3 hl
  obtain ⟨x0, x1, x2, rfl⟩ := list3 hxl
  have h0 := hf 0 _ rfl
  have h1 := hf 1 _ rfl
  have h2 := hf 2 _ rfl
  simp [Tryd.cellsStr, Tryd.cellsLItems] at h0 h1 h2
  obtain ⟨s0, e0, _, b0⟩ := DataW.trod_string Tryd.underlying9 h0
  obtain ⟨s1, e1, _, b1⟩ := DataW.trod_string Tryd.underlying9 h1
  obtain ⟨its, hi⟩ := open_items h2
  simp at e0 e1
  subst e0 e1
  exact ⟨s0, s1, c2, its, rfl, c2, rfl, hi, b0, b1⟩
set_option maxRecDepth 100000 in
theorem open_feed {r : Reach} {b0 : Nat} {v : Value} {d : DataW H} {p : List MemPlace} (hv : Value.okWide Tryd.prog w r b0 24 v) (h : DataW.Trod enc Tryd.prog w base spare held 24 v d p) : ∃ u t its, FeedAt w v u t its := by
  obtain ⟨cs, rfl, hsz⟩ := okWide_struct Tryd.underlying24 hv
  obtain ⟨fuel, hf⟩ := h
  have hf' : DataW.trod enc Tryd.prog w base spare held fuel 24 cs.toList = some (d, p) := hf
  clear hf hv
  obtain ⟨u, t, x, its, e2, hF⟩ := open_feed_cells hf'
  clear hf' hsz
  obtain ⟨l⟩ := cs
  obtain rfl : l = [.string u, .string t, x] := e2
  exact ⟨u, t, its, hF⟩
end
end Go.Proofs.YtfjaincogbdeiaaDoor
