/- Joined: W4h. -/
import Derived.RangeFuncNested
import Derived.Test.YtlipgmaiooljkaaGreatDoorH6
/- W4h -/
namespace Go.Proofs.YtlipgmaiooljkaaGreatDoor
open Go.ChangeShapes Go.WideShapes Go.ChangeAt Go.RowKit
set_option linter.unusedVariables false

/-- The three boxes of a reader that gives up: the text, the flag, the reader. -/
structure Ubox (w W : World) (s : ByteArray) : Prop where
  b0 : Boxed W w.heap.size 9 (.string ⟨#[]⟩)
  b1 : Boxed W (w.heap.size + 1) 4 (.bool false)
  b2 : Boxed W (w.heap.size + 1 + 1) 85 (.string s)
  bel : Below w.heap.size w W
theorem Ubox.set {w W : World} {s : ByteArray} (h : Ubox w W s) (s' : ByteArray) : Ubox w (W.setCell ⟨w.heap.size + 1 + 1, 0, none⟩ (.string s')) s' :=
  ⟨h.b0.other (by omega) _, h.b1.other (by omega) _, h.b2.set _, h.bel.setCell (p := ⟨w.heap.size + 1 + 1, 0, none⟩) (by show w.heap.size ≤ w.heap.size + 1 + 1; omega) _⟩
theorem Ubox.keep {w W W' : World} {s : ByteArray} (h : Ubox w W s) (hb : Below W.heap.size W W') : Ubox w W' s := by
  have h0 := h.b0.lt; have h1 := h.b1.lt; have h2 := h.b2.lt
  exact ⟨(hb.block _ h0).trans h.b0, (hb.block _ h1).trans h.b1, (hb.block _ h2).trans h.b2, h.bel.trans (hb.mono h.bel.size)⟩
theorem Ubox.gives {w W : World} {s : ByteArray} {t : TypeId} {x : Value} (h : Ubox w W s) (hv : Gives w t x) : Gives W t x := hv.below h.bel (Nat.le_refl _)
theorem Ubox.new (w : World) (s : ByteArray) : Ubox w (((w.alloc (.cells #[.string ⟨#[]⟩] 9)).alloc (.cells #[.bool false] 4)).alloc (.cells #[.string s] 85)) s := by
  have h0 := Boxed.new w 9 (.string ⟨#[]⟩)
  have h1 := Boxed.new (w.alloc (.cells #[.string ⟨#[]⟩] 9)) 4 (.bool false)
  have h2 := Boxed.new ((w.alloc (.cells #[.string ⟨#[]⟩] 9)).alloc (.cells #[.bool false] 4)) 85 (.string s)
  rw [World.size_alloc] at h1
  rw [World.size_alloc, World.size_alloc] at h2
  exact ⟨(h0.alloc _).alloc _, h1.alloc _, h2, (((Below.refl _ _).alloc (Nat.le_refl _) _).alloc (by simp) _).alloc (by simp; omega) _⟩
theorem Ubox.gone {w W : World} {s : ByteArray} (h : Ubox w W s) : Ubox w ((W.setCell ⟨w.heap.size, 0, none⟩ (.string ⟨#[]⟩)).setCell ⟨w.heap.size + 1, 0, none⟩ (.bool false)) s :=
  ⟨(h.b0.set _).other (by omega) _, (h.b1.other (by omega) _).set _, (h.b2.other (by omega) _).other (by omega) _, (h.bel.setCell (p := ⟨w.heap.size, 0, none⟩) (Nat.le_refl _) _).setCell (p := ⟨w.heap.size + 1, 0, none⟩) (by show w.heap.size ≤ w.heap.size + 1; omega) _⟩
theorem extract_one (s : ByteArray) (m : Nat) (h : m < s.size) : s.extract m (m + 1) = ⟨#[s[m]]⟩ := by
  apply ba_eq
  have : (s.extract m (m + 1)).size = 1 := by rw [ByteArray.size_extract]; omega
  rw [ByteArray.data_extract]
  rw [Array.toList_extract]
  simp only [List.extract]
  rw [show m + 1 - m = 1 by omega]
  have hl : m < s.data.toList.length := by simpa using h
  rw [List.drop_eq_getElem_cons hl]
  rfl

end Go.Proofs.YtlipgmaiooljkaaGreatDoor
