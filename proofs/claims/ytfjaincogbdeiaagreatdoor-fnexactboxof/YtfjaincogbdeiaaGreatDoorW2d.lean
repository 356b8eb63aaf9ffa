/- Marks laid into a row, and what else is kept. -/
import Derived.Test.YtfjaincogbdeiaaGreatDoorW1e
namespace Go.Proofs.YtfjaincogbdeiaaGreatDoor
open Go.ChangeShapes Go.WideShapes Go.ChangeAt Go.RowKit
set_option linter.unusedVariables false

theorem OwnK.blockLt {e : TypeId} {k : IntKind} {w : World} {base : Nat} {v : Value} {zs : List Int} (h : OwnK e k w base v zs) : ∀ b, v.ownBlock = some b → b < w.heap.size := by
  intro b hb
  rcases h.2 with ⟨rfl, _⟩ | ⟨g, cap, cur, rfl, _, hh, _⟩
  · cases hb
  · have : g = b := by simpa [Value.ownBlock] using hb
    subst this
    rcases Nat.lt_or_ge g w.heap.size with hlt | hge
    · exact hlt
    · rw [Array.getElem?_eq_none hge] at hh; cases hh

/-- A row from 'base' on is kept where only a block below 'base' was written. -/
theorem OwnK.keepBy {e : TypeId} {k : IntKind} {w w' : World} {base : Nat} {v : Value} {zs : List Int} {o : Option Nat} (h : OwnK e k w base v zs) (hg : w.grownBy w' o) (ho : ∀ b, o = some b → b < base) : OwnK e k w' base v zs := by
  refine ⟨h.1, ?_⟩
  rcases h.2 with h2 | ⟨g, cap, cur, hv, hgb, hh, r⟩
  · exact .inl h2
  · have hlt : g < w.heap.size := by
      rcases Nat.lt_or_ge g w.heap.size with hlt | hge
      · exact hlt
      · rw [Array.getElem?_eq_none hge] at hh; cases hh
    refine .inr ⟨g, cap, cur, hv, hgb, ?_, r⟩
    rw [hg.block g hlt ?_]
    · exact hh
    · intro e1
      have := ho g e1.symm
      omega

theorem grown_set1 (w w1 : World) (b o : Nat) (u : Value) (h : w.grownBy w1 (some b)) : w.grownBy (w1.setCell ⟨b, o, none⟩ u) (some b) :=
  ⟨h.os, h.tape, h.output, by simpa [World.setCell] using h.size, fun k hk hn => (Below.heap_setCell _ _ _ _ (fun e => hn (by rw [e]))).trans (h.block k hk hn)⟩

end Go.Proofs.YtfjaincogbdeiaaGreatDoor
