/- Joined: Opens. -/
import Derived.Deep.Slices
import Derived.Deep.Fields
import Derived.ChangeSame
import Derived.Test.YtffkakpbelknaaaS3
/- Opens -/
namespace Go.Proofs.Ytffkakpbelknaaa
open Go.ChangeShapes Go.WideShapes Go.Deep Go.RowKit
set_option linter.unusedVariables false

section
variable {H : Type} {enc : TypeId × Value → H} {P : Program} {w : World} {base : Nat} {spare : Nat → Bool} {held : Bool}
theorem open_recs {α : Type} {k : Nat} {C : α → List Value} {G : α → Prop} {t e : TypeId} {fuel : Nat} {v : Value} {x : DataW H × List MemPlace}
    (ht : P.underlying t = some (.slice e)) (hc : P.cellsOf e = k) (h0 : 0 < k)
    (hdec : ∀ n cs y, DataW.trod enc P w base spare held n e cs = some y → ∃ z : α, cs = C z ∧ G z)
    (h : DataW.trod enc P w base spare held fuel t [v] = some x) : ∃ l : List α, RecAt k C w w.heap.size v l ∧ ∀ z ∈ l, G z := by
  rcases open_slice ht h with ⟨hv, _⟩ | ⟨a, len, cap, m, n, D, Pl, hv, hb, hl, hm, hmm, hx, hi⟩
  · obtain rfl : v = .slice none 0 0 := by simpa using hv
    exact ⟨[], RecAt.nil w _, by simp⟩
  · obtain rfl : v = .slice (some a) len cap := by simpa using hv
    have hlm : len ≤ m := by rw [hmm]; split <;> omega
    have hz : ∀ i, i < len → ∃ z : α, G z ∧ w.cells? base (a.add (i * k)) k = some (C z) := by
      intro i hil
      obtain ⟨cs, h1, h2⟩ := hi i (by omega)
      rw [hc] at h1
      obtain ⟨z, hcs, hg⟩ := hdec _ _ _ h2
      subst hcs
      exact ⟨z, hg, h1⟩
    let f : Fin len → α := fun i => Classical.choose (hz i.1 i.2)
    have hf : ∀ i : Fin len, G (f i) ∧ w.cells? base (a.add (i.1 * k)) k = some (C (f i)) := fun i => Classical.choose_spec (hz i.1 i.2)
    refine ⟨List.ofFn f, ⟨some a, cap, by simp, by simpa using hl, hm, fun hp => ?_⟩, fun z hzm => ?_⟩
    · have hp' : 0 < len := by simpa using hp
      obtain ⟨b, off, spot⟩ := a
      have hsp : spot = none := by
        obtain ⟨_, hl0, hat⟩ := World.cells?_some (hf ⟨0, hp'⟩).2
        have h1 := hat 0 h0
        have hlt : 0 < (C (f ⟨0, hp'⟩)).length := by omega
        rw [List.getElem?_eq_getElem hlt] at h1
        simpa [Addr.add] using World.cell?_spot h1
      subst hsp
      refine ⟨b, off, rfl, ?_, fun i hi' j u hu => ?_⟩
      · obtain ⟨_, hl0, hat⟩ := World.cells?_some (hf ⟨0, hp'⟩).2
        have h1 := hat 0 h0
        have hlt : 0 < (C (f ⟨0, hp'⟩)).length := by omega
        rw [List.getElem?_eq_getElem hlt] at h1
        have h2 := World.block_lt_of_cell? w _ h1
        simpa [Addr.add] using h2
      · have hil : i < len := by simpa using hi'
        obtain ⟨_, hl0, hat⟩ := World.cells?_some (hf ⟨i, hil⟩).2
        rw [List.getElem_ofFn] at hu
        have hj : j < k := by have := (List.getElem?_eq_some_iff.1 hu).1; omega
        have h1 := hat j hj
        rw [hu, Addr.add_lit, Addr.add_lit] at h1
        exact h1
    · obtain ⟨i, rfl⟩ := List.mem_ofFn.1 hzm
      exact (hf i).1
end
end Go.Proofs.Ytffkakpbelknaaa
