/- Joined: W9t. -/
import Derived.Test.YtffkakpbelknaaaGreatDoorF32
import Derived.Test.YtffkakpbelknaaaGreatDoorF33
/- W9t -/
namespace Go.Proofs.YtffkakpbelknaaaGreatDoor
open Go.ChangeShapes Go.WideShapes Go.ChangeAt Go.RowKit
set_option linter.unusedVariables false

section
variable {α : Type} {k : Nat} {C : α → List Value}
theorem RecAt.take {w : World} {B n cap : Nat} {a : Option Addr} {l : List α} (h : RecAt k C w B (.slice a n cap) l) (p : Nat) (hp : p ≤ l.length) : RecAt k C w B (.slice a p cap) (l.take p) := by
  obtain ⟨a', cap', hv, h1, h2, hc⟩ := h
  cases hv
  have hl : (l.take p).length = p := by rw [List.length_take]; omega
  refine ⟨a, cap, by rw [hl], by omega, h2, fun hp0 => ?_⟩
  obtain ⟨b, off, ha, hB, hr⟩ := hc (by omega)
  refine ⟨b, off, ha, hB, fun i hi j u hu => hr i (by omega) j u ?_⟩
  rw [List.getElem_take] at hu
  exact hu
theorem RecAt.drop {w : World} {B n cap : Nat} {a a2 : Option Addr} {l : List α} (h : RecAt k C w B (.slice a n cap) l) (p : Nat) (hp : p ≤ l.length) (ha2 : p < cap → ∀ b off, a = some ⟨b, off, none⟩ → a2 = some ⟨b, off + p * k, none⟩) : RecAt k C w B (.slice a2 (n - p) (cap - p)) (l.drop p) := by
  obtain ⟨a', cap', hv, h1, h2, hc⟩ := h
  cases hv
  refine ⟨a2, cap - p, by rw [List.length_drop], by rw [List.length_drop]; omega, by omega, fun hp0 => ?_⟩
  rw [List.length_drop] at hp0
  obtain ⟨b, off, ha, hB, hr⟩ := hc (by omega)
  refine ⟨b, off + p * k, ha2 (by omega) b off ha, hB, fun i hi j u hu => ?_⟩
  rw [List.length_drop] at hi
  rw [List.getElem_drop] at hu
  have := hr (p + i) (by omega) j u hu
  rw [Nat.add_mul] at this
  rw [show off + p * k + i * k + j = off + (p * k + i * k) + j by omega]
  exact this
end

/-- A value put into a list: in the place of the one there, or in between. -/
def putP {α : Type} (l : List α) (p : Nat) (f : Bool) (x : α) : List α := l.take p ++ (x :: l.drop (if f then p + 1 else p))
theorem one_rec {α : Type} {k : Nat} {C : α → List Value} (hk : ∀ x, (C x).length = k) (w : World) (e : TypeId) (x : α) (cs : Array Value) (hcs : cs.toList = C x) : RecAt k C (w.alloc (.cells cs e)) (w.heap.size + 1) (.slice (some ⟨w.heap.size, 0, none⟩) 1 1) [x] := by
  refine ⟨_, 1, rfl, Nat.le_refl _, by unfold maxLen; omega, fun _ => ⟨w.heap.size, 0, rfl, Nat.lt_succ_self _, fun i hi j u hu => ?_⟩⟩
  have hi0 : i = 0 := by simpa using hi
  subst hi0
  rw [cell_of_row _ _ _ cs e (0, 0) (heap_alloc_new w _)]
  simp only [Nat.zero_mul, Nat.zero_add]
  rw [← Array.getElem?_toList, hcs]
  exact hu
theorem vals_rec (w : World) (e : TypeId) (xs : List Value) (n : Nat) (hn : xs.length = n) (h0 : n ≤ 1000) : RecAt 1 vlC (w.alloc (.cells xs.toArray e)) (w.heap.size + 1) (.slice (some ⟨w.heap.size, 0, none⟩) n n) xs := by
  subst hn
  refine ⟨_, xs.length, rfl, Nat.le_refl _, by unfold maxLen; omega, fun _ => ⟨w.heap.size, 0, rfl, Nat.lt_succ_self _, fun i hi j u hu => ?_⟩⟩
  have hj : j = 0 := by have := (List.getElem?_eq_some_iff.1 hu).1; rw [vlC_len] at this; omega
  subst hj
  rw [cell_of_row _ _ _ _ e (0, 0) (heap_alloc_new w _), Nat.mul_one, Nat.zero_add, Nat.add_zero, List.getElem?_toArray, List.getElem?_eq_getElem hi]
  simpa [vlC] using hu
/-- What a function that makes a row answers, its blocks from B on. -/
def OutB {α : Type} (e : TypeId) (k : Nat) (C : α → List Value) (l : List α) (B : Nat) (w : World) (x : Ending) (w' : World) : Prop := ∃ v, x = .returned v ∧ OwnR e k C w' B v l ∧ Below B w w'

end Go.Proofs.YtffkakpbelknaaaGreatDoor
