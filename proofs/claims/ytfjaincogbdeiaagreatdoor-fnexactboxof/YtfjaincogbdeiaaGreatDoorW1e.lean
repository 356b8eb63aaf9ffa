/- Contracts: what the laws do with lists of whole numbers (hold two against each other, copy, mark, look at the marks). -/
import Derived.Test.YtfjaincogbdeiaaGreatDoorRows1
namespace Go.Proofs.YtfjaincogbdeiaaGreatDoor
open Go.ChangeShapes Go.WideShapes Go.ChangeAt Go.RowKit

theorem take_eq_step {xs ys : List Int} {k : Nat} (h1 : k < xs.length) (h2 : k < ys.length) (h : xs.take k = ys.take k) (hx : xs[k] = ys[k]) : xs.take (k + 1) = ys.take (k + 1) := by
  rw [List.take_succ_eq_append_getElem h1, List.take_succ_eq_append_getElem h2, h, hx]
theorem eq_of_take {xs ys : List Int} (k : Nat) (h1 : xs.length ≤ k) (h2 : ys.length ≤ k) (h : xs.take k = ys.take k) : xs = ys := by
  rwa [List.take_of_length_le h1, List.take_of_length_le h2] at h
theorem ne_of_at {xs ys : List Int} (k : Nat) (h1 : k < xs.length) (h2 : k < ys.length) (h : xs[k] ≠ ys[k]) : xs ≠ ys := by
  intro e; subst e; exact h rfl
theorem RowCell {k : IntKind} {w wr : World} {zs : List Int} {b off i : Nat} (hr : ∀ i, i < zs.length → w.cell? ⟨b, off + i, none⟩ = some (.int k (zs.getD i 0))) (hcell : ∀ p, wr.cell? p = w.cell? p) (hi : i < zs.length) :
    wr.cell? ⟨b, off + i, none⟩ = some (.int k zs[i]) := by rw [hcell, hr i hi]; simp [hi]

end Go.Proofs.YtfjaincogbdeiaaGreatDoor
