/- A region that draws its order, whose first operations yield in every world and whose last ones have one order: it is walked once, in the order of the text. -/
import Derived.WalkKit
import Derived.StillTail
import Derived.Deep.RegionHeld3
namespace Go.Proofs.Ytijoancnlpkcoab

section
variable {P : Program} {ops : Array Oper} {md : Region.Mode} {Q : Exit → Act → World → Prop}
/-- Each operation of a list, in its order, yields in every world. -/
def wpFree (P : Program) (ops : Array Oper) (R : Act → Prop) : List Oper → Act → Prop
  | [], a => R a
  | o :: l, a => ∃ v, Yields P ops o v a ∧ wpFree P ops R l (a.put o.dst v)
theorem wpFree_step {R : Act → Prop} {o : Oper} {l : List Oper} {a : Act} (v : Value) (hw : Region.wanted o (yielded ops a.tmps) = true) (hy : ∀ w, (execOp a.eval o).run P w = .ok (.value v) w) (h : wpFree P ops R l (a.put o.dst v)) : wpFree P ops R (o :: l) a := ⟨v, .inl ⟨hw, hy⟩, h⟩
theorem wpFree_nil {R : Act → Prop} {a : Act} (h : R a) : wpFree P ops R [] a := h

theorem wpAny_of_free (hsel : Region.noSelect ops = true) (hQ : ∀ d v c a w, Q (.panic c) (Act.put a d v) w → Q (.panic c) a w) (tail : List Oper) (n : Nat) (w : World) (ht : ∀ j, tail[j]? = ops[n + j]?) :
    ∀ (l : List Oper) (k : Nat) (listed : Array Bool) (a : Act), (∀ j, j < l.length → l[j]? = ops[k + j]?) → k + l.length = n →
    Region.lexHead md ops tail.length l.length k listed = true → wpFree P ops (fun a' => wpList P ops Q tail a' w) l a → wpAny P md ops Q (l.length + tail.length) listed a w
  | [], k, listed, a, _, hk, hB, h => by
    have : k = n := by simpa using hk
    subst this
    rw [List.length_nil, Nat.zero_add]
    exact wpAny_of_seq tail k listed a w ht hB h
  | o :: l, k, listed, a, hl, hk, hB, h => by
    obtain ⟨v, hy, hr⟩ := h
    have h0 : ops[k]? = some o := by simpa using (hl 0 (by simp)).symm
    simp only [List.length_cons, Region.lexHead, Bool.and_eq_true] at hB
    obtain ⟨⟨hrd, hf⟩, hB'⟩ := hB
    have e : (o :: l).length + tail.length = (l.length + tail.length) + 1 := by simp; omega
    rw [e]
    refine wpAny_take h0 hsel hf hrd (fun c a w => hQ _ _ c a w) hy ?_
    exact wpAny_of_free hsel hQ tail n w ht l (k + 1) _ _ (fun j hj => by have := hl (j + 1) (by simp; omega); simpa [Nat.add_assoc, Nat.add_comm 1 j] using this) (by simp only [List.length_cons] at hk; omega) hB' hr

/-- A region that draws its order: its first n operations yield in every world; the others have one order. -/
theorem wp_region_free_tail {id : Nat} {a : Act} {w : World} {l : List Oper} (n : Nat) (hm : P.follows .mixedOrders = true) (hsel : Region.noSelect l.toArray = true) (hn : n ≤ l.length)
    (hB : Region.lexHead .any l.toArray (l.length - n) n 0 (Array.replicate l.length false) = true) (hQ : ∀ d v c a w, Q (.panic c) (Act.put a d v) w → Q (.panic c) a w)
    (h : wpFree P l.toArray (fun a' => wpList P l.toArray Q (l.drop n) a' w.drew) (l.take n) a) : (Code.region id l.toArray true).wp P Q a w := by
  refine wp_region_any hm ?_
  have htl : (l.take n).length = n := by simp; omega
  have hdl : (l.drop n).length = l.length - n := by simp
  have := wpAny_of_free (md := .any) hsel hQ (l.drop n) n w.drew (fun j => by simp) (l.take n) 0 (Array.replicate l.length false) a (fun j hj => by
    have hj' : j < n := by rw [htl] at hj; exact hj
    simp [hj']) (by rw [htl]; omega) (by rw [htl, hdl]; exact hB) h
  rw [htl, hdl, show n + (l.length - n) = l.length by omega] at this
  simpa using this
end

end Go.Proofs.Ytijoancnlpkcoab
