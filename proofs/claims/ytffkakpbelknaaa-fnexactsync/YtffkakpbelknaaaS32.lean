/- Joined: W14p. -/
import Derived.Test.YtffkakpbelknaaaS20
import Derived.Test.YtffkakpbelknaaaS21
import Derived.Test.YtffkakpbelknaaaS22
import Derived.Test.YtffkakpbelknaaaS27
/- W14p -/
namespace Go.Proofs.Ytffkakpbelknaaa
open Go.ChangeShapes Go.WideShapes Go.ChangeAt Go.RowKit
set_option linter.unusedVariables false

theorem less_triF (x y : List UInt8) (h1 : Op.bytesLess x y = false) (h2 : x ≠ y) : Op.bytesLess y x = true := by
  have h3 : ¬ Lib.compareBytes x y < 0 := by rw [cmp_less]; simp [h1]
  clear h1
  induction x generalizing y with
  | nil => cases y with
    | nil => exact absurd rfl h2
    | cons q y => exact absurd (by simp [Lib.compareBytes]) h3
  | cons p x ih =>
    cases y with
    | nil => simp [Op.bytesLess]
    | cons q y =>
      unfold Lib.compareBytes at h3
      unfold Op.bytesLess
      by_cases hpq : p < q
      · simp [hpq] at h3
      · by_cases hqp : q < p
        · have : q ≠ p := fun h => by subst h; exact UInt8.lt_irrefl _ hqp
          simp [hqp]
        · have : p = q := UInt8.le_antisymm (UInt8.not_lt.1 hqp) (UInt8.not_lt.1 hpq)
          subst this
          simp [hpq] at h3
          have := ih y (fun e => h2 (by rw [e])) (by omega)
          simp [hpq, this]
theorem ltK_triF {a x : ByteArray} (h1 : ¬ cmpB a x < 0) (h2 : cmpB a x ≠ 0) : ltK x a = true := by
  have h3 : ltK a x = false := by rw [ltK_cmp]; exact decide_eq_false h1
  have h4 : a ≠ x := fun e => h2 ((cmpB_zero _ _).2 e)
  refine less_triF _ _ h3 (fun e => h4 ?_)
  have := str_eq a x
  rw [e] at this
  simpa using this.symm
theorem ris_iffF (ks : List ByteArray) : risB ks = true ↔ ks.Pairwise (fun a b => ltK a b = true) := by
  constructor
  · intro h
    rw [List.pairwise_iff_getElem]
    intro i j hi hj hij
    exact ris_lt h i j hj hij
  · intro h
    rw [List.pairwise_iff_getElem] at h
    refine allB_end ks.length (Nat.lt_irrefl _) (fun j hj => ?_)
    cases j with
    | zero => rfl
    | succ q =>
      have h2 := ordK_at (fun k : ByteArray => k) ks q hj
      rw [List.map_id'] at h2
      rw [h2]
      exact h q (q + 1) (by omega) hj (by omega)
theorem ris_putF {ks : List ByteArray} (h : risB ks = true) (x : ByteArray) : risB (putP ks (plK ks x) (fnB ks x) x) = true := by
  have hp := (ris_iffF ks).1 h
  have hlo : ∀ a ∈ ks.take (plK ks x), ltK a x = true := fun a ha => by
    obtain ⟨i, hi, rfl⟩ := List.mem_take_iff_getElem.1 ha
    rw [ltK_cmp]
    exact decide_eq_true (plK_lo ks x i (by omega))
  have hhi : ∀ b ∈ ks.drop (if fnB ks x then plK ks x + 1 else plK ks x), ltK x b = true := fun b hb => by
    cases hfb : fnB ks x with
    | true =>
      rw [hfb, if_pos rfl] at hb
      obtain ⟨i, hi, rfl⟩ := List.getElem_of_mem hb
      rw [List.length_drop] at hi
      have hpl : plK ks x < ks.length := by omega
      have hf : fnB ks x = (cmpB ks[plK ks x] x == 0) := by unfold fnB; rw [List.getElem?_eq_getElem hpl]
      rw [hfb] at hf
      have e : ks[plK ks x] = x := (cmpB_zero _ _).1 (by simpa using hf.symm)
      have := ris_lt h (plK ks x) (plK ks x + 1 + i) (by omega) (by omega)
      rw [e] at this
      rw [List.getElem_drop]
      exact this
    | false =>
      rw [hfb, if_neg (by simp)] at hb
      obtain ⟨i, hi, rfl⟩ := List.getElem_of_mem hb
      rw [List.length_drop] at hi
      have hpl : plK ks x < ks.length := by omega
      have hf : fnB ks x = (cmpB ks[plK ks x] x == 0) := by unfold fnB; rw [List.getElem?_eq_getElem hpl]
      rw [hfb] at hf
      have e := ltK_triF (plK_hi hpl) (by simpa using hf.symm)
      rw [List.getElem_drop]
      rcases Nat.eq_zero_or_pos i with h0 | h0
      · subst h0; simpa using e
      · exact ltK_trans e (ris_lt h (plK ks x) (plK ks x + i) (by omega) (by omega))
  rw [ris_iffF]
  unfold putP
  rw [List.pairwise_append]
  refine ⟨hp.sublist (List.take_sublist _ _), ?_, ?_⟩
  · rw [List.pairwise_cons]
    exact ⟨hhi, hp.sublist (List.drop_sublist _ _)⟩
  · intro a ha b hb
    rcases List.mem_cons.1 hb with rfl | hb
    · exact hlo a ha
    · exact ltK_trans (hlo a ha) (hhi b hb)
theorem ris_cutF {ks : List ByteArray} (h : risB ks = true) (p : Nat) : risB (ks.take p ++ ks.drop (p + 1)) = true := by
  rw [ris_iffF, ← List.eraseIdx_eq_take_drop_succ]
  exact ((ris_iffF ks).1 h).sublist (List.eraseIdx_sublist _ _)

theorem gb_BelowF {w w' : World} {row : Option Nat} {B : Nat} (h : w.grownBy w' row) (hB : B ≤ w.heap.size) (hr : ∀ b, row = some b → B ≤ b) : Below B w w' :=
  ⟨h.os, h.tape, h.output, h.size, fun k hk => h.block k (by omega) (fun e => by have := hr k e.symm; omega)⟩
def fiP (es : List Fi) (nm da : ByteArray) : List Fi := putP es (plK (fiKs es) nm) (fnB (fiKs es) nm) ⟨nm, da⟩
def fiX (es : List Fi) (nm : ByteArray) : List Fi := es.take (plK (fiKs es) nm) ++ es.drop (plK (fiKs es) nm + 1)
def fiG (es : List Fi) (nm : ByteArray) : ByteArray := if fnB (fiKs es) nm then (es[plK (fiKs es) nm]?.getD ⟨ByteArray.empty, ByteArray.empty⟩).da else ByteArray.empty
theorem fiKs_put (es : List Fi) (p : Nat) (f : Bool) (x : Fi) : fiKs (putP es p f x) = putP (fiKs es) p f x.nm := by
  unfold fiKs putP
  simp [List.map_take, List.map_drop]
theorem ris_fiP {es : List Fi} (h : risB (fiKs es) = true) (nm da : ByteArray) : risB (fiKs (fiP es nm da)) = true := by
  unfold fiP
  rw [fiKs_put]
  exact ris_putF h nm
theorem ris_fiX {es : List Fi} (h : risB (fiKs es) = true) (nm : ByteArray) : risB (fiKs (fiX es nm)) = true := by
  unfold fiX
  have e : ∀ p, fiKs (es.take p ++ es.drop (p + 1)) = (fiKs es).take p ++ (fiKs es).drop (p + 1) := fun p => by simp [fiKs, List.map_take, List.map_drop]
  rw [e]
  exact ris_cutF h _
theorem len_fiP (es : List Fi) (nm da : ByteArray) : (fiP es nm da).length ≤ es.length + 1 := by
  unfold fiP putP
  rw [List.length_append, List.length_cons, List.length_take, List.length_drop]
  split <;> omega
theorem len_fiX (es : List Fi) (nm : ByteArray) : (fiX es nm).length ≤ es.length := by
  unfold fiX
  rw [List.length_append, List.length_take, List.length_drop]
  omega
theorem fiSum_app (xs ys : List Fi) : fiSum (xs ++ ys) = fiSum xs + fiSum ys := by
  unfold fiSum
  rw [List.map_append, List.sum_append]
theorem fiSum_two (es : List Fi) (p q : Nat) (hq : p ≤ q) : fiSum (es.take p) + fiSum (es.drop q) ≤ fiSum es := by
  have h1 : fiSum es = fiSum (es.take p) + fiSum (es.drop p) := by rw [← fiSum_app, List.take_append_drop]
  have h2 : fiSum (es.drop p) = fiSum ((es.drop p).take (q - p)) + fiSum ((es.drop p).drop (q - p)) := by rw [← fiSum_app, List.take_append_drop]
  rw [List.drop_drop, show p + (q - p) = q by omega] at h2
  omega
theorem sum_fiP (es : List Fi) (nm da : ByteArray) : fiSum (fiP es nm da) ≤ fiSum es + da.size := by
  unfold fiP putP
  have h : ∀ l : List Fi, fiSum ((⟨nm, da⟩ : Fi) :: l) = da.size + fiSum l := fun l => by unfold fiSum; simp
  rw [fiSum_app, h]
  have := fiSum_two es (plK (fiKs es) nm) (if fnB (fiKs es) nm = true then plK (fiKs es) nm + 1 else plK (fiKs es) nm) (by split <;> omega)
  omega
theorem sum_fiX (es : List Fi) (nm : ByteArray) : fiSum (fiX es nm) ≤ fiSum es := by
  unfold fiX
  rw [fiSum_app]
  exact fiSum_two es _ _ (Nat.le_succ _)
theorem one_sum {es : List Fi} {x : Fi} (h : x ∈ es) : x.da.size ≤ fiSum es := by
  unfold fiSum
  induction es with
  | nil => cases h
  | cons y ys ih =>
    rw [List.map_cons, List.sum_cons]
    rcases List.mem_cons.1 h with rfl | h
    · omega
    · have := ih h; omega
theorem fiG_sum (es : List Fi) (nm : ByteArray) : (fiG es nm).size ≤ fiSum es := by
  unfold fiG
  split
  · rcases Nat.lt_or_ge (plK (fiKs es) nm) es.length with h | h
    · rw [List.getElem?_eq_getElem h]
      exact one_sum (List.getElem_mem h)
    · rw [List.getElem?_eq_none h]
      exact Nat.zero_le _
  · exact Nat.zero_le _
theorem fnF_lt {es : List Fi} {x : ByteArray} (hf : fnB (fiKs es) x = true) : plK (fiKs es) x < es.length := by
  have hl : (fiKs es).length = es.length := by simp [fiKs]
  unfold fnB at hf
  rcases Nat.lt_or_ge (plK (fiKs es) x) es.length with h | h
  · exact h
  · rw [List.getElem?_eq_none (by omega)] at hf; cases hf
theorem atF_there {ks : List ByteArray} (hr : risB ks = true) {x : ByteArray} (hf : fnB ks x = true) : atK ks x = ((plK ks x : Nat) : Int) := by
  unfold atK
  rw [ix_pl hr, hf]
  rfl
theorem atF_not {ks : List ByteArray} (hr : risB ks = true) {x : ByteArray} (hf : fnB ks x = false) : atK ks x = -1 := by
  unfold atK
  rw [ix_pl hr, hf]
  rfl
/-- How the names of a rising list stand to a name. -/
theorem fi_lo (es : List Fi) (x : ByteArray) (t : Nat) (ht : t < es.length) (hp : t < plK (fiKs es) x) : Op.bytesLess es[t].nm.toList x.toList = true ∧ (es[t].nm.toList == x.toList) = false := by
  have h1 := plK_lo (fiKs es) x t hp
  have h2 : ltK es[t].nm x = true := by
    rw [ltK_cmp]
    refine decide_eq_true ?_
    simpa [fiKs] using h1
  refine ⟨h2, ?_⟩
  cases he : (es[t].nm.toList == x.toList) with
  | false => rfl
  | true =>
    have e : es[t].nm.toList = x.toList := by simpa using he
    unfold ltK at h2
    rw [e, less_irrefl] at h2
    cases h2
theorem fi_at (es : List Fi) (x : ByteArray) (ht : plK (fiKs es) x < es.length) : Op.bytesLess es[plK (fiKs es) x].nm.toList x.toList = false ∧ (es[plK (fiKs es) x].nm.toList == x.toList) = fnB (fiKs es) x := by
  have htk : plK (fiKs es) x < (fiKs es).length := by simpa [fiKs] using ht
  have h1 := plK_hi (ks := fiKs es) (x := x) htk
  have h2 : ltK (fiKs es)[plK (fiKs es) x] x = false := by rw [ltK_cmp]; exact decide_eq_false h1
  refine ⟨by simpa [fiKs, ltK] using h2, ?_⟩
  have hf : fnB (fiKs es) x = (cmpB (fiKs es)[plK (fiKs es) x] x == 0) := by unfold fnB; rw [List.getElem?_eq_getElem htk]
  have he : (fiKs es)[plK (fiKs es) x] = es[plK (fiKs es) x].nm := by simp [fiKs]
  rw [hf, he, Bool.eq_iff_iff]
  simp only [beq_iff_eq]
  rw [cmpB_zero]
  constructor
  · intro h
    have := str_eq es[plK (fiKs es) x].nm x
    rw [h] at this
    simpa using this.symm
  · intro h; rw [h]
theorem fi_hi {es : List Fi} (hr : risB (fiKs es) = true) (x : ByteArray) (t : Nat) (ht : t < es.length) (hp : plK (fiKs es) x < t) : (es[t].nm.toList == x.toList) = false := by
  have hpl : plK (fiKs es) x < es.length := by omega
  have h1 := ris_lt hr (plK (fiKs es) x) t (by simpa [fiKs] using ht) hp
  have h1' : ltK es[plK (fiKs es) x].nm es[t].nm = true := by simpa [fiKs] using h1
  cases he : (es[t].nm.toList == x.toList) with
  | false => rfl
  | true =>
    have e : es[t].nm.toList = x.toList := by simpa using he
    have h2 := (fi_at es x hpl).1
    unfold ltK at h1'
    rw [e, h2] at h1'
    cases h1'
def lkP (es : List Fi) (p q : Nat) (x : List Fi) (k : Nat) : List Fi := if k ≤ p then es.take k else es.take p ++ (x ++ (es.drop q).take (k - q))
theorem lk_zero (es : List Fi) (p q : Nat) (x : List Fi) : lkP es p q x 0 = [] := by
  unfold lkP; rw [if_pos (Nat.zero_le _)]; rfl
theorem lk_lo (es : List Fi) (p q : Nat) (x : List Fi) (k : Nat) (h : k < es.length) (hp : k < p) : lkP es p q x (k + 1) = lkP es p q x k ++ [es[k]] := by
  unfold lkP
  rw [if_pos (by omega), if_pos (by omega), List.take_succ_eq_append_getElem h]
theorem lk_at (es : List Fi) (p : Nat) (x : List Fi) : lkP es p (p + 1) x (p + 1) = lkP es p (p + 1) x p ++ x := by
  unfold lkP
  rw [if_neg (by omega), if_pos (Nat.le_refl _), Nat.sub_self, List.take_zero, List.append_nil]
theorem lk_at2 (es : List Fi) (p : Nat) (x : List Fi) (h : p < es.length) : lkP es p p x (p + 1) = (lkP es p p x p ++ x) ++ [es[p]] := by
  unfold lkP
  rw [if_neg (by omega), if_pos (Nat.le_refl _), show p + 1 - p = 1 by omega, List.append_assoc]
  congr 2
  rw [List.drop_eq_getElem_cons h]
  rfl
theorem lk_hi (es : List Fi) (p q : Nat) (x : List Fi) (k : Nat) (h : k < es.length) (hp : p < k) (hq : q ≤ p + 1) : lkP es p q x (k + 1) = lkP es p q x k ++ [es[k]] := by
  unfold lkP
  rw [if_neg (by omega), if_neg (by omega), show k + 1 - q = (k - q) + 1 by omega, List.take_succ_eq_append_getElem (by rw [List.length_drop]; omega), List.getElem_drop]
  simp only [List.append_assoc]
  congr 4
  congr 1
  omega
theorem lk_end (es : List Fi) (p q : Nat) (x : List Fi) (h : p < es.length) : lkP es p q x es.length = es.take p ++ (x ++ es.drop q) := by
  unfold lkP
  rw [if_neg (by omega)]
  congr 2
  exact List.take_of_length_le (by rw [List.length_drop]; exact Nat.le_refl _)
theorem lk_end2 (es : List Fi) (p q : Nat) (x : List Fi) (h : ¬ p < es.length) : lkP es p q x es.length = es := by
  unfold lkP
  rw [if_pos (by omega), List.take_of_length_le (Nat.le_refl _)]
theorem lk_len (es : List Fi) (p q : Nat) (x : List Fi) (k : Nat) (hk : k ≤ es.length) : (lkP es p q x k).length ≤ es.length + x.length + es.length := by
  unfold lkP
  split
  · rw [List.length_take]; omega
  · rw [List.length_append, List.length_append, List.length_take, List.length_take, List.length_drop]; omega

end Go.Proofs.Ytffkakpbelknaaa
