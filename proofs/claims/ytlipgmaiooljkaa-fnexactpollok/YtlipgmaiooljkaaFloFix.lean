/- A region in any order whose answers are known ahead, but for new boxes. -/
import Derived.Test.YtlipgmaiooljkaaFlo
import Derived.Test.YtlipgmaiooljkaaRecs
namespace Go.Proofs.Ytlipgmaiooljkaa
open Go.RowKit
set_option linter.unusedVariables false

/-- What is known of an operation's answer: the value told ahead, or a new box of the cells told ahead. -/
def FixP (S : Nat) (vals : Nat → Value) (bx : Nat → Option (Array Value × TypeId)) (i : Nat) (v : Value) (w : World) : Prop :=
  match bx i with
  | none => v = vals i
  | some ct => ∃ g, v = .pointer (some ⟨g, 0, none⟩) ∧ S ≤ g ∧ Box w g ct.1 ct.2
theorem FixP.keep {S : Nat} {vals : Nat → Value} {bx : Nat → Option (Array Value × TypeId)} {w w' : World} (hb : Below w.heap.size w w') (i : Nat) (v : Value) (h : FixP S vals bx i v w) : FixP S vals bx i v w' := by
  unfold FixP at h ⊢
  cases hbx : bx i with
  | none => rw [hbx] at h; exact h
  | some ct =>
    rw [hbx] at h
    obtain ⟨g, h1, h2, h3⟩ := h
    exact ⟨g, h1, h2, h3.keep hb h3.lt⟩

/-- The others wait for all that float, or for another one that does not float. -/
def tailB2 (md : Region.Mode) (fl : Nat → Bool) (l : List Oper) : Bool := (List.range l.length).all fun i => fl i || (match l[i]? with
  | some o => ((List.range l.length).all fun j => !fl j || o.after.any fun e => Region.binds md e && e.on == j) || ((List.range l.length).any fun k => !fl k && o.after.any fun e => Region.binds md e && e.on == k)
  | none => true)

theorem wpAnyT_flo2 {P : Program} {md : Region.Mode} {Q : Exit → Act → World → Prop} {t : Nat} {l : List Oper} (fl : Nat → Bool) (hback : backB md l = true) (htail : tailB2 md fl l = true) (g : Nat) (Inv : Array Bool → Act → World → Prop)
    (hsz : ∀ L a w, Inv L a w → L.size = l.length)
    (hnt : ∀ L a w, Inv L a w → ∀ i, i < l.length → fl i = false → L.getD i true = false)
    (hstep : ∀ L a w i o, Inv L a w → l[i]? = some o → fl i = true → L.getD i true = false → (∀ e ∈ o.after, Region.binds md e = true → L.getD e.on false = true) → Region.wanted o (yielded l.toArray a.tmps) = true ∧ o.wp P a w (fun a' w' => Inv (L.setIfInBounds i true) a' w') Q)
    (hlast : ∀ L a w, Inv L a w → (∀ i, i < l.length → fl i = true → L.getD i true = true) → wpAnyT P md l.toArray Q (fun _ => True) (fun _ => True) t g L a w) :
    ∀ (f : Nat) (L : Array Bool) (a : Act) (w : World), Inv L a w → leftF fl l.length L = f → wpAnyT P md l.toArray Q (fun _ => True) (fun _ => True) t (f + g) L a w := by
  intro f
  induction f with
  | zero =>
    intro L a w hI hf
    rw [Nat.zero_add]
    refine hlast L a w hI (fun i hi hfl => ?_)
    cases hg : L.getD i true with
    | true => rfl
    | false =>
      exfalso
      have hm : i ∈ (List.range l.length).filter fun i => fl i && !L.getD i true := List.mem_filter.2 ⟨List.mem_range.2 hi, by rw [hfl, hg]; rfl⟩
      unfold leftF at hf
      rw [List.eq_nil_of_length_eq_zero hf] at hm
      cases hm
  | succ f ih =>
    intro L a w hI hf
    have hs := hsz L a w hI
    have hex : ∃ i, i < l.length ∧ fl i = true ∧ L.getD i true = false := by
      unfold leftF at hf
      cases hfl : (List.range l.length).filter fun i => fl i && !L.getD i true with
      | nil => rw [hfl] at hf; cases hf
      | cons x r =>
        have hm : x ∈ (List.range l.length).filter fun i => fl i && !L.getD i true := by rw [hfl]; exact List.mem_cons_self
        obtain ⟨h1, h2⟩ := List.mem_filter.1 hm
        simp only [Bool.and_eq_true, Bool.not_eq_true'] at h2
        exact ⟨x, List.mem_range.1 h1, h2.1, h2.2⟩
    rw [Nat.succ_add]
    refine ⟨fun hr => ?_, fun i hi => ?_⟩
    · exfalso
      have hall : ∀ i, i < l.length → L.getD i true = true := by
        intro i
        induction i using Nat.strongRecOn with
        | _ i ih2 =>
          intro hi
          cases hg : L.getD i true with
          | true => rfl
          | false =>
            exfalso
            have hm : i ∈ Region.ready md l.toArray L := by
              unfold Region.ready
              rw [List.mem_filter]
              refine ⟨by rw [List.mem_range]; simpa using hi, ?_⟩
              rw [hg]
              have ho : l.toArray[i]? = some l[i] := by simp [hi]
              rw [ho]
              simp only [Bool.not_false, Bool.true_and, Option.map_some, Option.getD_some, Array.all_eq_true']
              intro e he
              have hb := List.all_eq_true.1 hback i (List.mem_range.2 hi)
              rw [List.getElem?_eq_getElem hi] at hb
              simp only [Array.all_eq_true'] at hb
              cases hbe : Region.binds md e with
              | false => simp
              | true =>
              have he2 : e.on < i := by have h0 := hb e he; rw [hbe] at h0; simpa using h0
              have h3 := ih2 e.on he2 (by omega)
              have h4 : L.getD e.on false = true := by
                have h5 := getD_some h3 (by omega)
                have h6 : e.on < L.size := by omega
                have h7 : L[e.on] = true := by simpa [h6] using h5
                simp [Array.getD, h6, h7]
              rw [h4]
              simp
            rw [hr] at hm
            cases hm
      obtain ⟨i, h1, _, h3⟩ := hex
      rw [hall i h1] at h3
      cases h3
    · unfold Region.ready at hi
      obtain ⟨h1, h2⟩ := List.mem_filter.1 hi
      have hlt : i < l.length := by simpa using List.mem_range.1 h1
      have ho : l.toArray[i]? = some l[i] := by simp [hlt]
      rw [ho] at h2
      simp only [Option.map_some, Option.getD_some, Bool.and_eq_true, Bool.not_eq_true', Array.all_eq_true'] at h2
      obtain ⟨h3, h4⟩ := h2
      have hdeps : ∀ e ∈ l[i].after, Region.binds md e = true → L.getD e.on false = true := fun e he hb => by
        have := h4 e he
        rw [hb] at this
        simpa using this
      cases hfi : fl i with
      | false =>
        exfalso
        have ht := List.all_eq_true.1 htail i (List.mem_range.2 hlt)
        rw [hfi, List.getElem?_eq_getElem hlt] at ht
        simp only [Bool.false_or, Bool.or_eq_true] at ht
        rcases ht with ht | ht
        · obtain ⟨j, hj1, hj2, hj3⟩ := hex
          have h5 := List.all_eq_true.1 ht j (List.mem_range.2 hj1)
          rw [hj2] at h5
          simp only [Bool.not_true, Bool.false_or, Array.any_eq_true', Bool.and_eq_true, beq_iff_eq] at h5
          obtain ⟨e, he, hb, heq⟩ := h5
          have h6 := hdeps e he hb
          rw [heq] at h6
          have h7 : j < L.size := by omega
          simp [Array.getD, h7] at h6 hj3
          rw [h6] at hj3
          cases hj3
        · obtain ⟨k, hk1, hk2⟩ := List.any_eq_true.1 ht
          have hkl : k < l.length := List.mem_range.1 hk1
          simp only [Bool.and_eq_true, Bool.not_eq_true', Array.any_eq_true', beq_iff_eq] at hk2
          obtain ⟨hkf, e, he, hb, heq⟩ := hk2
          have h6 := hdeps e he hb
          rw [heq] at h6
          have h8 := hnt L a w hI k hkl hkf
          have h7 : k < L.size := by omega
          simp [Array.getD, h7] at h6 h8
          rw [h6] at h8
          cases h8
      | true =>
        obtain ⟨hw, hwp⟩ := hstep L a w i l[i] hI (List.getElem?_eq_getElem hlt) hfi h3 hdeps
        unfold wpOp
        simp only [ho]
        rw [if_pos hw]
        refine .inl (Oper.wp_mono (fun a' w' h => ⟨⟨trivial, fun _ => trivial⟩, ih _ _ _ h ?_⟩) hwp)
        unfold leftF at hf ⊢
        have := filter_one (fun i => fl i && !L.getD i true) (fun j => fl j && !(L.setIfInBounds i true).getD j true) (List.range l.length) i List.nodup_range (List.mem_range.2 hlt) (by rw [hfi, h3]; rfl) (by rw [getD_set2 _ _ _ _ (by omega), if_pos rfl]; simp) (fun y _ hne => by rw [getD_set2 _ _ _ _ (by omega), if_neg (fun h => hne h.symm)])
        omega
end Go.Proofs.Ytlipgmaiooljkaa
