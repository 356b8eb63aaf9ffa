/- A region in any order, by what holds of the operations that are done (an invariant over the mask). -/
import Derived.Test.YtgimjfffdnopiaaDoorFreeA
namespace Go.Proofs.YtgimjfffdnopiaaDoor
set_option linter.unusedVariables false

/-- Every operation waits for earlier ones alone. -/
def backB (md : Region.Mode) (l : List Oper) : Bool := (List.range l.length).all fun i => match l[i]? with
  | some o => o.after.all fun e => !Region.binds md e || decide (e.on < i)
  | none => true
def leftN (L : Array Bool) : Nat := (L.toList.filter (fun b => !b)).length
theorem left_set : ∀ (l : List Bool) (i : Nat), l[i]? = some false → ((l.set i true).filter (fun b => !b)).length + 1 = (l.filter (fun b => !b)).length
  | [], i, h => by cases h
  | b :: l, 0, h => by
    obtain rfl : b = false := by simpa using h
    simp
  | b :: l, i + 1, h => by
    have := left_set l i (by simpa using h)
    rw [List.set_cons_succ]
    cases b
    · simp only [List.filter_cons, Bool.not_false, if_true, List.length_cons]; omega
    · simp only [List.filter_cons, Bool.not_true, Bool.false_eq_true, if_false]; exact this
theorem left_none : ∀ (l : List Bool), (l.filter (fun b => !b)).length = 0 → ∀ (i : Nat) (b : Bool), l[i]? = some b → b = true
  | [], _, i, b, h => by cases h
  | c :: l, hl, i, b, h => by
    cases c
    · simp at hl
    · cases i with
      | zero => simpa using h.symm
      | succ i => exact left_none l (by simpa using hl) i b (by simpa using h)
theorem getD_some {L : Array Bool} {i : Nat} {b d : Bool} (h : L.getD i d = b) (hi : i < L.size) : L.toList[i]? = some b := by
  have e : L.getD i d = L[i] := by simp [Array.getD, hi]
  rw [e] at h
  simp [hi, h]
theorem wpAnyT_inv {P : Program} {md : Region.Mode} {Q : Exit → Act → World → Prop} {t : Nat} {l : List Oper} (hback : backB md l = true) (Inv : Array Bool → Act → World → Prop)
    (hsz : ∀ L a w, Inv L a w → L.size = l.length)
    (hstep : ∀ L a w i o, Inv L a w → l[i]? = some o → L.getD i true = false → (∀ e ∈ o.after, Region.binds md e = true → L.getD e.on false = true) → Region.wanted o (yielded l.toArray a.tmps) = true ∧ o.wp P a w (fun a' w' => Inv (L.setIfInBounds i true) a' w') Q)
    (hend : ∀ L a w, Inv L a w → (∀ i, i < l.length → L.getD i true = true) → Q .normal a w) :
    ∀ (f : Nat) (L : Array Bool) (a : Act) (w : World), Inv L a w → leftN L ≤ f → wpAnyT P md l.toArray Q (fun _ => True) (fun _ => True) t f L a w := by
  have hall : ∀ L a w, Inv L a w → Region.ready md l.toArray L = [] → ∀ i, i < l.length → L.getD i true = true := by
    intro L a w hI hr i
    induction i using Nat.strongRecOn with
    | _ i ih =>
      intro hi
      cases hg : L.getD i true with
      | true => rfl
      | false =>
        exfalso
        have hs := hsz L a w hI
        have hm : i ∈ Region.ready md l.toArray L := by
          unfold Region.ready
          rw [List.mem_filter]
          refine ⟨by rw [List.mem_range]; simpa using hi, ?_⟩
          rw [hg]
          have ho : l.toArray[i]? = some l[i] := by simp [hi]
          rw [ho]
          simp only [Bool.not_false, Bool.true_and, Option.map_some, Option.getD_some, Array.all_eq_true']
          intro e he
          have hb := List.all_eq_true.1 hback i (List.mem_range.2 hi)
          rw [List.getElem?_eq_getElem hi] at hb
          simp only [Array.all_eq_true'] at hb
          cases hbe : Region.binds md e with
          | false => simp
          | true =>
          have he2 : e.on < i := by have h0 := hb e he; rw [hbe] at h0; simpa using h0
          have h3 := ih e.on he2 (by omega)
          have h4 : L.getD e.on false = true := by
            have h5 := getD_some h3 (by omega)
            have h6 : e.on < L.size := by omega
            have h7 : L[e.on] = true := by simpa [h6] using h5
            simp [Array.getD, h6, h7]
          rw [h4]
          simp
        rw [hr] at hm
        cases hm
  intro f
  induction f with
  | zero =>
    intro L a w hI hf
    have hn : ∀ i, i < l.length → L.getD i true = true := by
      intro i hi
      have hs := hsz L a w hI
      cases hg : L.getD i true with
      | true => rfl
      | false => exact absurd (left_none _ (by unfold leftN at hf; omega) i false (getD_some hg (by omega))) (by simp)
    refine ⟨?_, hend L a w hI hn⟩
    unfold Region.ready
    rw [List.filter_eq_nil_iff]
    intro i hi
    rw [hn i (by simpa using hi)]
    simp
  | succ f ih =>
    intro L a w hI hf
    refine ⟨fun hr => hend L a w hI (hall L a w hI hr), fun i hi => ?_⟩
    have hs := hsz L a w hI
    unfold Region.ready at hi
    obtain ⟨h1, h2⟩ := List.mem_filter.1 hi
    have hlt : i < l.length := by simpa using List.mem_range.1 h1
    have ho : l.toArray[i]? = some l[i] := by simp [hlt]
    rw [ho] at h2
    simp only [Option.map_some, Option.getD_some, Bool.and_eq_true, Bool.not_eq_true', Array.all_eq_true'] at h2
    obtain ⟨h3, h4⟩ := h2
    obtain ⟨hw, hwp⟩ := hstep L a w i l[i] hI (List.getElem?_eq_getElem hlt) h3 (fun e he hb => by
      have := h4 e he
      rw [hb] at this
      simpa using this)
    unfold wpOp
    simp only [ho]
    rw [if_pos hw]
    refine .inl (Oper.wp_mono (fun a' w' h => ⟨⟨trivial, fun _ => trivial⟩, ih _ _ _ h ?_⟩) hwp)
    have := left_set L.toList i (getD_some h3 (by omega))
    unfold leftN at hf ⊢
    rw [Array.toList_setIfInBounds]
    omega

/-- Those that float (fl) and are left. -/
def leftF (fl : Nat → Bool) (n : Nat) (L : Array Bool) : Nat := ((List.range n).filter fun i => fl i && !L.getD i true).length
/-- The others wait for all that float. -/
def tailB (md : Region.Mode) (fl : Nat → Bool) (l : List Oper) : Bool := (List.range l.length).all fun i => fl i || (match l[i]? with
  | some o => (List.range l.length).all fun j => !fl j || o.after.any fun e => Region.binds md e && e.on == j
  | none => true)
theorem getD_set2 (L : Array Bool) (i j : Nat) (d : Bool) (hi : i < L.size) : (L.setIfInBounds i true).getD j d = if i = j then true else L.getD j d := by
  by_cases h : i = j
  · subst h; simp [Array.getD, hi]
  · rw [if_neg h]
    simp only [Array.getD, Array.size_setIfInBounds]
    split
    · rename_i hj
      simp [hj, h]
    · rfl
theorem filter_one {α : Type} [DecidableEq α] (p q : α → Bool) : ∀ (l : List α) (x : α), l.Nodup → x ∈ l → p x = true → q x = false → (∀ y ∈ l, y ≠ x → q y = p y) → (l.filter q).length + 1 = (l.filter p).length
  | [], x, _, h, _, _, _ => by cases h
  | a :: l, x, hn, hx, hp, hq, hr => by
    have hn' := List.nodup_cons.1 hn
    by_cases e : a = x
    · subst e
      have : l.filter q = l.filter p := List.filter_congr (fun y hy => hr y (List.mem_cons_of_mem _ hy) (fun h => hn'.1 (h ▸ hy)))
      simp only [List.filter_cons, hp, hq, if_true, List.length_cons, Bool.false_eq_true, if_false, this]
    · have hx' : x ∈ l := by rcases List.mem_cons.1 hx with h | h; exact absurd h.symm e; exact h
      have ih := filter_one p q l x hn'.2 hx' hp hq (fun y hy hne => hr y (List.mem_cons_of_mem _ hy) hne)
      have ha := hr a List.mem_cons_self e
      simp only [List.filter_cons, ha]
      split
      · simp only [List.length_cons]; omega
      · exact ih
theorem wpAnyT_flo {P : Program} {md : Region.Mode} {Q : Exit → Act → World → Prop} {t : Nat} {l : List Oper} (fl : Nat → Bool) (hback : backB md l = true) (htail : tailB md fl l = true) (g : Nat) (Inv : Array Bool → Act → World → Prop)
    (hsz : ∀ L a w, Inv L a w → L.size = l.length)
    (hstep : ∀ L a w i o, Inv L a w → l[i]? = some o → fl i = true → L.getD i true = false → (∀ e ∈ o.after, Region.binds md e = true → L.getD e.on false = true) → Region.wanted o (yielded l.toArray a.tmps) = true ∧ o.wp P a w (fun a' w' => Inv (L.setIfInBounds i true) a' w') Q)
    (hlast : ∀ L a w, Inv L a w → (∀ i, i < l.length → fl i = true → L.getD i true = true) → wpAnyT P md l.toArray Q (fun _ => True) (fun _ => True) t g L a w) :
    ∀ (f : Nat) (L : Array Bool) (a : Act) (w : World), Inv L a w → leftF fl l.length L = f → wpAnyT P md l.toArray Q (fun _ => True) (fun _ => True) t (f + g) L a w := by
  intro f
  induction f with
  | zero =>
    intro L a w hI hf
    rw [Nat.zero_add]
    refine hlast L a w hI (fun i hi hfl => ?_)
    cases hg : L.getD i true with
    | true => rfl
    | false =>
      exfalso
      have hm : i ∈ (List.range l.length).filter fun i => fl i && !L.getD i true := List.mem_filter.2 ⟨List.mem_range.2 hi, by rw [hfl, hg]; rfl⟩
      unfold leftF at hf
      rw [List.eq_nil_of_length_eq_zero hf] at hm
      cases hm
  | succ f ih =>
    intro L a w hI hf
    have hs := hsz L a w hI
    have hex : ∃ i, i < l.length ∧ fl i = true ∧ L.getD i true = false := by
      unfold leftF at hf
      cases hfl : (List.range l.length).filter fun i => fl i && !L.getD i true with
      | nil => rw [hfl] at hf; cases hf
      | cons x r =>
        have hm : x ∈ (List.range l.length).filter fun i => fl i && !L.getD i true := by rw [hfl]; exact List.mem_cons_self
        obtain ⟨h1, h2⟩ := List.mem_filter.1 hm
        simp only [Bool.and_eq_true, Bool.not_eq_true'] at h2
        exact ⟨x, List.mem_range.1 h1, h2.1, h2.2⟩
    rw [Nat.succ_add]
    refine ⟨fun hr => ?_, fun i hi => ?_⟩
    · exfalso
      have hall : ∀ i, i < l.length → L.getD i true = true := by
        intro i
        induction i using Nat.strongRecOn with
        | _ i ih2 =>
          intro hi
          cases hg : L.getD i true with
          | true => rfl
          | false =>
            exfalso
            have hm : i ∈ Region.ready md l.toArray L := by
              unfold Region.ready
              rw [List.mem_filter]
              refine ⟨by rw [List.mem_range]; simpa using hi, ?_⟩
              rw [hg]
              have ho : l.toArray[i]? = some l[i] := by simp [hi]
              rw [ho]
              simp only [Bool.not_false, Bool.true_and, Option.map_some, Option.getD_some, Array.all_eq_true']
              intro e he
              have hb := List.all_eq_true.1 hback i (List.mem_range.2 hi)
              rw [List.getElem?_eq_getElem hi] at hb
              simp only [Array.all_eq_true'] at hb
              cases hbe : Region.binds md e with
              | false => simp
              | true =>
              have he2 : e.on < i := by have h0 := hb e he; rw [hbe] at h0; simpa using h0
              have h3 := ih2 e.on he2 (by omega)
              have h4 : L.getD e.on false = true := by
                have h5 := getD_some h3 (by omega)
                have h6 : e.on < L.size := by omega
                have h7 : L[e.on] = true := by simpa [h6] using h5
                simp [Array.getD, h6, h7]
              rw [h4]
              simp
            rw [hr] at hm
            cases hm
      obtain ⟨i, h1, _, h3⟩ := hex
      rw [hall i h1] at h3
      cases h3
    · unfold Region.ready at hi
      obtain ⟨h1, h2⟩ := List.mem_filter.1 hi
      have hlt : i < l.length := by simpa using List.mem_range.1 h1
      have ho : l.toArray[i]? = some l[i] := by simp [hlt]
      rw [ho] at h2
      simp only [Option.map_some, Option.getD_some, Bool.and_eq_true, Bool.not_eq_true', Array.all_eq_true'] at h2
      obtain ⟨h3, h4⟩ := h2
      have hdeps : ∀ e ∈ l[i].after, Region.binds md e = true → L.getD e.on false = true := fun e he hb => by
        have := h4 e he
        rw [hb] at this
        simpa using this
      cases hfi : fl i with
      | false =>
        exfalso
        have ht := List.all_eq_true.1 htail i (List.mem_range.2 hlt)
        rw [hfi, List.getElem?_eq_getElem hlt] at ht
        simp only [Bool.false_or] at ht
        obtain ⟨j, hj1, hj2, hj3⟩ := hex
        have h5 := List.all_eq_true.1 ht j (List.mem_range.2 hj1)
        rw [hj2] at h5
        simp only [Bool.not_true, Bool.false_or, Array.any_eq_true', Bool.and_eq_true, beq_iff_eq] at h5
        obtain ⟨e, he, hb, heq⟩ := h5
        have h6 := hdeps e he hb
        rw [heq] at h6
        have h7 : j < L.size := by omega
        simp [Array.getD, h7] at h6 hj3
        rw [h6] at hj3
        cases hj3
      | true =>
        obtain ⟨hw, hwp⟩ := hstep L a w i l[i] hI (List.getElem?_eq_getElem hlt) hfi h3 hdeps
        unfold wpOp
        simp only [ho]
        rw [if_pos hw]
        refine .inl (Oper.wp_mono (fun a' w' h => ⟨⟨trivial, fun _ => trivial⟩, ih _ _ _ h ?_⟩) hwp)
        unfold leftF at hf ⊢
        have := filter_one (fun i => fl i && !L.getD i true) (fun j => fl j && !(L.setIfInBounds i true).getD j true) (List.range l.length) i List.nodup_range (List.mem_range.2 hlt) (by rw [hfi, h3]; rfl) (by rw [getD_set2 _ _ _ _ (by omega), if_pos rfl]; simp) (fun y _ hne => by rw [getD_set2 _ _ _ _ (by omega), if_neg (fun h => hne h.symm)])
        omega
/-- What is known of the operations that are done: Post of each one's answer, and Fr of the world. -/
structure FloS (Post : Nat → Value → World → Prop) (Fr : World → Prop) (c : Nat → Bool) (s : Nat → Value) (w : World) : Prop where
  fr : Fr w
  k : ∀ i, c i = true → Post i (s i) w
def up {α : Type} (f : Nat → α) (i : Nat) (x : α) : Nat → α := fun j => if j = i then x else f j
theorem FloS.step {Post : Nat → Value → World → Prop} {Fr : World → Prop} {c : Nat → Bool} {s : Nat → Value} {w : World} (h : FloS Post Fr c s w) (i : Nat) (v : Value) (w' : World) (hfr : Fr w') (hst : ∀ j u, Post j u w → Post j u w') (hp : Post i v w') : FloS Post Fr (up c i true) (up s i v) w' := by
  refine ⟨hfr, fun j hj => ?_⟩
  unfold up at hj ⊢
  by_cases e : j = i
  · subst e; rw [if_pos rfl]; exact hp
  · rw [if_neg e] at hj ⊢
    exact hst j _ (h.k j hj)
def sl (c : Nat → Bool) (s : Nat → Value) (i : Nat) : Value := if c i = true then s i else undef
theorem sl_on {c : Nat → Bool} {s : Nat → Value} {i : Nat} (h : c i = true) : sl c s i = s i := if_pos h
theorem sl_up_self (c : Nat → Bool) (s : Nat → Value) (i : Nat) (v : Value) : sl (up c i true) (up s i v) i = v := by unfold sl up; simp
theorem sl_up_ne (c : Nat → Bool) (s : Nat → Value) (i : Nat) (v : Value) (j : Nat) (h : j ≠ i) : sl (up c i true) (up s i v) j = sl c s j := by unfold sl up; simp [h]
theorem up_self {α : Type} (f : Nat → α) (i : Nat) (x : α) : up f i x i = x := by unfold up; simp
theorem up_ne {α : Type} (f : Nat → α) (i : Nat) (x : α) (j : Nat) (h : j ≠ i) : up f i x j = f j := by unfold up; simp [h]
end Go.Proofs.YtgimjfffdnopiaaDoor
