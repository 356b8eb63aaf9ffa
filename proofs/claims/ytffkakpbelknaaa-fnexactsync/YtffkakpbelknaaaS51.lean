/- Joined: FloFix, FloEx. -/
import Derived.Test.YtffkakpbelknaaaS3
import Derived.Test.YtffkakpbelknaaaS8
/- FloFix -/
namespace Go.Proofs.Ytffkakpbelknaaa
open Go.RowKit
set_option linter.unusedVariables false

/-- What is known of an operation's answer: the value told ahead, or a new box of the cells told ahead. -/
def FixP (S : Nat) (vals : Nat → Value) (bx : Nat → Option (Array Value × TypeId)) (i : Nat) (v : Value) (w : World) : Prop :=
  match bx i with
  | none => v = vals i
  | some ct => ∃ g, v = .pointer (some ⟨g, 0, none⟩) ∧ S ≤ g ∧ Box w g ct.1 ct.2
theorem FixP.keep {S : Nat} {vals : Nat → Value} {bx : Nat → Option (Array Value × TypeId)} {w w' : World} (hb : Below w.heap.size w w') (i : Nat) (v : Value) (h : FixP S vals bx i v w) : FixP S vals bx i v w' := by
  unfold FixP at h ⊢
  cases hbx : bx i with
  | none => rw [hbx] at h; exact h
  | some ct =>
    rw [hbx] at h
    obtain ⟨g, h1, h2, h3⟩ := h
    exact ⟨g, h1, h2, h3.keep hb h3.lt⟩

/-- What is known of an operation's answer: a value, a new box of so many cells, or (of a store) the box that it filled. -/
inductive Kd where
  | val (v : Value)
  | box (n : Nat) (t : TypeId)
  | put (cs : Array Value) (t : TypeId)
def FixQ (S : Nat) (k : Nat → Kd) (i : Nat) (v : Value) (w : World) : Prop :=
  match k i with
  | .val x => v = x
  | .box n t => ∃ g cs, v = .pointer (some ⟨g, 0, none⟩) ∧ S ≤ g ∧ cs.size = n ∧ Box w g cs t
  | .put cs t => ∃ g, v = .pointer (some ⟨g, 0, none⟩) ∧ S ≤ g ∧ Box w g cs t
theorem FixQ.keep {S : Nat} {k : Nat → Kd} {w w' : World} (hb : Below w.heap.size w w') (i : Nat) (v : Value) (h : FixQ S k i v w) : FixQ S k i v w' := by
  unfold FixQ at h ⊢
  split at h
  · exact h
  · obtain ⟨g, cs, h1, h2, h3, h4⟩ := h; exact ⟨g, cs, h1, h2, h3, h4.keep hb h4.lt⟩
  · obtain ⟨g, h1, h2, h3⟩ := h; exact ⟨g, h1, h2, h3.keep hb h3.lt⟩
/-- Behind a store that fills the box g. -/
theorem FixQ.filled {S g : Nat} {k : Nat → Kd} {w w' : World} {cs fin : Array Value} {t : TypeId} (hx : Box w g cs t) (hsz : cs.size = fin.size) (hx' : Box w' g fin t) (ho : ∀ j, j ≠ g → w'.heap[j]? = w.heap[j]?) (hp : ∀ j cs' t', k j = .put cs' t' → t' = t → cs' = fin) (i : Nat) (v : Value) (h : FixQ S k i v w) : FixQ S k i v w' := by
  unfold FixQ at h ⊢
  split at h
  · exact h
  · obtain ⟨g', cs', h1, h2, h3, h4⟩ := h
    by_cases e : g' = g
    · subst e
      have e2 : some (Obj.cells cs' _ (0, 0)) = some (Obj.cells cs t (0, 0)) := h4.symm.trans hx
      injection e2 with e3
      injection e3 with e4 e5 e6
      subst e4 e5
      exact ⟨g', fin, h1, h2, by omega, hx'⟩
    · exact ⟨g', cs', h1, h2, h3, (ho g' e).trans h4⟩
  · rename_i cs' t' hk
    obtain ⟨g', h1, h2, h4⟩ := h
    by_cases e : g' = g
    · subst e
      have e2 : some (Obj.cells cs' t' (0, 0)) = some (Obj.cells cs t (0, 0)) := h4.symm.trans hx
      injection e2 with e3
      injection e3 with e4 e5 e6
      have e7 := hp i cs' t' hk e5
      subst e7 e5
      exact ⟨g', h1, h2, hx'⟩
    · exact ⟨g', h1, h2, (ho g' e).trans h4⟩
def putOk (t : TypeId) (fin : Array Value) : Kd → Prop
  | .put cs' t' => t' = t → cs' = fin
  | _ => True
theorem kd_put {t : TypeId} {fin : Array Value} {kl : List Kd} (h : ∀ x ∈ kl, putOk t fin x) (j : Nat) (cs' : Array Value) (t' : TypeId) (hj : kl.getD j (.val undef) = .put cs' t') (ht : t' = t) : cs' = fin := by
  rw [List.getD_eq_getElem?_getD] at hj
  cases hg : kl[j]? with
  | none => rw [hg] at hj; cases hj
  | some x =>
    rw [hg] at hj
    have hx : x = .put cs' t' := hj
    have := h x (List.mem_of_getElem? hg)
    rw [hx] at this
    exact this ht
theorem putRow_other (g : Nat) (us : List Value) : ∀ (o : Nat) (w : World) (j : Nat), j ≠ g → (putRow g o us w).heap[j]? = w.heap[j]? := by
  induction us with
  | nil => intro o w j h; rfl
  | cons u us ih =>
    intro o w j h
    show (putRow g (o + 1) us (w.setCell ⟨g, o, none⟩ u)).heap[j]? = _
    rw [ih _ _ j h]
    exact Below.heap_setCell _ _ _ _ h
theorem Box.filled {g : Nat} {t : TypeId} (us : List Value) : ∀ (o : Nat) (w : World) (xs : List Value), Box w g xs.toArray t → Box (putRow g o us w) g (setL o us xs).toArray t := by
  induction us with
  | nil => intro o w xs h; exact h
  | cons u us ih =>
    intro o w xs h
    refine ih (o + 1) _ _ ?_
    have := h.set o u
    rw [List.setIfInBounds_toArray] at this
    exact this
theorem Box.fillAll {w : World} {g : Nat} {t : TypeId} {xs us : List Value} (h : Box w g xs.toArray t) (hl : us.length = xs.length) : Box (putRow g 0 us w) g us.toArray t := by
  have := Box.filled us 0 w xs h
  rw [setL_eq us 0 xs (by omega), Nat.zero_add, hl, List.drop_length, List.take_zero, List.append_nil, List.nil_append] at this
  exact this
theorem below_putRow (g B : Nat) (hB : B ≤ g) (us : List Value) : ∀ (o : Nat) (w : World), Below B w (putRow g o us w) := by
  induction us with
  | nil => intro o w; exact Below.refl _ _
  | cons u us ih =>
    intro o w
    exact ((Below.refl B w).setCell (p := ⟨g, o, none⟩) hB u).trans (ih (o + 1) _)
theorem arrS {cs : Array Value} {n : Nat} (h : cs.size = n) : ∃ l : List Value, cs = l.toArray ∧ l.length = n := ⟨cs.toList, by simp, by simpa using h⟩
theorem consS {l : List Value} {n : Nat} (h : l.length = n + 1) : ∃ a r, l = a :: r ∧ r.length = n := by
  cases l with
  | nil => cases h
  | cons a l => exact ⟨a, l, rfl, by simpa using h⟩

/-- The others wait for all that float, or for another one that does not float. -/
def tailB2 (md : Region.Mode) (fl : Nat → Bool) (l : List Oper) : Bool := (List.range l.length).all fun i => fl i || (match l[i]? with
  | some o => ((List.range l.length).all fun j => !fl j || o.after.any fun e => Region.binds md e && e.on == j) || ((List.range l.length).any fun k => !fl k && o.after.any fun e => Region.binds md e && e.on == k)
  | none => true)

theorem wpAnyT_flo2 {P : Program} {md : Region.Mode} {Q : Exit → Act → World → Prop} {t : Nat} {l : List Oper} (fl : Nat → Bool) (hback : backB md l = true) (htail : tailB2 md fl l = true) (g : Nat) (Inv : Array Bool → Act → World → Prop)
    (hsz : ∀ L a w, Inv L a w → L.size = l.length)
    (hnt : ∀ L a w, Inv L a w → ∀ i, i < l.length → fl i = false → L.getD i true = false)
    (hstep : ∀ L a w i o, Inv L a w → l[i]? = some o → fl i = true → L.getD i true = false → (∀ e ∈ o.after, Region.binds md e = true → L.getD e.on false = true) → Region.wanted o (yielded l.toArray a.tmps) = true ∧ o.wp P a w (fun a' w' => Inv (L.setIfInBounds i true) a' w') Q)
    (hlast : ∀ L a w, Inv L a w → (∀ i, i < l.length → fl i = true → L.getD i true = true) → wpAnyT P md l.toArray Q (fun _ => True) (fun _ => True) t g L a w) :
    ∀ (f : Nat) (L : Array Bool) (a : Act) (w : World), Inv L a w → leftF fl l.length L = f → wpAnyT P md l.toArray Q (fun _ => True) (fun _ => True) t (f + g) L a w := by
  intro f
  induction f with
  | zero =>
    intro L a w hI hf
    rw [Nat.zero_add]
    refine hlast L a w hI (fun i hi hfl => ?_)
    cases hg : L.getD i true with
    | true => rfl
    | false =>
      exfalso
      have hm : i ∈ (List.range l.length).filter fun i => fl i && !L.getD i true := List.mem_filter.2 ⟨List.mem_range.2 hi, by rw [hfl, hg]; rfl⟩
      unfold leftF at hf
      rw [List.eq_nil_of_length_eq_zero hf] at hm
      cases hm
  | succ f ih =>
    intro L a w hI hf
    have hs := hsz L a w hI
    have hex : ∃ i, i < l.length ∧ fl i = true ∧ L.getD i true = false := by
      unfold leftF at hf
      cases hfl : (List.range l.length).filter fun i => fl i && !L.getD i true with
      | nil => rw [hfl] at hf; cases hf
      | cons x r =>
        have hm : x ∈ (List.range l.length).filter fun i => fl i && !L.getD i true := by rw [hfl]; exact List.mem_cons_self
        obtain ⟨h1, h2⟩ := List.mem_filter.1 hm
        simp only [Bool.and_eq_true, Bool.not_eq_true'] at h2
        exact ⟨x, List.mem_range.1 h1, h2.1, h2.2⟩
    rw [Nat.succ_add]
    refine ⟨fun hr => ?_, fun i hi => ?_⟩
    · exfalso
      have hall : ∀ i, i < l.length → L.getD i true = true := by
        intro i
        induction i using Nat.strongRecOn with
        | _ i ih2 =>
          intro hi
          cases hg : L.getD i true with
          | true => rfl
          | false =>
            exfalso
            have hm : i ∈ Region.ready md l.toArray L := by
              unfold Region.ready
              rw [List.mem_filter]
              refine ⟨by rw [List.mem_range]; simpa using hi, ?_⟩
              rw [hg]
              have ho : l.toArray[i]? = some l[i] := by simp [hi]
              rw [ho]
              simp only [Bool.not_false, Bool.true_and, Option.map_some, Option.getD_some, Array.all_eq_true']
              intro e he
              have hb := List.all_eq_true.1 hback i (List.mem_range.2 hi)
              rw [List.getElem?_eq_getElem hi] at hb
              simp only [Array.all_eq_true'] at hb
              cases hbe : Region.binds md e with
              | false => simp
              | true =>
              have he2 : e.on < i := by have h0 := hb e he; rw [hbe] at h0; simpa using h0
              have h3 := ih2 e.on he2 (by omega)
              have h4 : L.getD e.on false = true := by
                have h5 := getD_some h3 (by omega)
                have h6 : e.on < L.size := by omega
                have h7 : L[e.on] = true := by simpa [h6] using h5
                simp [Array.getD, h6, h7]
              rw [h4]
              simp
            rw [hr] at hm
            cases hm
      obtain ⟨i, h1, _, h3⟩ := hex
      rw [hall i h1] at h3
      cases h3
    · unfold Region.ready at hi
      obtain ⟨h1, h2⟩ := List.mem_filter.1 hi
      have hlt : i < l.length := by simpa using List.mem_range.1 h1
      have ho : l.toArray[i]? = some l[i] := by simp [hlt]
      rw [ho] at h2
      simp only [Option.map_some, Option.getD_some, Bool.and_eq_true, Bool.not_eq_true', Array.all_eq_true'] at h2
      obtain ⟨h3, h4⟩ := h2
      have hdeps : ∀ e ∈ l[i].after, Region.binds md e = true → L.getD e.on false = true := fun e he hb => by
        have := h4 e he
        rw [hb] at this
        simpa using this
      cases hfi : fl i with
      | false =>
        exfalso
        have ht := List.all_eq_true.1 htail i (List.mem_range.2 hlt)
        rw [hfi, List.getElem?_eq_getElem hlt] at ht
        simp only [Bool.false_or, Bool.or_eq_true] at ht
        rcases ht with ht | ht
        · obtain ⟨j, hj1, hj2, hj3⟩ := hex
          have h5 := List.all_eq_true.1 ht j (List.mem_range.2 hj1)
          rw [hj2] at h5
          simp only [Bool.not_true, Bool.false_or, Array.any_eq_true', Bool.and_eq_true, beq_iff_eq] at h5
          obtain ⟨e, he, hb, heq⟩ := h5
          have h6 := hdeps e he hb
          rw [heq] at h6
          have h7 : j < L.size := by omega
          simp [Array.getD, h7] at h6 hj3
          rw [h6] at hj3
          cases hj3
        · obtain ⟨k, hk1, hk2⟩ := List.any_eq_true.1 ht
          have hkl : k < l.length := List.mem_range.1 hk1
          simp only [Bool.and_eq_true, Bool.not_eq_true', Array.any_eq_true', beq_iff_eq] at hk2
          obtain ⟨hkf, e, he, hb, heq⟩ := hk2
          have h6 := hdeps e he hb
          rw [heq] at h6
          have h8 := hnt L a w hI k hkl hkf
          have h7 : k < L.size := by omega
          simp [Array.getD, h7] at h6 h8
          rw [h6] at h8
          cases h8
      | true =>
        obtain ⟨hw, hwp⟩ := hstep L a w i l[i] hI (List.getElem?_eq_getElem hlt) hfi h3 hdeps
        unfold wpOp
        simp only [ho]
        rw [if_pos hw]
        refine .inl (Oper.wp_mono (fun a' w' h => ⟨⟨trivial, fun _ => trivial⟩, ih _ _ _ h ?_⟩) hwp)
        unfold leftF at hf ⊢
        have := filter_one (fun i => fl i && !L.getD i true) (fun j => fl j && !(L.setIfInBounds i true).getD j true) (List.range l.length) i List.nodup_range (List.mem_range.2 hlt) (by rw [hfi, h3]; rfl) (by rw [getD_set2 _ _ _ _ (by omega), if_pos rfl]; simp) (fun y _ hne => by rw [getD_set2 _ _ _ _ (by omega), if_neg (fun h => hne h.symm)])
        omega
end Go.Proofs.Ytffkakpbelknaaa

/- FloEx -/
namespace Go.Proofs.Ytffkakpbelknaaa
open Go.RowKit
set_option linter.unusedVariables false

/-- What is known of an operation's answer: a value, what holds of it, a new box of so many cells. -/
inductive Ke where
  | val (v : Value)
  | ex (P : Value → World → Prop)
  | box (n : Nat) (t : TypeId)
def KeP (S : Nat) (k : Nat → Ke) (i : Nat) (v : Value) (w : World) : Prop :=
  match k i with
  | .val x => v = x
  | .ex P => P v w
  | .box n t => ∃ g cs, v = .pointer (some ⟨g, 0, none⟩) ∧ S ≤ g ∧ cs.size = n ∧ Box w g cs t
theorem FloS.stepN {Post : Nat → Value → World → Prop} {Fr : World → Prop} {c : Nat → Bool} {s : Nat → Value} {w : World} (h : FloS Post Fr c s w) (i : Nat) (v : Value) (w' : World) (hfr : Fr w') (hst : ∀ j u, j ≠ i → Post j u w → Post j u w') (hp : Post i v w') : FloS Post Fr (up c i true) (up s i v) w' := by
  refine ⟨hfr, fun j hj => ?_⟩
  unfold up at hj ⊢
  by_cases e : j = i
  · subst e; rw [if_pos rfl]; exact hp
  · rw [if_neg e] at hj ⊢
    exact hst j _ e (h.k j hj)
/-- A slot that held something ahead of the region. -/
def slE (d : Value) (c : Nat → Bool) (s : Nat → Value) (i : Nat) : Value := if c i = true then s i else d
theorem slE_on {d : Value} {c : Nat → Bool} {s : Nat → Value} {i : Nat} (h : c i = true) : slE d c s i = s i := if_pos h
/-- What holds of an answer goes on holding when blocks are made. -/
def exB : Ke → Prop
  | .ex P => ∀ v w w', Below w.heap.size w w' → P v w → P v w'
  | _ => True
def exG (rb : Nat) : Ke → Prop
  | .ex P => ∀ v w w', w.grownBy w' (some rb) → P v w → P v w'
  | _ => True
/-- And when a box of this type from S on is filled. -/
def exP (S : Nat) (t : TypeId) : Ke → Prop
  | .ex P => ∀ v w g cs fin, S ≤ g → Box w g cs t → P v w → P v (putRow g 0 fin w)
  | _ => True
theorem ke_of {p : Ke → Prop} {kl : List Ke} (h : ∀ x ∈ kl, p x) (h0 : p (.val undef)) (j : Nat) : p (kl.getD j (.val undef)) := by
  rw [List.getD_eq_getElem?_getD]
  cases hg : kl[j]? with
  | none => exact h0
  | some x => exact h x (List.mem_of_getElem? hg)
theorem KeP.keep {S : Nat} {k : Nat → Ke} {w w' : World} (hk : ∀ j, exB (k j)) (hb : Below w.heap.size w w') (i : Nat) (v : Value) (h : KeP S k i v w) : KeP S k i v w' := by
  have hi := hk i
  unfold KeP at h ⊢
  split at h
  · exact h
  · rename_i P hP; rw [hP] at hi; exact hi _ _ _ hb h
  · obtain ⟨g, cs, h1, h2, h3, h4⟩ := h; exact ⟨g, cs, h1, h2, h3, h4.keep hb h4.lt⟩
theorem KeP.grow {S rb : Nat} {k : Nat → Ke} {w w' : World} (hk : ∀ j, exG rb (k j)) (hrb : rb < S) (hb : w.grownBy w' (some rb)) (i : Nat) (v : Value) (h : KeP S k i v w) : KeP S k i v w' := by
  have hi := hk i
  unfold KeP at h ⊢
  split at h
  · exact h
  · rename_i P hP; rw [hP] at hi; exact hi _ _ _ hb h
  · obtain ⟨g, cs, h1, h2, h3, h4⟩ := h
    exact ⟨g, cs, h1, h2, h3, (hb.block g h4.lt (fun e => by have := Option.some.inj e; omega)).trans h4⟩
theorem KeP.filledN {S g i0 : Nat} {k : Nat → Ke} {w : World} {cs : Array Value} {us : List Value} {t : TypeId} (hk : ∀ j, j ≠ i0 → exP S t (k j)) (hS : S ≤ g) (hx : Box w g cs t) (hsz : cs.size = us.length) (i : Nat) (hne : i ≠ i0) (v : Value) (h : KeP S k i v w) : KeP S k i v (putRow g 0 us w) := by
  have hi := hk i hne
  unfold KeP at h ⊢
  split at h
  · exact h
  · rename_i P hP; rw [hP] at hi; exact hi _ _ _ _ _ hS hx h
  · obtain ⟨g', cs', h1, h2, h3, h4⟩ := h
    by_cases e : g' = g
    · subst e
      have e2 : some (Obj.cells cs' _ (0, 0)) = some (Obj.cells cs t (0, 0)) := h4.symm.trans hx
      injection e2 with e3
      injection e3 with e4 e5 e6
      subst e4 e5
      obtain ⟨xs, rfl, hl⟩ := arrS hsz
      exact ⟨g', us.toArray, h1, h2, by simp; omega, Box.fillAll hx hl.symm⟩
    · exact ⟨g', cs', h1, h2, h3, (putRow_other g us 0 w g' e).trans h4⟩
theorem gw_below16 {w wr w' : World} {row : Option Nat} {B : Nat} (h : w.grownBy wr row) (hb : Below B wr w') (hB : w.heap.size ≤ B) : w.grownBy w' row :=
  ⟨hb.os.trans h.os, hb.tape.trans h.tape, hb.output.trans h.output, Nat.le_trans h.size hb.size, fun k hk hne => (hb.block k (by omega)).trans (h.block k hk hne)⟩
theorem putRow_grown (g : Nat) (us : List Value) (w0 w : World) (rb : Nat) (hg : w0.heap.size ≤ g) (h : w0.grownBy w (some rb)) : w0.grownBy (putRow g 0 us w) (some rb) := gw_below16 h (below_putRow g w0.heap.size hg us 0 w) (Nat.le_refl _)
end Go.Proofs.Ytffkakpbelknaaa
