/- Joined: W14i, W9o. -/
import Derived.BigQuiet
import Derived.Test.YtffkakpbelknaaaS18
import Derived.Test.YtffkakpbelknaaaS20
/- W14i -/
namespace Go.Proofs.Ytffkakpbelknaaa
open Go.ChangeShapes Go.WideShapes Go.ChangeAt Go.RowKit
set_option linter.unusedVariables false

structure DOp where
  k : Int
  nm : ByteArray
  tn : ByteArray
  da : ByteArray
abbrev doV (o : DOp) : Value := .agg #[.int .i64 o.k, .string o.nm, .string o.tn, .string o.da]
def DoSz (o : DOp) : Prop := o.nm.size ≤ maxLen ∧ o.tn.size ≤ maxLen ∧ o.da.size ≤ maxLen
def emB (s : ByteArray) : Bool := s.toList == []
def frB1 (o : DOp) : Bool := if o.k = 1 then nmO o.nm && emB o.tn else if o.k = 2 then nmO o.nm && nmO o.tn && emB o.da else if o.k = 3 then nmO o.nm && emB o.tn && emB o.da else false
def chgV (o : DOp) : Value := if o.k = 1 then .iface 180 (.agg #[.string o.nm, .string o.da]) else if o.k = 2 then .iface 182 (.agg #[.string o.nm, .string o.tn]) else if o.k = 3 then .iface 184 (.agg #[.string o.nm]) else .nilIface
theorem ret_twoV {a b : Value} {x y : Bool} (h1 : a = b) (h2 : x = y) : Ending.returned (.tuple #[a, .bool x]) = .returned (.tuple #[b, .bool y]) := by rw [h1, h2]

set_option maxRecDepth 100000 in
set_option maxHeartbeats 1600000 in
theorem changeOf_any (o : DOp) (w : World) (hs : DoSz o) :
    Calls Try.prog 89 #[doV o] w fun e w' => e = .returned (.tuple #[chgV o, .bool (frB1 o)]) ∧ Below w.heap.size w w' := by
  have HN := Lib.hid (fun w => isFileName_any o.nm w hs.1)
  have HT := Lib.hid (fun w => isFileName_any o.tn w hs.2.1)
  have HF : Hid (frB1 o = if o.k = 1 then nmO o.nm && emB o.tn else if o.k = 2 then nmO o.nm && nmO o.tn && emB o.da else if o.k = 3 then nmO o.nm && emB o.tn && emB o.da else false) := Lib.hid rfl
  have HC : Hid (chgV o = if o.k = 1 then .iface 180 (.agg #[.string o.nm, .string o.da]) else if o.k = 2 then .iface 182 (.agg #[.string o.nm, .string o.tn]) else if o.k = 3 then .iface 184 (.agg #[.string o.nm]) else .nilIface) := Lib.hid rfl
  generalize frB1 o = FB at HF ⊢
  generalize chgV o = CV at HC ⊢
  generalize nmO o.nm = A at HN HF
  generalize nmO o.tn = B at HT HF
  obtain ⟨E1, hE1⟩ : ∃ E, emB o.tn = E := ⟨_, rfl⟩
  obtain ⟨E2, hE2⟩ : ∃ E, emB o.da = E := ⟨_, rfl⟩
  rw [hE1, hE2] at HF
  unfold emB at hE1 hE2
  obtain ⟨k, nm, tn, da⟩ := o
  simp only at HN HT HF HC hE1 hE2 ⊢
  clear hs
  have hB0 : Below w.heap.size w (w.alloc (.cells #[.int .i64 k, .string nm, .string tn, .string da] 68)) := (Below.refl _ _).alloc (Nat.le_refl _) _
  have HBn : Hid (∀ n, Below w.heap.size w ((w.alloc (.cells #[.int .i64 k, .string nm, .string tn, .string da] 68)).drewN n)) := Lib.hid (fun n => below_drewN hB0 n)
  by_cases h1 : k = 1
  · subst h1
    simp only [if_pos] at HF HC
    cases A with
    | false =>
      go_enter Try.func89, Try.ntmps89
      go_wp2_with fail
      refine (HN.out _).mono ?_
      rintro e w1 ⟨rfl, rfl⟩
      go_wp2
      go_quiet (fail)
      go_wp2
      go_ret2
      exact ⟨ret_twoV HC.out.symm HF.out.symm, HBn.out _⟩
    | true =>
      go_enter Try.func89, Try.ntmps89
      go_wp2_with fail
      refine (HN.out _).mono ?_
      rintro e w1 ⟨rfl, rfl⟩
      go_wp2
      go_quiet (fail)
      go_wp2
      go_ret2
      exact ⟨ret_twoV HC.out.symm HF.out.symm, HBn.out _⟩
  · by_cases h2 : k = 2
    · subst h2
      simp only [if_neg h1, if_pos] at HF HC
      clear h1
      cases A with
      | false =>
        go_enter Try.func89, Try.ntmps89
        go_wp2_with fail
        refine (HN.out _).mono ?_
        rintro e w1 ⟨rfl, rfl⟩
        go_wp2
        go_quiet (fail)
        go_wp2
        go_ret2
        exact ⟨ret_twoV HC.out.symm HF.out.symm, HBn.out _⟩
      | true =>
        cases B with
        | false =>
          go_enter Try.func89, Try.ntmps89
          go_wp2_with fail
          refine (HN.out _).mono ?_
          rintro e w1 ⟨rfl, rfl⟩
          go_wp2
          go_quiet ((go_at_call 138; exact quiet_same (HT.out _)))
          go_wp2
          go_ret2
          exact ⟨ret_twoV HC.out.symm HF.out.symm, HBn.out _⟩
        | true =>
          go_enter Try.func89, Try.ntmps89
          go_wp2_with fail
          refine (HN.out _).mono ?_
          rintro e w1 ⟨rfl, rfl⟩
          go_wp2
          go_quiet ((go_at_call 138; exact quiet_same (HT.out _)))
          go_wp2
          go_ret2
          exact ⟨ret_twoV HC.out.symm HF.out.symm, HBn.out _⟩
    · by_cases h3 : k = 3
      · subst h3
        simp only [if_neg h1, if_neg h2, if_pos] at HF HC
        clear h1 h2
        cases A with
        | false =>
          go_enter Try.func89, Try.ntmps89
          go_wp2_with fail
          refine (HN.out _).mono ?_
          rintro e w1 ⟨rfl, rfl⟩
          go_wp2
          go_quiet (fail)
          go_wp2
          go_ret2
          exact ⟨ret_twoV HC.out.symm HF.out.symm, HBn.out _⟩
        | true =>
          cases E1 with
          | false =>
            go_enter Try.func89, Try.ntmps89
            go_wp2_with fail
            refine (HN.out _).mono ?_
            rintro e w1 ⟨rfl, rfl⟩
            go_wp2
            go_quiet (fail)
            go_wp2
            go_ret2
            exact ⟨ret_twoV HC.out.symm HF.out.symm, HBn.out _⟩
          | true =>
            go_enter Try.func89, Try.ntmps89
            go_wp2_with fail
            refine (HN.out _).mono ?_
            rintro e w1 ⟨rfl, rfl⟩
            go_wp2
            go_quiet (fail)
            go_wp2
            go_ret2
            exact ⟨ret_twoV HC.out.symm HF.out.symm, HBn.out _⟩
      · simp only [if_neg h1, if_neg h2, if_neg h3] at HF HC
        go_enter Try.func89, Try.ntmps89
        go_wp2_with fail
        refine (HN.out _).mono ?_
        rintro e w1 ⟨rfl, rfl⟩
        go_wp2
        go_ret2
        exact ⟨ret_twoV HC.out.symm HF.out.symm, hB0⟩
end Go.Proofs.Ytffkakpbelknaaa

/- W9o -/
namespace Go.Proofs.Ytffkakpbelknaaa
open Go.ChangeShapes Go.WideShapes Go.ChangeAt Go.RowKit
set_option linter.unusedVariables false

theorem less_irrefl (x : List UInt8) : Op.bytesLess x x = false := by
  induction x with
  | nil => rfl
  | cons a x ih => unfold Op.bytesLess; simp [ih]
theorem less_trans (x y z : List UInt8) (h1 : Op.bytesLess x y = true) (h2 : Op.bytesLess y z = true) : Op.bytesLess x z = true := by
  induction x generalizing y z with
  | nil =>
    cases z with
    | nil => cases y <;> simp [Op.bytesLess] at h2
    | cons c z => rfl
  | cons a x ih =>
    cases y with
    | nil => simp [Op.bytesLess] at h1
    | cons b y =>
      cases z with
      | nil => simp [Op.bytesLess] at h2
      | cons c z =>
        unfold Op.bytesLess at h1 h2 ⊢
        simp only [Bool.or_eq_true, Bool.and_eq_true, decide_eq_true_eq, beq_iff_eq] at h1 h2 ⊢
        rcases h1 with h1 | ⟨rfl, h1⟩
        · rcases h2 with h2 | ⟨rfl, h2⟩
          · exact .inl (UInt8.lt_trans h1 h2)
          · exact .inl h1
        · rcases h2 with h2 | ⟨rfl, h2⟩
          · exact .inl h2
          · exact .inr ⟨rfl, ih y z h1 h2⟩
def ltK (a b : ByteArray) : Bool := Op.bytesLess a.toList b.toList
theorem ltK_cmp (a b : ByteArray) : ltK a b = decide (cmpB a b < 0) := by
  unfold ltK cmpB
  rw [ByteArray.toList_eq, ByteArray.toList_eq, Bool.eq_iff_iff, decide_eq_true_eq, cmp_less]
theorem ltK_trans {a b c : ByteArray} (h1 : ltK a b = true) (h2 : ltK b c = true) : ltK a c = true := less_trans _ _ _ h1 h2
theorem ltK_irrefl (a : ByteArray) : ltK a a = false := less_irrefl _
theorem cmpB_zero (a b : ByteArray) : cmpB a b = 0 ↔ a = b := by
  unfold cmpB
  rw [cmp_eq0]
  constructor
  · intro h; cases a; cases b; simp_all
  · rintro rfl; rfl
theorem ris_next {ks : List ByteArray} (h : risB ks = true) (q : Nat) (hq : q + 1 < ks.length) : ltK ks[q] ks[q + 1] = true := by
  have h1 := allB_at h (q + 1) hq
  have h2 := ordK_at (fun k : ByteArray => k) ks q hq
  rw [List.map_id'] at h2
  rw [h2] at h1
  exact h1
theorem ris_lt {ks : List ByteArray} (h : risB ks = true) (i : Nat) : ∀ j (hj : j < ks.length) (hij : i < j), ltK (ks[i]'(by omega)) ks[j] = true := by
  intro j
  induction j with
  | zero => intro hj hij; omega
  | succ q ih =>
    intro hj hij
    by_cases hiq : i = q
    · subst hiq; exact ris_next h i hj
    · exact ltK_trans (ih (by omega) (by omega)) (ris_next h q hj)
theorem ris_mono {ks : List ByteArray} (h : risB ks = true) (x : ByteArray) : MonoK ks x := by
  intro a b hb hab hc
  by_cases heq : a = b
  · subst heq; exact hc
  · have h1 := ris_lt h a b hb (by omega)
    have h2 : ltK ks[b] x = true := by rw [ltK_cmp]; exact decide_eq_true hc
    have h3 := ltK_trans h1 h2
    rw [ltK_cmp] at h3
    exact of_decide_eq_true h3
theorem plK_lo (ks : List ByteArray) (x : ByteArray) (t : Nat) (ht : t < plK ks x) : cmpB (ks[t]'(by have := plK_le ks x; omega)) x < 0 := by
  have := List.not_of_lt_findIdx ht
  simpa using this
theorem plK_hi {ks : List ByteArray} {x : ByteArray} (h : plK ks x < ks.length) : ¬ cmpB ks[plK ks x] x < 0 := by
  have h1 := List.findIdx_getElem (w := h)
  simp at h1
  exact Int.not_lt.2 h1
/-- The place of the first key that is x. -/
def ixK (ks : List ByteArray) (x : ByteArray) : Option Nat := ks.findIdx? (fun k => (k.toList == x.toList))
theorem ix_pl {ks : List ByteArray} (hr : risB ks = true) (x : ByteArray) : ixK ks x = if fnB ks x then some (plK ks x) else none := by
  unfold fnB
  by_cases hp : plK ks x < ks.length
  · rw [List.getElem?_eq_getElem hp]
    by_cases hc : cmpB ks[plK ks x] x = 0
    · have e : ks[plK ks x] = x := (cmpB_zero _ _).1 hc
      rw [if_pos (by simpa using hc)]
      unfold ixK
      rw [List.findIdx?_eq_some_iff_getElem]
      refine ⟨hp, by rw [e]; simp, fun j hj => ?_⟩
      have h1 := plK_lo ks x j hj
      rw [str_eq]
      simp only [decide_eq_true_eq]
      intro h2
      rw [h2] at h1
      have : cmpB x x = 0 := (cmpB_zero x x).2 rfl
      omega
    · rw [if_neg (by simpa using hc)]
      unfold ixK
      rw [List.findIdx?_eq_none_iff]
      intro k hk
      obtain ⟨i, hi, rfl⟩ := List.getElem_of_mem hk
      rw [str_eq, decide_eq_false_iff_not]
      intro h2
      have h0 : cmpB ks[i] x = 0 := (cmpB_zero _ _).2 h2
      rcases Nat.lt_trichotomy i (plK ks x) with h | h | h
      · have := plK_lo ks x i h; omega
      · subst h; exact hc h0
      · have h3 := ris_lt hr (plK ks x) i hi h
        rw [h2, ltK_cmp] at h3
        exact plK_hi hp (of_decide_eq_true h3)
  · rw [List.getElem?_eq_none (by omega)]
    rw [if_neg (by simp)]
    unfold ixK
    rw [List.findIdx?_eq_none_iff]
    intro k hk
    obtain ⟨i, hi, rfl⟩ := List.getElem_of_mem hk
    rw [str_eq, decide_eq_false_iff_not]
    intro h2
    have h0 : cmpB ks[i] x = 0 := (cmpB_zero _ _).2 h2
    have := plK_lo ks x i (by omega)
    omega
/-- How many of a feed's entries there are, are not read, have a star. -/
def unN (es : List En) : Nat := es.countP (fun x => !x.rd)
def stN (es : List En) : Nat := es.countP (fun x => x.st)
def ctV (ss : List Sb) (x : ByteArray) : Nat × Nat × Nat := if rdB ss then (match ixK (sbKs ss) x with
  | some i => (match ss[i]? with | some s => (s.es.length, unN s.es, stN s.es) | none => (0, 0, 0))
  | none => (0, 0, 0)) else (0, 0, 0)
theorem cnt_take (p : En → Bool) (es : List En) (k : Nat) (h : k < es.length) : (es.take (k + 1)).countP p = (es.take k).countP p + (if p es[k] then 1 else 0) := by
  rw [List.take_succ_eq_append_getElem h, List.countP_append, List.countP_singleton]
theorem cnt_le (p : En → Bool) (es : List En) (k : Nat) : (es.take k).countP p ≤ k := Nat.le_trans List.countP_le_length (by rw [List.length_take]; omega)
end Go.Proofs.Ytffkakpbelknaaa
