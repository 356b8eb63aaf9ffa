/- Joined: W9m, W9n, W9o. -/
import Derived.Laws.Externs
import Derived.Lib.Bytealg
import Derived.Test.YtffkakpbelknaaaGreatDoorF29
/- W9m -/
namespace Go.Proofs.YtffkakpbelknaaaGreatDoor
open Go.ChangeShapes Go.WideShapes Go.ChangeAt Go.RowKit
set_option linter.unusedVariables false

def cmpB (a b : ByteArray) : Int := Lib.compareBytes a.data.toList b.data.toList
theorem cmpB_bd (a b : ByteArray) : -1 ≤ cmpB a b ∧ cmpB a b ≤ 1 := by
  unfold cmpB
  generalize a.data.toList = x
  generalize b.data.toList = y
  induction x generalizing y with
  | nil => cases y <;> simp [Lib.compareBytes]
  | cons p x ih =>
    cases y with
    | nil => simp [Lib.compareBytes]
    | cons q y =>
      unfold Lib.compareBytes
      split
      · simp
      · split
        · simp
        · exact ih y
theorem cmp_less (x y : List UInt8) : (Lib.compareBytes x y < 0) ↔ Op.bytesLess x y = true := by
  induction x generalizing y with
  | nil => cases y <;> simp [Lib.compareBytes, Op.bytesLess]
  | cons p x ih =>
    cases y with
    | nil => simp [Lib.compareBytes, Op.bytesLess]
    | cons q y =>
      unfold Lib.compareBytes Op.bytesLess
      by_cases h1 : p < q
      · simp [h1]
      · by_cases h2 : q < p
        · have : p ≠ q := fun h => by subst h; exact h1 h2
          simp [h1, h2, this]
        · have : p = q := UInt8.le_antisymm (UInt8.not_lt.1 h2) (UInt8.not_lt.1 h1)
          subst this
          simp [h1, ih]
theorem cmp_eq0 (x y : List UInt8) : (Lib.compareBytes x y = 0) ↔ x = y := by
  induction x generalizing y with
  | nil => cases y <;> simp [Lib.compareBytes]
  | cons p x ih =>
    cases y with
    | nil => simp [Lib.compareBytes]
    | cons q y =>
      unfold Lib.compareBytes
      by_cases h1 : p < q
      · have : p ≠ q := fun h => by subst h; exact UInt8.lt_irrefl _ h1
        simp [h1, this]
      · by_cases h2 : q < p
        · have : p ≠ q := fun h => by subst h; exact h1 h2
          simp [h1, h2, this]
        · have : p = q := UInt8.le_antisymm (UInt8.not_lt.1 h2) (UInt8.not_lt.1 h1)
          subst this
          simp [h1, ih]

end Go.Proofs.YtffkakpbelknaaaGreatDoor

/- W9n -/
namespace Go.Proofs.YtffkakpbelknaaaGreatDoor
open Go.ChangeShapes Go.WideShapes Go.ChangeAt Go.RowKit
set_option linter.unusedVariables false

/-- Keys below x stand first. -/
def MonoK (ks : List ByteArray) (x : ByteArray) : Prop := ∀ a b (hb : b < ks.length) (hab : a ≤ b), cmpB ks[b] x < 0 → cmpB (ks[a]'(by omega)) x < 0
def plK (ks : List ByteArray) (x : ByteArray) : Nat := ks.findIdx (fun k => !decide (cmpB k x < 0))
def fnB (ks : List ByteArray) (x : ByteArray) : Bool := match ks[plK ks x]? with
  | some k => (cmpB k x == 0)
  | none => false
def LoK (ks : List ByteArray) (x : ByteArray) (p : Nat) : Prop := ∀ t (ht : t < ks.length), t < p → cmpB ks[t] x < 0
def HiK (ks : List ByteArray) (x : ByteArray) (q : Nat) : Prop := ∀ t (ht : t < ks.length), q ≤ t → ¬ cmpB ks[t] x < 0
theorem plK_of (ks : List ByteArray) (x : ByteArray) (i : Nat) (h0 : i ≤ ks.length) (h1 : ∀ t (ht : t < ks.length), t < i → cmpB ks[t] x < 0) (h2 : ∀ t (ht : t < ks.length), i ≤ t → ¬ cmpB ks[t] x < 0) : plK ks x = i := by
  unfold plK
  by_cases hi : i < ks.length
  · rw [List.findIdx_eq hi]
    exact ⟨by simpa using h2 i hi (Nat.le_refl _), fun j hj => by simpa using h1 j (by omega) hj⟩
  · have : i = ks.length := by omega
    subst this
    rw [List.findIdx_eq_length]
    intro k hk
    obtain ⟨t, ht, rfl⟩ := List.getElem_of_mem hk
    simpa using h1 t ht ht
theorem plK_le (ks : List ByteArray) (x : ByteArray) : plK ks x ≤ ks.length := List.findIdx_le_length
theorem ret_twoK {n : Nat} {p : Int} {a b : Bool} (h1 : (n : Int) = p) (h2 : a = b) : Ending.returned (.tuple #[.int .i64 p, .bool b]) = .returned (.tuple #[.int .i64 (n : Int), .bool a]) := by rw [h1, h2]

end Go.Proofs.YtffkakpbelknaaaGreatDoor

/- W9o -/
namespace Go.Proofs.YtffkakpbelknaaaGreatDoor
open Go.ChangeShapes Go.WideShapes Go.ChangeAt Go.RowKit
set_option linter.unusedVariables false

theorem less_irrefl (x : List UInt8) : Op.bytesLess x x = false := by
  induction x with
  | nil => rfl
  | cons a x ih => unfold Op.bytesLess; simp [ih]
theorem less_trans (x y z : List UInt8) (h1 : Op.bytesLess x y = true) (h2 : Op.bytesLess y z = true) : Op.bytesLess x z = true := by
  induction x generalizing y z with
  | nil =>
    cases z with
    | nil => cases y <;> simp [Op.bytesLess] at h2
    | cons c z => rfl
  | cons a x ih =>
    cases y with
    | nil => simp [Op.bytesLess] at h1
    | cons b y =>
      cases z with
      | nil => simp [Op.bytesLess] at h2
      | cons c z =>
        unfold Op.bytesLess at h1 h2 ⊢
        simp only [Bool.or_eq_true, Bool.and_eq_true, decide_eq_true_eq, beq_iff_eq] at h1 h2 ⊢
        rcases h1 with h1 | ⟨rfl, h1⟩
        · rcases h2 with h2 | ⟨rfl, h2⟩
          · exact .inl (UInt8.lt_trans h1 h2)
          · exact .inl h1
        · rcases h2 with h2 | ⟨rfl, h2⟩
          · exact .inl h2
          · exact .inr ⟨rfl, ih y z h1 h2⟩
def ltK (a b : ByteArray) : Bool := Op.bytesLess a.toList b.toList
theorem ltK_cmp (a b : ByteArray) : ltK a b = decide (cmpB a b < 0) := by
  unfold ltK cmpB
  rw [ByteArray.toList_eq, ByteArray.toList_eq, Bool.eq_iff_iff, decide_eq_true_eq, cmp_less]
theorem ltK_trans {a b c : ByteArray} (h1 : ltK a b = true) (h2 : ltK b c = true) : ltK a c = true := less_trans _ _ _ h1 h2
theorem ltK_irrefl (a : ByteArray) : ltK a a = false := less_irrefl _
theorem cmpB_zero (a b : ByteArray) : cmpB a b = 0 ↔ a = b := by
  unfold cmpB
  rw [cmp_eq0]
  constructor
  · intro h; cases a; cases b; simp_all
  · rintro rfl; rfl
theorem ris_next {ks : List ByteArray} (h : risB ks = true) (q : Nat) (hq : q + 1 < ks.length) : ltK ks[q] ks[q + 1] = true := by
  have h1 := allB_at h (q + 1) hq
  have h2 := ordK_at (fun k : ByteArray => k) ks q hq
  rw [List.map_id'] at h2
  rw [h2] at h1
  exact h1
theorem ris_lt {ks : List ByteArray} (h : risB ks = true) (i : Nat) : ∀ j (hj : j < ks.length) (hij : i < j), ltK (ks[i]'(by omega)) ks[j] = true := by
  intro j
  induction j with
  | zero => intro hj hij; omega
  | succ q ih =>
    intro hj hij
    by_cases hiq : i = q
    · subst hiq; exact ris_next h i hj
    · exact ltK_trans (ih (by omega) (by omega)) (ris_next h q hj)
theorem ris_mono {ks : List ByteArray} (h : risB ks = true) (x : ByteArray) : MonoK ks x := by
  intro a b hb hab hc
  by_cases heq : a = b
  · subst heq; exact hc
  · have h1 := ris_lt h a b hb (by omega)
    have h2 : ltK ks[b] x = true := by rw [ltK_cmp]; exact decide_eq_true hc
    have h3 := ltK_trans h1 h2
    rw [ltK_cmp] at h3
    exact of_decide_eq_true h3
theorem plK_lo (ks : List ByteArray) (x : ByteArray) (t : Nat) (ht : t < plK ks x) : cmpB (ks[t]'(by have := plK_le ks x; omega)) x < 0 := by
  have := List.not_of_lt_findIdx ht
  simpa using this
theorem plK_hi {ks : List ByteArray} {x : ByteArray} (h : plK ks x < ks.length) : ¬ cmpB ks[plK ks x] x < 0 := by
  have h1 := List.findIdx_getElem (w := h)
  simp at h1
  exact Int.not_lt.2 h1
/-- The place of the first key that is x. -/
def ixK (ks : List ByteArray) (x : ByteArray) : Option Nat := ks.findIdx? (fun k => (k.toList == x.toList))
theorem ix_pl {ks : List ByteArray} (hr : risB ks = true) (x : ByteArray) : ixK ks x = if fnB ks x then some (plK ks x) else none := by
  unfold fnB
  by_cases hp : plK ks x < ks.length
  · rw [List.getElem?_eq_getElem hp]
    by_cases hc : cmpB ks[plK ks x] x = 0
    · have e : ks[plK ks x] = x := (cmpB_zero _ _).1 hc
      rw [if_pos (by simpa using hc)]
      unfold ixK
      rw [List.findIdx?_eq_some_iff_getElem]
      refine ⟨hp, by rw [e]; simp, fun j hj => ?_⟩
      have h1 := plK_lo ks x j hj
      rw [str_eq]
      simp only [decide_eq_true_eq]
      intro h2
      rw [h2] at h1
      have : cmpB x x = 0 := (cmpB_zero x x).2 rfl
      omega
    · rw [if_neg (by simpa using hc)]
      unfold ixK
      rw [List.findIdx?_eq_none_iff]
      intro k hk
      obtain ⟨i, hi, rfl⟩ := List.getElem_of_mem hk
      rw [str_eq, decide_eq_false_iff_not]
      intro h2
      have h0 : cmpB ks[i] x = 0 := (cmpB_zero _ _).2 h2
      rcases Nat.lt_trichotomy i (plK ks x) with h | h | h
      · have := plK_lo ks x i h; omega
      · subst h; exact hc h0
      · have h3 := ris_lt hr (plK ks x) i hi h
        rw [h2, ltK_cmp] at h3
        exact plK_hi hp (of_decide_eq_true h3)
  · rw [List.getElem?_eq_none (by omega)]
    rw [if_neg (by simp)]
    unfold ixK
    rw [List.findIdx?_eq_none_iff]
    intro k hk
    obtain ⟨i, hi, rfl⟩ := List.getElem_of_mem hk
    rw [str_eq, decide_eq_false_iff_not]
    intro h2
    have h0 : cmpB ks[i] x = 0 := (cmpB_zero _ _).2 h2
    have := plK_lo ks x i (by omega)
    omega
/-- How many of a feed's entries there are, are not read, have a star. -/
def unN (es : List En) : Nat := es.countP (fun x => !x.rd)
def stN (es : List En) : Nat := es.countP (fun x => x.st)
def ctV (ss : List Sb) (x : ByteArray) : Nat × Nat × Nat := if rdB ss then (match ixK (sbKs ss) x with
  | some i => (match ss[i]? with | some s => (s.es.length, unN s.es, stN s.es) | none => (0, 0, 0))
  | none => (0, 0, 0)) else (0, 0, 0)
theorem cnt_take (p : En → Bool) (es : List En) (k : Nat) (h : k < es.length) : (es.take (k + 1)).countP p = (es.take k).countP p + (if p es[k] then 1 else 0) := by
  rw [List.take_succ_eq_append_getElem h, List.countP_append, List.countP_singleton]
theorem cnt_le (p : En → Bool) (es : List En) (k : Nat) : (es.take k).countP p ≤ k := Nat.le_trans List.countP_le_length (by rw [List.length_take]; omega)
end Go.Proofs.YtffkakpbelknaaaGreatDoor
