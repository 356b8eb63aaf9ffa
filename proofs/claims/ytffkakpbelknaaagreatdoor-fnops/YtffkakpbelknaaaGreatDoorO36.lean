/- Parts of the proof. -/
import Derived.Laws.Externs
import Derived.Lib.Bytealg
import Derived.Test.YtffkakpbelknaaaGreatDoorO20
set_option maxHeartbeats 4000000
set_option maxRecDepth 100000
namespace Go.Proofs.YtffkakpbelknaaaGreatDoor
open Go.ChangeShapes Go.WideShapes Go.ChangeAt Go.RowKit
set_option linter.unusedVariables false
def cmpB (a b : ByteArray) : Int := Lib.compareBytes a.data.toList b.data.toList
theorem cmp_less (x y : List UInt8) : (Lib.compareBytes x y < 0) ↔ Op.bytesLess x y = true := by
 induction x generalizing y with
 | nil => cases y <;> simp [Lib.compareBytes, Op.bytesLess]
 | cons p x ih =>
  cases y with
  | nil => simp [Lib.compareBytes, Op.bytesLess]
  | cons q y =>
   unfold Lib.compareBytes Op.bytesLess
   by_cases h1 : p < q
   ·simp [h1]
   ·by_cases h2 : q < p
    ·have : p ≠ q := fun h => by subst h; exact h1 h2
     simp [h1, h2, this]
    ·have : p = q := UInt8.le_antisymm (UInt8.not_lt.1 h2) (UInt8.not_lt.1 h1)
     subst this
     simp [h1, ih]
theorem cmp_eq0 (x y : List UInt8) : (Lib.compareBytes x y = 0) ↔ x = y := by
 induction x generalizing y with
 | nil => cases y <;> simp [Lib.compareBytes]
 | cons p x ih =>
  cases y with
  | nil => simp [Lib.compareBytes]
  | cons q y =>
   unfold Lib.compareBytes
   by_cases h1 : p < q
   ·have : p ≠ q := fun h => by subst h; exact UInt8.lt_irrefl _ h1
    simp [h1, this]
   ·by_cases h2 : q < p
    ·have : p ≠ q := fun h => by subst h; exact h1 h2
     simp [h1, h2, this]
    ·have : p = q := UInt8.le_antisymm (UInt8.not_lt.1 h2) (UInt8.not_lt.1 h1)
     subst this
     simp [h1, ih]
end Go.Proofs.YtffkakpbelknaaaGreatDoor
namespace Go.Proofs.YtffkakpbelknaaaGreatDoor
open Go.ChangeShapes Go.WideShapes Go.ChangeAt Go.RowKit
set_option linter.unusedVariables false
def plK (ks : List ByteArray) (x : ByteArray) : Nat := ks.findIdx (fun k => !decide (cmpB k x < 0))
def fnB (ks : List ByteArray) (x : ByteArray) : Bool := match ks[plK ks x]? with
 | some k => (cmpB k x == 0)
 | none => false
theorem plK_le (ks : List ByteArray) (x : ByteArray) : plK ks x <= ks.length := List.findIdx_le_length
end Go.Proofs.YtffkakpbelknaaaGreatDoor
namespace Go.Proofs.YtffkakpbelknaaaGreatDoor
open Go.ChangeShapes Go.WideShapes Go.ChangeAt Go.RowKit
set_option linter.unusedVariables false
theorem less_trans (x y z : List UInt8) (h1 : Op.bytesLess x y = true) (h2 : Op.bytesLess y z = true) : Op.bytesLess x z = true := by
 induction x generalizing y z with
 | nil =>
  cases z with
  | nil => cases y <;> simp [Op.bytesLess] at h2
  | cons c z => rfl
 | cons a x ih =>
  cases y with
  | nil => simp [Op.bytesLess] at h1
  | cons b y =>
   cases z with
   | nil => simp [Op.bytesLess] at h2
   | cons c z =>
    unfold Op.bytesLess at h1 h2 ⊢
    simp only [Bool.or_eq_true, Bool.and_eq_true, decide_eq_true_eq, beq_iff_eq] at h1 h2 ⊢
    rcases h1 with h1 | ⟨rfl, h1⟩
    ·rcases h2 with h2 | ⟨rfl, h2⟩
     ·exact .inl (UInt8.lt_trans h1 h2)
     ·exact .inl h1
    ·rcases h2 with h2 | ⟨rfl, h2⟩
     ·exact .inl h2
     ·exact .inr ⟨rfl, ih y z h1 h2⟩
def ltK (a b : ByteArray) : Bool := Op.bytesLess a.toList b.toList
theorem ltK_cmp (a b : ByteArray) : ltK a b = decide (cmpB a b < 0) := by
 unfold ltK cmpB
 rw [ByteArray.toList_eq, ByteArray.toList_eq, Bool.eq_iff_iff, decide_eq_true_eq, cmp_less]
theorem ltK_trans {a b c : ByteArray} (h1 : ltK a b = true) (h2 : ltK b c = true) : ltK a c = true := less_trans _ _ _ h1 h2
theorem cmpB_zero (a b : ByteArray) : cmpB a b = 0 ↔ a = b := by
 unfold cmpB
 rw [cmp_eq0]
 constructor
 ·intro h; cases a; cases b; simp_all
 ·rintro rfl; rfl
theorem ris_next {ks : List ByteArray} (h : risB ks = true) (q : Nat) (hq : q + 1 < ks.length) : ltK ks[q] ks[q + 1] = true := by
 have h1 := allB_at h (q + 1) hq
 have h2 := ordK_at (fun k : ByteArray => k) ks q hq
 rw [List.map_id'] at h2
 rw [h2] at h1
 exact h1
theorem ris_lt {ks : List ByteArray} (h : risB ks = true) (i : Nat) : ∀ j (hj : j < ks.length) (hij : i < j), ltK (ks[i]'(by omega)) ks[j] = true := by
 intro j
 induction j with
 | zero => intro hj hij; omega
 | succ q ih =>
  intro hj hij
  by_cases hiq : i = q
  ·subst hiq; exact ris_next h i hj
  ·exact ltK_trans (ih (by omega) (by omega)) (ris_next h q hj)
theorem plK_lo (ks : List ByteArray) (x : ByteArray) (t : Nat) (ht : t < plK ks x) : cmpB (ks[t]'(by have := plK_le ks x; omega)) x < 0 := by
 have := List.not_of_lt_findIdx ht
 simpa using this
theorem plK_hi {ks : List ByteArray} {x : ByteArray} (h : plK ks x < ks.length) : ¬ cmpB ks[plK ks x] x < 0 := by
 have h1 := List.findIdx_getElem (w := h)
 simp at h1
 exact Int.not_lt.2 h1
def ixK (ks : List ByteArray) (x : ByteArray) : Option Nat := ks.findIdx? (fun k => (k.toList == x.toList))
theorem ix_pl {ks : List ByteArray} (hr : risB ks = true) (x : ByteArray) : ixK ks x = if fnB ks x then some (plK ks x) else none := by
 unfold fnB
 by_cases hp : plK ks x < ks.length
 ·rw [List.getElem?_eq_getElem hp]
  by_cases hc : cmpB ks[plK ks x] x = 0
  ·have e : ks[plK ks x] = x := (cmpB_zero _ _).1 hc
   rw [if_pos (by simpa using hc)]
   unfold ixK
   rw [List.findIdx?_eq_some_iff_getElem]
   refine ⟨hp, by rw [e]; simp, fun j hj => ?_⟩
   have h1 := plK_lo ks x j hj
   rw [str_eq]
   simp only [decide_eq_true_eq]
   intro h2
   rw [h2] at h1
   have : cmpB x x = 0 := (cmpB_zero x x).2 rfl
   omega
  ·rw [if_neg (by simpa using hc)]
   unfold ixK
   rw [List.findIdx?_eq_none_iff]
   intro k hk
   obtain ⟨i, hi, rfl⟩ := List.getElem_of_mem hk
   rw [str_eq, decide_eq_false_iff_not]
   intro h2
   have h0 : cmpB ks[i] x = 0 := (cmpB_zero _ _).2 h2
   rcases Nat.lt_trichotomy i (plK ks x) with h | h | h
   ·have := plK_lo ks x i h; omega
   ·subst h; exact hc h0
   ·have h3 := ris_lt hr (plK ks x) i hi h
    rw [h2, ltK_cmp] at h3
    exact plK_hi hp (of_decide_eq_true h3)
 ·rw [List.getElem?_eq_none (by omega)]
  rw [if_neg (by simp)]
  unfold ixK
  rw [List.findIdx?_eq_none_iff]
  intro k hk
  obtain ⟨i, hi, rfl⟩ := List.getElem_of_mem hk
  rw [str_eq, decide_eq_false_iff_not]
  intro h2
  have h0 : cmpB ks[i] x = 0 := (cmpB_zero _ _).2 h2
  have := plK_lo ks x i (by omega)
  omega
end Go.Proofs.YtffkakpbelknaaaGreatDoor
namespace Go.Proofs.YtffkakpbelknaaaGreatDoor
open Go.ChangeShapes Go.WideShapes Go.ChangeAt Go.RowKit
set_option linter.unusedVariables false
def atK (ks : List ByteArray) (x : ByteArray) : Int := match ixK ks x with
 | some i => (i : Int)
 | none => -1
theorem l9At_any (v : Value) (ss : List Sb) (x : ByteArray) (w : World) (h : SbAt w w.heap.size v ss) :
  Calls Tryz.prog 222 #[.agg #[v], .string x] w fun e w' => e = .returned (.int .i64 (atK (sbKs ss) x)) /\ Below w.heap.size w w' := by
 have HI := Lib.hid h
 obtain ⟨a, cap, rfl, hl, hm, hc⟩ := h.raw
 clear hc h
 unfold maxLen at hm
 have HL : Hid ((sbKs ss).length = ss.length) := Lib.hid (by simp [sbKs])
 have HX : Hid (∀ k (hk : k < ss.length), (ss[k].u.toList == x.toList) = true -> (∀ j (hj : j < ss.length), j < k -> (ss[j].u.toList == x.toList) = false) -> atK (sbKs ss) x = (k : Int)) := Lib.hid (fun k hk h1 h2 => by
  have : ixK (sbKs ss) x = some k := by
   unfold ixK
   rw [List.findIdx?_eq_some_iff_getElem]
   refine ⟨by rw [HL.out]; exact hk, by simpa [sbKs] using h1, fun j hj => ?_⟩
   have := h2 j (by omega) hj
   simpa [sbKs] using this
  unfold atK
  rw [this])
 have HD : Hid ((∀ j (hj : j < ss.length), (ss[j].u.toList == x.toList) = false) -> atK (sbKs ss) x = -1) := Lib.hid (fun h2 => by
  have : ixK (sbKs ss) x = none := by
   unfold ixK
   rw [List.findIdx?_eq_none_iff]
   intro k hk
   obtain ⟨s, hs, rfl⟩ := List.mem_map.1 hk
   obtain ⟨j, hj, rfl⟩ := List.getElem_of_mem hs
   exact h2 j hj
  unfold atK
  rw [this])
 generalize atK (sbKs ss) x = R at HX HD ⊢
 have hB0 : Below w.heap.size w (w.alloc (.cells #[.slice a ss.length cap] 42)) := (Below.refl _ _).alloc (Nat.le_refl _) _
 have f0 : (w.alloc (.cells #[.slice a ss.length cap] 42)).cell? ⟨w.heap.size, 0, none⟩ = some (.slice a ss.length cap) := (Box.new w #[.slice a ss.length cap] 42).cell 0 _ rfl
 have HI2 := Lib.hid (HI.out.below hB0)
 go_enter Tryz.func222, Tryz.ntmps222
 go_wp2
 generalize w.alloc (.cells #[.slice a ss.length cap] 42) = W at hB0 f0 HI2 ⊢
 go_loop [5] (fun i => ∃ k : Nat, k <= ss.length /\ i = .int .i64 (k : Int) /\ Hid (∀ j (hj : j < ss.length), j < k -> (ss[j].u.toList == x.toList) = false)) (fun i => ss.length - (intOf i).toNat)
 case atStart => exact ⟨0, Nat.zero_le _, rfl, Lib.hid (fun j hj h => by omega)⟩
 case round =>
  obtain ⟨k, hk, rfl, HO⟩ := hrel
  by_cases hlt : k < ss.length
  ·obtain ⟨a', cap', hv, _, _, hc⟩ := HI2.out.raw
   cases hv
   obtain ⟨b, off, rfl, hb, hr⟩ := hc k hlt
   obtain ⟨y, c0, c1, c2, _, _, _⟩ := hr k hlt
   have HK := Lib.hid (HX.out k hlt)
   have HN : Hid ((ss[k].u.toList == x.toList) = false -> ∀ j (hj : j < ss.length), j < k + 1 -> (ss[j].u.toList == x.toList) = false) := Lib.hid (fun h j hj hjk => by
    by_cases e : j = k
    ·subst e; exact h
    ·exact HO.out j hj (by omega))
   obtain ⟨U, hU⟩ : ∃ U, U = ss[k].u := ⟨_, rfl⟩
   rw [<- hU] at c0 HK HN
   clear hr hc hU
   obtain ⟨e, he⟩ : ∃ e, (U.toList == x.toList) = e := ⟨_, rfl⟩
   rw [he] at HK HN
   cases e with
   | true =>
    have HZ : Hid (R = (k : Int)) := Lib.hid (HK.out rfl HO.out)
    go_wp2
    go_ret
    exact ⟨ret_int HZ.out.symm, hB0⟩
   | false =>
    have HO' := Lib.hid (HN.out rfl)
    go_wp2
    refine ⟨⟨k + 1, by omega, by simp, HO'⟩, ?_⟩
    simp [intOf]; omega
  ·have HZ : Hid (R = -1) := Lib.hid (HD.out (fun j hj => HO.out j hj (by omega)))
   go_wp2
   go_ret
   exact ⟨ret_int HZ.out.symm, hB0⟩
end Go.Proofs.YtffkakpbelknaaaGreatDoor
