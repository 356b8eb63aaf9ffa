/- Joined: W9m, W9n, W9o, W9p. -/
import Derived.Laws.Externs
import Derived.Lib.Bytealg
import Derived.Test.YtfgdbpjmjeaolaaH11
import Derived.Test.YtfgdbpjmjeaolaaH12
import Derived.Test.YtfgdbpjmjeaolaaH14
/- W9m -/
namespace Go.Proofs.Ytfgdbpjmjeaolaa
open Go.ChangeShapes Go.WideShapes Go.ChangeAt Go.RowKit
set_option linter.unusedVariables false

def cmpB (a b : ByteArray) : Int := Lib.compareBytes a.data.toList b.data.toList
theorem cmpB_bd (a b : ByteArray) : -1 ≤ cmpB a b ∧ cmpB a b ≤ 1 := by
  unfold cmpB
  generalize a.data.toList = x
  generalize b.data.toList = y
  induction x generalizing y with
  | nil => cases y <;> simp [Lib.compareBytes]
  | cons p x ih =>
    cases y with
    | nil => simp [Lib.compareBytes]
    | cons q y =>
      unfold Lib.compareBytes
      split
      · simp
      · split
        · simp
        · exact ih y
theorem cmp_less (x y : List UInt8) : (Lib.compareBytes x y < 0) ↔ Op.bytesLess x y = true := by
  induction x generalizing y with
  | nil => cases y <;> simp [Lib.compareBytes, Op.bytesLess]
  | cons p x ih =>
    cases y with
    | nil => simp [Lib.compareBytes, Op.bytesLess]
    | cons q y =>
      unfold Lib.compareBytes Op.bytesLess
      by_cases h1 : p < q
      · simp [h1]
      · by_cases h2 : q < p
        · have : p ≠ q := fun h => by subst h; exact h1 h2
          simp [h1, h2, this]
        · have : p = q := UInt8.le_antisymm (UInt8.not_lt.1 h2) (UInt8.not_lt.1 h1)
          subst this
          simp [h1, ih]
theorem cmp_eq0 (x y : List UInt8) : (Lib.compareBytes x y = 0) ↔ x = y := by
  induction x generalizing y with
  | nil => cases y <;> simp [Lib.compareBytes]
  | cons p x ih =>
    cases y with
    | nil => simp [Lib.compareBytes]
    | cons q y =>
      unfold Lib.compareBytes
      by_cases h1 : p < q
      · have : p ≠ q := fun h => by subst h; exact UInt8.lt_irrefl _ h1
        simp [h1, this]
      · by_cases h2 : q < p
        · have : p ≠ q := fun h => by subst h; exact h1 h2
          simp [h1, h2, this]
        · have : p = q := UInt8.le_antisymm (UInt8.not_lt.1 h2) (UInt8.not_lt.1 h1)
          subst this
          simp [h1, ih]

set_option maxHeartbeats 1000000 in
set_option maxRecDepth 100000 in
theorem compareString_any (a b : ByteArray) (w : World) :
    Calls Try.prog 181 #[.string a, .string b] w fun e w' => e = .returned (.int .i64 (cmpB a b)) ∧ w = w' := by
  unfold cmpB
  go_enter Try.func181, Try.ntmps181
  go_wp2
  rw [run_callFunc_extern Try.func200 (by kernel_rfl) (by kernel_rfl) (by kernel_rfl) (e := Extern.BytealgCompare.compare) (by kernel_rfl), Lib.run_compareString]
  simp only [Result.andThen]
  rw [Oper.upon_value]
  go_wp2
  go_ret
  exact ⟨rfl, rfl⟩

set_option maxHeartbeats 1000000 in
theorem compare_any (a b : ByteArray) (w : World) :
    Calls Try.prog 147 #[.string a, .string b] w fun e w' => e = .returned (.int .i64 (cmpB a b)) ∧ w = w' := by
  have HC := Lib.hid (fun w => compareString_any a b w)
  generalize cmpB a b = c at HC ⊢
  go_enter Try.func147, Try.ntmps147
  go_wp2_with fail
  refine (HC.out _).mono ?_
  rintro e w1 ⟨rfl, rfl⟩
  go_wp2
  go_ret
  exact ⟨rfl, rfl⟩

set_option maxHeartbeats 1000000 in
set_option maxRecDepth 100000 in
theorem placeS1_any (u t x : ByteArray) (y : Value) (w : World) :
    Calls Try.prog 173 #[sbV u t y, .string x] w fun e w' => e = .returned (.int .i64 (cmpB u x)) ∧ Below w.heap.size w w' := by
  have HC := Lib.hid (fun w => compare_any u x w)
  have HK := Lib.hid (fun w => keyS_any u t y w)
  generalize cmpB u x = c at HC ⊢
  have hM := fun v w => Try.methodS v w
  have hb0 : Below w.heap.size w (w.alloc (.cells #[.string u, .string t, y] 105)) := (Below.refl _ _).alloc (Nat.le_refl _) _
  go_enter Try.func173, Try.ntmps173
  go_wp2_with fail
  refine (HK.out _).mono ?_
  rintro e w1 ⟨rfl, hb1⟩
  have hb2 := hb0.trans (hb1.mono hb0.size)
  clear hb0 hb1 hM
  go_wp2_with fail
  refine (HC.out _).mono ?_
  rintro e w2 ⟨rfl, rfl⟩
  go_wp2
  go_ret
  exact ⟨rfl, hb2⟩

set_option maxHeartbeats 1000000 in
set_option maxRecDepth 100000 in
theorem placeE1_any (s t x : ByteArray) (d : Int) (r b : Bool) (w : World) :
    Calls Try.prog 196 #[enV s t d r b, .string x] w fun e w' => e = .returned (.int .i64 (cmpB s x)) ∧ Below w.heap.size w w' := by
  have HC := Lib.hid (fun w => compare_any s x w)
  have HK := Lib.hid (fun w => keyE_any s t d r b w)
  generalize cmpB s x = c at HC ⊢
  have hM := fun v w => Try.methodE v w
  have hb0 : Below w.heap.size w (w.alloc (.cells #[.string s, .string t, .int .i64 d, .bool r, .bool b] 109)) := (Below.refl _ _).alloc (Nat.le_refl _) _
  go_enter Try.func196, Try.ntmps196
  go_wp2_with fail
  refine (HK.out _).mono ?_
  rintro e w1 ⟨rfl, hb1⟩
  have hb2 := hb0.trans (hb1.mono hb0.size)
  clear hb0 hb1 hM
  go_wp2_with fail
  refine (HC.out _).mono ?_
  rintro e w2 ⟨rfl, rfl⟩
  go_wp2
  go_ret
  exact ⟨rfl, hb2⟩
end Go.Proofs.Ytfgdbpjmjeaolaa

/- W9n -/
namespace Go.Proofs.Ytfgdbpjmjeaolaa
open Go.ChangeShapes Go.WideShapes Go.ChangeAt Go.RowKit
set_option linter.unusedVariables false

/-- Keys below x stand first. -/
def MonoK (ks : List ByteArray) (x : ByteArray) : Prop := ∀ a b (hb : b < ks.length) (hab : a ≤ b), cmpB ks[b] x < 0 → cmpB (ks[a]'(by omega)) x < 0
def plK (ks : List ByteArray) (x : ByteArray) : Nat := ks.findIdx (fun k => !decide (cmpB k x < 0))
def fnB (ks : List ByteArray) (x : ByteArray) : Bool := match ks[plK ks x]? with
  | some k => (cmpB k x == 0)
  | none => false
def LoK (ks : List ByteArray) (x : ByteArray) (p : Nat) : Prop := ∀ t (ht : t < ks.length), t < p → cmpB ks[t] x < 0
def HiK (ks : List ByteArray) (x : ByteArray) (q : Nat) : Prop := ∀ t (ht : t < ks.length), q ≤ t → ¬ cmpB ks[t] x < 0
theorem plK_of (ks : List ByteArray) (x : ByteArray) (i : Nat) (h0 : i ≤ ks.length) (h1 : ∀ t (ht : t < ks.length), t < i → cmpB ks[t] x < 0) (h2 : ∀ t (ht : t < ks.length), i ≤ t → ¬ cmpB ks[t] x < 0) : plK ks x = i := by
  unfold plK
  by_cases hi : i < ks.length
  · rw [List.findIdx_eq hi]
    exact ⟨by simpa using h2 i hi (Nat.le_refl _), fun j hj => by simpa using h1 j (by omega) hj⟩
  · have : i = ks.length := by omega
    subst this
    rw [List.findIdx_eq_length]
    intro k hk
    obtain ⟨t, ht, rfl⟩ := List.getElem_of_mem hk
    simpa using h1 t ht ht
theorem plK_le (ks : List ByteArray) (x : ByteArray) : plK ks x ≤ ks.length := List.findIdx_le_length
theorem ret_twoK {n : Nat} {p : Int} {a b : Bool} (h1 : (n : Int) = p) (h2 : a = b) : Ending.returned (.tuple #[.int .i64 p, .bool b]) = .returned (.tuple #[.int .i64 (n : Int), .bool a]) := by rw [h1, h2]

set_option maxRecDepth 100000 in
set_option maxHeartbeats 1600000 in
theorem searchS_any (v : Value) (ss : List Sb) (x : ByteArray) (w : World) (h : SbAt w w.heap.size v ss) (hn : ss.length ≤ 1000000000) (hmo : MonoK (sbKs ss) x) :
    Calls Try.prog 172 #[v, .string x, .func (.func 173) #[] #[]] w fun e w' => e = .returned (.tuple #[.int .i64 (plK (sbKs ss) x : Nat), .bool (fnB (sbKs ss) x)]) ∧ Below w.heap.size w w' := by
  have HI := Lib.hid h
  obtain ⟨a, cap, rfl, hl, hm, hc⟩ := h.raw
  clear hc h
  have HM := Lib.hid hmo
  clear hmo
  unfold maxLen at hm
  have HL : Hid ((sbKs ss).length = ss.length) := Lib.hid (by simp [sbKs])
  go_enter Try.func172, Try.ntmps172
  go_wp2
  go_loopw [9, 10] (fun i j wr => ∃ p q : Nat, p ≤ q ∧ q ≤ ss.length ∧ i = .int .i64 (p : Int) ∧ j = .int .i64 (q : Int) ∧ Below w.heap.size w wr ∧ Hid (LoK (sbKs ss) x (p) ∧ HiK (sbKs ss) x (q))) (fun i j _ => (intOf j).toNat - (intOf i).toNat)
  case atStart => exact ⟨0, ss.length, Nat.zero_le _, Nat.le_refl _, rfl, rfl, Below.refl _ _, Lib.hid ⟨fun t ht h => by omega, fun t ht h => by have := HL.out; omega⟩⟩
  case round =>
    obtain ⟨p, q, hpq, hq, rfl, rfl, hB, HO⟩ := hrel
    by_cases hlt : p < q
    · obtain ⟨m, hmE⟩ : ∃ m : Nat, ((p : Int) + (q : Int)) / 2 = (m : Int) := ⟨(p + q) / 2, by omega⟩
      have hpm : p ≤ m := by omega
      have hmq : m < q := by omega
      have hml : m < ss.length := by omega
      obtain ⟨a', cap', hv, _, _, hc⟩ := (HI.out.below hB).raw
      cases hv
      obtain ⟨b, off, rfl, hb, hr⟩ := hc m hml
      obtain ⟨S2, c0, c1, c2, _, _, _⟩ := hr m hml
      have HK : Hid ((sbKs ss)[m]'(by simpa [sbKs] using hml) = ss[m].u) := Lib.hid (by simp [sbKs])
      obtain ⟨S0, hS0⟩ : ∃ z, z = ss[m].u := ⟨_, rfl⟩
      rw [← hS0] at c0 HK
      obtain ⟨S1, hS1⟩ : ∃ z, z = ss[m].t := ⟨_, rfl⟩
      rw [← hS1] at c1
      clear hr hc hS0 hS1
      have HC := Lib.hid (fun w => placeS1_any S0 S1 x S2 w)
      have hcb := cmpB_bd S0 x
      have HU : Hid (cmpB S0 x < 0 → LoK (sbKs ss) x (m + 1)) := Lib.hid (fun h t ht htm => HM.out t m (by rw [HL.out]; exact hml) (by omega) (by rw [HK.out]; exact h))
      have HV : Hid (0 ≤ cmpB S0 x → HiK (sbKs ss) x (m)) := Lib.hid (fun h t ht htm h2 => by have := HM.out m t ht htm h2; rw [HK.out] at this; omega)
      generalize cmpB S0 x = c at HC hcb HU HV
      go_wp2_with fail
      refine (HC.out _).mono ?_
      rintro e w1 ⟨rfl, hb1⟩
      have hB1 := hB.trans (hb1.mono hB.size)
      clear hb1 hB c0 c1 c2
      by_cases hc0 : c < 0
      · have HO' : Hid (LoK (sbKs ss) x (m + 1) ∧ HiK (sbKs ss) x (q)) := Lib.hid ⟨HU.out hc0, HO.out.2⟩
        go_wp2
        go_roundw
        case rel => exact ⟨m + 1, q, by omega, by omega, by go_num, rfl, hB1, HO'⟩
        case measure => simp [intOf]; omega
      · have HO' : Hid (LoK (sbKs ss) x (p) ∧ HiK (sbKs ss) x (m)) := Lib.hid ⟨HO.out.1, HV.out (by omega)⟩
        go_wp2
        go_roundw
        case rel => exact ⟨p, m, by omega, by omega, rfl, rfl, hB1, HO'⟩
        case measure => simp [intOf]; omega
    · have HP : Hid (plK (sbKs ss) x = p) := Lib.hid (plK_of _ _ _ (by have := HL.out; omega) HO.out.1 (fun t ht h => HO.out.2 t ht (by omega)))
      by_cases hpl : p < ss.length
      · have hpd : decide ((p : Int) < (ss.length : Int)) = true := decide_eq_true (by omega)
        obtain ⟨a', cap', hv, _, _, hc⟩ := (HI.out.below hB).raw
        cases hv
        obtain ⟨b, off, rfl, hb, hr⟩ := hc p hpl
        obtain ⟨S2, c0, c1, c2, _, _, _⟩ := hr p hpl
        have HK : Hid ((sbKs ss)[p]'(by simpa [sbKs] using hpl) = ss[p].u) := Lib.hid (by simp [sbKs])
        obtain ⟨S0, hS0⟩ : ∃ z, z = ss[p].u := ⟨_, rfl⟩
        rw [← hS0] at c0 HK
        obtain ⟨S1, hS1⟩ : ∃ z, z = ss[p].t := ⟨_, rfl⟩
        rw [← hS1] at c1
        clear hr hc hS0 hS1
        have HC := Lib.hid (fun w => placeS1_any S0 S1 x S2 w)
        have HF : Hid (fnB (sbKs ss) x = (cmpB S0 x == 0)) := Lib.hid (by unfold fnB; rw [HP.out, List.getElem?_eq_getElem (by rw [HL.out]; exact hpl), HK.out])
        generalize cmpB S0 x = c at HC HF
        go_wp2_with fail
        refine (HC.out _).mono ?_
        rintro e w1 ⟨rfl, hb1⟩
        have hB1 := hB.trans (hb1.mono hB.size)
        clear hb1 hB c0 c1 c2
        obtain ⟨d, hd⟩ : ∃ d, (c == 0) = d := ⟨_, rfl⟩
        rw [hd] at HF
        go_wp2
        go_ret2
        exact ⟨ret_twoK (by rw [HP.out]) HF.out, hB1⟩
      · have hpd : decide ((p : Int) < (ss.length : Int)) = false := decide_eq_false (by omega)
        have HF : Hid (fnB (sbKs ss) x = false) := Lib.hid (by unfold fnB; rw [HP.out, List.getElem?_eq_none (by have := HL.out; omega)])
        go_wp2
        go_ret2
        exact ⟨ret_twoK (by rw [HP.out]) HF.out, hB⟩

set_option maxRecDepth 100000 in
set_option maxHeartbeats 1600000 in
theorem placeOfS_any (v : Value) (ss : List Sb) (x : ByteArray) (w : World) (h : SbAt w w.heap.size v ss) (hn : ss.length ≤ 1000000000) (hmo : MonoK (sbKs ss) x) :
    Calls Try.prog 124 #[v, .string x] w fun e w' => e = .returned (.tuple #[.int .i64 (plK (sbKs ss) x : Nat), .bool (fnB (sbKs ss) x)]) ∧ Below w.heap.size w w' := by
  have HC := Lib.hid (searchS_any v ss x w h hn hmo)
  generalize plK (sbKs ss) x = p at HC ⊢
  generalize fnB (sbKs ss) x = f at HC ⊢
  clear hmo h
  go_enter Try.func124, Try.ntmps124
  go_wp2_with fail
  refine HC.out.mono ?_
  rintro e w1 ⟨rfl, hb1⟩
  go_wp2
  go_ret2
  exact ⟨rfl, hb1⟩

set_option maxRecDepth 100000 in
set_option maxHeartbeats 1600000 in
theorem searchE_any (v : Value) (es : List En) (x : ByteArray) (w : World) (h : EnAt w w.heap.size v es) (hn : es.length ≤ 1000000000) (hmo : MonoK (enKs es) x) :
    Calls Try.prog 195 #[v, .string x, .func (.func 196) #[] #[]] w fun e w' => e = .returned (.tuple #[.int .i64 (plK (enKs es) x : Nat), .bool (fnB (enKs es) x)]) ∧ Below w.heap.size w w' := by
  have HI := Lib.hid h
  obtain ⟨a, cap, rfl, hl, hm, hc⟩ := h.raw
  clear hc h
  have HM := Lib.hid hmo
  clear hmo
  unfold maxLen at hm
  have HL : Hid ((enKs es).length = es.length) := Lib.hid (by simp [enKs])
  go_enter Try.func195, Try.ntmps195
  go_wp2
  go_loopw [9, 10] (fun i j wr => ∃ p q : Nat, p ≤ q ∧ q ≤ es.length ∧ i = .int .i64 (p : Int) ∧ j = .int .i64 (q : Int) ∧ Below w.heap.size w wr ∧ Hid (LoK (enKs es) x (p) ∧ HiK (enKs es) x (q))) (fun i j _ => (intOf j).toNat - (intOf i).toNat)
  case atStart => exact ⟨0, es.length, Nat.zero_le _, Nat.le_refl _, rfl, rfl, Below.refl _ _, Lib.hid ⟨fun t ht h => by omega, fun t ht h => by have := HL.out; omega⟩⟩
  case round =>
    obtain ⟨p, q, hpq, hq, rfl, rfl, hB, HO⟩ := hrel
    by_cases hlt : p < q
    · obtain ⟨m, hmE⟩ : ∃ m : Nat, ((p : Int) + (q : Int)) / 2 = (m : Int) := ⟨(p + q) / 2, by omega⟩
      have hpm : p ≤ m := by omega
      have hmq : m < q := by omega
      have hml : m < es.length := by omega
      obtain ⟨a', cap', hv, _, _, hc⟩ := (HI.out.below hB).raw
      cases hv
      obtain ⟨b, off, rfl, hb, hr⟩ := hc m hml
      obtain ⟨c0, c1, c2, c3, c4, _, _⟩ := hr m hml
      have HK : Hid ((enKs es)[m]'(by simpa [enKs] using hml) = es[m].it.id) := Lib.hid (by simp [enKs])
      obtain ⟨S0, hS0⟩ : ∃ z, z = es[m].it.id := ⟨_, rfl⟩
      rw [← hS0] at c0 HK
      obtain ⟨S1, hS1⟩ : ∃ z, z = es[m].it.ti := ⟨_, rfl⟩
      rw [← hS1] at c1
      obtain ⟨S2, hS2⟩ : ∃ z, z = es[m].it.da := ⟨_, rfl⟩
      rw [← hS2] at c2
      obtain ⟨S3, hS3⟩ : ∃ z, z = es[m].rd := ⟨_, rfl⟩
      rw [← hS3] at c3
      obtain ⟨S4, hS4⟩ : ∃ z, z = es[m].st := ⟨_, rfl⟩
      rw [← hS4] at c4
      clear hr hc hS0 hS1 hS2 hS3 hS4
      have HC := Lib.hid (fun w => placeE1_any S0 S1 x S2 S3 S4 w)
      have hcb := cmpB_bd S0 x
      have HU : Hid (cmpB S0 x < 0 → LoK (enKs es) x (m + 1)) := Lib.hid (fun h t ht htm => HM.out t m (by rw [HL.out]; exact hml) (by omega) (by rw [HK.out]; exact h))
      have HV : Hid (0 ≤ cmpB S0 x → HiK (enKs es) x (m)) := Lib.hid (fun h t ht htm h2 => by have := HM.out m t ht htm h2; rw [HK.out] at this; omega)
      generalize cmpB S0 x = c at HC hcb HU HV
      go_wp2_with fail
      refine (HC.out _).mono ?_
      rintro e w1 ⟨rfl, hb1⟩
      have hB1 := hB.trans (hb1.mono hB.size)
      clear hb1 hB c0 c1 c2 c3 c4
      by_cases hc0 : c < 0
      · have HO' : Hid (LoK (enKs es) x (m + 1) ∧ HiK (enKs es) x (q)) := Lib.hid ⟨HU.out hc0, HO.out.2⟩
        go_wp2
        go_roundw
        case rel => exact ⟨m + 1, q, by omega, by omega, by go_num, rfl, hB1, HO'⟩
        case measure => simp [intOf]; omega
      · have HO' : Hid (LoK (enKs es) x (p) ∧ HiK (enKs es) x (m)) := Lib.hid ⟨HO.out.1, HV.out (by omega)⟩
        go_wp2
        go_roundw
        case rel => exact ⟨p, m, by omega, by omega, rfl, rfl, hB1, HO'⟩
        case measure => simp [intOf]; omega
    · have HP : Hid (plK (enKs es) x = p) := Lib.hid (plK_of _ _ _ (by have := HL.out; omega) HO.out.1 (fun t ht h => HO.out.2 t ht (by omega)))
      by_cases hpl : p < es.length
      · have hpd : decide ((p : Int) < (es.length : Int)) = true := decide_eq_true (by omega)
        obtain ⟨a', cap', hv, _, _, hc⟩ := (HI.out.below hB).raw
        cases hv
        obtain ⟨b, off, rfl, hb, hr⟩ := hc p hpl
        obtain ⟨c0, c1, c2, c3, c4, _, _⟩ := hr p hpl
        have HK : Hid ((enKs es)[p]'(by simpa [enKs] using hpl) = es[p].it.id) := Lib.hid (by simp [enKs])
        obtain ⟨S0, hS0⟩ : ∃ z, z = es[p].it.id := ⟨_, rfl⟩
        rw [← hS0] at c0 HK
        obtain ⟨S1, hS1⟩ : ∃ z, z = es[p].it.ti := ⟨_, rfl⟩
        rw [← hS1] at c1
        obtain ⟨S2, hS2⟩ : ∃ z, z = es[p].it.da := ⟨_, rfl⟩
        rw [← hS2] at c2
        obtain ⟨S3, hS3⟩ : ∃ z, z = es[p].rd := ⟨_, rfl⟩
        rw [← hS3] at c3
        obtain ⟨S4, hS4⟩ : ∃ z, z = es[p].st := ⟨_, rfl⟩
        rw [← hS4] at c4
        clear hr hc hS0 hS1 hS2 hS3 hS4
        have HC := Lib.hid (fun w => placeE1_any S0 S1 x S2 S3 S4 w)
        have HF : Hid (fnB (enKs es) x = (cmpB S0 x == 0)) := Lib.hid (by unfold fnB; rw [HP.out, List.getElem?_eq_getElem (by rw [HL.out]; exact hpl), HK.out])
        generalize cmpB S0 x = c at HC HF
        go_wp2_with fail
        refine (HC.out _).mono ?_
        rintro e w1 ⟨rfl, hb1⟩
        have hB1 := hB.trans (hb1.mono hB.size)
        clear hb1 hB c0 c1 c2 c3 c4
        obtain ⟨d, hd⟩ : ∃ d, (c == 0) = d := ⟨_, rfl⟩
        rw [hd] at HF
        go_wp2
        go_ret2
        exact ⟨ret_twoK (by rw [HP.out]) HF.out, hB1⟩
      · have hpd : decide ((p : Int) < (es.length : Int)) = false := decide_eq_false (by omega)
        have HF : Hid (fnB (enKs es) x = false) := Lib.hid (by unfold fnB; rw [HP.out, List.getElem?_eq_none (by have := HL.out; omega)])
        go_wp2
        go_ret2
        exact ⟨ret_twoK (by rw [HP.out]) HF.out, hB⟩

set_option maxRecDepth 100000 in
set_option maxHeartbeats 1600000 in
theorem placeOfE_any (v : Value) (es : List En) (x : ByteArray) (w : World) (h : EnAt w w.heap.size v es) (hn : es.length ≤ 1000000000) (hmo : MonoK (enKs es) x) :
    Calls Try.prog 176 #[v, .string x] w fun e w' => e = .returned (.tuple #[.int .i64 (plK (enKs es) x : Nat), .bool (fnB (enKs es) x)]) ∧ Below w.heap.size w w' := by
  have HC := Lib.hid (searchE_any v es x w h hn hmo)
  generalize plK (enKs es) x = p at HC ⊢
  generalize fnB (enKs es) x = f at HC ⊢
  clear hmo h
  go_enter Try.func176, Try.ntmps176
  go_wp2_with fail
  refine HC.out.mono ?_
  rintro e w1 ⟨rfl, hb1⟩
  go_wp2
  go_ret2
  exact ⟨rfl, hb1⟩

end Go.Proofs.Ytfgdbpjmjeaolaa

/- W9o -/
namespace Go.Proofs.Ytfgdbpjmjeaolaa
open Go.ChangeShapes Go.WideShapes Go.ChangeAt Go.RowKit
set_option linter.unusedVariables false

theorem less_irrefl (x : List UInt8) : Op.bytesLess x x = false := by
  induction x with
  | nil => rfl
  | cons a x ih => unfold Op.bytesLess; simp [ih]
theorem less_trans (x y z : List UInt8) (h1 : Op.bytesLess x y = true) (h2 : Op.bytesLess y z = true) : Op.bytesLess x z = true := by
  induction x generalizing y z with
  | nil =>
    cases z with
    | nil => cases y <;> simp [Op.bytesLess] at h2
    | cons c z => rfl
  | cons a x ih =>
    cases y with
    | nil => simp [Op.bytesLess] at h1
    | cons b y =>
      cases z with
      | nil => simp [Op.bytesLess] at h2
      | cons c z =>
        unfold Op.bytesLess at h1 h2 ⊢
        simp only [Bool.or_eq_true, Bool.and_eq_true, decide_eq_true_eq, beq_iff_eq] at h1 h2 ⊢
        rcases h1 with h1 | ⟨rfl, h1⟩
        · rcases h2 with h2 | ⟨rfl, h2⟩
          · exact .inl (UInt8.lt_trans h1 h2)
          · exact .inl h1
        · rcases h2 with h2 | ⟨rfl, h2⟩
          · exact .inl h2
          · exact .inr ⟨rfl, ih y z h1 h2⟩
def ltK (a b : ByteArray) : Bool := Op.bytesLess a.toList b.toList
theorem ltK_cmp (a b : ByteArray) : ltK a b = decide (cmpB a b < 0) := by
  unfold ltK cmpB
  rw [ByteArray.toList_eq, ByteArray.toList_eq, Bool.eq_iff_iff, decide_eq_true_eq, cmp_less]
theorem ltK_trans {a b c : ByteArray} (h1 : ltK a b = true) (h2 : ltK b c = true) : ltK a c = true := less_trans _ _ _ h1 h2
theorem ltK_irrefl (a : ByteArray) : ltK a a = false := less_irrefl _
theorem cmpB_zero (a b : ByteArray) : cmpB a b = 0 ↔ a = b := by
  unfold cmpB
  rw [cmp_eq0]
  constructor
  · intro h; cases a; cases b; simp_all
  · rintro rfl; rfl
theorem ris_next {ks : List ByteArray} (h : risB ks = true) (q : Nat) (hq : q + 1 < ks.length) : ltK ks[q] ks[q + 1] = true := by
  have h1 := allB_at h (q + 1) hq
  have h2 := ordK_at (fun k : ByteArray => k) ks q hq
  rw [List.map_id'] at h2
  rw [h2] at h1
  exact h1
theorem ris_lt {ks : List ByteArray} (h : risB ks = true) (i : Nat) : ∀ j (hj : j < ks.length) (hij : i < j), ltK (ks[i]'(by omega)) ks[j] = true := by
  intro j
  induction j with
  | zero => intro hj hij; omega
  | succ q ih =>
    intro hj hij
    by_cases hiq : i = q
    · subst hiq; exact ris_next h i hj
    · exact ltK_trans (ih (by omega) (by omega)) (ris_next h q hj)
theorem ris_mono {ks : List ByteArray} (h : risB ks = true) (x : ByteArray) : MonoK ks x := by
  intro a b hb hab hc
  by_cases heq : a = b
  · subst heq; exact hc
  · have h1 := ris_lt h a b hb (by omega)
    have h2 : ltK ks[b] x = true := by rw [ltK_cmp]; exact decide_eq_true hc
    have h3 := ltK_trans h1 h2
    rw [ltK_cmp] at h3
    exact of_decide_eq_true h3
theorem plK_lo (ks : List ByteArray) (x : ByteArray) (t : Nat) (ht : t < plK ks x) : cmpB (ks[t]'(by have := plK_le ks x; omega)) x < 0 := by
  have := List.not_of_lt_findIdx ht
  simpa using this
theorem plK_hi {ks : List ByteArray} {x : ByteArray} (h : plK ks x < ks.length) : ¬ cmpB ks[plK ks x] x < 0 := by
  have h1 := List.findIdx_getElem (w := h)
  simp at h1
  exact Int.not_lt.2 h1
/-- The place of the first key that is x. -/
def ixK (ks : List ByteArray) (x : ByteArray) : Option Nat := ks.findIdx? (fun k => (k.toList == x.toList))
theorem ix_pl {ks : List ByteArray} (hr : risB ks = true) (x : ByteArray) : ixK ks x = if fnB ks x then some (plK ks x) else none := by
  unfold fnB
  by_cases hp : plK ks x < ks.length
  · rw [List.getElem?_eq_getElem hp]
    by_cases hc : cmpB ks[plK ks x] x = 0
    · have e : ks[plK ks x] = x := (cmpB_zero _ _).1 hc
      rw [if_pos (by simpa using hc)]
      unfold ixK
      rw [List.findIdx?_eq_some_iff_getElem]
      refine ⟨hp, by rw [e]; simp, fun j hj => ?_⟩
      have h1 := plK_lo ks x j hj
      rw [str_eq]
      simp only [decide_eq_true_eq]
      intro h2
      rw [h2] at h1
      have : cmpB x x = 0 := (cmpB_zero x x).2 rfl
      omega
    · rw [if_neg (by simpa using hc)]
      unfold ixK
      rw [List.findIdx?_eq_none_iff]
      intro k hk
      obtain ⟨i, hi, rfl⟩ := List.getElem_of_mem hk
      rw [str_eq, decide_eq_false_iff_not]
      intro h2
      have h0 : cmpB ks[i] x = 0 := (cmpB_zero _ _).2 h2
      rcases Nat.lt_trichotomy i (plK ks x) with h | h | h
      · have := plK_lo ks x i h; omega
      · subst h; exact hc h0
      · have h3 := ris_lt hr (plK ks x) i hi h
        rw [h2, ltK_cmp] at h3
        exact plK_hi hp (of_decide_eq_true h3)
  · rw [List.getElem?_eq_none (by omega)]
    rw [if_neg (by simp)]
    unfold ixK
    rw [List.findIdx?_eq_none_iff]
    intro k hk
    obtain ⟨i, hi, rfl⟩ := List.getElem_of_mem hk
    rw [str_eq, decide_eq_false_iff_not]
    intro h2
    have h0 : cmpB ks[i] x = 0 := (cmpB_zero _ _).2 h2
    have := plK_lo ks x i (by omega)
    omega
/-- How many of a feed's entries there are, are not read, have a star. -/
def unN (es : List En) : Nat := es.countP (fun x => !x.rd)
def stN (es : List En) : Nat := es.countP (fun x => x.st)
def ctV (ss : List Sb) (x : ByteArray) : Nat × Nat × Nat := if rdB ss then (match ixK (sbKs ss) x with
  | some i => (match ss[i]? with | some s => (s.es.length, unN s.es, stN s.es) | none => (0, 0, 0))
  | none => (0, 0, 0)) else (0, 0, 0)
theorem cnt_take (p : En → Bool) (es : List En) (k : Nat) (h : k < es.length) : (es.take (k + 1)).countP p = (es.take k).countP p + (if p es[k] then 1 else 0) := by
  rw [List.take_succ_eq_append_getElem h, List.countP_append, List.countP_singleton]
theorem cnt_le (p : En → Bool) (es : List En) (k : Nat) : (es.take k).countP p ≤ k := Nat.le_trans List.countP_le_length (by rw [List.length_take]; omega)
end Go.Proofs.Ytfgdbpjmjeaolaa

/- W9p -/
namespace Go.Proofs.Ytfgdbpjmjeaolaa
open Go.ChangeShapes Go.WideShapes Go.ChangeAt Go.RowKit
set_option linter.unusedVariables false

def c3V (x : Nat × Nat × Nat) : Value := .tuple #[.int .i64 (x.1 : Int), .int .i64 (x.2.1 : Int), .int .i64 (x.2.2 : Int)]
theorem ret_c3 {x : Nat × Nat × Nat} {a b c : Int} (h1 : (x.1 : Int) = a) (h2 : (x.2.1 : Int) = b) (h3 : (x.2.2 : Int) = c) : Ending.returned (.tuple #[.int .i64 a, .int .i64 b, .int .i64 c]) = .returned (c3V x) := by
  unfold c3V; rw [h1, h2, h3]
theorem rdB_parts {ss : List Sb} (h : rdB ss = true) : ss.length ≤ 6 ∧ risB (sbKs ss) = true := by
  unfold rdB at h
  simp only [Bool.and_eq_true, decide_eq_true_eq] at h
  exact ⟨h.1, h.2.2⟩
/-- What l9At answers. -/
def atK (ks : List ByteArray) (x : ByteArray) : Int := match ixK ks x with
  | some i => (i : Int)
  | none => -1

set_option maxRecDepth 100000 in
set_option maxHeartbeats 1600000 in
theorem l9At_any (v : Value) (ss : List Sb) (x : ByteArray) (w : World) (h : SbAt w w.heap.size v ss) :
    Calls Try.prog 158 #[.agg #[v], .string x] w fun e w' => e = .returned (.int .i64 (atK (sbKs ss) x)) ∧ Below w.heap.size w w' := by
  have HI := Lib.hid h
  obtain ⟨a, cap, rfl, hl, hm, hc⟩ := h.raw
  clear hc h
  unfold maxLen at hm
  have HL : Hid ((sbKs ss).length = ss.length) := Lib.hid (by simp [sbKs])
  have HX : Hid (∀ k (hk : k < ss.length), (ss[k].u.toList == x.toList) = true → (∀ j (hj : j < ss.length), j < k → (ss[j].u.toList == x.toList) = false) → atK (sbKs ss) x = (k : Int)) := Lib.hid (fun k hk h1 h2 => by
    have : ixK (sbKs ss) x = some k := by
      unfold ixK
      rw [List.findIdx?_eq_some_iff_getElem]
      refine ⟨by rw [HL.out]; exact hk, by simpa [sbKs] using h1, fun j hj => ?_⟩
      have := h2 j (by omega) hj
      simpa [sbKs] using this
    unfold atK
    rw [this])
  have HD : Hid ((∀ j (hj : j < ss.length), (ss[j].u.toList == x.toList) = false) → atK (sbKs ss) x = -1) := Lib.hid (fun h2 => by
    have : ixK (sbKs ss) x = none := by
      unfold ixK
      rw [List.findIdx?_eq_none_iff]
      intro k hk
      obtain ⟨s, hs, rfl⟩ := List.mem_map.1 hk
      obtain ⟨j, hj, rfl⟩ := List.getElem_of_mem hs
      exact h2 j hj
    unfold atK
    rw [this])
  generalize atK (sbKs ss) x = R at HX HD ⊢
  have hB0 : Below w.heap.size w (w.alloc (.cells #[.slice a ss.length cap] 26)) := (Below.refl _ _).alloc (Nat.le_refl _) _
  have f0 : (w.alloc (.cells #[.slice a ss.length cap] 26)).cell? ⟨w.heap.size, 0, none⟩ = some (.slice a ss.length cap) := (Box.new w #[.slice a ss.length cap] 26).cell 0 _ rfl
  have HI2 := Lib.hid (HI.out.below hB0)
  go_enter Try.func158, Try.ntmps158
  go_wp2
  generalize w.alloc (.cells #[.slice a ss.length cap] 26) = W at hB0 f0 HI2 ⊢
  go_loop [5] (fun i => ∃ k : Nat, k ≤ ss.length ∧ i = .int .i64 (k : Int) ∧ Hid (∀ j (hj : j < ss.length), j < k → (ss[j].u.toList == x.toList) = false)) (fun i => ss.length - (intOf i).toNat)
  case atStart => exact ⟨0, Nat.zero_le _, rfl, Lib.hid (fun j hj h => by omega)⟩
  case round =>
    obtain ⟨k, hk, rfl, HO⟩ := hrel
    by_cases hlt : k < ss.length
    · obtain ⟨a', cap', hv, _, _, hc⟩ := HI2.out.raw
      cases hv
      obtain ⟨b, off, rfl, hb, hr⟩ := hc k hlt
      obtain ⟨y, c0, c1, c2, _, _, _⟩ := hr k hlt
      have HK := Lib.hid (HX.out k hlt)
      have HN : Hid ((ss[k].u.toList == x.toList) = false → ∀ j (hj : j < ss.length), j < k + 1 → (ss[j].u.toList == x.toList) = false) := Lib.hid (fun h j hj hjk => by
        by_cases e : j = k
        · subst e; exact h
        · exact HO.out j hj (by omega))
      obtain ⟨U, hU⟩ : ∃ U, U = ss[k].u := ⟨_, rfl⟩
      rw [← hU] at c0 HK HN
      clear hr hc hU
      obtain ⟨e, he⟩ : ∃ e, (U.toList == x.toList) = e := ⟨_, rfl⟩
      rw [he] at HK HN
      cases e with
      | true =>
        have HZ : Hid (R = (k : Int)) := Lib.hid (HK.out rfl HO.out)
        go_wp2
        go_ret
        exact ⟨ret_int HZ.out.symm, hB0⟩
      | false =>
        have HO' := Lib.hid (HN.out rfl)
        go_wp2
        refine ⟨⟨k + 1, by omega, by simp, HO'⟩, ?_⟩
        simp [intOf]; omega
    · have HZ : Hid (R = -1) := Lib.hid (HD.out (fun j hj => HO.out j hj (by omega)))
      go_wp2
      go_ret
      exact ⟨ret_int HZ.out.symm, hB0⟩

end Go.Proofs.Ytfgdbpjmjeaolaa
