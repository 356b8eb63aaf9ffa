/- Joined: W9n. -/
import Derived.Test.YtffkakpbelknaaaS17
/- W9n -/
namespace Go.Proofs.Ytffkakpbelknaaa
open Go.ChangeShapes Go.WideShapes Go.ChangeAt Go.RowKit
set_option linter.unusedVariables false

/-- Keys below x stand first. -/
def MonoK (ks : List ByteArray) (x : ByteArray) : Prop := ∀ a b (hb : b < ks.length) (hab : a ≤ b), cmpB ks[b] x < 0 → cmpB (ks[a]'(by omega)) x < 0
def plK (ks : List ByteArray) (x : ByteArray) : Nat := ks.findIdx (fun k => !decide (cmpB k x < 0))
def fnB (ks : List ByteArray) (x : ByteArray) : Bool := match ks[plK ks x]? with
  | some k => (cmpB k x == 0)
  | none => false
def LoK (ks : List ByteArray) (x : ByteArray) (p : Nat) : Prop := ∀ t (ht : t < ks.length), t < p → cmpB ks[t] x < 0
def HiK (ks : List ByteArray) (x : ByteArray) (q : Nat) : Prop := ∀ t (ht : t < ks.length), q ≤ t → ¬ cmpB ks[t] x < 0
theorem plK_of (ks : List ByteArray) (x : ByteArray) (i : Nat) (h0 : i ≤ ks.length) (h1 : ∀ t (ht : t < ks.length), t < i → cmpB ks[t] x < 0) (h2 : ∀ t (ht : t < ks.length), i ≤ t → ¬ cmpB ks[t] x < 0) : plK ks x = i := by
  unfold plK
  by_cases hi : i < ks.length
  · rw [List.findIdx_eq hi]
    exact ⟨by simpa using h2 i hi (Nat.le_refl _), fun j hj => by simpa using h1 j (by omega) hj⟩
  · have : i = ks.length := by omega
    subst this
    rw [List.findIdx_eq_length]
    intro k hk
    obtain ⟨t, ht, rfl⟩ := List.getElem_of_mem hk
    simpa using h1 t ht ht
theorem plK_le (ks : List ByteArray) (x : ByteArray) : plK ks x ≤ ks.length := List.findIdx_le_length
theorem ret_twoK {n : Nat} {p : Int} {a b : Bool} (h1 : (n : Int) = p) (h2 : a = b) : Ending.returned (.tuple #[.int .i64 p, .bool b]) = .returned (.tuple #[.int .i64 (n : Int), .bool a]) := by rw [h1, h2]

set_option maxRecDepth 100000 in
set_option maxHeartbeats 1600000 in
theorem searchS_any (v : Value) (ss : List Sb) (x : ByteArray) (w : World) (h : SbAt w w.heap.size v ss) (hn : ss.length ≤ 1000000000) (hmo : MonoK (sbKs ss) x) :
    Calls Try.prog 121 #[v, .string x, .func (.func 122) #[] #[]] w fun e w' => e = .returned (.tuple #[.int .i64 (plK (sbKs ss) x : Nat), .bool (fnB (sbKs ss) x)]) ∧ Below w.heap.size w w' := by
  have HI := Lib.hid h
  obtain ⟨a, cap, rfl, hl, hm, hc⟩ := h.raw
  clear hc h
  have HM := Lib.hid hmo
  clear hmo
  unfold maxLen at hm
  have HL : Hid ((sbKs ss).length = ss.length) := Lib.hid (by simp [sbKs])
  go_enter Try.func121, Try.ntmps121
  go_wp2
  go_loopw [9, 10] (fun i j wr => ∃ p q : Nat, p ≤ q ∧ q ≤ ss.length ∧ i = .int .i64 (p : Int) ∧ j = .int .i64 (q : Int) ∧ Below w.heap.size w wr ∧ Hid (LoK (sbKs ss) x (p) ∧ HiK (sbKs ss) x (q))) (fun i j _ => (intOf j).toNat - (intOf i).toNat)
  case atStart => exact ⟨0, ss.length, Nat.zero_le _, Nat.le_refl _, rfl, rfl, Below.refl _ _, Lib.hid ⟨fun t ht h => by omega, fun t ht h => by have := HL.out; omega⟩⟩
  case round =>
    obtain ⟨p, q, hpq, hq, rfl, rfl, hB, HO⟩ := hrel
    by_cases hlt : p < q
    · obtain ⟨m, hmE⟩ : ∃ m : Nat, ((p : Int) + (q : Int)) / 2 = (m : Int) := ⟨(p + q) / 2, by omega⟩
      have hpm : p ≤ m := by omega
      have hmq : m < q := by omega
      have hml : m < ss.length := by omega
      obtain ⟨a', cap', hv, _, _, hc⟩ := (HI.out.below hB).raw
      cases hv
      obtain ⟨b, off, rfl, hb, hr⟩ := hc m hml
      obtain ⟨S2, c0, c1, c2, _, _, _⟩ := hr m hml
      have HK : Hid ((sbKs ss)[m]'(by simpa [sbKs] using hml) = ss[m].u) := Lib.hid (by simp [sbKs])
      obtain ⟨S0, hS0⟩ : ∃ z, z = ss[m].u := ⟨_, rfl⟩
      rw [← hS0] at c0 HK
      obtain ⟨S1, hS1⟩ : ∃ z, z = ss[m].t := ⟨_, rfl⟩
      rw [← hS1] at c1
      clear hr hc hS0 hS1
      have HC := Lib.hid (fun w => placeS1_any S0 S1 x S2 w)
      have hcb := cmpB_bd S0 x
      have HU : Hid (cmpB S0 x < 0 → LoK (sbKs ss) x (m + 1)) := Lib.hid (fun h t ht htm => HM.out t m (by rw [HL.out]; exact hml) (by omega) (by rw [HK.out]; exact h))
      have HV : Hid (0 ≤ cmpB S0 x → HiK (sbKs ss) x (m)) := Lib.hid (fun h t ht htm h2 => by have := HM.out m t ht htm h2; rw [HK.out] at this; omega)
      generalize cmpB S0 x = c at HC hcb HU HV
      go_wp2_with fail
      refine (HC.out _).mono ?_
      rintro e w1 ⟨rfl, hb1⟩
      have hB1 := hB.trans (hb1.mono hB.size)
      clear hb1 hB c0 c1 c2
      by_cases hc0 : c < 0
      · have HO' : Hid (LoK (sbKs ss) x (m + 1) ∧ HiK (sbKs ss) x (q)) := Lib.hid ⟨HU.out hc0, HO.out.2⟩
        go_wp2
        go_roundw
        case rel => exact ⟨m + 1, q, by omega, by omega, by go_num, rfl, hB1, HO'⟩
        case measure => simp [intOf]; omega
      · have HO' : Hid (LoK (sbKs ss) x (p) ∧ HiK (sbKs ss) x (m)) := Lib.hid ⟨HO.out.1, HV.out (by omega)⟩
        go_wp2
        go_roundw
        case rel => exact ⟨p, m, by omega, by omega, rfl, rfl, hB1, HO'⟩
        case measure => simp [intOf]; omega
    · have HP : Hid (plK (sbKs ss) x = p) := Lib.hid (plK_of _ _ _ (by have := HL.out; omega) HO.out.1 (fun t ht h => HO.out.2 t ht (by omega)))
      by_cases hpl : p < ss.length
      · have hpd : decide ((p : Int) < (ss.length : Int)) = true := decide_eq_true (by omega)
        obtain ⟨a', cap', hv, _, _, hc⟩ := (HI.out.below hB).raw
        cases hv
        obtain ⟨b, off, rfl, hb, hr⟩ := hc p hpl
        obtain ⟨S2, c0, c1, c2, _, _, _⟩ := hr p hpl
        have HK : Hid ((sbKs ss)[p]'(by simpa [sbKs] using hpl) = ss[p].u) := Lib.hid (by simp [sbKs])
        obtain ⟨S0, hS0⟩ : ∃ z, z = ss[p].u := ⟨_, rfl⟩
        rw [← hS0] at c0 HK
        obtain ⟨S1, hS1⟩ : ∃ z, z = ss[p].t := ⟨_, rfl⟩
        rw [← hS1] at c1
        clear hr hc hS0 hS1
        have HC := Lib.hid (fun w => placeS1_any S0 S1 x S2 w)
        have HF : Hid (fnB (sbKs ss) x = (cmpB S0 x == 0)) := Lib.hid (by unfold fnB; rw [HP.out, List.getElem?_eq_getElem (by rw [HL.out]; exact hpl), HK.out])
        generalize cmpB S0 x = c at HC HF
        go_wp2_with fail
        refine (HC.out _).mono ?_
        rintro e w1 ⟨rfl, hb1⟩
        have hB1 := hB.trans (hb1.mono hB.size)
        clear hb1 hB c0 c1 c2
        obtain ⟨d, hd⟩ : ∃ d, (c == 0) = d := ⟨_, rfl⟩
        rw [hd] at HF
        go_wp2
        go_ret2
        exact ⟨ret_twoK (by rw [HP.out]) HF.out, hB1⟩
      · have hpd : decide ((p : Int) < (ss.length : Int)) = false := decide_eq_false (by omega)
        have HF : Hid (fnB (sbKs ss) x = false) := Lib.hid (by unfold fnB; rw [HP.out, List.getElem?_eq_none (by have := HL.out; omega)])
        go_wp2
        go_ret2
        exact ⟨ret_twoK (by rw [HP.out]) HF.out, hB⟩

set_option maxRecDepth 100000 in
set_option maxHeartbeats 1600000 in
theorem placeOfS_any (v : Value) (ss : List Sb) (x : ByteArray) (w : World) (h : SbAt w w.heap.size v ss) (hn : ss.length ≤ 1000000000) (hmo : MonoK (sbKs ss) x) :
    Calls Try.prog 68 #[v, .string x] w fun e w' => e = .returned (.tuple #[.int .i64 (plK (sbKs ss) x : Nat), .bool (fnB (sbKs ss) x)]) ∧ Below w.heap.size w w' := by
  have HC := Lib.hid (searchS_any v ss x w h hn hmo)
  generalize plK (sbKs ss) x = p at HC ⊢
  generalize fnB (sbKs ss) x = f at HC ⊢
  clear hmo h
  go_enter Try.func68, Try.ntmps68
  go_wp2_with fail
  refine HC.out.mono ?_
  rintro e w1 ⟨rfl, hb1⟩
  go_wp2
  go_ret2
  exact ⟨rfl, hb1⟩

set_option maxRecDepth 100000 in
set_option maxHeartbeats 1600000 in
theorem searchE_any (v : Value) (es : List En) (x : ByteArray) (w : World) (h : EnAt w w.heap.size v es) (hn : es.length ≤ 1000000000) (hmo : MonoK (enKs es) x) :
    Calls Try.prog 163 #[v, .string x, .func (.func 164) #[] #[]] w fun e w' => e = .returned (.tuple #[.int .i64 (plK (enKs es) x : Nat), .bool (fnB (enKs es) x)]) ∧ Below w.heap.size w w' := by
  have HI := Lib.hid h
  obtain ⟨a, cap, rfl, hl, hm, hc⟩ := h.raw
  clear hc h
  have HM := Lib.hid hmo
  clear hmo
  unfold maxLen at hm
  have HL : Hid ((enKs es).length = es.length) := Lib.hid (by simp [enKs])
  go_enter Try.func163, Try.ntmps163
  go_wp2
  go_loopw [9, 10] (fun i j wr => ∃ p q : Nat, p ≤ q ∧ q ≤ es.length ∧ i = .int .i64 (p : Int) ∧ j = .int .i64 (q : Int) ∧ Below w.heap.size w wr ∧ Hid (LoK (enKs es) x (p) ∧ HiK (enKs es) x (q))) (fun i j _ => (intOf j).toNat - (intOf i).toNat)
  case atStart => exact ⟨0, es.length, Nat.zero_le _, Nat.le_refl _, rfl, rfl, Below.refl _ _, Lib.hid ⟨fun t ht h => by omega, fun t ht h => by have := HL.out; omega⟩⟩
  case round =>
    obtain ⟨p, q, hpq, hq, rfl, rfl, hB, HO⟩ := hrel
    by_cases hlt : p < q
    · obtain ⟨m, hmE⟩ : ∃ m : Nat, ((p : Int) + (q : Int)) / 2 = (m : Int) := ⟨(p + q) / 2, by omega⟩
      have hpm : p ≤ m := by omega
      have hmq : m < q := by omega
      have hml : m < es.length := by omega
      obtain ⟨a', cap', hv, _, _, hc⟩ := (HI.out.below hB).raw
      cases hv
      obtain ⟨b, off, rfl, hb, hr⟩ := hc m hml
      obtain ⟨c0, c1, c2, c3, c4, _, _⟩ := hr m hml
      have HK : Hid ((enKs es)[m]'(by simpa [enKs] using hml) = es[m].it.id) := Lib.hid (by simp [enKs])
      obtain ⟨S0, hS0⟩ : ∃ z, z = es[m].it.id := ⟨_, rfl⟩
      rw [← hS0] at c0 HK
      obtain ⟨S1, hS1⟩ : ∃ z, z = es[m].it.ti := ⟨_, rfl⟩
      rw [← hS1] at c1
      obtain ⟨S2, hS2⟩ : ∃ z, z = es[m].it.da := ⟨_, rfl⟩
      rw [← hS2] at c2
      obtain ⟨S3, hS3⟩ : ∃ z, z = es[m].rd := ⟨_, rfl⟩
      rw [← hS3] at c3
      obtain ⟨S4, hS4⟩ : ∃ z, z = es[m].st := ⟨_, rfl⟩
      rw [← hS4] at c4
      clear hr hc hS0 hS1 hS2 hS3 hS4
      have HC := Lib.hid (fun w => placeE1_any S0 S1 x S2 S3 S4 w)
      have hcb := cmpB_bd S0 x
      have HU : Hid (cmpB S0 x < 0 → LoK (enKs es) x (m + 1)) := Lib.hid (fun h t ht htm => HM.out t m (by rw [HL.out]; exact hml) (by omega) (by rw [HK.out]; exact h))
      have HV : Hid (0 ≤ cmpB S0 x → HiK (enKs es) x (m)) := Lib.hid (fun h t ht htm h2 => by have := HM.out m t ht htm h2; rw [HK.out] at this; omega)
      generalize cmpB S0 x = c at HC hcb HU HV
      go_wp2_with fail
      refine (HC.out _).mono ?_
      rintro e w1 ⟨rfl, hb1⟩
      have hB1 := hB.trans (hb1.mono hB.size)
      clear hb1 hB c0 c1 c2 c3 c4
      by_cases hc0 : c < 0
      · have HO' : Hid (LoK (enKs es) x (m + 1) ∧ HiK (enKs es) x (q)) := Lib.hid ⟨HU.out hc0, HO.out.2⟩
        go_wp2
        go_roundw
        case rel => exact ⟨m + 1, q, by omega, by omega, by go_num, rfl, hB1, HO'⟩
        case measure => simp [intOf]; omega
      · have HO' : Hid (LoK (enKs es) x (p) ∧ HiK (enKs es) x (m)) := Lib.hid ⟨HO.out.1, HV.out (by omega)⟩
        go_wp2
        go_roundw
        case rel => exact ⟨p, m, by omega, by omega, rfl, rfl, hB1, HO'⟩
        case measure => simp [intOf]; omega
    · have HP : Hid (plK (enKs es) x = p) := Lib.hid (plK_of _ _ _ (by have := HL.out; omega) HO.out.1 (fun t ht h => HO.out.2 t ht (by omega)))
      by_cases hpl : p < es.length
      · have hpd : decide ((p : Int) < (es.length : Int)) = true := decide_eq_true (by omega)
        obtain ⟨a', cap', hv, _, _, hc⟩ := (HI.out.below hB).raw
        cases hv
        obtain ⟨b, off, rfl, hb, hr⟩ := hc p hpl
        obtain ⟨c0, c1, c2, c3, c4, _, _⟩ := hr p hpl
        have HK : Hid ((enKs es)[p]'(by simpa [enKs] using hpl) = es[p].it.id) := Lib.hid (by simp [enKs])
        obtain ⟨S0, hS0⟩ : ∃ z, z = es[p].it.id := ⟨_, rfl⟩
        rw [← hS0] at c0 HK
        obtain ⟨S1, hS1⟩ : ∃ z, z = es[p].it.ti := ⟨_, rfl⟩
        rw [← hS1] at c1
        obtain ⟨S2, hS2⟩ : ∃ z, z = es[p].it.da := ⟨_, rfl⟩
        rw [← hS2] at c2
        obtain ⟨S3, hS3⟩ : ∃ z, z = es[p].rd := ⟨_, rfl⟩
        rw [← hS3] at c3
        obtain ⟨S4, hS4⟩ : ∃ z, z = es[p].st := ⟨_, rfl⟩
        rw [← hS4] at c4
        clear hr hc hS0 hS1 hS2 hS3 hS4
        have HC := Lib.hid (fun w => placeE1_any S0 S1 x S2 S3 S4 w)
        have HF : Hid (fnB (enKs es) x = (cmpB S0 x == 0)) := Lib.hid (by unfold fnB; rw [HP.out, List.getElem?_eq_getElem (by rw [HL.out]; exact hpl), HK.out])
        generalize cmpB S0 x = c at HC HF
        go_wp2_with fail
        refine (HC.out _).mono ?_
        rintro e w1 ⟨rfl, hb1⟩
        have hB1 := hB.trans (hb1.mono hB.size)
        clear hb1 hB c0 c1 c2 c3 c4
        obtain ⟨d, hd⟩ : ∃ d, (c == 0) = d := ⟨_, rfl⟩
        rw [hd] at HF
        go_wp2
        go_ret2
        exact ⟨ret_twoK (by rw [HP.out]) HF.out, hB1⟩
      · have hpd : decide ((p : Int) < (es.length : Int)) = false := decide_eq_false (by omega)
        have HF : Hid (fnB (enKs es) x = false) := Lib.hid (by unfold fnB; rw [HP.out, List.getElem?_eq_none (by have := HL.out; omega)])
        go_wp2
        go_ret2
        exact ⟨ret_twoK (by rw [HP.out]) HF.out, hB⟩

set_option maxRecDepth 100000 in
set_option maxHeartbeats 1600000 in
theorem placeOfE_any (v : Value) (es : List En) (x : ByteArray) (w : World) (h : EnAt w w.heap.size v es) (hn : es.length ≤ 1000000000) (hmo : MonoK (enKs es) x) :
    Calls Try.prog 149 #[v, .string x] w fun e w' => e = .returned (.tuple #[.int .i64 (plK (enKs es) x : Nat), .bool (fnB (enKs es) x)]) ∧ Below w.heap.size w w' := by
  have HC := Lib.hid (searchE_any v es x w h hn hmo)
  generalize plK (enKs es) x = p at HC ⊢
  generalize fnB (enKs es) x = f at HC ⊢
  clear hmo h
  go_enter Try.func149, Try.ntmps149
  go_wp2_with fail
  refine HC.out.mono ?_
  rintro e w1 ⟨rfl, hb1⟩
  go_wp2
  go_ret2
  exact ⟨rfl, hb1⟩

end Go.Proofs.Ytffkakpbelknaaa
