/- Contracts: NumOk of the reference; NumAdd, NumMul of both sides. -/
import Derived.Test.YtijoancnlpkcoabW3f
import Derived.Test.YtijoancnlpkcoabW3g
import Derived.Test.YtijoancnlpkcoabStr
namespace Go.Proofs.Ytijoancnlpkcoab
open Go.ChangeShapes Go.WideShapes Go.ChangeAt Go.RowKit
set_option linter.unusedVariables false

theorem val17_lt (s : ByteArray) (h : s.size = 17) : leNat s.data.toList < 2 ^ 136 := by
  have := leNat_lt s.data.toList
  rw [show s.data.toList.length = 17 by simpa using h] at this
  exact this
theorem okR_txt (s : ByteArray) (h : s.size = 17) : ((txtR (leNat s.data.toList % 2 ^ 130 % prm)).toList == s.toList) = okR s := by
  rw [str_eq]
  have hv := val17_lt s h
  have hsl : s.data.toList.length = 17 := by simpa using h
  have hback : leBy 17 (leNat s.data.toList) = s.data.toList := by have := leBy_leNat s.data.toList; rw [hsl] at this; exact this
  unfold okR
  by_cases hl : leNat s.data.toList < prm
  · have e : leNat s.data.toList % 2 ^ 130 % prm = leNat s.data.toList := by
      unfold prm at hl ⊢
      generalize leNat s.data.toList = v at *
      omega
    have e2 : txtR (leNat s.data.toList) = s := by
      unfold txtR; rw [hback]
    rw [e, e2]; simp [h, hl]
  · have hne : txtR (leNat s.data.toList % 2 ^ 130 % prm) ≠ s := by
      intro e'
      have e := e'.symm
      have e3 : leNat s.data.toList = leNat s.data.toList % 2 ^ 130 % prm % 256 ^ 17 := by
        have := congrArg (fun b : ByteArray => leNat b.data.toList) e
        simp only [txtR] at this
        rw [leNat_leBy] at this
        exact this
      have := Nat.mod_lt (leNat s.data.toList % 2 ^ 130) prm_pos
      have h4 := Nat.mod_le (leNat s.data.toList % 2 ^ 130 % prm) (256 ^ 17)
      omega
    simp [hne, h, hl]

set_option maxRecDepth 100000 in
set_option maxHeartbeats 1600000 in
theorem specNumOk_any (s : ByteArray) (w : World) (hs : s.size ≤ maxLen) :
    Calls Try.prog 19 #[.string s] w fun e w' => e = .returned (.bool (okR s)) ∧ Below w.heap.size w w' := by
  unfold maxLen at hs
  by_cases h17 : s.size = 17
  · have hd : ((s.size : Int) == 17) = true := by simp [h17]
    have HT := Lib.hid (okR_txt s h17)
    have h17' : s.size ≤ 17 := by omega
    obtain ⟨v, hv⟩ : ∃ v, v = leNat s.data.toList % 2 ^ 130 := ⟨_, rfl⟩
    have hl := l3Load_any s
    have hvb : v < 1361129467683753853853498429727072845824 := by rw [hv]; exact Nat.mod_lt _ (by decide)
    rw [← hv] at HT hl
    have HL := Lib.hid hl
    have hle : leftL (num5 v) = partsL (v % prm) := by unfold leftL; rw [num5_val v hvb]
    have HLE := Lib.hid hle
    have hpl : v % prm < 1361129467683753853853498429727072845824 := Nat.lt_of_lt_of_le (Nat.mod_lt _ prm_pos) (by unfold prm; decide)
    obtain ⟨u, hu⟩ : ∃ u, u = v % prm := ⟨_, rfl⟩
    rw [← hu] at HT hpl HLE
    have HPL := Lib.hid hpl
    clear h17 hl hv hle hu hvb hpl
    go_enter Try.func19, Try.ntmps19
    go_wp2_with fail
    refine (HL.out _ h17').mono ?_
    rintro e w1 ⟨rfl, hb1⟩
    go_wp2_with fail
    refine (l3Least_any (num5 v) _ (bd_mono (num5_bd v) (by decide) (by decide))).mono ?_
    rintro e w2 ⟨rfl, hb2⟩
    rw [HLE.out]
    have hb02 := hb1.trans (hb2.mono hb1.size)
    clear hb1 hb2
    go_wp2_with fail
    refine (l3Store_any u _ HPL.out).mono ?_
    rintro e w3 ⟨rfl, hb3⟩
    have hb03 := hb02.trans (hb3.mono hb02.size)
    clear hb02 hb3
    have ht := HT.out
    go_wp2
    go_ret
    exact ⟨rfl, hb03⟩
  · have hd : ((s.size : Int) == 17) = false := by simp; omega
    have HK : Hid (okR s = false) := Lib.hid (by unfold okR; simp [h17])
    clear h17
    go_enter Try.func19, Try.ntmps19
    go_wp2
    go_ret
    exact ⟨ret_bool HK.out.symm, Below.refl _ _⟩

/-- NumAdd, NumMul, as the document says them. -/
def addR (a b : ByteArray) : ByteArray := if okR a = true ∧ okR b = true then txtR ((leNat a.data.toList + leNat b.data.toList) % prm) else ⟨#[]⟩
def mulR (a b : ByteArray) : ByteArray := if okR a = true ∧ okR b = true then txtR (leNat a.data.toList * leNat b.data.toList % prm) else ⟨#[]⟩
theorem okR_lt {s : ByteArray} (h : okR s = true) : s.size = 17 ∧ leNat s.data.toList < prm := by
  unfold okR at h; exact of_decide_eq_true h
theorem lt_of_prm {v : Nat} (h : v < prm) : v < 1361129467683753853853498429727072845824 := Nat.lt_of_lt_of_le h (by unfold prm; decide)

set_option maxRecDepth 100000 in
set_option maxHeartbeats 1600000 in
theorem implNumAdd_any (a b : ByteArray) (w : World) (ha : a.size ≤ maxLen) (hb : b.size ≤ maxLen) :
    Calls Try.prog 16 #[.string a, .string b] w fun e w' => e = .returned (.string (addR a b)) ∧ Below w.heap.size w w' := by
  obtain ⟨A, hA⟩ : ∃ A, A = okR a := ⟨_, rfl⟩
  obtain ⟨B, hB⟩ : ∃ B, B = okR b := ⟨_, rfl⟩
  have h1 := implNumOk_any a
  have h2 := implNumOk_any b
  rw [← hA] at h1
  rw [← hB] at h2
  have H1 := Lib.hid h1
  have H2 := Lib.hid h2
  have HA := Lib.hid hA
  have HB := Lib.hid hB
  clear hA hB h1 h2
  cases A with
  | false =>
    have HR : Hid (addR a b = ⟨#[]⟩) := Lib.hid (by unfold addR; rw [← HA.out]; simp)
    go_enter Try.func16, Try.ntmps16
    go_wp2_with fail
    refine (H1.out _ ha).mono ?_
    rintro e w1 ⟨rfl, hb1⟩
    go_wp2
    go_ret
    exact ⟨ret_str HR.out.symm, hb1⟩
  | true =>
    cases B with
    | false =>
      have HR : Hid (addR a b = ⟨#[]⟩) := Lib.hid (by unfold addR; rw [← HB.out]; simp)
      go_enter Try.func16, Try.ntmps16
      go_wp2_with fail
      refine (H1.out _ ha).mono ?_
      rintro e w1 ⟨rfl, hb1⟩
      go_wp2_with fail
      refine (H2.out _ hb).mono ?_
      rintro e w2 ⟨rfl, hb2⟩
      have hb02 := hb1.trans (hb2.mono hb1.size)
      clear hb1 hb2
      go_wp2
      go_ret
      exact ⟨ret_str HR.out.symm, hb02⟩
    | true =>
      have HR : Hid (addR a b = txtR ((leNat a.data.toList + leNat b.data.toList) % prm)) := Lib.hid (by unfold addR; rw [← HA.out, ← HB.out]; simp)
      obtain ⟨ha17, hav⟩ := okR_lt HA.out.symm
      obtain ⟨hb17, hbv⟩ := okR_lt HB.out.symm
      have hn1 := numberOf_any a
      have hn2 := numberOf_any b
      obtain ⟨u, hu⟩ : ∃ u, u = leNat a.data.toList := ⟨_, rfl⟩
      obtain ⟨v, hv⟩ : ∃ v, v = leNat b.data.toList := ⟨_, rfl⟩
      rw [← hu] at hav HR hn1
      rw [← hv] at hbv HR hn2
      have N1 := Lib.hid (fun w => hn1 w (by omega) (lt_of_prm hav))
      have N2 := Lib.hid (fun w => hn2 w (by omega) (lt_of_prm hbv))
      have HU := Lib.hid (lt_of_prm hav)
      have HV := Lib.hid (lt_of_prm hbv)
      clear hn1 hn2 hu hv ha17 hb17 hav hbv HA HB
      go_enter Try.func16, Try.ntmps16
      go_wp2_with fail
      refine (H1.out _ ha).mono ?_
      rintro e w1 ⟨rfl, hb1⟩
      go_wp2_with fail
      refine (H2.out _ hb).mono ?_
      rintro e w2 ⟨rfl, hb2⟩
      have hb02 := hb1.trans (hb2.mono hb1.size)
      clear hb1 hb2 H1 H2
      go_wp2_with fail
      refine (N1.out _).mono ?_
      rintro e w3 ⟨rfl, hb3⟩
      have hb03 := hb02.trans (hb3.mono hb02.size)
      clear hb02 hb3
      go_wp2_with fail
      refine (N2.out _).mono ?_
      rintro e w4 ⟨rfl, hb4⟩
      have hb04 := hb03.trans (hb4.mono hb03.size)
      clear hb03 hb4
      go_wp2_with fail
      refine (sumOf_any u v _ HU.out HV.out).mono ?_
      rintro e w5 ⟨rfl, hb5⟩
      have hb05 := hb04.trans (hb5.mono hb04.size)
      clear hb04 hb5
      obtain ⟨z, hz⟩ : ∃ z, z = (u + v) % prm := ⟨_, rfl⟩
      have hzl : z < prm := by rw [hz]; exact Nat.mod_lt _ prm_pos
      rw [← hz] at HR ⊢
      have HZ := Lib.hid (lt_of_prm hzl)
      clear hz hzl
      go_wp2_with fail
      refine (numberText_any z _ HZ.out).mono ?_
      rintro e w6 ⟨rfl, hb6⟩
      have hb06 := hb05.trans (hb6.mono hb05.size)
      go_wp2
      go_ret
      exact ⟨ret_str HR.out.symm, hb06⟩

set_option maxRecDepth 100000 in
set_option maxHeartbeats 1600000 in
theorem implNumMul_any (a b : ByteArray) (w : World) (ha : a.size ≤ maxLen) (hb : b.size ≤ maxLen) :
    Calls Try.prog 14 #[.string a, .string b] w fun e w' => e = .returned (.string (mulR a b)) ∧ Below w.heap.size w w' := by
  obtain ⟨A, hA⟩ : ∃ A, A = okR a := ⟨_, rfl⟩
  obtain ⟨B, hB⟩ : ∃ B, B = okR b := ⟨_, rfl⟩
  have h1 := implNumOk_any a
  have h2 := implNumOk_any b
  rw [← hA] at h1
  rw [← hB] at h2
  have H1 := Lib.hid h1
  have H2 := Lib.hid h2
  have HA := Lib.hid hA
  have HB := Lib.hid hB
  clear hA hB h1 h2
  cases A with
  | false =>
    have HR : Hid (mulR a b = ⟨#[]⟩) := Lib.hid (by unfold mulR; rw [← HA.out]; simp)
    go_enter Try.func14, Try.ntmps14
    go_wp2_with fail
    refine (H1.out _ ha).mono ?_
    rintro e w1 ⟨rfl, hb1⟩
    go_wp2
    go_ret
    exact ⟨ret_str HR.out.symm, hb1⟩
  | true =>
    cases B with
    | false =>
      have HR : Hid (mulR a b = ⟨#[]⟩) := Lib.hid (by unfold mulR; rw [← HB.out]; simp)
      go_enter Try.func14, Try.ntmps14
      go_wp2_with fail
      refine (H1.out _ ha).mono ?_
      rintro e w1 ⟨rfl, hb1⟩
      go_wp2_with fail
      refine (H2.out _ hb).mono ?_
      rintro e w2 ⟨rfl, hb2⟩
      have hb02 := hb1.trans (hb2.mono hb1.size)
      clear hb1 hb2
      go_wp2
      go_ret
      exact ⟨ret_str HR.out.symm, hb02⟩
    | true =>
      have HR : Hid (mulR a b = txtR (leNat a.data.toList * leNat b.data.toList % prm)) := Lib.hid (by unfold mulR; rw [← HA.out, ← HB.out]; simp)
      obtain ⟨ha17, hav⟩ := okR_lt HA.out.symm
      obtain ⟨hb17, hbv⟩ := okR_lt HB.out.symm
      have hn1 := numberOf_any a
      have hn2 := numberOf_any b
      obtain ⟨u, hu⟩ : ∃ u, u = leNat a.data.toList := ⟨_, rfl⟩
      obtain ⟨v, hv⟩ : ∃ v, v = leNat b.data.toList := ⟨_, rfl⟩
      rw [← hu] at hav HR hn1
      rw [← hv] at hbv HR hn2
      have N1 := Lib.hid (fun w => hn1 w (by omega) (lt_of_prm hav))
      have N2 := Lib.hid (fun w => hn2 w (by omega) (lt_of_prm hbv))
      have HU := Lib.hid (lt_of_prm hav)
      have HV := Lib.hid (lt_of_prm hbv)
      clear hn1 hn2 hu hv ha17 hb17 hav hbv HA HB
      go_enter Try.func14, Try.ntmps14
      go_wp2_with fail
      refine (H1.out _ ha).mono ?_
      rintro e w1 ⟨rfl, hb1⟩
      go_wp2_with fail
      refine (H2.out _ hb).mono ?_
      rintro e w2 ⟨rfl, hb2⟩
      have hb02 := hb1.trans (hb2.mono hb1.size)
      clear hb1 hb2 H1 H2
      go_wp2_with fail
      refine (N1.out _).mono ?_
      rintro e w3 ⟨rfl, hb3⟩
      have hb03 := hb02.trans (hb3.mono hb02.size)
      clear hb02 hb3
      go_wp2_with fail
      refine (N2.out _).mono ?_
      rintro e w4 ⟨rfl, hb4⟩
      have hb04 := hb03.trans (hb4.mono hb03.size)
      clear hb03 hb4
      go_wp2_with fail
      refine (productOf_any u v _ HU.out HV.out).mono ?_
      rintro e w5 ⟨rfl, hb5⟩
      have hb05 := hb04.trans (hb5.mono hb04.size)
      clear hb04 hb5
      obtain ⟨z, hz⟩ : ∃ z, z = u * v % prm := ⟨_, rfl⟩
      have hzl : z < prm := by rw [hz]; exact Nat.mod_lt _ prm_pos
      rw [← hz] at HR ⊢
      have HZ := Lib.hid (lt_of_prm hzl)
      clear hz hzl
      go_wp2_with fail
      refine (numberText_any z _ HZ.out).mono ?_
      rintro e w6 ⟨rfl, hb6⟩
      have hb06 := hb05.trans (hb6.mono hb05.size)
      go_wp2
      go_ret
      exact ⟨ret_str HR.out.symm, hb06⟩

theorem l3LoadP_any (s : ByteArray) (w : World) (hs : s.size ≤ 17) (hv : leNat s.data.toList < 1361129467683753853853498429727072845824) :
    Calls Try.prog 32 #[.string s] w fun e w' => e = .returned (.agg (stK .i64 (partsL (leNat s.data.toList)))) ∧ Below w.heap.size w w' := by
  have h := l3Load_any s w hs
  rw [Nat.mod_eq_of_lt (show leNat s.data.toList < 2 ^ 130 from hv)] at h
  exact h

set_option maxRecDepth 100000 in
set_option maxHeartbeats 1600000 in
theorem specNumAdd_any (a b : ByteArray) (w : World) (ha : a.size ≤ maxLen) (hb : b.size ≤ maxLen) :
    Calls Try.prog 17 #[.string a, .string b] w fun e w' => e = .returned (.string (addR a b)) ∧ Below w.heap.size w w' := by
  obtain ⟨A, hA⟩ : ∃ A, A = okR a := ⟨_, rfl⟩
  obtain ⟨B, hB⟩ : ∃ B, B = okR b := ⟨_, rfl⟩
  have h1 := specNumOk_any a
  have h2 := specNumOk_any b
  rw [← hA] at h1
  rw [← hB] at h2
  have H1 := Lib.hid h1
  have H2 := Lib.hid h2
  have HA := Lib.hid hA
  have HB := Lib.hid hB
  clear hA hB h1 h2
  cases A with
  | false =>
    have HR : Hid (addR a b = ⟨#[]⟩) := Lib.hid (by unfold addR; rw [← HA.out]; simp)
    go_enter Try.func17, Try.ntmps17
    go_wp2_with fail
    refine (H1.out _ ha).mono ?_
    rintro e w1 ⟨rfl, hb1⟩
    go_wp2
    go_ret
    exact ⟨ret_str HR.out.symm, hb1⟩
  | true =>
    cases B with
    | false =>
      have HR : Hid (addR a b = ⟨#[]⟩) := Lib.hid (by unfold addR; rw [← HB.out]; simp)
      go_enter Try.func17, Try.ntmps17
      go_wp2_with fail
      refine (H1.out _ ha).mono ?_
      rintro e w1 ⟨rfl, hb1⟩
      go_wp2_with fail
      refine (H2.out _ hb).mono ?_
      rintro e w2 ⟨rfl, hb2⟩
      have hb02 := hb1.trans (hb2.mono hb1.size)
      clear hb1 hb2
      go_wp2
      go_ret
      exact ⟨ret_str HR.out.symm, hb02⟩
    | true =>
      have HR : Hid (addR a b = txtR ((leNat a.data.toList + leNat b.data.toList) % prm)) := Lib.hid (by unfold addR; rw [← HA.out, ← HB.out]; simp)
      obtain ⟨ha17, hav⟩ := okR_lt HA.out.symm
      obtain ⟨hb17, hbv⟩ := okR_lt HB.out.symm
      have hn1 := l3LoadP_any a
      have hn2 := l3LoadP_any b
      obtain ⟨u, hu⟩ : ∃ u, u = leNat a.data.toList := ⟨_, rfl⟩
      obtain ⟨v, hv⟩ : ∃ v, v = leNat b.data.toList := ⟨_, rfl⟩
      rw [← hu] at hav HR hn1
      rw [← hv] at hbv HR hn2
      have N1 := Lib.hid (fun w => hn1 w (by omega) (lt_of_prm hav))
      have N2 := Lib.hid (fun w => hn2 w (by omega) (lt_of_prm hbv))
      have HU := Lib.hid (lt_of_prm hav)
      have HV := Lib.hid (lt_of_prm hbv)
      clear hn1 hn2 hu hv ha17 hb17 hav hbv HA HB
      go_enter Try.func17, Try.ntmps17
      go_wp2_with fail
      refine (H1.out _ ha).mono ?_
      rintro e w1 ⟨rfl, hb1⟩
      go_wp2_with fail
      refine (H2.out _ hb).mono ?_
      rintro e w2 ⟨rfl, hb2⟩
      have hb02 := hb1.trans (hb2.mono hb1.size)
      clear hb1 hb2 H1 H2
      go_wp2_with fail
      refine (N1.out _).mono ?_
      rintro e w3 ⟨rfl, hb3⟩
      have hb03 := hb02.trans (hb3.mono hb02.size)
      clear hb02 hb3
      go_wp2_with fail
      refine (N2.out _).mono ?_
      rintro e w4 ⟨rfl, hb4⟩
      have hb04 := hb03.trans (hb4.mono hb03.size)
      clear hb03 hb4
      go_wp2_with fail
      refine (l3Add_any u v _ HU.out HV.out).mono ?_
      rintro e w5 ⟨rfl, hb5⟩
      have hb05 := hb04.trans (hb5.mono hb04.size)
      clear hb04 hb5
      obtain ⟨z, hz⟩ : ∃ z, z = (u + v) % prm := ⟨_, rfl⟩
      have hzl : z < prm := by rw [hz]; exact Nat.mod_lt _ prm_pos
      rw [← hz] at HR ⊢
      have HZ := Lib.hid (lt_of_prm hzl)
      clear hz hzl
      go_wp2_with fail
      refine (l3Store_any z _ HZ.out).mono ?_
      rintro e w6 ⟨rfl, hb6⟩
      have hb06 := hb05.trans (hb6.mono hb05.size)
      go_wp2
      go_ret
      exact ⟨ret_str HR.out.symm, hb06⟩

set_option maxRecDepth 100000 in
set_option maxHeartbeats 1600000 in
theorem specNumMul_any (a b : ByteArray) (w : World) (ha : a.size ≤ maxLen) (hb : b.size ≤ maxLen) :
    Calls Try.prog 15 #[.string a, .string b] w fun e w' => e = .returned (.string (mulR a b)) ∧ Below w.heap.size w w' := by
  obtain ⟨A, hA⟩ : ∃ A, A = okR a := ⟨_, rfl⟩
  obtain ⟨B, hB⟩ : ∃ B, B = okR b := ⟨_, rfl⟩
  have h1 := specNumOk_any a
  have h2 := specNumOk_any b
  rw [← hA] at h1
  rw [← hB] at h2
  have H1 := Lib.hid h1
  have H2 := Lib.hid h2
  have HA := Lib.hid hA
  have HB := Lib.hid hB
  clear hA hB h1 h2
  cases A with
  | false =>
    have HR : Hid (mulR a b = ⟨#[]⟩) := Lib.hid (by unfold mulR; rw [← HA.out]; simp)
    go_enter Try.func15, Try.ntmps15
    go_wp2_with fail
    refine (H1.out _ ha).mono ?_
    rintro e w1 ⟨rfl, hb1⟩
    go_wp2
    go_ret
    exact ⟨ret_str HR.out.symm, hb1⟩
  | true =>
    cases B with
    | false =>
      have HR : Hid (mulR a b = ⟨#[]⟩) := Lib.hid (by unfold mulR; rw [← HB.out]; simp)
      go_enter Try.func15, Try.ntmps15
      go_wp2_with fail
      refine (H1.out _ ha).mono ?_
      rintro e w1 ⟨rfl, hb1⟩
      go_wp2_with fail
      refine (H2.out _ hb).mono ?_
      rintro e w2 ⟨rfl, hb2⟩
      have hb02 := hb1.trans (hb2.mono hb1.size)
      clear hb1 hb2
      go_wp2
      go_ret
      exact ⟨ret_str HR.out.symm, hb02⟩
    | true =>
      have HR : Hid (mulR a b = txtR (leNat a.data.toList * leNat b.data.toList % prm)) := Lib.hid (by unfold mulR; rw [← HA.out, ← HB.out]; simp)
      obtain ⟨ha17, hav⟩ := okR_lt HA.out.symm
      obtain ⟨hb17, hbv⟩ := okR_lt HB.out.symm
      have hn1 := l3LoadP_any a
      have hn2 := l3LoadP_any b
      obtain ⟨u, hu⟩ : ∃ u, u = leNat a.data.toList := ⟨_, rfl⟩
      obtain ⟨v, hv⟩ : ∃ v, v = leNat b.data.toList := ⟨_, rfl⟩
      rw [← hu] at hav HR hn1
      rw [← hv] at hbv HR hn2
      have N1 := Lib.hid (fun w => hn1 w (by omega) (lt_of_prm hav))
      have N2 := Lib.hid (fun w => hn2 w (by omega) (lt_of_prm hbv))
      have HU := Lib.hid (lt_of_prm hav)
      have HV := Lib.hid (lt_of_prm hbv)
      clear hn1 hn2 hu hv ha17 hb17 hav hbv HA HB
      go_enter Try.func15, Try.ntmps15
      go_wp2_with fail
      refine (H1.out _ ha).mono ?_
      rintro e w1 ⟨rfl, hb1⟩
      go_wp2_with fail
      refine (H2.out _ hb).mono ?_
      rintro e w2 ⟨rfl, hb2⟩
      have hb02 := hb1.trans (hb2.mono hb1.size)
      clear hb1 hb2 H1 H2
      go_wp2_with fail
      refine (N1.out _).mono ?_
      rintro e w3 ⟨rfl, hb3⟩
      have hb03 := hb02.trans (hb3.mono hb02.size)
      clear hb02 hb3
      go_wp2_with fail
      refine (N2.out _).mono ?_
      rintro e w4 ⟨rfl, hb4⟩
      have hb04 := hb03.trans (hb4.mono hb03.size)
      clear hb03 hb4
      go_wp2_with fail
      refine (l3Mul_any u v _ HU.out HV.out).mono ?_
      rintro e w5 ⟨rfl, hb5⟩
      have hb05 := hb04.trans (hb5.mono hb04.size)
      clear hb04 hb5
      obtain ⟨z, hz⟩ : ∃ z, z = u * v % prm := ⟨_, rfl⟩
      have hzl : z < prm := by rw [hz]; exact Nat.mod_lt _ prm_pos
      rw [← hz] at HR ⊢
      have HZ := Lib.hid (lt_of_prm hzl)
      clear hz hzl
      go_wp2_with fail
      refine (l3Store_any z _ HZ.out).mono ?_
      rintro e w6 ⟨rfl, hb6⟩
      have hb06 := hb05.trans (hb6.mono hb05.size)
      go_wp2
      go_ret
      exact ⟨ret_str HR.out.symm, hb06⟩

end Go.Proofs.Ytijoancnlpkcoab
