/- Walk of the law FnStretched. -/
import Derived.Test.YtdcbideddlpodaaDoorW6h
import Derived.Test.YtdcbideddlpodaaDoorV6d
namespace Go.Proofs.YtdcbideddlpodaaDoor
open Go.ChangeShapes Go.WideShapes Go.ChangeAt Go.RowKit
set_option linter.unusedVariables false

theorem srR_in (p s : ByteArray) (m : Nat) (h1 : p.size ≤ 1000) (h2 : s.size ≤ 1000) (h3 : 1 ≤ m) (h4 : m ≤ 50) : srR p s (m : Int) = ptX p (stT s) m := by
  unfold srR; rw [if_pos ⟨h1, h2, by omega, by omega⟩]; rfl
theorem hmR_in (k t : ByteArray) (h1 : k.size ≤ 4000) (h2 : t.size ≤ 4000) : hmR k t = hmB k t := by unfold hmR; rw [if_pos ⟨h1, h2⟩]
theorem some_bytes (b : ByteArray) (h : 0 < b.size) : b.toList.isEmpty = false := by
  have : b.toList.length = b.size := by rw [ByteArray.toList_eq]; simp
  cases hb : b.toList with
  | nil => rw [hb] at this; simp at this; omega
  | cons x l => rfl

set_option maxRecDepth 100000 in
set_option maxHeartbeats 4000000 in
theorem walk_FnStretched (a : Option Addr) (len cap : Nat) (z : List Int) (w : World) (h : IsRow .u8 w a len cap z) (hk : FTab w ∧ KTab w) :
    Calls Tryd.prog 6 #[.slice a len cap] w fun e w' => e = .returned (.bool true) ∧ Below w.heap.size w w' := by
  have HK := Lib.hid hk
  have hcd := Cd.of_row h
  obtain ⟨cv, hcv⟩ : ∃ cv : Value, cv = .slice a len cap := ⟨_, rfl⟩
  rw [← hcv] at hcd ⊢
  clear h hcv hk
  go_enter Tryd.func6, Tryd.ntmps6
  go_wp2_with fail
  refine (big_any _ cv _ hcd).mono ?_
  rintro e w1 ⟨⟨b, rfl⟩, rfl⟩
  cases b with
  | true =>
    go_wp2
    go_ret
    exact ⟨rfl, Below.refl _ _⟩
  | false =>
    go_wp2_with fail
    refine (drawStretched_any _ cv _ hcd).mono ?_
    rintro e v1 ⟨p, t, n, rfl, hps, hts, hwf, hd1⟩
    have I1 := Lib.hid (fun w hF hK => implStretched_any p t n w (small_max12 (by omega)) (small_max12 (by omega)) hwf hF hK)
    have S1 := Lib.hid (fun w => specStretched_any p t n w (small_max12 (by omega)) (small_max12 (by omega)) hwf)
    clear hcd
    by_cases hin : 1 ≤ n ∧ n ≤ 50
    · obtain ⟨m, rfl⟩ := Int.eq_ofNat_of_zero_le (show 0 ≤ n by omega)
      have e0 := srR_in p t m (by omega) (by omega) (by omega) (by omega)
      have hs0 := ptX_size p (stT t) m
      obtain ⟨O, hO⟩ : ∃ O, O = ptX p (stT t) m := ⟨_, rfl⟩
      rw [e0, ← hO] at I1 S1
      rw [← hO] at hs0
      have hOe := some_bytes O (by omega)
      have I2 := Lib.hid (fun w hF hK => implStretched_any p t 1 w (small_max12 (by omega)) (small_max12 (by omega)) (wf64 (by omega) (by omega)) hF hK)
      rw [show srR p t 1 = ptB p (stT t) 1 from (srR_in p t 1 (by omega) (by omega) (by omega) (by omega)).trans (ptX_one p (stT t))] at I2
      have I3 := Lib.hid (fun w hF hK => implStretched_any p t 2 w (small_max12 (by omega)) (small_max12 (by omega)) (wf64 (by omega) (by omega)) hF hK)
      have e2 : ptX p (stT t) 2 = xorB (ptB p (stT t) 1) (ptB p (stT t) 2) := by rw [← ptX_one p (stT t)]; rfl
      rw [show srR p t 2 = xorB (ptB p (stT t) 1) (ptB p (stT t) 2) from (srR_in p t 2 (by omega) (by omega) (by omega) (by omega)).trans e2] at I3
      have hsU : (ptB p (stT t) 1).size = 32 := ptB_size p (stT t) 0
      have hsP : (ptB p (stT t) 2).size = 32 := ptB_size p (stT t) 1
      have H1 := Lib.hid (fun w hF hK => implHmac_any p (t ++ ⟨#[0, 0, 0, 1]⟩) w (small_max12 (by omega)) (small_max12 (by rw [ByteArray.size_append]; show t.size + 4 ≤ _; omega)) hF hK)
      rw [hmR_in _ _ (by omega) (by rw [ByteArray.size_append]; show t.size + 4 ≤ _; omega), show hmB p (t ++ ⟨#[0, 0, 0, 1]⟩) = ptB p (stT t) 1 from rfl] at H1
      have H2 := Lib.hid (fun w hF hK => implHmac_any p (ptB p (stT t) 1) w (small_max12 (by omega)) (small_max12 (by omega)) hF hK)
      rw [hmR_in _ _ (by omega) (by omega), show hmB p (ptB p (stT t) 1) = ptB p (stT t) 2 from rfl] at H2
      have H3 := Lib.hid (fun w => implXor_any (ptB p (stT t) 1) (ptB p (stT t) 2) w (small_max12 (by omega)) (small_max12 (by omega)))
      rw [show xorR (ptB p (stT t) 1) (ptB p (stT t) 2) = xorB (ptB p (stT t) 1) (ptB p (stT t) 2) by unfold xorR; rw [if_pos ⟨by omega, by omega⟩]] at H3
      obtain ⟨S4, hS4⟩ : ∃ S4 : ByteArray, t ++ ⟨#[0, 0, 0, 1]⟩ = S4 := ⟨_, rfl⟩
      rw [hS4] at H1
      generalize xorB (ptB p (stT t) 1) (ptB p (stT t) 2) = V at I3 H3
      generalize ptB p (stT t) 1 = U at I2 H1 H2 H3
      generalize ptB p (stT t) 2 = P2 at H2 H3
      have hts1 : t.size + 4 ≤ 2000 := by omega
      have hOs : (O.size : Int) = 32 := by omega
      clear e0 e2 hO hsU hsP hwf hs0 hin
      go_wp2_with fail
      refine (I1.out _ (HK.out.1.below hd1 (Nat.le_refl _)) (HK.out.2.below hd1 (Nat.le_refl _))).mono ?_
      rintro e v2 ⟨rfl, hd2⟩
      have hd02 := hd1.trans (hd2.mono hd1.size)
      clear hd1 hd2 I1
      go_wp2_with fail
      refine (S1.out _).mono ?_
      rintro e v3 ⟨rfl, hd3⟩
      have hd03 := hd02.trans (hd3.mono hd02.size)
      clear hd02 hd3 S1
      go_wp2_with fail
      refine (I2.out _ (HK.out.1.below hd03 (Nat.le_refl _)) (HK.out.2.below hd03 (Nat.le_refl _))).mono ?_
      rintro e v4 ⟨rfl, hd4⟩
      have hd04 := hd03.trans (hd4.mono hd03.size)
      clear hd03 hd4 I2
      go_wp2_with fail
      refine (H1.out _ (HK.out.1.below hd04 (Nat.le_refl _)) (HK.out.2.below hd04 (Nat.le_refl _))).mono ?_
      rintro e v5 ⟨rfl, hd5⟩
      have hd05 := hd04.trans (hd5.mono hd04.size)
      clear hd04 hd5 H1
      go_wp2_with fail
      refine (I3.out _ (HK.out.1.below hd05 (Nat.le_refl _)) (HK.out.2.below hd05 (Nat.le_refl _))).mono ?_
      rintro e v6 ⟨rfl, hd6⟩
      have hd06 := hd05.trans (hd6.mono hd05.size)
      clear hd05 hd6 I3
      go_wp2_with fail
      refine (H2.out _ (HK.out.1.below hd06 (Nat.le_refl _)) (HK.out.2.below hd06 (Nat.le_refl _))).mono ?_
      rintro e v7 ⟨rfl, hd7⟩
      have hd07 := hd06.trans (hd7.mono hd06.size)
      clear hd06 hd7 H2
      go_wp2_with fail
      refine (H3.out _).mono ?_
      rintro e v8 ⟨rfl, hd8⟩
      have hd08 := hd07.trans (hd8.mono hd07.size)
      clear hd07 hd8 H3
      go_wp2
      go_ret
      exact ⟨ret_bool (by simp), hd08⟩
    · have e0 : srR p t n = ⟨#[]⟩ := by unfold srR; rw [if_neg (by omega)]
      rw [e0] at I1 S1
      clear e0 hin hwf
      go_wp2_with fail
      refine (I1.out _ (HK.out.1.below hd1 (Nat.le_refl _)) (HK.out.2.below hd1 (Nat.le_refl _))).mono ?_
      rintro e v2 ⟨rfl, hd2⟩
      have hd02 := hd1.trans (hd2.mono hd1.size)
      clear hd1 hd2 I1
      go_wp2_with fail
      refine (S1.out _).mono ?_
      rintro e v3 ⟨rfl, hd3⟩
      have hd03 := hd02.trans (hd3.mono hd02.size)
      clear hd02 hd3
      go_wp2_with fail
      refine (S1.out _).mono ?_
      rintro e v4 ⟨rfl, hd4⟩
      have hd04 := hd03.trans (hd4.mono hd03.size)
      clear hd03 hd4 S1
      go_wp2
      go_ret
      exact ⟨rfl, hd04⟩
end Go.Proofs.YtdcbideddlpodaaDoor
