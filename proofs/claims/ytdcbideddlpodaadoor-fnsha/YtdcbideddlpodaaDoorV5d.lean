/- Walk of the law FnSha. -/
import Derived.Test.YtdcbideddlpodaaDoorW5n
import Derived.Test.YtdcbideddlpodaaDoorW1d
import Derived.Test.YtdcbideddlpodaaDoorDraw11
namespace Go.Proofs.YtdcbideddlpodaaDoor
open Go.ChangeShapes Go.WideShapes Go.ChangeAt Go.RowKit
set_option linter.unusedVariables false

theorem small_max11 {n : Nat} (h : n ≤ 1000000) : n ≤ maxLen := by unfold maxLen; omega
def hexF : ByteArray := ⟨#[54, 97, 48, 57, 101, 54, 54, 55, 98, 98, 54, 55, 97, 101, 56, 53, 51, 99, 54, 101, 102, 51, 55, 50, 97, 53, 52, 102, 102, 53, 51, 97, 53, 49, 48, 101, 53, 50, 55, 102, 57, 98, 48, 53, 54, 56, 56, 99, 49, 102, 56, 51, 100, 57, 97, 98, 53, 98, 101, 48, 99, 100, 49, 57]⟩
set_option maxRecDepth 100000 in
theorem hexF_size : hexF.size = 64 := rfl
set_option maxRecDepth 100000 in
theorem hexF_first : unS hexF = stB sha0 := by decide +kernel
set_option maxRecDepth 100000 in
theorem hexF_some : (unV hexF).isSome = true := by decide +kernel
theorem stpR_step (p : ByteArray) (n : Nat) (h : 64 * n + 64 ≤ p.size) : stpR (stB (blksN p n)) (blk p n) = stB (blksN p (n + 1)) := by
  unfold stpR
  rw [if_pos ⟨stB_size _ (blksN_len p n), blk_size p n h⟩, stB_step]
theorem padS_begins (t : ByteArray) (ht : t.size ≤ 100000) : (padS t).extract 0 t.size = t := by
  apply ba_eq
  rw [ByteArray.data_extract, Array.toList_extract, padS_list t ht, ba_app4]
  simp only [List.extract, List.drop_zero, Nat.sub_zero, List.append_assoc]
  rw [List.take_left' (by simp)]

set_option maxRecDepth 100000 in
set_option maxHeartbeats 4000000 in
theorem walk_FnSha (a : Option Addr) (len cap : Nat) (z : List Int) (w : World) (h : IsRow .u8 w a len cap z) (hk : FTab w ∧ KTab w) :
    Calls Tryd.prog 3 #[.slice a len cap] w fun e w' => e = .returned (.bool true) ∧ Below w.heap.size w w' := by
  have HK := Lib.hid hk
  have hcd := Cd.of_row h
  obtain ⟨cv, hcv⟩ : ∃ cv : Value, cv = .slice a len cap := ⟨_, rfl⟩
  rw [← hcv] at hcd ⊢
  clear h hcv hk
  go_enter Tryd.func3, Tryd.ntmps3
  go_wp2_with fail
  refine (big_any _ cv _ hcd).mono ?_
  rintro e w1 ⟨⟨b, rfl⟩, rfl⟩
  cases b with
  | true =>
    go_wp2
    go_ret
    exact ⟨rfl, Below.refl _ _⟩
  | false =>
    go_wp2_with fail
    refine (drawSha256_any _ cv _ hcd).mono ?_
    rintro e v1 ⟨t, rfl, ht, hd1⟩
    have hcd1 := hcd.below hd1
    have hDe : Hid (shaRt t = shaD t) := Lib.hid (by unfold shaRt; rw [if_pos (by omega)])
    have I1 := Lib.hid (fun w hF hK => implSha_any t w hF hK)
    have S1 := Lib.hid (fun w => specSha_any t w)
    rw [hDe.out] at I1 S1
    have hDs := shaD_size t
    have HE : Hid (shaD t = stB (blksN (padS t) ((padS t).size / 64))) := Lib.hid rfl
    obtain ⟨D, hD⟩ : ∃ D, D = shaD t := ⟨_, rfl⟩
    rw [← hD] at I1 S1 hDs HE
    clear hD hDe hcd
    go_wp2_with fail
    refine (I1.out _ (HK.out.1.below hd1 (Nat.le_refl _)) (HK.out.2.below hd1 (Nat.le_refl _))).mono ?_
    rintro e v2 ⟨rfl, hd2⟩
    have hd02 := hd1.trans (hd2.mono hd1.size)
    have hcd2 := hcd1.below hd2
    clear hd1 hd2 hcd1 I1
    go_wp2_with fail
    refine (drawShaPad_any _ cv _ hcd2).mono ?_
    rintro e v3 ⟨p, rfl, hp, hd3⟩
    have hd03 := hd02.trans (hd3.mono hd02.size)
    have hcd3 := hcd2.below hd3
    clear hd02 hd3 hcd2
    go_wp2_with fail
    refine (drawShaStep_any _ cv _ hcd3).mono ?_
    rintro e v4 ⟨x, y, rfl, hx, hy, hd4⟩
    have hd04 := hd03.trans (hd4.mono hd03.size)
    clear hd03 hd4 hcd3
    go_wp2_with fail
    refine (S1.out _).mono ?_
    rintro e v5 ⟨rfl, hd5⟩
    have hd05 := hd04.trans (hd5.mono hd04.size)
    clear hd04 hd5 S1
    have I2 := Lib.hid (fun w => implShaPad_any p w (small_max11 (by omega)))
    have S2 := Lib.hid (fun w => specShaPad_any p w (small_max11 (by omega)))
    obtain ⟨P, hP⟩ : ∃ P, P = padR5 p := ⟨_, rfl⟩
    rw [← hP] at I2 S2
    clear hP
    go_wp2_with fail
    refine (I2.out _).mono ?_
    rintro e v6 ⟨rfl, hd6⟩
    have hd06 := hd05.trans (hd6.mono hd05.size)
    clear hd05 hd6 I2
    go_wp2_with fail
    refine (S2.out _).mono ?_
    rintro e v7 ⟨rfl, hd7⟩
    have hd07 := hd06.trans (hd7.mono hd06.size)
    clear hd06 hd7 S2
    have I3 := Lib.hid (fun w hK => implShaStep_any x y w hK)
    have S3 := Lib.hid (fun w => specShaStep_any x y w)
    obtain ⟨Q, hQ⟩ : ∃ Q, Q = stpR x y := ⟨_, rfl⟩
    rw [← hQ] at I3 S3
    clear hQ
    go_wp2_with fail
    refine (I3.out _ (HK.out.2.below hd07 (Nat.le_refl _))).mono ?_
    rintro e v8 ⟨rfl, hd8⟩
    have hd08 := hd07.trans (hd8.mono hd07.size)
    clear hd07 hd8 I3
    go_wp2_with fail
    refine (S3.out _).mono ?_
    rintro e v9 ⟨rfl, hd9⟩
    have hd09 := hd08.trans (hd9.mono hd08.size)
    clear hd08 hd9 S3
    have I4 := Lib.hid (fun w => implShaPad_any t w (small_max11 (by omega)))
    rw [show padR5 t = padS t by unfold padR5; rw [if_pos (by omega)]] at I4
    have hsm := padS_mod t
    have hsl := padS_le t
    have hsb := padS_begins t (by omega)
    have hsg : t.size ≤ (padS t).size := by rw [padS_size]; omega
    obtain ⟨s, hs⟩ : ∃ s, s = padS t := ⟨_, rfl⟩
    rw [← hs] at I4 hsm hsl hsb hsg HE
    clear hs
    go_wp2_with fail
    refine (I4.out _).mono ?_
    rintro e v10 ⟨rfl, hd10⟩
    have hd010 := hd09.trans (hd10.mono hd09.size)
    clear hd09 hd10 I4
    go_wp2_with fail
    have hU := implUnhex_any hexF v10 (small_max11 (by rw [hexF_size]; omega))
    rw [hexF_first, hexF_some] at hU
    refine hU.mono ?_
    rintro e v11 ⟨rfl, hd11⟩
    have hd011 := hd010.trans (hd11.mono hd010.size)
    clear hd010 hd11 hU
    have HSM := Lib.hid hsm
    have HDS := Lib.hid hDs
    generalize hfb : stB sha0 = f0
    have HF0 : Hid (f0 = stB (blksN s 0)) := Lib.hid hfb.symm
    clear hfb hsm hDs
    go_wp2
    go_loopw [9, 11] (fun v i wr => ∃ k n : Nat, Hid (n = 64 * k) ∧ n ≤ s.size ∧ i = .int .i64 n ∧ v = .string (stB (blksN s k)) ∧ Below w.heap.size w wr) (fun _ i _ => s.size - (intOf i).toNat)
    case atStart => exact ⟨0, 0, Lib.hid rfl, Nat.zero_le _, rfl, by rw [HF0.out], hd011⟩
    case round =>
      obtain ⟨k, n, hnk, hn, rfl, rfl, hB⟩ := hrel
      clear hd011
      obtain ⟨S1, hS1⟩ : ∃ S1, S1 = stB (blksN s k) := ⟨_, rfl⟩
      have hst := stpR_step s k
      rw [← hS1] at hst ⊢
      have HS1 := Lib.hid hS1
      clear hS1
      by_cases hlt : n + 64 ≤ s.size
      · have hbe : blk s k = s.extract n (n + 64) := by rw [hnk.out]; rfl
        have hst2 := hst (by have := hnk.out; omega)
        rw [hbe] at hst2
        have HC := Lib.hid (fun w hK => implShaStep_any S1 (s.extract n (n + 64)) w hK)
        rw [hst2] at HC
        obtain ⟨S2, hS2⟩ : ∃ S2, S2 = stB (blksN s (k + 1)) := ⟨_, rfl⟩
        rw [← hS2] at HC
        have HS2 := Lib.hid hS2
        clear hst hst2 hbe hS2
        go_wp2_with fail
        refine (HC.out _ (HK.out.2.below hB (Nat.le_refl _))).mono ?_
        rintro en w5 ⟨rfl, hb5⟩
        have hB5 := hB.trans (hb5.mono hB.size)
        clear HC hb5 hB
        go_wp2
        go_roundw
        case rel => exact ⟨k + 1, n + 64, Lib.hid (by rw [hnk.out]; omega), hlt, by go_num, by rw [HS2.out], hB5⟩
        case measure => simp [intOf]; omega
      · have hke : k = s.size / 64 := by have := hnk.out; have := HSM.out; omega
        have HO : Hid (S1 = D) := Lib.hid (by rw [HS1.out, HE.out, hke])
        have hSD := HO.out
        have hm64 : (s.size : Int) % 64 = 0 := by have := HSM.out; omega
        have hd32 : (D.size : Int) = 32 := by have := HDS.out; omega
        have hle72 : (s.size : Int) ≤ (t.size : Int) + 72 := by omega
        subst hSD
        clear hke hst
        go_wp2
        go_ret
        exact ⟨ret_bool (by simp), hB⟩
end Go.Proofs.YtdcbideddlpodaaDoor
