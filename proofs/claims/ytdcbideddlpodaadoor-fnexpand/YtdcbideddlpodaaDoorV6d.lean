/- Walk of the law FnExpand. -/
import Derived.Test.YtdcbideddlpodaaDoorW6f
import Derived.Test.YtdcbideddlpodaaDoorDraw12
namespace Go.Proofs.YtdcbideddlpodaaDoor
open Go.ChangeShapes Go.WideShapes Go.ChangeAt Go.RowKit
set_option linter.unusedVariables false

theorem small_max12 {n : Nat} (h : n ≤ 1000000) : n ≤ maxLen := by unfold maxLen; omega
theorem wf64 {n : Int} (h0 : -1000000 ≤ n) (h1 : n ≤ 1000000) : (Lit.int .i64 n).wf = true := by
  have e1 : IntKind.i64.min = -9223372036854775808 := by decide
  have e2 : IntKind.i64.max = 9223372036854775807 := by decide
  show (decide (IntKind.i64.min ≤ n) && decide (n ≤ IntKind.i64.max)) = true
  rw [e1, e2, decide_eq_true (by omega), decide_eq_true (by omega)]
  rfl
theorem ptA_begins (key : ByteArray) (T : Nat → ByteArray → ByteArray) (c : Nat) : ∀ j, ∃ r, (ptA key T (c + j)).data.toList = (ptA key T c).data.toList ++ r
  | 0 => ⟨[], by simp⟩
  | j + 1 => by
    obtain ⟨r, hr⟩ := ptA_begins key T c j
    refine ⟨r ++ (ptB key T (c + j + 1)).data.toList, ?_⟩
    show (ptA key T (c + j) ++ ptB key T (c + j + 1)).data.toList = _
    rw [ba_app4, hr, List.append_assoc]
theorem ext_list (b : ByteArray) (m : Nat) : (b.extract 0 m).data.toList = b.data.toList.take m := by
  rw [ByteArray.data_extract, Array.toList_extract]; simp [List.extract]
theorem ptA_cut (key : ByteArray) (T : Nat → ByteArray → ByteArray) (c d m : Nat) (hc : c ≤ d) (hm : m ≤ 32 * c) : (ptA key T d).extract 0 m = (ptA key T c).extract 0 m := by
  obtain ⟨r, hr⟩ := ptA_begins key T c (d - c)
  rw [show c + (d - c) = d by omega] at hr
  apply ba_eq
  have hl : (ptA key T c).data.toList.length = 32 * c := by simpa using ptA_size key T c
  rw [ext_list, ext_list, hr, List.take_append_of_le_length (by omega)]
theorem ext_ext (b : ByteArray) (k m : Nat) (h : m ≤ k) : (b.extract 0 k).extract 0 m = b.extract 0 m := by
  apply ba_eq
  rw [ext_list, ext_list, ext_list, List.take_take, Nat.min_eq_left h]
theorem ext_size (b : ByteArray) (m : Nat) (h : m ≤ b.size) : (b.extract 0 m).size = m := by rw [ByteArray.size_extract]; omega
theorem exR_in (key info : ByteArray) (m : Nat) (h1 : key.size ≤ 4000) (h2 : info.size ≤ 1000) (h3 : m ≤ 1000) : exR key info (m : Int) = (ptA key (exT info) ((m + 31) / 32)).extract 0 m := by
  unfold exR; rw [if_pos ⟨h1, h2, by omega, by omega⟩]; rfl
theorem exR_size (key info : ByteArray) (m : Nat) (h1 : key.size ≤ 4000) (h2 : info.size ≤ 1000) (h3 : m ≤ 1000) : (exR key info (m : Int)).size = m := by
  rw [exR_in key info m h1 h2 h3, ext_size _ _ (by rw [ptA_size]; omega)]
theorem exR_less (key info : ByteArray) (m : Nat) (h1 : key.size ≤ 4000) (h2 : info.size ≤ 1000) (h3 : m + 40 ≤ 1000) : (exR key info ((m + 40 : Nat) : Int)).extract 0 m = exR key info (m : Int) := by
  rw [exR_in key info (m + 40) h1 h2 h3, exR_in key info m h1 h2 (by omega), ext_ext _ _ _ (by omega), ptA_cut key (exT info) ((m + 31) / 32) ((m + 40 + 31) / 32) m (by omega) (by omega)]
theorem ext_all (b : ByteArray) (m : Nat) (h : b.size = m) : b.extract 0 m = b := by
  apply ba_eq
  rw [ext_list, List.take_of_length_le (by simp; omega)]
theorem exR_first (key info : ByteArray) (m : Nat) (h1 : key.size ≤ 4000) (h2 : info.size ≤ 1000) (h3 : m + 40 ≤ 1000) : (exR key info ((m + 40 : Nat) : Int)).extract 0 32 = hmB key (info ++ ⟨#[1]⟩) := by
  rw [exR_in key info (m + 40) h1 h2 h3, ext_ext _ _ _ (by omega), ptA_cut key (exT info) 1 ((m + 40 + 31) / 32) 32 (by omega) (by omega), ext_all _ _ (ptA_size key (exT info) 1)]
  show (⟨#[]⟩ : ByteArray) ++ hmB key ((⟨#[]⟩ : ByteArray) ++ info ++ ⟨#[1]⟩) = _
  have e : ∀ x : ByteArray, (⟨#[]⟩ : ByteArray) ++ x = x := fun x => by apply ba_eq; rw [ba_app4]; rfl
  rw [e, e]

set_option maxRecDepth 100000 in
set_option maxHeartbeats 4000000 in
theorem walk_FnExpand (a : Option Addr) (len cap : Nat) (z : List Int) (w : World) (h : IsRow .u8 w a len cap z) (hk : FTab w ∧ KTab w) :
    Calls Tryd.prog 5 #[.slice a len cap] w fun e w' => e = .returned (.bool true) ∧ Below w.heap.size w w' := by
  have HK := Lib.hid hk
  have hcd := Cd.of_row h
  obtain ⟨cv, hcv⟩ : ∃ cv : Value, cv = .slice a len cap := ⟨_, rfl⟩
  rw [← hcv] at hcd ⊢
  clear h hcv hk
  go_enter Tryd.func5, Tryd.ntmps5
  go_wp2_with fail
  refine (big_any _ cv _ hcd).mono ?_
  rintro e w1 ⟨⟨b, rfl⟩, rfl⟩
  cases b with
  | true =>
    go_wp2
    go_ret
    exact ⟨rfl, Below.refl _ _⟩
  | false =>
    go_wp2_with fail
    refine (drawExpand_any _ cv _ hcd).mono ?_
    rintro e v1 ⟨k, t, n, rfl, hks, hts, hwf, hd1⟩
    have I1 := Lib.hid (fun w hF hK => implExpand_any k t n w (small_max12 (by omega)) (small_max12 (by omega)) hwf hF hK)
    have S1 := Lib.hid (fun w => specExpand_any k t n w (small_max12 (by omega)) (small_max12 (by omega)) hwf)
    have hq1 : (k.size : Int) ≤ 100 := by omega
    have hq2 : (t.size : Int) ≤ 100 := by omega
    clear hcd
    by_cases hin : 1 ≤ n ∧ n ≤ 900
    · obtain ⟨m, rfl⟩ := Int.eq_ofNat_of_zero_le (show 0 ≤ n by omega)
      have hm1 : 1 ≤ m := by omega
      have hm9 : m ≤ 900 := by omega
      have hl1 := exR_less k t m (by omega) (by omega) (by omega)
      have hf1 := exR_first k t m (by omega) (by omega) (by omega)
      have hs1 := exR_size k t m (by omega) (by omega) (by omega)
      have hs2 := exR_size k t (m + 40) (by omega) (by omega) (by omega)
      have I2 := Lib.hid (fun w hF hK => implExpand_any k t ((m + 40 : Nat) : Int) w (small_max12 (by omega)) (small_max12 (by omega)) (wf64 (by omega) (by omega)) hF hK)
      rw [show ((m + 40 : Nat) : Int) = (m : Int) + 40 by omega] at I2
      obtain ⟨O, hO⟩ : ∃ O, O = exR k t (m : Int) := ⟨_, rfl⟩
      rw [show ((m + 40 : Nat) : Int) = (m : Int) + 40 by omega] at hl1 hf1 hs2
      obtain ⟨M, hM⟩ : ∃ M, M = exR k t ((m : Int) + 40) := ⟨_, rfl⟩
      rw [← hO] at I1 S1 hl1 hs1
      rw [← hM] at I2 hl1 hf1 hs2
      have H1 := Lib.hid (fun w hF hK => implHmac_any k (t ++ ⟨#[1]⟩) w (small_max12 (by omega)) (small_max12 (by rw [ByteArray.size_append]; show t.size + 1 ≤ _; omega)) hF hK)
      rw [show hmR k (t ++ ⟨#[1]⟩) = hmB k (t ++ ⟨#[1]⟩) by unfold hmR; rw [if_pos ⟨by omega, by rw [ByteArray.size_append]; show t.size + 1 ≤ _; omega⟩]] at H1
      obtain ⟨T1, hT1⟩ : ∃ T1 : ByteArray, t ++ ⟨#[1]⟩ = T1 := ⟨_, rfl⟩
      rw [hT1] at H1 hf1
      obtain ⟨B, hB⟩ : ∃ B, B = hmB k T1 := ⟨_, rfl⟩
      rw [← hB] at H1 hf1
      have hin1 := hin.1
      have hin2 := hin.2
      have z1 : ¬ ((m : Int) < 1) := by omega
      have z2 : ¬ (900 < (m : Int)) := by omega
      have hsI : (O.size : Int) = (m : Int) := by omega
      have hMm : (m : Int) ≤ (M.size : Int) := by omega
      have hM32 : (32 : Int) ≤ (M.size : Int) := by omega
      have hts1 : t.size + 1 ≤ 2000 := by omega
      have HSI := Lib.hid hsI
      clear hO hM hB hs1 hs2 hwf hin hsI
      go_wp2_with fail
      refine (I1.out _ (HK.out.1.below hd1 (Nat.le_refl _)) (HK.out.2.below hd1 (Nat.le_refl _))).mono ?_
      rintro e v2 ⟨rfl, hd2⟩
      have hd02 := hd1.trans (hd2.mono hd1.size)
      clear hd1 hd2 I1
      go_wp2_with fail
      refine (S1.out _).mono ?_
      rintro e v3 ⟨rfl, hd3⟩
      have hd03 := hd02.trans (hd3.mono hd02.size)
      clear hd02 hd3 S1
      go_wp2_with fail
      refine (I2.out _ (HK.out.1.below hd03 (Nat.le_refl _)) (HK.out.2.below hd03 (Nat.le_refl _))).mono ?_
      rintro e v4 ⟨rfl, hd4⟩
      have hd04 := hd03.trans (hd4.mono hd03.size)
      clear hd03 hd4 I2
      go_wp2
      have hsI := HSI.out
      refine wp_region_T (fun _ => True) (fun _ => True) 20 (by kernel_rfl) 21 rfl ?_
      refine wpAnyT_takesA (md := .any) 4 (by kernel_rfl) (by intro d v c a w h; cases d <;> exact h) [0, 1, 2, 3, 4, 5, 6, 7, 8, 9, 10, 11, 12, 13, 14, 15, 16] _ _ _ (by decide) (by kernel_rfl) ⟨trivial, fun _ => trivial⟩ ?_
      simp only [pick, List.filterMap_cons, List.filterMap_nil, List.getElem?_cons_zero, List.getElem?_cons_succ]
      refine wpIf_step (.string O) (by kernel_rfl) (fun w hw => by go_simp) ?_
      refine wpIf_step (.int .i64 (m : Int)) (by kernel_rfl) (fun w hw => by go_simp) ?_
      refine wpIf_step (.int .i64 (m : Int)) (by kernel_rfl) (fun w hw => by go_simp) ?_
      refine wpIf_step (.bool true) (by kernel_rfl) (fun w hw => by go_simp) ?_
      refine wpIf_step (.bool true) (by kernel_rfl) (fun w hw => by go_simp) ?_
      refine wpIf_step (.string M) (by kernel_rfl) (fun w hw => by go_simp) ?_
      refine wpIf_step (.int .i64 (m : Int)) (by kernel_rfl) (fun w hw => by go_simp) ?_
      refine wpIf_step (.string O) (by kernel_rfl) (fun w hw => by go_simp) ?_
      refine wpIf_step (.string O) (by kernel_rfl) (fun w hw => by go_simp) ?_
      refine wpIf_step (.bool true) (by kernel_rfl) (fun w hw => by go_simp) ?_
      refine wpIf_step (.bool true) (by kernel_rfl) (fun w hw => by go_simp) ?_
      refine wpIf_step (.bool true) (by kernel_rfl) (fun w hw => by go_simp) ?_
      refine wpIf_step (.string M) (by kernel_rfl) (fun w hw => by go_simp) ?_
      refine wpIf_step (.string B) (by kernel_rfl) (fun w hw => by go_simp) ?_
      refine wpIf_step (.string k) (by kernel_rfl) (fun w hw => by go_simp) ?_
      refine wpIf_step (.string t) (by kernel_rfl) (fun w hw => by go_simp) ?_
      refine wpIf_step (.string T1) (by kernel_rfl) (fun w hw => by go_simp; omega) ?_
      refine wpIf_nil (fun hS => ?_)
      refine wpAnyT_one 17 3 (by kernel_rfl) rfl (by kernel_rfl) (fun K hK => ?_)
      go_simp
      refine (H1.out _ (HK.out.1.below hd04.drew (Nat.le_refl _)) (HK.out.2.below hd04.drew (Nat.le_refl _))).mono ?_
      rintro e v5 ⟨rfl, hd5⟩
      have hd05 := hd04.drew.trans (hd5.mono hd04.size)
      refine hK _ _ ⟨trivial, fun _ => trivial⟩ (fun hS3 => ?_)
      clear hK K hS hd5 hd04
      refine wpAnyT_takesA (md := .any) 1 (by kernel_rfl) (by intro d v c a w h; cases d <;> exact h) [18, 19] _ _ _ (by decide) (by kernel_rfl) hS3 ?_
      simp only [pick, List.filterMap_cons, List.filterMap_nil, List.getElem?_cons_zero, List.getElem?_cons_succ]
      refine wpIf_step (.bool true) (by kernel_rfl) (fun w hw => by go_simp) ?_
      refine wpIf_step (.bool true) (by kernel_rfl) (fun w hw => by go_simp) ?_
      refine wpIf_nil (fun hS => ?_)
      clear hS3
      refine wpAnyT_one 20 0 (by kernel_rfl) rfl (by kernel_rfl) (fun K hK => ?_)
      go_simp
      refine hK _ _ ⟨trivial, fun _ => trivial⟩ (fun hS3 => ?_)
      clear hK K hS
      refine wpAnyT_over (by kernel_rfl) ?_
      go_wp2
      go_ret
      exact ⟨rfl, hd05⟩
    · have hdec : (decide (n < 1) || decide (900 < n)) = true := by simp; omega
      obtain ⟨O, hO⟩ : ∃ O, O = exR k t n := ⟨_, rfl⟩
      rw [← hO] at I1 S1
      clear hO
      by_cases hn1 : n < 1
      · clear hdec hin hwf
        go_wp2_with fail
        refine (I1.out _ (HK.out.1.below hd1 (Nat.le_refl _)) (HK.out.2.below hd1 (Nat.le_refl _))).mono ?_
        rintro e v2 ⟨rfl, hd2⟩
        have hd02 := hd1.trans (hd2.mono hd1.size)
        clear hd1 hd2 I1
        go_wp2_with fail
        refine (S1.out _).mono ?_
        rintro e v3 ⟨rfl, hd3⟩
        have hd03 := hd02.trans (hd3.mono hd02.size)
        clear hd02 hd3
        go_wp2_with fail
        refine (S1.out _).mono ?_
        rintro e v4 ⟨rfl, hd4⟩
        have hd04 := hd03.trans (hd4.mono hd03.size)
        clear hd03 hd4 S1
        go_wp2
        go_ret
        exact ⟨ret_bool (by simp), hd04⟩
      · have hn2 : 900 < n := by omega
        clear hdec hin hwf
        go_wp2_with fail
        refine (I1.out _ (HK.out.1.below hd1 (Nat.le_refl _)) (HK.out.2.below hd1 (Nat.le_refl _))).mono ?_
        rintro e v2 ⟨rfl, hd2⟩
        have hd02 := hd1.trans (hd2.mono hd1.size)
        clear hd1 hd2 I1
        go_wp2_with fail
        refine (S1.out _).mono ?_
        rintro e v3 ⟨rfl, hd3⟩
        have hd03 := hd02.trans (hd3.mono hd02.size)
        clear hd02 hd3
        go_wp2_with fail
        refine (S1.out _).mono ?_
        rintro e v4 ⟨rfl, hd4⟩
        have hd04 := hd03.trans (hd4.mono hd03.size)
        clear hd03 hd4 S1
        go_wp2
        go_ret
        exact ⟨ret_bool (by simp), hd04⟩
end Go.Proofs.YtdcbideddlpodaaDoor
