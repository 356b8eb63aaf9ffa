/- Walk of the law FnOneBlock. -/
import Derived.Test.YtijoancnlpkcoabPlainOne
import Derived.Test.YtijoancnlpkcoabV3c
import Derived.Test.YtijoancnlpkcoabW3k
namespace Go.Proofs.Ytijoancnlpkcoab
open Go.ChangeShapes Go.WideShapes Go.ChangeAt Go.RowKit
set_option linter.unusedVariables false

theorem small_max5 {n : Nat} (h : n ≤ 1000000) : n ≤ maxLen := by unfold maxLen; omega
theorem conv17 {w : World} {base : Nat} {val : Value} (h : OwnK 5 .u8 w base val (List.replicate 17 0)) : (convert 22 9 val).run Try.prog w = .ok (.string ngh17) w := by
  rw [conv_none h]
  congr 2
theorem clS_three (zs : List Int) (i : Nat) (h : i % 4 = 3) : clS zs i = zs.set i (zs.getD i 0 % 16) := by
  unfold clS clS1; rw [if_neg (by omega), if_pos h]
theorem clS_four (zs : List Int) (i : Nat) (h : i % 4 = 0) (h0 : 0 < i) : clS zs i = zs.set i (zs.getD i 0 / 4 * 4) := by
  unfold clS clS1; rw [if_pos ⟨h, h0⟩, if_neg (by omega)]
theorem clS_none (zs : List Int) (i : Nat) (h : ¬ i % 4 = 3) (h0 : ¬ (i % 4 = 0 ∧ 0 < i)) : clS zs i = zs := by
  unfold clS clS1; rw [if_neg h0, if_neg h]

set_option maxRecDepth 100000 in
set_option maxHeartbeats 4000000 in
theorem walk_FnOneBlock (a : Option Addr) (len cap : Nat) (z : List Int) (w : World) (h : IsRow .u8 w a len cap z) :
    Calls Try.prog 6 #[.slice a len cap] w fun e w' => e = .returned (.bool true) ∧ Below w.heap.size w w' := by
  have hcd := Cd.of_row h
  obtain ⟨cv, hcv⟩ : ∃ cv : Value, cv = .slice a len cap := ⟨_, rfl⟩
  rw [← hcv] at hcd ⊢
  clear h hcv
  go_enter Try.func6, Try.ntmps6
  go_wp2_with fail
  refine (big_any _ cv _ hcd).mono ?_
  rintro e w1 ⟨⟨b, rfl⟩, rfl⟩
  cases b with
  | true =>
    go_wp2
    go_ret
    exact ⟨rfl, Below.refl _ _⟩
  | false =>
    go_wp2_with fail
    refine (drawTagOf_any _ cv _ hcd).mono ?_
    rintro e v1 ⟨k, t, rfl, hk, ht, hd1⟩
    have I1 := Lib.hid (implTagOf_any k t)
    have S1 := Lib.hid (specTagOf_any k t)
    obtain ⟨T, hT⟩ : ∃ T, T = tagR k t := ⟨_, rfl⟩
    rw [← hT] at I1 S1
    clear hT hcd
    by_cases hk32 : k.size = 32
    · have hkd : ((k.size : Int) != 32) = false := by simp [hk32]
      by_cases ht0 : t.size = 0
      · have htd : ((t.size : Int) == 0) = true := by rw [ht0]; rfl
        clear ht0 hk32
        go_wp2_with fail
        refine (I1.out _ (small_max5 (by omega)) (small_max5 (by omega))).mono ?_
        rintro e v2 ⟨rfl, hd2⟩
        have hd02 := hd1.trans (hd2.mono hd1.size)
        clear hd1 hd2
        go_wp2_with fail
        refine (S1.out _ (small_max5 (by omega)) (small_max5 (by omega))).mono ?_
        rintro e v3 ⟨rfl, hd3⟩
        have hd03 := hd02.trans (hd3.mono hd02.size)
        clear hd02 hd3
        go_wp2
        go_ret
        exact ⟨rfl, hd03⟩
      · have htd : ((t.size : Int) == 0) = false := beq_eq_false_iff_ne.2 (by omega)
        clear I1 S1
        have hk16 : 16 ≤ k.size := by omega
        have hk16' : (16 : Int) ≤ (k.size : Int) := by omega
        have hkl : (k.extract 0 16).data.toList = k.data.toList.take 16 := by
          rw [ByteArray.data_extract, Array.toList_extract, List.extract_eq_take_drop]; simp
        have hks : (k.extract 0 16).size = 16 := by rw [ByteArray.size_extract]; omega
        obtain ⟨zs, hzs⟩ : ∃ zs, zs = intsOf (k.extract 0 16).data.toList := ⟨_, rfl⟩
        have hzb : ByteZ zs := by rw [hzs]; exact byteZ_intsOf _
        have hzl : zs.length = 16 := by rw [hzs, hkl]; unfold intsOf; rw [List.length_map, len16 k hk32]
        have HF : Hid (facB k = ⟨(bytesOf (clO zs 16)).toArray⟩) := Lib.hid (by rw [clO_all zs hzl]; unfold facB; rw [hzs, hkl])
        obtain ⟨cap, w1, hrun, hrow, hb1⟩ := bytes_conv_any (k.extract 0 16) v1
        rw [hks] at hrun
        rw [← hzs] at hrow
        have hB1 := hd1.trans (hb1.mono hd1.size)
        have hv1 := hd1.size
        obtain ⟨g, hg⟩ : ∃ g, g = v1.heap.size := ⟨_, rfl⟩
        rw [← hg] at hrun hrow hv1
        have HK := Lib.hid hk32
        clear hkl hks hzs hd1 hb1 hg hk32
        by_cases h16 : 16 < t.size
        · have hte : (t.extract 0 16).size = 16 := by rw [ByteArray.size_extract]; omega
          obtain ⟨P, hP⟩ : ∃ P, P = t.extract 0 16 := ⟨_, rfl⟩
          have hP' := hP.symm
          rw [← hP] at hte
          have hPs : P.size ≤ 16 := by omega
          have hP1 : 1 ≤ P.size := by omega
          clear hP hte
          go_wp2
          clear hrun
          try clear hP'
          go_loopw [6] (fun i wr => ∃ j : Nat, j ≤ 16 ∧ i = .int .i64 j ∧ BRow wr g (clO zs j) ∧ Below w.heap.size w wr) (fun i _ => 16 - (intOf i).toNat)
          case atStart => exact ⟨0, Nat.zero_le _, rfl, hrow, hB1⟩
          case round =>
            obtain ⟨j, hj, rfl, hA, hB⟩ := hrel
            clear hrow hB1
            have hlen : (clO zs j).length = 16 := by rw [clO_len, hzl]
            by_cases hlt : j < 16
            · have hml : j < (clO zs j).length := by omega
              have hc := hA.cell j hml
              have hf := hA.frozen j hml
              have hzz := clO_byte hzb j j
              have hst : clO zs (j + 1) = clS (clO zs j) j := rfl
              have hmd : (j : Int) % 4 = ((j % 4 : Nat) : Int) := by omega
              by_cases h3 : j % 4 = 3
              · rw [clS_three _ _ h3] at hst
                have hd3 : ((j : Int) % 4 == 3) = true := by rw [hmd, h3]; rfl
                have hd0 : ((j : Int) % 4 == 0) = false := by rw [hmd, h3]; rfl
                have hA2 := hA.set j hml ((clO zs j).getD j 0 % 16)
                rw [← hst] at hA2
                obtain ⟨x, hx⟩ : ∃ x, x = (clO zs j).getD j 0 := ⟨_, rfl⟩
                rw [← hx] at hc hzz hA2
                have HA2 := Lib.hid hA2
                clear hst hx hA hA2 hlen hml hmd h3
                go_wp2
                go_roundw
                case rel => exact ⟨j + 1, by omega, by go_num, HA2.out, hB.setCell (p := ⟨g, j, none⟩) hv1 _⟩
                case measure => simp [intOf]; omega
              · have hd3 : ((j : Int) % 4 == 3) = false := by rw [hmd]; simp; omega
                by_cases h0 : j % 4 = 0 ∧ 0 < j
                · rw [clS_four _ _ h0.1 h0.2] at hst
                  have hd0 : ((j : Int) % 4 == 0) = true := by rw [hmd, h0.1]; rfl
                  have hjp : 0 < j := h0.2
                  have hA2 := hA.set j hml ((clO zs j).getD j 0 / 4 * 4)
                  rw [← hst] at hA2
                  obtain ⟨x, hx⟩ : ∃ x, x = (clO zs j).getD j 0 := ⟨_, rfl⟩
                  rw [← hx] at hc hzz hA2
                  have HA2 := Lib.hid hA2
                  clear hst hx hA hA2 hlen hml hmd h3 h0
                  go_wp2
                  go_roundw
                  case rel => exact ⟨j + 1, by omega, by go_num, HA2.out, hB.setCell (p := ⟨g, j, none⟩) hv1 _⟩
                  case measure => simp [intOf]; omega
                · rw [clS_none _ _ h3 h0] at hst
                  rw [← hst] at hA
                  have HA2 := Lib.hid hA
                  by_cases hz0 : j = 0
                  · have hd0 : ((j : Int) % 4 == 0) = true := by rw [hz0]; rfl
                    have hdp : ¬ (0 : Int) < (j : Int) := by omega
                    have HZ0 := Lib.hid hz0
                    clear hst hA hlen hml hmd h3 h0 hc hf hzz hz0
                    go_wp2
                    go_roundw
                    case rel => exact ⟨j + 1, by omega, by go_num, HA2.out, hB⟩
                    case measure => simp [intOf]; omega
                  · have hd0 : ((j : Int) % 4 == 0) = false := by rw [hmd]; simp; omega
                    clear hst hA hlen hml hmd h3 h0 hc hf hzz
                    go_wp2
                    go_roundw
                    case rel => exact ⟨j + 1, by omega, by go_num, HA2.out, hB⟩
                    case measure => simp [intOf]; omega
            · have hj16 : j = 16 := by omega
              rw [hj16] at hA
              have hqb := clO_byte hzb 16
              rw [hj16] at hlen
              obtain ⟨cs, hcs⟩ : ∃ cs, cs = clO zs 16 := ⟨_, rfl⟩
              rw [← hcs] at hA hlen hqb HF
              have HCV : Hid (∀ wr, BRow wr g cs → (convert 22 9 (.slice (some ⟨g, 0, none⟩) 16 cap)).run Try.prog wr = .ok (.string (facB k)) wr) := Lib.hid (fun wr h => by rw [HF.out]; exact h.text hqb cap 16 hlen.symm)
              have hsz := hB.size
              clear hj16 hcs hlen hqb HF hzb hzl
              have a1s : (P ++ ⟨#[1]⟩ : ByteArray).size = P.size + 1 := by rw [ByteArray.size_append]; rfl
              have HBT : Hid (blkT P = (P ++ ⟨#[1]⟩ ++ ngh17 : ByteArray).extract 0 17) := Lib.hid rfl
              obtain ⟨A1, hA1⟩ : ∃ A, P ++ ⟨#[1]⟩ = A := ⟨_, rfl⟩
              rw [hA1] at a1s HBT
              have a2s : (A1 ++ ngh17 : ByteArray).size = A1.size + 17 := by rw [ByteArray.size_append]; rfl
              have hngs : ngh17.size = 17 := rfl
              obtain ⟨N17, hN17⟩ : ∃ N, N = ngh17 := ⟨_, rfl⟩
              have HN17 := Lib.hid hN17
              rw [← hN17] at a2s HBT hngs
              obtain ⟨A2, hA2⟩ : ∃ A, A1 ++ N17 = A := ⟨_, rfl⟩
              rw [hA2] at a2s HBT
              have kk1 : A1.size ≤ 17 := by omega
              have kk2 : 17 ≤ A2.size := by omega
              have kk3 : A2.size ≤ 100 := by omega
              have kk4 : (17 : Int) ≤ (A2.size : Int) := by omega
              clear hN17 a1s a2s
              go_wp2_with (at_make; refine wpList_fullK Try.underlying22 Try.infoU8 (by decide) rfl _ _ rfl wr.heap.size .i64 .i64 17 rfl rfl (by decide) (Nat.le_refl _) ?_; intro v2 hown2 hgr2; have hcn := conv17 hown2; rw [← HN17.out] at hcn; clear hown2)
              have hA2r : BRow v2.drew g cs := hA.below hgr2.drew hA.lt
              have hB2 := (hB.trans (hgr2.mono hsz)).drew
              have hvs := hB2.size
              have hkz := HK.out
              have hFs := facB_size k hkz
              have hHs : (k.extract 16 k.size).size = 16 := by rw [ByteArray.size_extract]; omega
              have hEs : (A2.extract 0 17).size = 17 := by rw [ByteArray.size_extract]; omega
              have m1 := one_mul k P hkz hPs
              have m2 := one_tag k P hkz hPs hP1
              have m3 := blkT_ok P hPs
              rw [HBT.out] at m1 m3
              obtain ⟨vv, hvv⟩ : ∃ vv, vv = blkN P 0 * facN k % prm := ⟨_, rfl⟩
              rw [← hvv] at m1 m2
              obtain ⟨F, hF⟩ : ∃ F, F = facB k := ⟨_, rfl⟩
              rw [← hF] at hFs m1 m2 HCV
              obtain ⟨E, hE⟩ : ∃ E, A2.extract 0 17 = E := ⟨_, rfl⟩
              rw [hE] at hEs m1 m3
              obtain ⟨H, hH⟩ : ∃ H, k.extract 16 k.size = H := ⟨_, rfl⟩
              rw [hH] at hHs m2
              have hF0s : (F ++ ⟨#[0]⟩ : ByteArray).size = 17 := by rw [ByteArray.size_append, hFs]; rfl
              obtain ⟨F0, hF0⟩ : ∃ F0, F ++ ⟨#[0]⟩ = F0 := ⟨_, rfl⟩
              rw [hF0] at hF0s m1
              have hFHs : (F ++ H).size = 32 := by rw [ByteArray.size_append, hFs, hHs]
              obtain ⟨FH, hFH⟩ : ∃ FH, F ++ H = FH := ⟨_, rfl⟩
              rw [hFH] at hFHs m2
              have i1 := fun w => implNumMul_any E F0 w (small_max5 (by omega)) (small_max5 (by omega))
              rw [m1] at i1
              have i2 := fun w => implTagOf_any FH P w (small_max5 (by omega)) (small_max5 (by omega))
              have i3 := fun w => specTagOf_any FH P w (small_max5 (by omega)) (small_max5 (by omega))
              have i4 := fun w => implNumOk_any E w (small_max5 (by omega))
              rw [m3] at i4
              obtain ⟨TG, hTG⟩ : ∃ TG, TG = tagR FH P := ⟨_, rfl⟩
              rw [← hTG] at i2 i3 m2
              obtain ⟨X, hX⟩ : ∃ X, X = txtR vv := ⟨_, rfl⟩
              rw [← hX] at i1
              have HX := Lib.hid hX
              have HTG := Lib.hid m2
              have I1 := Lib.hid i1
              have I2 := Lib.hid i2
              have I3 := Lib.hid i3
              have I4 := Lib.hid i4
              have z1 : ¬ (9223372036854775807 < F.size + 1) := by omega
              have z2 : ¬ (9223372036854775807 < F.size + H.size) := by omega
              clear i1 i2 i3 i4 m1 m2 m3 hTG hX hvv hF hcn hgr2 hA hB hsz HBT hkz hA1 hA2 HN17 hngs
              refine wp_region_T (fun w' => BRow w' g cs) (fun _ => True) 6 (by kernel_rfl) 7 rfl ?_
              refine wpAnyT_takesA (md := .any) 2 (by kernel_rfl) (by intro d v c a w h; cases d <;> exact h) [0, 1, 2, 3, 4] _ _ _ (by decide) (by kernel_rfl) ⟨hA2r, fun _ => trivial⟩ ?_
              simp only [pick, List.filterMap_cons, List.filterMap_nil, List.getElem?_cons_zero, List.getElem?_cons_succ]
              iterate 3 (refine wpIf_step ?_ (by kernel_rfl) ?_ ?_; rotate_left; (intro w _; go_simp); try with_reducible rfl)
              refine wpIf_step (.string F) (by kernel_rfl) (fun w hw => by have hx := HCV.out w hw; go_simp) ?_
              iterate 1 (refine wpIf_step ?_ (by kernel_rfl) ?_ ?_; rotate_left; (intro w _; go_simp); try with_reducible rfl)
              refine wpIf_nil (fun hS => ?_)
              refine wpAnyT_one 5 1 (by kernel_rfl) rfl (by kernel_rfl) (fun K hK => ?_)
              go_simp
              refine (I1.out _).mono ?_
              rintro e v3 ⟨rfl, hb3⟩
              have hA3 := hA2r.below hb3 hA2r.lt
              have hB3 := hB2.trans (hb3.mono hvs)
              refine hK _ _ ⟨hA3, fun _ => trivial⟩ (fun hS3 => ?_)
              clear hK K hS hb3 hA2r hB2
              refine wpAnyT_one 6 0 (by kernel_rfl) rfl (by kernel_rfl) (fun K hK => ?_)
              go_simp
              refine hK _ _ ⟨hA3, fun _ => trivial⟩ (fun hS4 => ?_)
              clear hK K hS3
              refine wpAnyT_over (by kernel_rfl) ?_
              go_wp2
              have hA4 : BRow v3.drew g cs := hA3
              have hB4 := hB3.drew
              have hvs4 := hB4.size
              clear hA3 hB3 hS4
              refine wp_region_T (fun w' => BRow w' g cs) (fun _ => True) 7 (by kernel_rfl) 8 rfl ?_
              refine wpAnyT_takesA (md := .any) 2 (by kernel_rfl) (by intro d v c a w h; cases d <;> exact h) [0, 1, 2, 3, 4, 5] _ _ _ (by decide) (by kernel_rfl) ⟨hA4, fun _ => trivial⟩ ?_
              simp only [pick, List.filterMap_cons, List.filterMap_nil, List.getElem?_cons_zero, List.getElem?_cons_succ]
              iterate 1 (refine wpIf_step ?_ (by kernel_rfl) ?_ ?_; rotate_left; (intro w _; go_simp); try with_reducible rfl)
              refine wpIf_step (.string F) (by kernel_rfl) (fun w hw => by have hx := HCV.out w hw; go_simp) ?_
              iterate 4 (refine wpIf_step ?_ (by kernel_rfl) ?_ ?_; rotate_left; (intro w _; go_simp); try with_reducible rfl)
              refine wpIf_nil (fun hS => ?_)
              refine wpAnyT_one 6 1 (by kernel_rfl) rfl (by kernel_rfl) (fun K hK => ?_)
              go_simp
              refine (I2.out _).mono ?_
              rintro e v5 ⟨rfl, hb5⟩
              have hA5 := hA4.below hb5 hA4.lt
              have hB5 := hB4.trans (hb5.mono hvs4)
              refine hK _ _ ⟨hA5, fun _ => trivial⟩ (fun hS3 => ?_)
              clear hK K hS hb5 hA4 hB4
              refine wpAnyT_one 7 0 (by kernel_rfl) rfl (by kernel_rfl) (fun K hK => ?_)
              go_simp
              refine hK _ _ ⟨hA5, fun _ => trivial⟩ (fun hS4 => ?_)
              clear hK K hS3
              refine wpAnyT_over (by kernel_rfl) ?_
              go_wp2
              have hA6 : BRow v5.drew g cs := hA5
              have hB6 := hB5.drew
              have hvs6 := hB6.size
              clear hA5 hB5 hS4
              refine wp_region_T (fun w' => BRow w' g cs) (fun _ => True) 14 (by kernel_rfl) 15 rfl ?_
              refine wpAnyT_takesA (md := .any) 8 (by kernel_rfl) (by intro d v c a w h; cases d <;> exact h) [0, 1, 2, 3, 4, 5, 6] _ _ _ (by decide) (by kernel_rfl) ⟨hA6, fun _ => trivial⟩ ?_
              simp only [pick, List.filterMap_cons, List.filterMap_nil, List.getElem?_cons_zero, List.getElem?_cons_succ]
              iterate 2 (refine wpIf_step ?_ (by kernel_rfl) ?_ ?_; rotate_left; (intro w _; go_simp); try with_reducible rfl)
              refine wpIf_step (.string F) (by kernel_rfl) (fun w hw => by have hx := HCV.out w hw; go_simp) ?_
              iterate 4 (refine wpIf_step ?_ (by kernel_rfl) ?_ ?_; rotate_left; (intro w _; go_simp); try with_reducible rfl)
              refine wpIf_nil (fun hS => ?_)
              refine wpAnyT_one 7 7 (by kernel_rfl) rfl (by kernel_rfl) (fun K hK => ?_)
              go_simp
              refine (I3.out _).mono ?_
              rintro e v7 ⟨rfl, hb7⟩
              have hA7 := hA6.below hb7 hA6.lt
              have hB7 := hB6.trans (hb7.mono hvs6)
              have hvs7 := hB7.size
              refine hK _ _ ⟨hA7, fun _ => trivial⟩ (fun hS3 => ?_)
              clear hK K hS hb7 hA6 hB6
              refine wpAnyT_takesA (md := .any) 3 (by kernel_rfl) (by intro d v c a w h; cases d <;> exact h) [8, 9, 10, 11] _ _ _ (by decide) (by kernel_rfl) hS3 ?_
              simp only [pick, List.filterMap_cons, List.filterMap_nil, List.getElem?_cons_zero, List.getElem?_cons_succ]
              refine wpIf_step (.bool false) (by kernel_rfl) (fun w hw => by go_simp) ?_
              iterate 3 (refine wpIf_step ?_ (by kernel_rfl) ?_ ?_; rotate_left; (intro w _; go_simp); try with_reducible rfl)
              refine wpIf_nil (fun hS => ?_)
              clear hS3
              refine wpAnyT_one 12 2 (by kernel_rfl) rfl (by kernel_rfl) (fun K hK => ?_)
              go_simp
              refine (I4.out _).mono ?_
              rintro e v8 ⟨rfl, hb8⟩
              have hA8 := hA7.below hb8 hA7.lt
              have hB8 := hB7.trans (hb8.mono hvs7)
              refine hK _ _ ⟨hA8, fun _ => trivial⟩ (fun hS3 => ?_)
              clear hK K hS hb8 hA7 hB7
              refine wpAnyT_takesA (md := .any) 1 (by kernel_rfl) (by intro d v c a w h; cases d <;> exact h) [13] _ _ _ (by decide) (by kernel_rfl) hS3 ?_
              simp only [pick, List.filterMap_cons, List.filterMap_nil, List.getElem?_cons_zero, List.getElem?_cons_succ]
              iterate 1 (refine wpIf_step ?_ (by kernel_rfl) ?_ ?_; rotate_left; (intro w _; go_simp); try with_reducible rfl)
              refine wpIf_nil (fun hS => ?_)
              clear hS3
              refine wpAnyT_one 14 0 (by kernel_rfl) rfl (by kernel_rfl) (fun K hK => ?_)
              go_simp
              refine hK _ _ ⟨hA8, fun _ => trivial⟩ (fun hS4 => ?_)
              clear hK K hS
              refine wpAnyT_over (by kernel_rfl) ?_
              clear hS4 hA8 HCV I1 I2 I3 I4
              have hXs : 17 ≤ X.size := by rw [HX.out, txtR_size]; omega
              have hkl : (k.data.toList.drop 16).length = 16 := by rw [List.length_drop]; have := HK.out; simp; omega
              have htl : ((leBy 17 vv).take 16).length = 16 := by rw [List.length_take, leBy_len]; rfl
              obtain ⟨A, hAe⟩ : ∃ A, A = (leBy 17 vv).take 16 := ⟨_, rfl⟩
              obtain ⟨B, hBe⟩ : ∃ B, B = k.data.toList.drop 16 := ⟨_, rfl⟩
              have HTL : Hid (X.data.toList = leBy 17 vv) := Lib.hid (by rw [HX.out]; rfl)
              have HGA : Hid (∀ (j : Nat) (h : j < 16) (h2 : j < A.length) (h3 : j < X.size), A[j] = X[j]) := Lib.hid (fun j h h2 h3 => by
                have e1 : X[j] = X.data.toList[j]'(by simpa using h3) := rfl
                rw [e1]
                have e2 := HTL.out
                simp only [hAe, List.getElem_take, e2])
              have HGB : Hid (∀ (j : Nat) (h : j < B.length) (h3 : 16 + j < k.size), B[j] = k[16 + j]) := Lib.hid (fun j h h3 => by
                have e1 : k[16 + j] = k.data.toList[16 + j]'(by simpa using h3) := rfl
                rw [e1]
                simp only [hBe, List.getElem_drop])
              have HTG2 : Hid (TG.data.toList = sumR 16 A B) := Lib.hid (by rw [HTG.out, hAe, hBe])
              have hTGs : 16 ≤ TG.size := by
                have h1 : TG.data.toList.length = TG.size := by simp
                have h2 := HTG2.out
                rw [← h1, h2, sumR_len]; omega
              rw [← hAe] at htl
              rw [← hBe] at hkl
              have HAL := Lib.hid htl
              have HBL2 := Lib.hid hkl
              have HS := Lib.hid (ov_step A B)
              have HBY : Hid (∀ (j : Nat) (h1 : j < A.length) (h2 : j < B.length) (h3 : j < TG.size), TG[j] = UInt8.ofNat ((ovN A B j + (A[j].toNat + B[j].toNat)) % 256)) := Lib.hid (fun j h1 h2 h3 => by
                have e1 : TG[j] = TG.data.toList[j]'(by simpa using h3) := rfl
                rw [e1]
                have e2 := HTG2.out
                simp only [e2]
                exact sum_byte A B 16 j h1 h2 _)
              have hk32 : 32 ≤ k.size := by have := HK.out; omega
              clear hkl htl hAe hBe HTL HTG HTG2 HX hE hH hF0 hFH hEs hHs hF0s hFHs hFs hvs hvs4 hvs6 hvs7 z1 z2 kk1 kk2 kk3 kk4
              go_wp2
              go_loopw [11, 12] (fun o i wr => ∃ j : Nat, j ≤ 16 ∧ i = .int .i64 j ∧ o = .int .i64 (ovN A B j : Nat) ∧ Below w.heap.size w wr)
                (fun _ i _ => 16 - (intOf i).toNat)
              case atStart => exact ⟨0, Nat.zero_le _, rfl, by simp [ovN, leNat], hB8⟩
              case round =>
                obtain ⟨j, hj, rfl, rfl, hbel⟩ := hrel
                clear hB8
                by_cases hjt : j < 16
                · obtain ⟨e1, -, e3⟩ := HS.out j (by rw [HAL.out]; omega) (by rw [HBL2.out]; omega)
                  have hxa := HGA.out j hjt (by rw [HAL.out]; omega) (by omega)
                  have hxb := HGB.out j (by rw [HBL2.out]; omega) (by omega)
                  have hjX : j < X.size := by omega
                  have hjK : 16 + j < k.size := by omega
                  have hjT : j < TG.size := by omega
                  have e2 := HBY.out j (by rw [HAL.out]; omega) (by rw [HBL2.out]; omega) hjT
                  rw [hxa, hxb] at e1 e2
                  obtain ⟨o, ho⟩ : ∃ o, o = ovN A B j := ⟨_, rfl⟩
                  rw [← ho] at e1 e2 e3 ⊢
                  have hx := X[j].toNat_lt
                  have hy := k[16 + j].toNat_lt
                  obtain ⟨sm, hsm⟩ : ∃ sm, sm = o + (X[j].toNat + k[16 + j].toNat) := ⟨_, rfl⟩
                  rw [← hsm] at e1 e2
                  have hsmb : sm ≤ 511 := by omega
                  have hi1 : (j : Int) < (X.size : Int) := by omega
                  have hi2 : 16 + (j : Int) < (k.size : Int) := by omega
                  have hi3 : 0 ≤ 16 + (j : Int) := by omega
                  have hi4 : (j : Int) < (TG.size : Int) := by omega
                  have ht3 : (16 + (j : Int)).toNat = 16 + j := by omega
                  have w0 : IntKind.i64.wrap (16 + (j : Int)) = 16 + (j : Int) := IntWalk.i64_in _ (by omega)
                  have w1 : IntKind.i64.wrap (X[j].toNat : Int) = (X[j].toNat : Int) := IntWalk.i64_in _ (by omega)
                  have w2 : IntKind.i64.wrap (k[16 + j].toNat : Int) = (k[16 + j].toNat : Int) := IntWalk.i64_in _ (by omega)
                  have w3 : IntKind.i64.wrap ((o : Int) + (X[j].toNat : Int)) = (o : Int) + (X[j].toNat : Int) := IntWalk.i64_in _ (by omega)
                  have w4 : IntKind.i64.wrap ((o : Int) + (X[j].toNat : Int) + (k[16 + j].toNat : Int)) = (sm : Int) := by
                    rw [show (o : Int) + (X[j].toNat : Int) + (k[16 + j].toNat : Int) = (sm : Int) by omega]; exact IntWalk.i64_in _ (by omega)
                  have w5 : IntKind.u8.wrap (((sm % 256 : Nat)) : Int) = ((sm % 256 : Nat) : Int) := by rw [IntKind.wrap_u8']; omega
                  have w7 : (sm : Int) % 256 = ((sm % 256 : Nat) : Int) := by omega
                  have w6 : (sm : Int) / 256 = ((sm / 256 : Nat) : Int) := by omega
                  have hlb : sm % 256 < 256 := by omega
                  have w8 : TG[j].toNat = sm % 256 := by rw [e2]; exact ofNat_toNat8 _ hlb
                  obtain ⟨lo, hlo⟩ : ∃ lo, lo = sm % 256 := ⟨_, rfl⟩
                  obtain ⟨hi, hhi⟩ : ∃ hi, hi = sm / 256 := ⟨_, rfl⟩
                  rw [← hlo] at w5 w7 w8 hlb
                  rw [← hhi] at w6 e1
                  have E1 := Lib.hid e1
                  clear e1 e2 ho hsm hxa hxb hlo hhi
                  go_wp2
                  refine wp_region_free_tail 13 (by kernel_rfl) (by kernel_rfl) (by decide) (by kernel_rfl) (by intro d v c a w h; cases d <;> exact h) ?_
                  simp only [List.take_succ_cons, List.take_zero, List.drop_succ_cons, List.drop_zero]
                  iterate 13 (refine wpFree_step ?_ (by rfl) ?_ ?_; rotate_left; (intro w; go_simp); try with_reducible rfl)
                  refine wpFree_nil ?_
                  go_wp2
                  go_roundw
                  case rel => exact ⟨j + 1, by omega, by go_num, by rw [E1.out], hbel.drew⟩
                  case measure => simp [intOf]; omega
                · go_wp2
                  go_ret
                  exact ⟨rfl, hbel⟩
        · have hd16 : ¬ 16 < (t.size : Int) := by omega
          have hPs : t.size ≤ 16 := by omega
          have hP1 : 1 ≤ t.size := by omega
          go_wp2
          clear hrun
          try clear hP'
          go_loopw [6] (fun i wr => ∃ j : Nat, j ≤ 16 ∧ i = .int .i64 j ∧ BRow wr g (clO zs j) ∧ Below w.heap.size w wr) (fun i _ => 16 - (intOf i).toNat)
          case atStart => exact ⟨0, Nat.zero_le _, rfl, hrow, hB1⟩
          case round =>
            obtain ⟨j, hj, rfl, hA, hB⟩ := hrel
            clear hrow hB1
            have hlen : (clO zs j).length = 16 := by rw [clO_len, hzl]
            by_cases hlt : j < 16
            · have hml : j < (clO zs j).length := by omega
              have hc := hA.cell j hml
              have hf := hA.frozen j hml
              have hzz := clO_byte hzb j j
              have hst : clO zs (j + 1) = clS (clO zs j) j := rfl
              have hmd : (j : Int) % 4 = ((j % 4 : Nat) : Int) := by omega
              by_cases h3 : j % 4 = 3
              · rw [clS_three _ _ h3] at hst
                have hd3 : ((j : Int) % 4 == 3) = true := by rw [hmd, h3]; rfl
                have hd0 : ((j : Int) % 4 == 0) = false := by rw [hmd, h3]; rfl
                have hA2 := hA.set j hml ((clO zs j).getD j 0 % 16)
                rw [← hst] at hA2
                obtain ⟨x, hx⟩ : ∃ x, x = (clO zs j).getD j 0 := ⟨_, rfl⟩
                rw [← hx] at hc hzz hA2
                have HA2 := Lib.hid hA2
                clear hst hx hA hA2 hlen hml hmd h3
                go_wp2
                go_roundw
                case rel => exact ⟨j + 1, by omega, by go_num, HA2.out, hB.setCell (p := ⟨g, j, none⟩) hv1 _⟩
                case measure => simp [intOf]; omega
              · have hd3 : ((j : Int) % 4 == 3) = false := by rw [hmd]; simp; omega
                by_cases h0 : j % 4 = 0 ∧ 0 < j
                · rw [clS_four _ _ h0.1 h0.2] at hst
                  have hd0 : ((j : Int) % 4 == 0) = true := by rw [hmd, h0.1]; rfl
                  have hjp : 0 < j := h0.2
                  have hA2 := hA.set j hml ((clO zs j).getD j 0 / 4 * 4)
                  rw [← hst] at hA2
                  obtain ⟨x, hx⟩ : ∃ x, x = (clO zs j).getD j 0 := ⟨_, rfl⟩
                  rw [← hx] at hc hzz hA2
                  have HA2 := Lib.hid hA2
                  clear hst hx hA hA2 hlen hml hmd h3 h0
                  go_wp2
                  go_roundw
                  case rel => exact ⟨j + 1, by omega, by go_num, HA2.out, hB.setCell (p := ⟨g, j, none⟩) hv1 _⟩
                  case measure => simp [intOf]; omega
                · rw [clS_none _ _ h3 h0] at hst
                  rw [← hst] at hA
                  have HA2 := Lib.hid hA
                  by_cases hz0 : j = 0
                  · have hd0 : ((j : Int) % 4 == 0) = true := by rw [hz0]; rfl
                    have hdp : ¬ (0 : Int) < (j : Int) := by omega
                    have HZ0 := Lib.hid hz0
                    clear hst hA hlen hml hmd h3 h0 hc hf hzz hz0
                    go_wp2
                    go_roundw
                    case rel => exact ⟨j + 1, by omega, by go_num, HA2.out, hB⟩
                    case measure => simp [intOf]; omega
                  · have hd0 : ((j : Int) % 4 == 0) = false := by rw [hmd]; simp; omega
                    clear hst hA hlen hml hmd h3 h0 hc hf hzz
                    go_wp2
                    go_roundw
                    case rel => exact ⟨j + 1, by omega, by go_num, HA2.out, hB⟩
                    case measure => simp [intOf]; omega
            · have hj16 : j = 16 := by omega
              rw [hj16] at hA
              have hqb := clO_byte hzb 16
              rw [hj16] at hlen
              obtain ⟨cs, hcs⟩ : ∃ cs, cs = clO zs 16 := ⟨_, rfl⟩
              rw [← hcs] at hA hlen hqb HF
              have HCV : Hid (∀ wr, BRow wr g cs → (convert 22 9 (.slice (some ⟨g, 0, none⟩) 16 cap)).run Try.prog wr = .ok (.string (facB k)) wr) := Lib.hid (fun wr h => by rw [HF.out]; exact h.text hqb cap 16 hlen.symm)
              have hsz := hB.size
              clear hj16 hcs hlen hqb HF hzb hzl
              have a1s : (t ++ ⟨#[1]⟩ : ByteArray).size = t.size + 1 := by rw [ByteArray.size_append]; rfl
              have HBT : Hid (blkT t = (t ++ ⟨#[1]⟩ ++ ngh17 : ByteArray).extract 0 17) := Lib.hid rfl
              obtain ⟨A1, hA1⟩ : ∃ A, t ++ ⟨#[1]⟩ = A := ⟨_, rfl⟩
              rw [hA1] at a1s HBT
              have a2s : (A1 ++ ngh17 : ByteArray).size = A1.size + 17 := by rw [ByteArray.size_append]; rfl
              have hngs : ngh17.size = 17 := rfl
              obtain ⟨N17, hN17⟩ : ∃ N, N = ngh17 := ⟨_, rfl⟩
              have HN17 := Lib.hid hN17
              rw [← hN17] at a2s HBT hngs
              obtain ⟨A2, hA2⟩ : ∃ A, A1 ++ N17 = A := ⟨_, rfl⟩
              rw [hA2] at a2s HBT
              have kk1 : A1.size ≤ 17 := by omega
              have kk2 : 17 ≤ A2.size := by omega
              have kk3 : A2.size ≤ 100 := by omega
              have kk4 : (17 : Int) ≤ (A2.size : Int) := by omega
              clear hN17 a1s a2s
              go_wp2_with (at_make; refine wpList_fullK Try.underlying22 Try.infoU8 (by decide) rfl _ _ rfl wr.heap.size .i64 .i64 17 rfl rfl (by decide) (Nat.le_refl _) ?_; intro v2 hown2 hgr2; have hcn := conv17 hown2; rw [← HN17.out] at hcn; clear hown2)
              have hA2r : BRow v2.drew g cs := hA.below hgr2.drew hA.lt
              have hB2 := (hB.trans (hgr2.mono hsz)).drew
              have hvs := hB2.size
              have hkz := HK.out
              have hFs := facB_size k hkz
              have hHs : (k.extract 16 k.size).size = 16 := by rw [ByteArray.size_extract]; omega
              have hEs : (A2.extract 0 17).size = 17 := by rw [ByteArray.size_extract]; omega
              have m1 := one_mul k t hkz hPs
              have m2 := one_tag k t hkz hPs hP1
              have m3 := blkT_ok t hPs
              rw [HBT.out] at m1 m3
              obtain ⟨vv, hvv⟩ : ∃ vv, vv = blkN t 0 * facN k % prm := ⟨_, rfl⟩
              rw [← hvv] at m1 m2
              obtain ⟨F, hF⟩ : ∃ F, F = facB k := ⟨_, rfl⟩
              rw [← hF] at hFs m1 m2 HCV
              obtain ⟨E, hE⟩ : ∃ E, A2.extract 0 17 = E := ⟨_, rfl⟩
              rw [hE] at hEs m1 m3
              obtain ⟨H, hH⟩ : ∃ H, k.extract 16 k.size = H := ⟨_, rfl⟩
              rw [hH] at hHs m2
              have hF0s : (F ++ ⟨#[0]⟩ : ByteArray).size = 17 := by rw [ByteArray.size_append, hFs]; rfl
              obtain ⟨F0, hF0⟩ : ∃ F0, F ++ ⟨#[0]⟩ = F0 := ⟨_, rfl⟩
              rw [hF0] at hF0s m1
              have hFHs : (F ++ H).size = 32 := by rw [ByteArray.size_append, hFs, hHs]
              obtain ⟨FH, hFH⟩ : ∃ FH, F ++ H = FH := ⟨_, rfl⟩
              rw [hFH] at hFHs m2
              have i1 := fun w => implNumMul_any E F0 w (small_max5 (by omega)) (small_max5 (by omega))
              rw [m1] at i1
              have i2 := fun w => implTagOf_any FH t w (small_max5 (by omega)) (small_max5 (by omega))
              have i3 := fun w => specTagOf_any FH t w (small_max5 (by omega)) (small_max5 (by omega))
              have i4 := fun w => implNumOk_any E w (small_max5 (by omega))
              rw [m3] at i4
              obtain ⟨TG, hTG⟩ : ∃ TG, TG = tagR FH t := ⟨_, rfl⟩
              rw [← hTG] at i2 i3 m2
              obtain ⟨X, hX⟩ : ∃ X, X = txtR vv := ⟨_, rfl⟩
              rw [← hX] at i1
              have HX := Lib.hid hX
              have HTG := Lib.hid m2
              have I1 := Lib.hid i1
              have I2 := Lib.hid i2
              have I3 := Lib.hid i3
              have I4 := Lib.hid i4
              have z1 : ¬ (9223372036854775807 < F.size + 1) := by omega
              have z2 : ¬ (9223372036854775807 < F.size + H.size) := by omega
              clear i1 i2 i3 i4 m1 m2 m3 hTG hX hvv hF hcn hgr2 hA hB hsz HBT hkz hA1 hA2 HN17 hngs
              refine wp_region_T (fun w' => BRow w' g cs) (fun _ => True) 6 (by kernel_rfl) 7 rfl ?_
              refine wpAnyT_takesA (md := .any) 2 (by kernel_rfl) (by intro d v c a w h; cases d <;> exact h) [0, 1, 2, 3, 4] _ _ _ (by decide) (by kernel_rfl) ⟨hA2r, fun _ => trivial⟩ ?_
              simp only [pick, List.filterMap_cons, List.filterMap_nil, List.getElem?_cons_zero, List.getElem?_cons_succ]
              iterate 3 (refine wpIf_step ?_ (by kernel_rfl) ?_ ?_; rotate_left; (intro w _; go_simp); try with_reducible rfl)
              refine wpIf_step (.string F) (by kernel_rfl) (fun w hw => by have hx := HCV.out w hw; go_simp) ?_
              iterate 1 (refine wpIf_step ?_ (by kernel_rfl) ?_ ?_; rotate_left; (intro w _; go_simp); try with_reducible rfl)
              refine wpIf_nil (fun hS => ?_)
              refine wpAnyT_one 5 1 (by kernel_rfl) rfl (by kernel_rfl) (fun K hK => ?_)
              go_simp
              refine (I1.out _).mono ?_
              rintro e v3 ⟨rfl, hb3⟩
              have hA3 := hA2r.below hb3 hA2r.lt
              have hB3 := hB2.trans (hb3.mono hvs)
              refine hK _ _ ⟨hA3, fun _ => trivial⟩ (fun hS3 => ?_)
              clear hK K hS hb3 hA2r hB2
              refine wpAnyT_one 6 0 (by kernel_rfl) rfl (by kernel_rfl) (fun K hK => ?_)
              go_simp
              refine hK _ _ ⟨hA3, fun _ => trivial⟩ (fun hS4 => ?_)
              clear hK K hS3
              refine wpAnyT_over (by kernel_rfl) ?_
              go_wp2
              have hA4 : BRow v3.drew g cs := hA3
              have hB4 := hB3.drew
              have hvs4 := hB4.size
              clear hA3 hB3 hS4
              refine wp_region_T (fun w' => BRow w' g cs) (fun _ => True) 7 (by kernel_rfl) 8 rfl ?_
              refine wpAnyT_takesA (md := .any) 2 (by kernel_rfl) (by intro d v c a w h; cases d <;> exact h) [0, 1, 2, 3, 4, 5] _ _ _ (by decide) (by kernel_rfl) ⟨hA4, fun _ => trivial⟩ ?_
              simp only [pick, List.filterMap_cons, List.filterMap_nil, List.getElem?_cons_zero, List.getElem?_cons_succ]
              iterate 1 (refine wpIf_step ?_ (by kernel_rfl) ?_ ?_; rotate_left; (intro w _; go_simp); try with_reducible rfl)
              refine wpIf_step (.string F) (by kernel_rfl) (fun w hw => by have hx := HCV.out w hw; go_simp) ?_
              iterate 4 (refine wpIf_step ?_ (by kernel_rfl) ?_ ?_; rotate_left; (intro w _; go_simp); try with_reducible rfl)
              refine wpIf_nil (fun hS => ?_)
              refine wpAnyT_one 6 1 (by kernel_rfl) rfl (by kernel_rfl) (fun K hK => ?_)
              go_simp
              refine (I2.out _).mono ?_
              rintro e v5 ⟨rfl, hb5⟩
              have hA5 := hA4.below hb5 hA4.lt
              have hB5 := hB4.trans (hb5.mono hvs4)
              refine hK _ _ ⟨hA5, fun _ => trivial⟩ (fun hS3 => ?_)
              clear hK K hS hb5 hA4 hB4
              refine wpAnyT_one 7 0 (by kernel_rfl) rfl (by kernel_rfl) (fun K hK => ?_)
              go_simp
              refine hK _ _ ⟨hA5, fun _ => trivial⟩ (fun hS4 => ?_)
              clear hK K hS3
              refine wpAnyT_over (by kernel_rfl) ?_
              go_wp2
              have hA6 : BRow v5.drew g cs := hA5
              have hB6 := hB5.drew
              have hvs6 := hB6.size
              clear hA5 hB5 hS4
              refine wp_region_T (fun w' => BRow w' g cs) (fun _ => True) 14 (by kernel_rfl) 15 rfl ?_
              refine wpAnyT_takesA (md := .any) 8 (by kernel_rfl) (by intro d v c a w h; cases d <;> exact h) [0, 1, 2, 3, 4, 5, 6] _ _ _ (by decide) (by kernel_rfl) ⟨hA6, fun _ => trivial⟩ ?_
              simp only [pick, List.filterMap_cons, List.filterMap_nil, List.getElem?_cons_zero, List.getElem?_cons_succ]
              iterate 2 (refine wpIf_step ?_ (by kernel_rfl) ?_ ?_; rotate_left; (intro w _; go_simp); try with_reducible rfl)
              refine wpIf_step (.string F) (by kernel_rfl) (fun w hw => by have hx := HCV.out w hw; go_simp) ?_
              iterate 4 (refine wpIf_step ?_ (by kernel_rfl) ?_ ?_; rotate_left; (intro w _; go_simp); try with_reducible rfl)
              refine wpIf_nil (fun hS => ?_)
              refine wpAnyT_one 7 7 (by kernel_rfl) rfl (by kernel_rfl) (fun K hK => ?_)
              go_simp
              refine (I3.out _).mono ?_
              rintro e v7 ⟨rfl, hb7⟩
              have hA7 := hA6.below hb7 hA6.lt
              have hB7 := hB6.trans (hb7.mono hvs6)
              have hvs7 := hB7.size
              refine hK _ _ ⟨hA7, fun _ => trivial⟩ (fun hS3 => ?_)
              clear hK K hS hb7 hA6 hB6
              refine wpAnyT_takesA (md := .any) 3 (by kernel_rfl) (by intro d v c a w h; cases d <;> exact h) [8, 9, 10, 11] _ _ _ (by decide) (by kernel_rfl) hS3 ?_
              simp only [pick, List.filterMap_cons, List.filterMap_nil, List.getElem?_cons_zero, List.getElem?_cons_succ]
              refine wpIf_step (.bool false) (by kernel_rfl) (fun w hw => by go_simp) ?_
              iterate 3 (refine wpIf_step ?_ (by kernel_rfl) ?_ ?_; rotate_left; (intro w _; go_simp); try with_reducible rfl)
              refine wpIf_nil (fun hS => ?_)
              clear hS3
              refine wpAnyT_one 12 2 (by kernel_rfl) rfl (by kernel_rfl) (fun K hK => ?_)
              go_simp
              refine (I4.out _).mono ?_
              rintro e v8 ⟨rfl, hb8⟩
              have hA8 := hA7.below hb8 hA7.lt
              have hB8 := hB7.trans (hb8.mono hvs7)
              refine hK _ _ ⟨hA8, fun _ => trivial⟩ (fun hS3 => ?_)
              clear hK K hS hb8 hA7 hB7
              refine wpAnyT_takesA (md := .any) 1 (by kernel_rfl) (by intro d v c a w h; cases d <;> exact h) [13] _ _ _ (by decide) (by kernel_rfl) hS3 ?_
              simp only [pick, List.filterMap_cons, List.filterMap_nil, List.getElem?_cons_zero, List.getElem?_cons_succ]
              iterate 1 (refine wpIf_step ?_ (by kernel_rfl) ?_ ?_; rotate_left; (intro w _; go_simp); try with_reducible rfl)
              refine wpIf_nil (fun hS => ?_)
              clear hS3
              refine wpAnyT_one 14 0 (by kernel_rfl) rfl (by kernel_rfl) (fun K hK => ?_)
              go_simp
              refine hK _ _ ⟨hA8, fun _ => trivial⟩ (fun hS4 => ?_)
              clear hK K hS
              refine wpAnyT_over (by kernel_rfl) ?_
              clear hS4 hA8 HCV I1 I2 I3 I4
              have hXs : 17 ≤ X.size := by rw [HX.out, txtR_size]; omega
              have hkl : (k.data.toList.drop 16).length = 16 := by rw [List.length_drop]; have := HK.out; simp; omega
              have htl : ((leBy 17 vv).take 16).length = 16 := by rw [List.length_take, leBy_len]; rfl
              obtain ⟨A, hAe⟩ : ∃ A, A = (leBy 17 vv).take 16 := ⟨_, rfl⟩
              obtain ⟨B, hBe⟩ : ∃ B, B = k.data.toList.drop 16 := ⟨_, rfl⟩
              have HTL : Hid (X.data.toList = leBy 17 vv) := Lib.hid (by rw [HX.out]; rfl)
              have HGA : Hid (∀ (j : Nat) (h : j < 16) (h2 : j < A.length) (h3 : j < X.size), A[j] = X[j]) := Lib.hid (fun j h h2 h3 => by
                have e1 : X[j] = X.data.toList[j]'(by simpa using h3) := rfl
                rw [e1]
                have e2 := HTL.out
                simp only [hAe, List.getElem_take, e2])
              have HGB : Hid (∀ (j : Nat) (h : j < B.length) (h3 : 16 + j < k.size), B[j] = k[16 + j]) := Lib.hid (fun j h h3 => by
                have e1 : k[16 + j] = k.data.toList[16 + j]'(by simpa using h3) := rfl
                rw [e1]
                simp only [hBe, List.getElem_drop])
              have HTG2 : Hid (TG.data.toList = sumR 16 A B) := Lib.hid (by rw [HTG.out, hAe, hBe])
              have hTGs : 16 ≤ TG.size := by
                have h1 : TG.data.toList.length = TG.size := by simp
                have h2 := HTG2.out
                rw [← h1, h2, sumR_len]; omega
              rw [← hAe] at htl
              rw [← hBe] at hkl
              have HAL := Lib.hid htl
              have HBL2 := Lib.hid hkl
              have HS := Lib.hid (ov_step A B)
              have HBY : Hid (∀ (j : Nat) (h1 : j < A.length) (h2 : j < B.length) (h3 : j < TG.size), TG[j] = UInt8.ofNat ((ovN A B j + (A[j].toNat + B[j].toNat)) % 256)) := Lib.hid (fun j h1 h2 h3 => by
                have e1 : TG[j] = TG.data.toList[j]'(by simpa using h3) := rfl
                rw [e1]
                have e2 := HTG2.out
                simp only [e2]
                exact sum_byte A B 16 j h1 h2 _)
              have hk32 : 32 ≤ k.size := by have := HK.out; omega
              clear hkl htl hAe hBe HTL HTG HTG2 HX hE hH hF0 hFH hEs hHs hF0s hFHs hFs hvs hvs4 hvs6 hvs7 z1 z2 kk1 kk2 kk3 kk4
              go_wp2
              go_loopw [11, 12] (fun o i wr => ∃ j : Nat, j ≤ 16 ∧ i = .int .i64 j ∧ o = .int .i64 (ovN A B j : Nat) ∧ Below w.heap.size w wr)
                (fun _ i _ => 16 - (intOf i).toNat)
              case atStart => exact ⟨0, Nat.zero_le _, rfl, by simp [ovN, leNat], hB8⟩
              case round =>
                obtain ⟨j, hj, rfl, rfl, hbel⟩ := hrel
                clear hB8
                by_cases hjt : j < 16
                · obtain ⟨e1, -, e3⟩ := HS.out j (by rw [HAL.out]; omega) (by rw [HBL2.out]; omega)
                  have hxa := HGA.out j hjt (by rw [HAL.out]; omega) (by omega)
                  have hxb := HGB.out j (by rw [HBL2.out]; omega) (by omega)
                  have hjX : j < X.size := by omega
                  have hjK : 16 + j < k.size := by omega
                  have hjT : j < TG.size := by omega
                  have e2 := HBY.out j (by rw [HAL.out]; omega) (by rw [HBL2.out]; omega) hjT
                  rw [hxa, hxb] at e1 e2
                  obtain ⟨o, ho⟩ : ∃ o, o = ovN A B j := ⟨_, rfl⟩
                  rw [← ho] at e1 e2 e3 ⊢
                  have hx := X[j].toNat_lt
                  have hy := k[16 + j].toNat_lt
                  obtain ⟨sm, hsm⟩ : ∃ sm, sm = o + (X[j].toNat + k[16 + j].toNat) := ⟨_, rfl⟩
                  rw [← hsm] at e1 e2
                  have hsmb : sm ≤ 511 := by omega
                  have hi1 : (j : Int) < (X.size : Int) := by omega
                  have hi2 : 16 + (j : Int) < (k.size : Int) := by omega
                  have hi3 : 0 ≤ 16 + (j : Int) := by omega
                  have hi4 : (j : Int) < (TG.size : Int) := by omega
                  have ht3 : (16 + (j : Int)).toNat = 16 + j := by omega
                  have w0 : IntKind.i64.wrap (16 + (j : Int)) = 16 + (j : Int) := IntWalk.i64_in _ (by omega)
                  have w1 : IntKind.i64.wrap (X[j].toNat : Int) = (X[j].toNat : Int) := IntWalk.i64_in _ (by omega)
                  have w2 : IntKind.i64.wrap (k[16 + j].toNat : Int) = (k[16 + j].toNat : Int) := IntWalk.i64_in _ (by omega)
                  have w3 : IntKind.i64.wrap ((o : Int) + (X[j].toNat : Int)) = (o : Int) + (X[j].toNat : Int) := IntWalk.i64_in _ (by omega)
                  have w4 : IntKind.i64.wrap ((o : Int) + (X[j].toNat : Int) + (k[16 + j].toNat : Int)) = (sm : Int) := by
                    rw [show (o : Int) + (X[j].toNat : Int) + (k[16 + j].toNat : Int) = (sm : Int) by omega]; exact IntWalk.i64_in _ (by omega)
                  have w5 : IntKind.u8.wrap (((sm % 256 : Nat)) : Int) = ((sm % 256 : Nat) : Int) := by rw [IntKind.wrap_u8']; omega
                  have w7 : (sm : Int) % 256 = ((sm % 256 : Nat) : Int) := by omega
                  have w6 : (sm : Int) / 256 = ((sm / 256 : Nat) : Int) := by omega
                  have hlb : sm % 256 < 256 := by omega
                  have w8 : TG[j].toNat = sm % 256 := by rw [e2]; exact ofNat_toNat8 _ hlb
                  obtain ⟨lo, hlo⟩ : ∃ lo, lo = sm % 256 := ⟨_, rfl⟩
                  obtain ⟨hi, hhi⟩ : ∃ hi, hi = sm / 256 := ⟨_, rfl⟩
                  rw [← hlo] at w5 w7 w8 hlb
                  rw [← hhi] at w6 e1
                  have E1 := Lib.hid e1
                  clear e1 e2 ho hsm hxa hxb hlo hhi
                  go_wp2
                  refine wp_region_free_tail 13 (by kernel_rfl) (by kernel_rfl) (by decide) (by kernel_rfl) (by intro d v c a w h; cases d <;> exact h) ?_
                  simp only [List.take_succ_cons, List.take_zero, List.drop_succ_cons, List.drop_zero]
                  iterate 13 (refine wpFree_step ?_ (by rfl) ?_ ?_; rotate_left; (intro w; go_simp); try with_reducible rfl)
                  refine wpFree_nil ?_
                  go_wp2
                  go_roundw
                  case rel => exact ⟨j + 1, by omega, by go_num, by rw [E1.out], hbel.drew⟩
                  case measure => simp [intOf]; omega
                · go_wp2
                  go_ret
                  exact ⟨rfl, hbel⟩
    · have hkd : ((k.size : Int) != 32) = true := by simp; omega
      clear hk32
      go_wp2_with fail
      refine (I1.out _ (small_max5 (by omega)) (small_max5 (by omega))).mono ?_
      rintro e v2 ⟨rfl, hd2⟩
      have hd02 := hd1.trans (hd2.mono hd1.size)
      clear hd1 hd2
      go_wp2_with fail
      refine (S1.out _ (small_max5 (by omega)) (small_max5 (by omega))).mono ?_
      rintro e v3 ⟨rfl, hd3⟩
      have hd03 := hd02.trans (hd3.mono hd02.size)
      clear hd02 hd3
      go_wp2
      go_ret
      exact ⟨rfl, hd03⟩
end Go.Proofs.Ytijoancnlpkcoab
