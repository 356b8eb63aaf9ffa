/- Walk of the law FnSeals. -/
import Derived.Test.YtjmladejpdbdlaaDoorW4j
import Derived.Test.YtjmladejpdbdlaaDoorDraw10
namespace Go.Proofs.YtjmladejpdbdlaaDoor
open Go.ChangeShapes Go.WideShapes Go.ChangeAt Go.RowKit
set_option linter.unusedVariables false

theorem str_some10 (a : ByteArray) (h : a.size ≠ 0) : a.toList.isEmpty = false := by
  cases hl : a.toList with
  | nil => exact absurd ((str_empty a).1 hl) h
  | cons _ _ => rfl
theorem str_none10 (a : ByteArray) (h : a.size = 0) : a.toList.isEmpty = true := by
  rw [(str_empty a).2 h]; rfl
theorem strB_back (k n : ByteArray) (c : Int) (t : ByteArray) : strB k n c (strB k n c t) = t := by
  apply ba_eq
  show strmL (blkF k n c) (strmL (blkF k n c) t.data.toList) = _
  exact strmL_twice _ _
theorem sealT_16 (k n wi x : ByteArray) (hk : k.size = 32) (hn : n.size = 12) (hw : wi.size ≤ 1000) (hx : x.size ≤ 4000) : (sealT k n wi x).size = 16 := by
  unfold sealT tagR
  have h1 : (sealKey k n).size = 32 := by
    unfold sealKey
    rw [ByteArray.size_extract, blkR_size k n 0 hk hn (by omega) (by omega)]; rfl
  have h2 := sealTx_size wi x
  rw [if_pos ⟨h1, by omega⟩]
  show (List.toArray _).size = 16
  rw [List.size_toArray, sumR_len]
theorem ext_list (V : ByteArray) (a b : Nat) (hb : b = V.size) : (V.extract a b).data.toList = V.data.toList.drop a := by
  subst hb
  rw [ByteArray.data_extract, Array.toList_extract, List.extract_eq_take_drop, List.take_of_length_le (by simp)]
theorem ext_take (V : ByteArray) (b : Nat) : (V.extract 0 b).data.toList = V.data.toList.take b := by
  rw [ByteArray.data_extract, Array.toList_extract, List.extract_eq_take_drop]; simp
/-- What a box of two pieces tells. -/
theorem op_pieces (k n wi V C T : ByteArray) (hk : k.size = 32) (hn : n.size = 12) (hw : wi.size ≤ 1000) (hc : C.size ≤ 4000) (hT : T.size = 16) (hV : V.data.toList = C.data.toList ++ T.data.toList) :
    opOk k n wi V = decide (sealT k n wi C = T) ∧ (opOk k n wi V = true → opT k n wi V = strB k n 1 C) ∧ V.size = C.size + 16 := by
  have hs : V.size = C.size + 16 := by
    have := congrArg List.length hV
    simpa [hT] using this
  have h0 : V.extract 0 (V.size - 16) = C := by
    apply ba_eq
    rw [ext_take, hV, hs, Nat.add_sub_cancel, List.take_left' (by simp)]
  have h1 : V.extract (V.size - 16) V.size = T := by
    apply ba_eq
    rw [ext_list _ _ _ rfl, hV, hs, Nat.add_sub_cancel, List.drop_left' (by simp)]
  refine ⟨?_, fun h => ?_, hs⟩
  · unfold opOk
    rw [h0, h1]
    apply decide_eq_decide.2
    exact ⟨fun h => h.2.2.2.2.2, fun h => ⟨hk, hn, hw, by omega, by omega, h⟩⟩
  · rw [opT_true h, h0]
theorem seal_opens (k n wi t : ByteArray) (hk : k.size = 32) (hn : n.size = 12) (hw : wi.size ≤ 1000) (ht : t.size ≤ 4000) :
    opOk k n wi (sealB k n wi t) = true ∧ opT k n wi (sealB k n wi t) = t ∧ (sealB k n wi t).size = t.size + 16 ∧ (sealB k n wi t).extract 0 t.size = strB k n 1 t := by
  have hcs := strB_size k n 1 t
  have h := op_pieces k n wi (sealB k n wi t) (strB k n 1 t) (sealT k n wi (strB k n 1 t)) hk hn hw (by omega) (sealT_16 k n wi _ hk hn hw (by omega)) (by unfold sealB; rw [ba_app4])
  have ho : opOk k n wi (sealB k n wi t) = true := by rw [h.1]; exact decide_eq_true rfl
  refine ⟨ho, by rw [h.2.1 ho, strB_back], by rw [h.2.2, hcs], ?_⟩
  apply ba_eq
  unfold sealB
  rw [ext_take, ba_app4, List.take_left' (by simpa using hcs)]
theorem set_ne (T : ByteArray) (i : Nat) (b : UInt8) (hi : i < T.size) (hb : b ≠ T.data.toList.getD i 0) : T ≠ ⟨(T.data.toList.set i b).toArray⟩ := by
  intro e
  apply hb
  have e2 : T.data.toList = T.data.toList.set i b := by
    have := congrArg (fun x : ByteArray => x.data.toList) e
    simpa using this
  rw [e2, List.getD_eq_getElem?_getD, List.getElem?_set_self (by simpa using hi)]
  rfl
theorem seal_turned (k n wi t V : ByteArray) (j : Nat) (b : UInt8) (hk : k.size = 32) (hn : n.size = 12) (hw : wi.size ≤ 1000) (ht : t.size ≤ 4000) (h1 : t.size ≤ j) (h2 : j < t.size + 16)
    (hV : V.data.toList = (sealB k n wi t).data.toList.set j b) (hb : b ≠ (sealB k n wi t).data.toList.getD j 0) : opOk k n wi V = false := by
  have hcs := strB_size k n 1 t
  have hts := sealT_16 k n wi (strB k n 1 t) hk hn hw (by omega)
  have hsl : (sealB k n wi t).data.toList = (strB k n 1 t).data.toList ++ (sealT k n wi (strB k n 1 t)).data.toList := by unfold sealB; rw [ba_app4]
  rw [hsl] at hV hb
  have HP := fun T' => op_pieces k n wi V (strB k n 1 t) T' hk hn hw (by omega)
  obtain ⟨T, hT⟩ : ∃ T, T = sealT k n wi (strB k n 1 t) := ⟨_, rfl⟩
  rw [← hT] at hV hb hts HP
  obtain ⟨C, hC⟩ : ∃ C, C = strB k n 1 t := ⟨_, rfl⟩
  rw [← hC] at hV hb hcs HP
  have hcl : C.data.toList.length = t.size := by simpa using hcs
  have htl : T.data.toList.length = 16 := by simpa using hts
  rw [List.set_append_right _ _ (by omega), hcl] at hV
  have h := HP ⟨(T.data.toList.set (j - t.size) b).toArray⟩ (by rw [show (ByteArray.mk (T.data.toList.set (j - t.size) b).toArray).size = (T.data.toList.set (j - t.size) b).toArray.size from rfl]; simpa using hts) (by rw [hV])
  rw [h.1]
  refine decide_eq_false (set_ne T (j - t.size) b (by omega) ?_)
  rw [List.getD_eq_getElem?_getD, List.getElem?_append_right (by omega), hcl] at hb
  rw [List.getD_eq_getElem?_getD]
  exact hb
theorem intsOf_get (l : List UInt8) (j : Nat) : (intsOf l).getD j 0 = ((l.getD j 0).toNat : Int) := by
  unfold intsOf
  rw [List.getD_eq_getElem?_getD, List.getD_eq_getElem?_getD, List.getElem?_map]
  cases l[j]? <;> rfl
theorem size_by_list (V S : ByteArray) (h : V.data.toList.length = S.data.toList.length) : V.size = S.size := by simpa using h
theorem bit_byte (r : Nat) (h : r < 8) : ∃ b : UInt8, IntKind.u8.wrap (2 ^ r) = (b.toNat : Int) ∧ b ≠ 0 := by
  have hc : r = 0 ∨ r = 1 ∨ r = 2 ∨ r = 3 ∨ r = 4 ∨ r = 5 ∨ r = 6 ∨ r = 7 := by omega
  rcases hc with rfl | rfl | rfl | rfl | rfl | rfl | rfl | rfl
  · exact ⟨1, by decide, by decide⟩
  · exact ⟨2, by decide, by decide⟩
  · exact ⟨4, by decide, by decide⟩
  · exact ⟨8, by decide, by decide⟩
  · exact ⟨16, by decide, by decide⟩
  · exact ⟨32, by decide, by decide⟩
  · exact ⟨64, by decide, by decide⟩
  · exact ⟨128, by decide, by decide⟩
theorem xor_ne (a b : UInt8) (h : b ≠ 0) : a ^^^ b ≠ a := by
  intro e
  apply h
  have : a ^^^ (a ^^^ b) = a ^^^ a := by rw [e]
  rw [← UInt8.xor_assoc, UInt8.xor_self, UInt8.zero_xor] at this
  exact this

set_option maxRecDepth 100000 in
set_option maxHeartbeats 4000000 in
theorem walk_FnSeals (a : Option Addr) (len cap : Nat) (z : List Int) (w : World) (h : IsRow .u8 w a len cap z) (hg : ∃ t x, Gives w t x) :
    Calls Tryd.prog 15 #[.slice a len cap] w fun e w' => e = .returned (.bool true) ∧ Below w.heap.size w w' := by
  obtain ⟨gt, gx, hg⟩ := hg
  have HG := Lib.hid hg
  have hcd := Cd.of_row h
  obtain ⟨cv, hcv⟩ : ∃ cv : Value, cv = .slice a len cap := ⟨_, rfl⟩
  have HCV := Lib.hid hcv
  rw [← hcv] at hcd ⊢
  clear h hcv hg
  go_enter Tryd.func15, Tryd.ntmps15
  go_wp2_with fail
  refine (big_any _ cv _ hcd).mono ?_
  rintro e w1 ⟨⟨b, rfl⟩, rfl⟩
  cases b with
  | true =>
    go_wp2
    go_ret
    exact ⟨rfl, Below.refl _ _⟩
  | false =>
    go_wp2_with fail
    refine (drawSealed_any _ cv _ hcd).mono ?_
    rintro e v1 ⟨k, n, wi, t, rfl, hk, hn, hwi, ht, hd1⟩
    have I1 := Lib.hid (fun w => implSealed_any k n wi t w (small_max10 (by omega)) (small_max10 (by omega)) (small_max10 (by omega)) (small_max10 (by omega)))
    have S1 := Lib.hid (fun w => specSealed_any k n wi t w (small_max10 (by omega)) (small_max10 (by omega)) (small_max10 (by omega)) (small_max10 (by omega)))
    have hps := slR_size k n wi t
    have HPR : Hid (slR k n wi t = if k.size = 32 ∧ n.size = 12 ∧ wi.size ≤ 1000 ∧ t.size ≤ 4000 then sealB k n wi t else ⟨#[]⟩) := Lib.hid rfl
    obtain ⟨S, hS⟩ : ∃ S, S = slR k n wi t := ⟨_, rfl⟩
    rw [← hS] at I1 S1 hps HPR
    clear hS
    go_wp2_with fail
    refine (I1.out _).mono ?_
    rintro e v2 ⟨rfl, hd2⟩
    have hd02 := hd1.trans (hd2.mono hd1.size)
    have hcd2 := hcd.below hd02
    clear hd1 hd2 hcd
    go_wp2_with fail
    refine (drawOpened_any _ cv _ hcd2).mono ?_
    rintro e v3 ⟨k2, n2, w2, u, rfl, hk2, hn2, hw2, hu, hd3⟩
    have hd03 := hd02.trans (hd3.mono hd02.size)
    clear hd02 hd3 hcd2
    have I2 := Lib.hid (fun w hv => implOpened_any k2 n2 w2 u w gt gx hv (by omega) (by omega) (by omega) (by omega))
    have S2 := Lib.hid (fun w => specOpened_any k2 n2 w2 u w (by omega) (by omega) (by omega) (by omega))
    obtain ⟨X, hX⟩ : ∃ X, X = opT k2 n2 w2 u := ⟨_, rfl⟩
    obtain ⟨B, hB⟩ : ∃ B, B = opOk k2 n2 w2 u := ⟨_, rfl⟩
    rw [← hX, ← hB] at I2 S2
    clear hX hB
    go_wp2_with fail
    refine (I2.out _ (HG.out.below hd03 (Nat.le_refl _))).mono ?_
    rintro e v4 ⟨rfl, hd4⟩
    have hd04 := hd03.trans (hd4.mono hd03.size)
    clear hd03 hd4 I2
    go_wp2_with fail
    refine (S2.out _).mono ?_
    rintro e v5 ⟨rfl, hd5⟩
    have hd05 := hd04.trans (hd5.mono hd04.size)
    clear hd04 hd5 S2
    go_wp2_with fail
    refine (S1.out _).mono ?_
    rintro e v6 ⟨rfl, hd6⟩
    have hd06 := hd05.trans (hd6.mono hd05.size)
    clear hd05 hd6
    by_cases hS0 : S.size = 0
    · have hse := str_none10 S hS0
      clear HPR
      go_wp2_with fail
      refine (S1.out _).mono ?_
      rintro e v7 ⟨rfl, hd7⟩
      have hd07 := hd06.trans (hd7.mono hd06.size)
      go_wp2
      go_ret
      exact ⟨ret_bool (by simp), hd07⟩
    · have hse := str_some10 S hS0
      have hall : k.size = 32 ∧ n.size = 12 ∧ wi.size ≤ 1000 ∧ t.size ≤ 4000 := by
        by_cases hc : k.size = 32 ∧ n.size = 12 ∧ wi.size ≤ 1000 ∧ t.size ≤ 4000
        · exact hc
        · exact absurd (by rw [HPR.out, if_neg hc]; rfl) hS0
      have hSe := HPR.out
      rw [if_pos hall] at hSe
      obtain ⟨g1, g2, g3, g4⟩ := hall
      obtain ⟨ho1, ho2, ho3, ho4⟩ := seal_opens k n wi t g1 g2 g3 g4
      have HTN := Lib.hid (fun V j b => seal_turned k n wi t V j b g1 g2 g3 g4)
      rw [← hSe] at ho1 ho2 ho3 ho4 HTN
      have I3 := Lib.hid (fun w hv => implOpened_any k n wi S w gt gx hv (by omega) (by omega) (by omega) (by omega))
      rw [ho1, ho2] at I3
      have I4 := Lib.hid (fun w => implStrm_any k n 1 t w g1 g2 (by omega) (by omega) (by omega))
      have I5 := Lib.hid (fun V w hv hV => implOpened_any k n wi V w gt gx hv (by omega) (by omega) (by omega) hV)
      obtain ⟨C, hC⟩ : ∃ C, C = strB k n 1 t := ⟨_, rfl⟩
      rw [← hC] at ho4 I4
      have hss : (S.size : Int) = (t.size : Int) + 16 := by omega
      have hwr : IntKind.i64.wrap ((t.size : Int) + 16) = (t.size : Int) + 16 := IntWalk.i64_in _ (by omega)
      have hle16 : (t.size : Int) ≤ (t.size : Int) + 16 := by omega
      have hts : t.size ≤ S.size := by omega
      have hts' : (t.size : Int) ≤ (S.size : Int) := by omega
      have HO3 := Lib.hid ho3
      clear HPR hSe ho1 ho2 hC S1 I1 g1 g2 ho3 hS0
      go_wp2_with fail
      refine (I3.out _ (HG.out.below hd06 (Nat.le_refl _))).mono ?_
      rintro e v7 ⟨rfl, hd7⟩
      have hd07 := hd06.trans (hd7.mono hd06.size)
      clear hd06 hd7
      go_wp2
      refine wp_region_plan (by kernel_rfl) 26 rfl ?_
      refine wpAny_takes (md := .any) 3 (by kernel_rfl) (by intro d v c a w h; cases d <;> exact h) [0, 1, 2, 3, 4, 5, 6, 7, 8, 9, 10, 11, 12, 13, 14, 15, 16, 17, 18, 19, 20, 21, 22] _ _ _ (by kernel_rfl) ?_
      simp only [pick, List.filterMap_cons, List.filterMap_nil, List.getElem?_cons_zero, List.getElem?_cons_succ]
      iterate 23 (refine wpFree_step ?_ (by kernel_rfl) ?_ ?_; rotate_left; (intro w; go_simp); try with_reducible rfl)
      refine wpFree_nil ?_
      refine wpAny_one 23 2 (by kernel_rfl) rfl (by kernel_rfl) (fun K hK => ?_)
      go_simp
      refine (I4.out _).mono ?_
      rintro e v8 ⟨rfl, hd8⟩
      refine hK _ _ ?_
      clear hK K
      have hd08 := hd07.drew.trans (hd8.mono hd07.drew.size)
      clear hd07 hd8 I3 I4
      refine wpAny_takes (md := .any) 0 (by kernel_rfl) (by intro d v c a w h; cases d <;> exact h) [24, 25] _ _ _ (by kernel_rfl) ?_
      simp only [pick, List.filterMap_cons, List.filterMap_nil, List.getElem?_cons_zero, List.getElem?_cons_succ]
      iterate 2 (refine wpFree_step ?_ (by kernel_rfl) ?_ ?_; rotate_left; (intro w; go_simp); try with_reducible rfl)
      refine wpFree_nil ?_
      refine wpAny_over (by kernel_rfl) ?_
      have hcv := HCV.out
      clear HCV
      subst hcv
      go_wp2
      go_loopw [18] (fun i wr => ∃ m : Nat, m ≤ 140 ∧ i = .int .i64 m ∧ Below w.heap.size w wr) (fun i _ => 200 - (intOf i).toNat)
      case atStart => exact ⟨0, Nat.zero_le _, rfl, hd08⟩
      case round =>
        obtain ⟨m, hm, rfl, hB⟩ := hrel
        clear hd08
        by_cases hlt : m < 128
        · obtain ⟨cp, wB, hrun, hrow, hbB⟩ := bytes_conv_any S wr
          obtain ⟨q, hq⟩ : ∃ q, q = m / 8 := ⟨_, rfl⟩
          obtain ⟨r, hr⟩ : ∃ r, r = m % 8 := ⟨_, rfl⟩
          have hq1 : (m : Int) / 8 = (q : Int) := by omega
          have hq2 : (m : Int).tdiv 8 = (q : Int) := by rw [Int.tdiv_eq_ediv_of_nonneg (by omega)]; omega
          have hr1 : (m : Int) % 8 = (r : Int) := by omega
          have hr2 : (m : Int).tmod 8 = (r : Int) := by rw [Int.tmod_eq_emod_of_nonneg (by omega)]; omega
          have hql : q < 16 := by omega
          have hrl : r < 8 := by omega
          have hzl : (intsOf S.data.toList).length = S.size := by simp [intsOf]
          have hjl : t.size + q < (intsOf S.data.toList).length := by rw [hzl, HO3.out]; omega
          have hc := hrow.cell (t.size + q) hjl
          have hf := hrow.frozen (t.size + q) hjl
          have hjs : t.size + q < S.data.toList.length := by simpa [intsOf] using hjl
          obtain ⟨xa, hxa⟩ : ∃ xa : UInt8, xa = S.data.toList.getD (t.size + q) 0 := ⟨_, rfl⟩
          have hxi : (intsOf S.data.toList).getD (t.size + q) 0 = (xa.toNat : Int) := by rw [hxa]; exact intsOf_get _ _
          rw [hxi] at hc
          obtain ⟨xb, hxb, hxb0⟩ := bit_byte r hrl
          rw [IntKind.wrap_u8'] at hxb
          have hxr := xor8 xa xb
          obtain ⟨xc, hxc⟩ : ∃ xc, xc = xa ^^^ xb := ⟨_, rfl⟩
          have hne : xc ≠ S.data.toList.getD (t.size + q) 0 := by rw [hxc, ← hxa]; exact xor_ne xa xb hxb0
          rw [← hxc] at hxr
          have hrow2 := hrow.set (t.size + q) hjl (xc.toNat : Int)
          rw [show (intsOf S.data.toList).set (t.size + q) (xc.toNat : Int) = intsOf (S.data.toList.set (t.size + q) xc) by simp [intsOf, List.map_set]] at hrow2
          have hcv2 := hrow2.text (byteZ_intsOf _) cp S.size (by simp [intsOf])
          rw [bytesOf_intsOf] at hcv2
          obtain ⟨V, hV⟩ : ∃ V : ByteArray, V = ⟨(S.data.toList.set (t.size + q) xc).toArray⟩ := ⟨_, rfl⟩
          have hVl : V.data.toList = S.data.toList.set (t.size + q) xc := by rw [hV]
          have hVs : V.size = S.size := size_by_list _ _ (by rw [hVl]; simp)
          rw [← hV] at hcv2
          have hof := HTN.out V (t.size + q) xc (by omega) (by omega) hVl hne
          have HO := Lib.hid (fun w hv => I5.out V w hv (by omega))
          rw [hof] at HO
          have hB2 : Below w.heap.size w (wB.setCell ⟨wr.heap.size, t.size + q, none⟩ (.int .u8 (xc.toNat : Int))) := (hB.trans (hbB.mono hB.size)).setCell (p := ⟨wr.heap.size, t.size + q, none⟩) hB.size _
          have hgv := HG.out.below hB2 (Nat.le_refl _)
          have HGV := Lib.hid hgv
          have HB2 := Lib.hid hB2
          clear hq hr hxa hxi hxc hne hrow2 hV hVl hof hrow hbB hgv hB2 hjs hjl hzl hB HTN I5 hVs hxb0
          go_wp2_with fail
          refine (HO.out _ HGV.out).mono ?_
          rintro e w9 ⟨rfl, hb9⟩
          have hB9 := HB2.out.trans (hb9.mono HB2.out.size)
          obtain ⟨d, hd⟩ : ∃ d, d = len % 7 := ⟨_, rfl⟩
          have hd1 : (len : Int) % 7 = (d : Int) := by omega
          have hd2 : (len : Int).tmod 7 = (d : Int) := by rw [Int.tmod_eq_emod_of_nonneg (by omega)]; omega
          have hd7 : d < 7 := by omega
          clear hd hcv2 hxr hxb hc hf hrun HO HB2 HGV hb9 hq1 hq2 hr1 hr2
          go_wp2
          go_roundw
          case rel => exact ⟨m + 1 + d, by omega, by go_num, hB9⟩
          case measure => simp [intOf]; omega
        · have hd : decide ((m : Int) < 128) = false := decide_eq_false (by omega)
          go_wp2
          go_ret
          exact ⟨rfl, hB⟩
end Go.Proofs.YtjmladejpdbdlaaDoor
