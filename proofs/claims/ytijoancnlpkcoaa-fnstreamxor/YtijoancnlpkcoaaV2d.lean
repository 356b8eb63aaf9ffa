/- Walks of the laws FnStream, FnStreamXor. -/
import Derived.Test.YtijoancnlpkcoaaW2m
import Derived.Test.YtijoancnlpkcoaaDraw7
import Derived.Test.YtijoancnlpkcoaaPlan
import Derived.Test.YtijoancnlpkcoaaStr
namespace Go.Proofs.Ytijoancnlpkcoaa
open Go.ChangeShapes Go.WideShapes Go.ChangeAt Go.RowKit
set_option linter.unusedVariables false

theorem small_max2 {n : Nat} (h : n ≤ 1000000) : n ≤ maxLen := by unfold maxLen; omega
theorem str_some2 (a : ByteArray) (h : a.size ≠ 0) : a.toList.isEmpty = false := by
  cases hl : a.toList with
  | nil => exact absurd ((str_empty a).1 hl) h
  | cons _ _ => rfl
theorem str_none2 (a : ByteArray) (h : a.size = 0) : a.toList.isEmpty = true := by
  rw [(str_empty a).2 h]; rfl
theorem csR_ok {k n : ByteArray} {c : Int} {t : ByteArray} (hk : k.size = 32) (hn : n.size = 12) (h0 : 0 ≤ c) (h1 : c ≤ 4294960000) (ht : t.size ≤ 4000) : csR k n c t = strB k n c t := by
  unfold csR; rw [if_pos ⟨hk, hn, h0, h1, ht⟩]
theorem csR_size (k n : ByteArray) (c : Int) (t : ByteArray) : (csR k n c t).size ≤ t.size := by
  unfold csR; split
  · rw [strB_size]; exact Nat.le_refl _
  · show 0 ≤ _; exact Nat.zero_le _
theorem strB_twice (k n : ByteArray) (c : Int) (t : ByteArray) : strB k n c (strB k n c t) = t := by
  apply ba_eq
  show strmL (blkF k n c) (strmL (blkF k n c) t.data.toList) = _
  exact strmL_twice _ _
/-- So many noughts. -/
def nought (n : Nat) : ByteArray := ⟨(List.replicate n 0).toArray⟩
theorem nought_size (n : Nat) : (nought n).size = n := by show (List.replicate n (0 : UInt8)).toArray.size = n; simp
theorem nought_list (n : Nat) : (nought n).data.toList = List.replicate n 0 := by unfold nought; simp
theorem strB_list (k n : ByteArray) (c : Int) (t : ByteArray) : (strB k n c t).data.toList = strmL (blkF k n c) t.data.toList := by unfold strB; simp
theorem strB_noughts (k n : ByteArray) (c : Int) (hk : k.size = 32) (hn : n.size = 12) (h0 : 0 ≤ c) (h1 : c ≤ 4294967295) : strB k n c (nought 64) = blkR k n c := by
  apply ba_eq
  rw [strB_list, nought_list]
  have e : blkF k n c 0 = (blkR k n c).data.toList := by unfold blkF; simp
  rw [strmL_noughts _ (by rw [e]; exact blkR_list k n c hk hn h0 h1), e]
theorem extract_drop (t : ByteArray) (m : Nat) : (t.extract m t.size).data.toList = t.data.toList.drop m := by
  rw [ByteArray.data_extract, Array.toList_extract, List.extract_eq_take_drop, List.take_of_length_le (by simp)]
theorem strB_next (k n : ByteArray) (c : Int) (t : ByteArray) : strB k n (c + 1) (t.extract 64 t.size) = (strB k n c t).extract 64 (strB k n c t).size := by
  apply ba_eq
  have e1 := extract_drop t 64
  have e2 := extract_drop (strB k n c t) 64
  have e3 : blkF k n (c + 1) = fun j => blkF k n c (j + 1) := by
    funext j
    unfold blkF
    rw [show c + 1 + (j : Int) = c + ((j + 1 : Nat) : Int) by omega]
  rw [e2, strB_list, strB_list, e1, strmL_drop, e3]
theorem strB_xor (k n : ByteArray) (c : Int) (t u : ByteArray) (h : t.size = u.size) : strB k n c (xorB t u) = xorB (strB k n c t) u := by
  apply ba_eq
  show strmL (blkF k n c) (xorL t.data.toList u.data.toList) = xorL (strmL (blkF k n c) t.data.toList) u.data.toList
  exact strmL_xor _ _ _ (by simpa using h)
theorem conv_noughts {w : World} {base : Nat} {val : Value} {n : Nat} (h : OwnK 5 .u8 w base val (List.replicate n 0)) : (convert 22 9 val).run Try.prog w = .ok (.string (nought n)) w := by
  have h' : OwnB w base val (List.replicate n 0) := by
    unfold OwnB
    unfold OwnK at h
    rw [List.length_replicate] at h ⊢
    rw [List.map_replicate] at h ⊢
    exact h
  exact conv_ownB h'

/-- make([]byte, n), as a run. -/
theorem make_bytes (w : World) (n : Nat) (N : Int) (hN : N = (n : Int)) (hn : n ≤ 1000000000) : ∃ w', (Instr.makeSlice 22 (.int .i64 N) (.int .i64 N)).run Try.prog w = .ok (.slice (some ⟨w.heap.size, 0, none⟩) n n) w' ∧ OwnK 5 .u8 w' w.heap.size (.slice (some ⟨w.heap.size, 0, none⟩) n n) (List.replicate n 0) ∧ w.grownBy w' none := by
  subst hN
  obtain ⟨i0, hi, hz0, hz1, hz2⟩ := info_parts Try.infoU8
  obtain ⟨w', hrun, hown, hg⟩ := run_make_full (P := Try.prog) w w.heap.size 22 5 i0 (.int .u8 0) 1 Try.underlying22 hi hz0 hz1 .i64 .i64 n (by rw [hz2]; omega) (by unfold maxLen; omega) (Nat.le_refl _)
  refine ⟨w', hrun, ?_, hg⟩
  unfold OwnK
  have e1 : (Value.int .u8 0).cells = #[Value.int .u8 0] := rfl
  rw [e1, Nat.mul_one, toList_madeCells_one] at hown
  simpa using hown

set_option maxRecDepth 100000 in
set_option maxHeartbeats 3200000 in
theorem walk_FnStream (a : Option Addr) (len cap : Nat) (z : List Int) (w : World) (h : IsRow .u8 w a len cap z) :
    Calls Try.prog 3 #[.slice a len cap] w fun e w' => e = .returned (.bool true) ∧ Below w.heap.size w w' := by
  have hcd := Cd.of_row h
  obtain ⟨cv, hcv⟩ : ∃ cv : Value, cv = .slice a len cap := ⟨_, rfl⟩
  rw [← hcv] at hcd ⊢
  clear h hcv
  go_enter Try.func3, Try.ntmps3
  go_wp2_with fail
  refine (big_any _ cv _ hcd).mono ?_
  rintro e w1 ⟨⟨b, rfl⟩, rfl⟩
  cases b with
  | true =>
    go_wp2
    go_ret
    exact ⟨rfl, Below.refl _ _⟩
  | false =>
    go_wp2_with fail
    refine (drawChaStream_any _ cv _ hcd).mono ?_
    rintro e v1 ⟨k, n, c, t, rfl, hk, hn, hc0, hc9, ht, hd1⟩
    have i1 := implChaStream_any k n c t
    have s1 := specChaStream_any k n c t
    have hss := csR_size k n c t
    obtain ⟨s, hs⟩ : ∃ s, s = csR k n c t := ⟨_, rfl⟩
    rw [← hs] at i1 s1 hss
    have I1 := Lib.hid i1
    have S1 := Lib.hid s1
    have HS := Lib.hid hs
    clear i1 s1 hs
    go_wp2_with fail
    refine (I1.out _ (small_max2 (by omega)) (small_max2 (by omega)) (small_max2 (by omega))).mono ?_
    rintro e v2 ⟨rfl, hd2⟩
    have hd02 := hd1.trans (hd2.mono hd1.size)
    have hcd2 := hcd.below hd02
    clear hd1 hd2 hcd
    go_wp2_with fail
    refine (drawChaBlock_any _ cv _ hcd2).mono ?_
    rintro e v3 ⟨x, y, zc, rfl, hx, hy, hd3⟩
    have hbd := hd02.trans (hd3.mono hd02.size)
    clear hd02 hd3 hcd2
    have i2 := implChaBlock_any x y zc
    have s2 := specChaBlock_any x y zc
    obtain ⟨bl, hbl⟩ : ∃ bl, bl = chR x y zc := ⟨_, rfl⟩
    rw [← hbl] at i2 s2
    have I2 := Lib.hid i2
    have S2 := Lib.hid s2
    clear i2 s2 hbl
    by_cases hse : s.size = 0
    · have hse1 := str_none2 s hse
      clear hse
      go_wp2_with fail
      refine (S1.out _ (small_max2 (by omega)) (small_max2 (by omega)) (small_max2 (by omega))).mono ?_
      rintro e w1 ⟨rfl, hb1⟩
      have hc1 := hbd.trans (hb1.mono hbd.size)
      clear hb1
      go_wp2_with fail
      refine (I2.out _ (small_max2 (by omega)) (small_max2 (by omega))).mono ?_
      rintro e w2 ⟨rfl, hb2⟩
      have hc2 := hc1.trans (hb2.mono hc1.size)
      clear hc1 hb2
      go_wp2_with fail
      refine (S2.out _ (small_max2 (by omega)) (small_max2 (by omega))).mono ?_
      rintro e w3 ⟨rfl, hb3⟩
      have hc3 := hc2.trans (hb3.mono hc2.size)
      clear hc2 hb3
      go_wp2_with fail
      refine (S1.out _ (small_max2 (by omega)) (small_max2 (by omega)) (small_max2 (by omega))).mono ?_
      rintro e w4 ⟨rfl, hb4⟩
      have hc4 := hc3.trans (hb4.mono hc3.size)
      clear hc3 hb4
      go_wp2_with fail
      refine (I2.out _ (small_max2 (by omega)) (small_max2 (by omega))).mono ?_
      rintro e w5 ⟨rfl, hb5⟩
      have hc5 := hc4.trans (hb5.mono hc4.size)
      clear hc4 hb5
      go_wp2_with fail
      refine (S2.out _ (small_max2 (by omega)) (small_max2 (by omega))).mono ?_
      rintro e w6 ⟨rfl, hb6⟩
      have hc6 := hc5.trans (hb6.mono hc5.size)
      clear hc5 hb6
      go_wp2
      go_ret
      exact ⟨rfl, hc6⟩
    · have hse1 := str_some2 s hse
      have hval : k.size = 32 ∧ n.size = 12 := by
        refine Classical.byContradiction fun hcon => hse ?_
        rw [HS.out]; unfold csR; rw [if_neg (fun h => hcon ⟨h.1, h.2.1⟩)]; rfl
      obtain ⟨hk32, hn12⟩ := hval
      have i3 := implChaStream_any k n c s
      rw [csR_ok hk32 hn12 hc0 (by omega) (by omega), HS.out, csR_ok hk32 hn12 hc0 (by omega) (by omega), strB_twice, ← csR_ok hk32 hn12 hc0 (by omega) (show t.size ≤ 4000 by omega), ← HS.out] at i3
      have i4 := implChaStream_any k n c (nought 64)
      rw [csR_ok hk32 hn12 hc0 (by omega) (by rw [nought_size]; omega), strB_noughts k n c hk32 hn12 hc0 (by omega)] at i4
      have i5 := implChaBlock_any k n c
      rw [show chR k n c = blkR k n c by unfold chR; rw [if_pos ⟨hk32, hn12, hc0, by omega⟩]] at i5
      obtain ⟨B, hB⟩ : ∃ B, B = blkR k n c := ⟨_, rfl⟩
      rw [← hB] at i4 i5
      have I3 := Lib.hid i3
      have I4 := Lib.hid i4
      have I5 := Lib.hid i5
      have HK32 := Lib.hid hk32
      have HN12 := Lib.hid hn12
      have hNs := nought_size 64
      have HNS := Lib.hid hNs
      clear i3 i4 i5 hB hse hNs hk32 hn12
      go_wp2_with fail
      refine (S1.out _ (small_max2 (by omega)) (small_max2 (by omega)) (small_max2 (by omega))).mono ?_
      rintro e w1 ⟨rfl, hb1⟩
      have hc1 := hbd.trans (hb1.mono hbd.size)
      clear hb1
      go_wp2_with fail
      refine (I2.out _ (small_max2 (by omega)) (small_max2 (by omega))).mono ?_
      rintro e w2 ⟨rfl, hb2⟩
      have hc2 := hc1.trans (hb2.mono hc1.size)
      clear hc1 hb2
      go_wp2_with fail
      refine (S2.out _ (small_max2 (by omega)) (small_max2 (by omega))).mono ?_
      rintro e w3 ⟨rfl, hb3⟩
      have hc3 := hc2.trans (hb3.mono hc2.size)
      clear hc2 hb3
      go_wp2_with fail
      refine (I3.out _ (small_max2 (by omega)) (small_max2 (by omega)) (small_max2 (by omega))).mono ?_
      rintro e w4 ⟨rfl, hb4⟩
      have hc4 := hc3.trans (hb4.mono hc3.size)
      clear hc3 hb4
      go_wp2_with fail
      obtain ⟨w5, hrun, hown5, hg5⟩ := make_bytes w4 64 64 rfl (by decide)
      rw [hrun]
      have hb5 : Below w.heap.size w w5 := hc4.trans ((Below.refl _ _).grown hg5 hc4.size (fun k hk => by cases hk))
      have hcv5 := conv_noughts hown5
      clear hrun hown5 hg5 hc4
      rename_i hK
      simp only [Result.andThen_ok, Oper.upon_value]
      refine hK _ _ ?_
      clear hK
      go_wp2_with fail
      refine (I4.out _ (small_max2 (by omega)) (small_max2 (by omega)) (small_max2 (by rw [HNS.out]; decide))).mono ?_
      rintro e w6 ⟨rfl, hb6⟩
      have hc6 := hb5.trans (hb6.mono hb5.size)
      clear hb5 hb6 hcv5
      go_wp2_with fail
      refine (I5.out _ (small_max2 (by omega)) (small_max2 (by omega))).mono ?_
      rintro e w7 ⟨rfl, hb7⟩
      have hc7 := hc6.trans (hb7.mono hc6.size)
      clear hc6 hb7
      have hsz : s.size = t.size := by rw [HS.out, csR_ok HK32.out HN12.out hc0 (by omega) (by omega), strB_size]
      by_cases h64 : t.size ≤ 64
      · have hd64 : decide ((t.size : Int) ≤ 64) = true := by simp; omega
        clear hsz
        go_wp2
        go_quiet (fail)
        go_wp2
        go_ret
        exact ⟨rfl, below_drewN hc7 _⟩
      · have hd64 : decide ((t.size : Int) ≤ 64) = false := by simp; omega
        have i6 := implChaStream_any k n (c + 1) (t.extract 64 t.size)
        rw [csR_ok HK32.out HN12.out (by omega) (by omega) (by rw [ByteArray.size_extract]; omega), strB_next, ← csR_ok HK32.out HN12.out hc0 (by omega) (show t.size ≤ 4000 by omega), ← HS.out] at i6
        have hex : (t.extract 64 t.size).size ≤ maxLen := small_max2 (by rw [ByteArray.size_extract]; omega)
        have hs64 : (64 : Int) ≤ (s.size : Int) := by omega
        have ht64 : (64 : Int) ≤ (t.size : Int) := by omega
        have I6 := Lib.hid i6
        have HEX := Lib.hid hex
        have hwc : IntKind.i64.wrap (c + 1) = c + 1 := IntWalk.i64_in _ (by omega)
        have hmk : k.size ≤ maxLen := small_max2 (by omega)
        have hmn : n.size ≤ maxLen := small_max2 (by omega)
        have HMK := Lib.hid hmk
        have HMN := Lib.hid hmn
        clear hsz i6 hex hmk hmn
        go_wp2
        have hbel := hc7.drew
        refine wp_region_plan (by kernel_rfl) 16 rfl ?_
        refine wpAny_takes (md := .any) 4 (by kernel_rfl) (by intro d v c a w h; cases d <;> exact h) [0, 1, 2, 3, 4, 5, 6, 7, 8, 9, 11, 12] _ _ _ (by kernel_rfl) ?_
        simp only [pick, List.filterMap_cons, List.filterMap_nil, List.getElem?_cons_zero, List.getElem?_cons_succ]
        iterate 12 (refine wpFree_step ?_ (by kernel_rfl) ?_ ?_; rotate_left; (intro w; go_simp); try with_reducible rfl)
        refine wpFree_nil ?_
        refine wpAny_one 10 3 (by kernel_rfl) rfl (by kernel_rfl) (fun K hK => ?_)
        go_simp
        refine (I6.out _ HMK.out HMN.out HEX.out).mono ?_
        rintro e w8 ⟨rfl, hbn⟩
        have hc8 := hbel.trans (hbn.mono hbel.size)
        clear hbn hbel
        refine hK _ _ ?_
        clear hK K
        refine wpAny_takes (md := .any) 0 (by kernel_rfl) (by intro d v c a w h; cases d <;> exact h) [13, 14, 15] _ _ _ (by kernel_rfl) ?_
        simp only [pick, List.filterMap_cons, List.filterMap_nil, List.getElem?_cons_zero, List.getElem?_cons_succ]
        iterate 3 (refine wpFree_step ?_ (by kernel_rfl) ?_ ?_; rotate_left; (intro w; go_simp); try with_reducible rfl)
        refine wpFree_nil ?_
        refine wpAny_over (by kernel_rfl) ?_
        go_wp2
        go_ret
        exact ⟨rfl, hc8⟩
end Go.Proofs.Ytijoancnlpkcoaa
