/- Walks of the laws FnHex, FnHexPieces. -/
import Derived.Test.YtbjcgcjdlnoejaaW1d
import Derived.Test.YtbjcgcjdlnoejaaDraw4
import Derived.Test.YtbjcgcjdlnoejaaPlan
namespace Go.Proofs.Ytbjcgcjdlnoejaa
open Go.ChangeShapes Go.WideShapes Go.ChangeAt Go.RowKit
set_option linter.unusedVariables false

theorem below_next {w w1 w2 : World} (h : Below w.heap.size w w1) (k : Below w1.heap.size w1 w2) : Below w.heap.size w w2 := h.trans (k.mono h.size)
theorem ba_ext2 {a b : ByteArray} (h : a.data.toList = b.data.toList) : a = b := by
  cases a; cases b; simp at h; simp [h]
theorem ba_list (l : List UInt8) : (⟨l.toArray⟩ : ByteArray).data.toList = l := rfl
theorem unV_hexR (s : ByteArray) (h : s.size ≤ 4000) : unV (hexR s) = some s.data.toList := by
  unfold unV
  have e := hexR_size s h
  rw [if_pos ⟨by omega, by omega⟩]
  have : (hexR s).data.toList = hexL s.data.toList := by unfold hexR; rw [if_pos h]; rfl
  rw [this, unhexL_hexL]
theorem unS_hexR (s : ByteArray) (h : s.size ≤ 4000) : unS (hexR s) = s := by
  unfold unS; rw [unV_hexR s h]; apply ba_ext2; rfl
theorem hexR_unS (t : ByteArray) (l : List UInt8) (h : unV t = some l) : hexR (unS t) = t := by
  have hc : t.size % 2 = 0 ∧ t.size ≤ 8000 := by
    unfold unV at h; split at h
    · assumption
    · cases h
  have hu : unhexL t.data.toList = some l := by unfold unV at h; rw [if_pos hc] at h; exact h
  have hl := unhexL_len _ _ hu
  have e : unS t = ⟨l.toArray⟩ := by unfold unS; rw [h]; rfl
  have hs : (unS t).size ≤ 4000 := by
    rw [e]; show l.toArray.size ≤ 4000; rw [List.size_toArray]; simp at hl; omega
  apply ba_ext2
  unfold hexR; rw [if_pos hs]
  show hexL (unS t).data.toList = _
  rw [e, ba_list, hexL_unhexL _ _ hu]
theorem unS_size (t : ByteArray) (h : t.size ≤ 100) : (unS t).size ≤ 100 := by
  unfold unS
  cases hv : unV t with
  | none => show ([] : List UInt8).toArray.size ≤ 100; simp
  | some l =>
    have hu : unhexL t.data.toList = some l := by
      unfold unV at hv; split at hv
      · exact hv
      · cases hv
    have hl := unhexL_len _ _ hu
    show l.toArray.size ≤ 100
    rw [List.size_toArray]; simp at hl; omega

set_option maxHeartbeats 3200000 in
theorem walk_FnHex (a : Option Addr) (len cap : Nat) (z : List Int) (w : World) (h : IsRow .u8 w a len cap z) :
    Calls Try.prog 10 #[.slice a len cap] w fun e w' => e = .returned (.bool true) ∧ Below w.heap.size w w' := by
  have hcd := Cd.of_row h
  obtain ⟨cv, hcv⟩ : ∃ cv : Value, cv = .slice a len cap := ⟨_, rfl⟩
  rw [← hcv] at hcd ⊢
  clear h hcv
  go_enter Try.func10, Try.ntmps10
  go_wp2_with fail
  refine (big_any _ cv _ hcd).mono ?_
  rintro e w1 ⟨⟨b, rfl⟩, rfl⟩
  cases b with
  | true =>
    go_wp2
    go_ret
    exact ⟨rfl, Below.refl _ _⟩
  | false =>
    go_wp2_with fail
    refine (drawHex_any _ cv _ hcd).mono ?_
    rintro e w2 ⟨s, rfl, hs, hb2⟩
    go_wp2_with fail
    refine (implHex_any s _ (by unfold maxLen; omega)).mono ?_
    rintro e w3 ⟨rfl, hb3⟩
    have hb03 := hb2.trans (hb3.mono hb2.size)
    clear hb2 hb3
    have hz := hexR_size s (by omega)
    have HZ := Lib.hid hz
    clear hz
    have hU := implUnhex_any (hexR s)
    rw [unS_hexR s (by omega), unV_hexR s (by omega)] at hU
    have HU := Lib.hid hU
    clear hU
    go_wp2_with fail
    refine (HU.out _ (by rw [HZ.out]; unfold maxLen; omega)).mono ?_
    rintro e w4 ⟨rfl, hb4⟩
    have hb04 := hb03.trans (hb4.mono hb03.size)
    clear hb03 hb4 HU
    go_wp2_with fail
    refine (drawUnhex_any _ cv _ (hcd.below hb04)).mono ?_
    rintro e w5 ⟨t, rfl, ht, hb5⟩
    have hb05 := hb04.trans (hb5.mono hb04.size)
    clear hb04 hb5
    go_wp2_with fail
    refine (implUnhex_any t _ (by unfold maxLen; omega)).mono ?_
    rintro e w6 ⟨rfl, hb6⟩
    have hb06 := hb05.trans (hb6.mono hb05.size)
    clear hb05 hb6
    go_wp2_with fail
    refine (specUnhex_any t _ (by unfold maxLen; omega)).mono ?_
    rintro e w7 ⟨rfl, hb7⟩
    have hb07 := hb06.trans (hb7.mono hb06.size)
    clear hb06 hb7
    go_wp2_with fail
    refine (specHex_any s _ (by unfold maxLen; omega)).mono ?_
    rintro e w8 ⟨rfl, hb8⟩
    have hb08 := hb07.trans (hb8.mono hb07.size)
    clear hb07 hb8
    have hus := unS_size t ht
    cases hv : unV t with
    | none =>
      have hv1 : (unV t).isSome = false := by rw [hv]; rfl
      clear hv
      go_wp2
      go_ret
      exact ⟨rfl, hb08⟩
    | some l =>
      have hv1 : (unV t).isSome = true := by rw [hv]; rfl
      have hH := implHex_any (unS t)
      rw [hexR_unS t l hv] at hH
      have HH := Lib.hid hH
      clear hH hv
      go_wp2_with fail
      refine (HH.out _ (by unfold maxLen; omega)).mono ?_
      rintro e w9 ⟨rfl, hb9⟩
      have hb09 := hb08.trans (hb9.mono hb08.size)
      clear hb08 hb9
      go_wp2
      go_ret
      exact ⟨rfl, hb09⟩

theorem hexR_pieces (s : ByteArray) (k : Nat) (hk : k ≤ s.size) (h : s.size ≤ 4000) : hexR (s.extract 0 k) ++ hexR (s.extract k s.size) = hexR s := by
  have s1 : (s.extract 0 k).size = k := by rw [ByteArray.size_extract]; omega
  have s2 : (s.extract k s.size).size = s.size - k := by rw [ByteArray.size_extract]; omega
  have e1 : (s.extract 0 k).data.toList = s.data.toList.take k := by simp
  have e2 : (s.extract k s.size).data.toList = s.data.toList.drop k := by simp [List.take_of_length_le]
  apply ba_ext2
  unfold hexR
  rw [if_pos (by omega), if_pos (by omega), if_pos h]
  unfold hexB
  rw [e1, e2]
  simp only [ByteArray.data_append, Array.toList_append]
  rw [← hexL_append, List.take_append_drop]

set_option maxHeartbeats 800000 in
theorem walk_FnHexPieces (a : Option Addr) (len cap : Nat) (z : List Int) (w : World) (h : IsRow .u8 w a len cap z) :
    Calls Try.prog 13 #[.slice a len cap] w fun e w' => e = .returned (.bool true) ∧ Below w.heap.size w w' := by
  have hcd := Cd.of_row h
  have hmx : len ≤ 9223372036854775807 := by
    obtain ⟨e1, ⟨_, _, e2, h1, h2, _⟩, _⟩ := h.row
    unfold maxLen at h2; omega
  have HCD := Lib.hid hcd
  clear h hcd
  go_enter Try.func13, Try.ntmps13
  go_wp2_with fail
  refine (big_any _ _ _ HCD.out).mono ?_
  rintro e w1 ⟨⟨b, rfl⟩, rfl⟩
  cases b with
  | true =>
    go_wp2
    go_ret
    exact ⟨rfl, Below.refl _ _⟩
  | false =>
    go_wp2_with fail
    refine (drawHex_any _ _ _ HCD.out).mono ?_
    rintro e w2 ⟨s, rfl, hs, hb2⟩
    have hsz := hb2.size
    obtain ⟨k, hkk⟩ : ∃ k : Nat, (k : Int) = (len : Int) % ((s.size : Int) + 1) := ⟨((len : Int) % ((s.size : Int) + 1)).toNat, by rw [Int.toNat_of_nonneg (Int.emod_nonneg _ (by omega))]⟩
    have hk : k ≤ s.size := by have := Int.emod_lt_of_pos (len : Int) (b := (s.size : Int) + 1) (by omega); omega
    have hm0 : s.size ≤ maxLen := by unfold maxLen; omega
    have hm1 : (s.extract 0 k).size ≤ maxLen := by rw [ByteArray.size_extract]; unfold maxLen; omega
    have hm2 : (s.extract k s.size).size ≤ maxLen := by rw [ByteArray.size_extract]; unfold maxLen; omega
    have hp := hexR_pieces s k hk (by omega)
    have z1 : (hexR (s.extract 0 k)).size ≤ 100 := by rw [hexR_size _ (by rw [ByteArray.size_extract]; omega), ByteArray.size_extract]; omega
    have z2 : (hexR (s.extract k s.size)).size ≤ 100 := by rw [hexR_size _ (by rw [ByteArray.size_extract]; omega), ByteArray.size_extract]; omega
    have C1 := implHex_any (s.extract 0 k)
    have C2 := implHex_any (s.extract k s.size)
    obtain ⟨x1, hx1⟩ : ∃ x, x = hexR (s.extract 0 k) := ⟨_, rfl⟩
    obtain ⟨x2, hx2⟩ : ∃ x, x = hexR (s.extract k s.size) := ⟨_, rfl⟩
    rw [← hx1] at C1 z1 hp
    rw [← hx2] at C2 z2 hp
    have HC1 := Lib.hid C1
    have HC2 := Lib.hid C2
    have HM1 := Lib.hid hm1
    have HM2 := Lib.hid hm2
    clear C1 C2 hx1 hx2 hm1 hm2
    have zz : ¬ (9223372036854775807 < x1.size + x2.size) := by omega
    have hbel : Below w.heap.size w w2.drew := hb2.drew
    have hk' : (k : Int) ≤ (s.size : Int) := by omega
    have hk0 : (0 : Int) ≤ (k : Int) := by omega
    replace hkk := hkk.symm
    clear hb2
    go_wp2
    refine wp_region_plan (by kernel_rfl) 20 rfl ?_
    refine wpAny_takes (md := .any) 18 (by kernel_rfl) (by intro d v c a w h; cases d <;> exact h) [0, 2] _ _ _ (by kernel_rfl) ?_
    simp only [pick, List.filterMap_cons, List.filterMap_nil, List.getElem?_cons_zero, List.getElem?_cons_succ]
    iterate 2 (refine wpFree_step ?_ (by kernel_rfl) ?_ ?_; rotate_left; (intro w; go_simp); try with_reducible rfl)
    refine wpFree_nil ?_
    refine wpAny_one 1 17 (by kernel_rfl) rfl (by kernel_rfl) (fun K hK => ?_)
    go_simp
    refine (implHex_any s _ hm0).mono ?_
    rintro e w3 ⟨rfl, hbn⟩
    replace hbel := below_next hbel hbn
    clear hbn
    refine hK _ _ ?_
    clear hK K
    refine wpAny_one 3 16 (by kernel_rfl) rfl (by kernel_rfl) (fun K hK => ?_)
    go_simp
    refine (specHex_any s _ hm0).mono ?_
    rintro e w4 ⟨rfl, hbn⟩
    replace hbel := below_next hbel hbn
    clear hbn
    refine hK _ _ ?_
    clear hK K
    refine wpAny_takes (md := .any) 7 (by kernel_rfl) (by intro d v c a w h; cases d <;> exact h) [4, 5, 6, 7, 8, 10, 11, 12, 15] _ _ _ (by kernel_rfl) ?_
    simp only [pick, List.filterMap_cons, List.filterMap_nil, List.getElem?_cons_zero, List.getElem?_cons_succ]
    iterate 9 (refine wpFree_step ?_ (by kernel_rfl) ?_ ?_; rotate_left; (intro w; go_simp); try with_reducible rfl)
    refine wpFree_nil ?_
    refine wpAny_one 9 6 (by kernel_rfl) rfl (by kernel_rfl) (fun K hK => ?_)
    go_simp
    refine (HC1.out _ HM1.out).mono ?_
    rintro e w5 ⟨rfl, hbn⟩
    replace hbel := below_next hbel hbn
    clear hbn
    refine hK _ _ ?_
    clear hK K
    refine wpAny_one 13 5 (by kernel_rfl) rfl (by kernel_rfl) (fun K hK => ?_)
    go_simp
    refine (HC2.out _ HM2.out).mono ?_
    rintro e w6 ⟨rfl, hbn⟩
    replace hbel := below_next hbel hbn
    clear hbn
    refine hK _ _ ?_
    clear hK K
    refine wpAny_takes (md := .any) 4 (by kernel_rfl) (by intro d v c a w h; cases d <;> exact h) [14] _ _ _ (by kernel_rfl) ?_
    simp only [pick, List.filterMap_cons, List.filterMap_nil, List.getElem?_cons_zero, List.getElem?_cons_succ]
    iterate 1 (refine wpFree_step ?_ (by kernel_rfl) ?_ ?_; rotate_left; (intro w; go_simp); try with_reducible rfl)
    refine wpFree_nil ?_
    refine wpAny_one 16 3 (by kernel_rfl) rfl (by kernel_rfl) (fun K hK => ?_)
    go_simp
    refine (implHex_any s _ hm0).mono ?_
    rintro e w7 ⟨rfl, hbn⟩
    replace hbel := below_next hbel hbn
    clear hbn
    refine hK _ _ ?_
    clear hK K
    refine wpAny_takes (md := .any) 0 (by kernel_rfl) (by intro d v c a w h; cases d <;> exact h) [17, 18, 19] _ _ _ (by kernel_rfl) ?_
    simp only [pick, List.filterMap_cons, List.filterMap_nil, List.getElem?_cons_zero, List.getElem?_cons_succ]
    iterate 3 (refine wpFree_step ?_ (by kernel_rfl) ?_ ?_; rotate_left; (intro w; go_simp); try with_reducible rfl)
    refine wpFree_nil ?_
    refine wpAny_over (by kernel_rfl) ?_
    go_wp2
    go_ret
    exact ⟨rfl, hbel⟩
end Go.Proofs.Ytbjcgcjdlnoejaa
