/- Walk of the law FnTags. -/
import Derived.Test.YtijoancnlpkcoaaW3k
import Derived.Test.YtijoancnlpkcoaaDraw8
import Derived.Test.YtijoancnlpkcoaaPlan
namespace Go.Proofs.Ytijoancnlpkcoaa
open Go.ChangeShapes Go.WideShapes Go.ChangeAt Go.RowKit
set_option linter.unusedVariables false

theorem small_max4 {n : Nat} (h : n ≤ 1000000) : n ≤ maxLen := by unfold maxLen; omega
theorem tagR_size (k t : ByteArray) (hk : k.size = 32) (ht : t.size ≤ 8000) : (tagR k t).size = 16 := by
  unfold tagR; rw [if_pos ⟨hk, ht⟩]
  show (sumR 16 _ _).toArray.size = 16
  rw [List.size_toArray, sumR_len]
theorem sumR_none (b : List UInt8) (hb : b.length = 16) (a : List UInt8) (ha : leNat a = 0) : sumR 16 a b = b := by
  unfold sumR
  rw [ha, Nat.zero_add]
  have := leBy_leNat b
  rw [hb] at this
  exact this
theorem leBy_take_none : leNat ((leBy 17 0).take 16) = 0 := by decide +kernel
theorem drop16 (k : ByteArray) : (k.extract 16 k.size).data.toList = k.data.toList.drop 16 := by
  rw [ByteArray.data_extract, Array.toList_extract, List.extract_eq_take_drop, List.take_of_length_le (by simp)]
/-- The tag of nothing is the second half of the key. -/
theorem tagR_none (k t : ByteArray) (hk : k.size = 32) (ht : t.size ≤ 8000) (h0 : accN (facN k) t (nBlk t) = 0) : tagR k t = k.extract 16 k.size := by
  apply ba_eq
  unfold tagR
  rw [if_pos ⟨hk, ht⟩, drop16, h0]
  show sumR 16 _ _ = _
  exact sumR_none _ (by rw [List.length_drop]; simp; omega) _ leBy_take_none
theorem accN_none (t : ByteArray) : ∀ k, accN 0 t k = 0
  | 0 => rfl
  | k + 1 => by rw [accN, Nat.mul_zero, Nat.zero_mod]
/-- So many noughts. -/
def noughtB (n : Nat) : ByteArray := ⟨(List.replicate n 0).toArray⟩
theorem noughtB_size (n : Nat) : (noughtB n).size = n := by show (List.replicate n (0 : UInt8)).toArray.size = n; simp
theorem noughtB_list (n : Nat) : (noughtB n).data.toList = List.replicate n 0 := by unfold noughtB; simp
theorem fac_none : leNat (bytesOf (clZ (intsOf (List.replicate 16 0)))) = 0 := by decide +kernel
theorem facN_nought (x : ByteArray) : facN (noughtB 16 ++ x) = 0 := by
  unfold facN
  rw [ba_append3, noughtB_list, List.take_left' (by simp)]
  exact fac_none
theorem drop_nought (k : ByteArray) (hk : k.size = 32) : (noughtB 16 ++ k.extract 16 k.size).extract 16 (noughtB 16 ++ k.extract 16 k.size).size = k.extract 16 k.size := by
  apply ba_eq
  rw [drop16, ba_append3, noughtB_list, List.drop_left' (by simp)]
theorem conv_noughtB {w : World} {base : Nat} {val : Value} {n : Nat} (h : OwnK 5 .u8 w base val (List.replicate n 0)) : (convert 22 9 val).run Try.prog w = .ok (.string (noughtB n)) w := by
  have h' : OwnB w base val (List.replicate n 0) := by
    unfold OwnB
    unfold OwnK at h
    rw [List.length_replicate] at h ⊢
    rw [List.map_replicate] at h ⊢
    exact h
  exact conv_ownB h'

set_option maxRecDepth 100000 in
set_option maxHeartbeats 3200000 in
theorem walk_FnTags (a : Option Addr) (len cap : Nat) (z : List Int) (w : World) (h : IsRow .u8 w a len cap z) :
    Calls Try.prog 7 #[.slice a len cap] w fun e w' => e = .returned (.bool true) ∧ Below w.heap.size w w' := by
  have hcd := Cd.of_row h
  obtain ⟨cv, hcv⟩ : ∃ cv : Value, cv = .slice a len cap := ⟨_, rfl⟩
  rw [← hcv] at hcd ⊢
  clear h hcv
  go_enter Try.func7, Try.ntmps7
  go_wp2_with fail
  refine (big_any _ cv _ hcd).mono ?_
  rintro e w1 ⟨⟨b, rfl⟩, rfl⟩
  cases b with
  | true =>
    go_wp2
    go_ret
    exact ⟨rfl, Below.refl _ _⟩
  | false =>
    go_wp2_with fail
    refine (drawTagOf_any _ cv _ hcd).mono ?_
    rintro e v1 ⟨k, t, rfl, hk, ht, hd1⟩
    have i1 := implTagOf_any k t
    have s1 := specTagOf_any k t
    have hts : k.size = 32 → (tagR k t).size = 16 := fun h => tagR_size k t h (by omega)
    obtain ⟨T, hT⟩ : ∃ T, T = tagR k t := ⟨_, rfl⟩
    rw [← hT] at i1 s1 hts
    have I1 := Lib.hid i1
    have S1 := Lib.hid s1
    clear i1 s1 hT hcd
    go_wp2_with fail
    refine (I1.out _ (small_max4 (by omega)) (small_max4 (by omega))).mono ?_
    rintro e v2 ⟨rfl, hd2⟩
    have hd02 := hd1.trans (hd2.mono hd1.size)
    clear hd1 hd2
    go_wp2_with fail
    refine (S1.out _ (small_max4 (by omega)) (small_max4 (by omega))).mono ?_
    rintro e v3 ⟨rfl, hd3⟩
    have hd03 := hd02.trans (hd3.mono hd02.size)
    clear hd02 hd3
    by_cases hk32 : k.size = 32
    · have hkd : ((k.size : Int) != 32) = false := by simp [hk32]
      have hT16 := hts hk32
      have hTd : ((T.size : Int) == 16) = true := by simp [hT16]
      have hv3 := hd03.size
      have hkk : 32 ≤ k.size := by omega
      have i2 := implTagOf_any k ⟨#[]⟩
      rw [tagR_none k ⟨#[]⟩ hk32 (by show 0 ≤ 8000; omega) rfl] at i2
      have hxs : (noughtB 16 ++ k.extract 16 k.size).size = 32 := by rw [ByteArray.size_append, noughtB_size, ByteArray.size_extract]; omega
      have i3 := implTagOf_any (noughtB 16 ++ k.extract 16 k.size) t
      rw [tagR_none _ t hxs (by omega) (by rw [facN_nought]; exact accN_none _ _), drop_nought k hk32] at i3
      obtain ⟨Nn, hNn⟩ : ∃ Nn, Nn = noughtB 16 := ⟨_, rfl⟩
      rw [← hNn] at i3 hxs
      have hNs : Nn.size = 16 := by rw [hNn]; exact noughtB_size 16
      have hes : (k.extract 16 k.size).size = 16 := by rw [ByteArray.size_extract]; omega
      obtain ⟨H, hH⟩ : ∃ H, H = k.extract 16 k.size := ⟨_, rfl⟩
      have HH := Lib.hid hH
      rw [← hH] at i2 i3 hxs hes
      have hk16 : (16 : Int) ≤ (k.size : Int) := by omega
      have hH' := hH.symm
      have zz : ¬ (9223372036854775807 < Nn.size + H.size) := by omega
      have I2 := Lib.hid i2
      have I3 := Lib.hid i3
      have HXS := Lib.hid hxs
      have HNn := Lib.hid hNn
      have HES := Lib.hid hes
      clear i2 i3 hts hT16 hxs hNn hNs hes hk32 hH
      go_wp2_with (at_make; refine wpList_fullK Try.underlying22 Try.infoU8 (by decide) rfl _ _ rfl w.heap.size .i64 .i64 16 rfl rfl (by decide) hv3 ?_; intro v4 hown4 hgr4; have hbd := hd03.trans hgr4; have hcn := conv_noughtB hown4; rw [← HNn.out] at hcn; clear hown4 hgr4 hd03)
      have hbel := hbd.drew
      clear hcn
      refine wp_region_plan (by kernel_rfl) 22 rfl ?_
      refine wpAny_takes (md := .any) 15 (by kernel_rfl) (by intro d v c a w h; cases d <;> exact h) [0, 1, 2, 3, 4, 6, 7] _ _ _ (by kernel_rfl) ?_
      simp only [pick, List.filterMap_cons, List.filterMap_nil, List.getElem?_cons_zero, List.getElem?_cons_succ]
      iterate 7 (refine wpFree_step ?_ (by kernel_rfl) ?_ ?_; rotate_left; (intro w; go_simp); try with_reducible rfl)
      refine wpFree_nil ?_
      refine wpAny_one 5 14 (by kernel_rfl) rfl (by kernel_rfl) (fun K hK => ?_)
      go_simp
      refine (I2.out _ (small_max4 (by omega)) (small_max4 (by show 0 ≤ 1000000; omega))).mono ?_
      rintro e w8 ⟨rfl, hbn⟩
      have hc8 := hbel.trans (hbn.mono hbel.size)
      clear hbn hbel
      refine hK _ _ ?_
      clear hK K
      refine wpAny_takes (md := .any) 4 (by kernel_rfl) (by intro d v c a w h; cases d <;> exact h) [8, 9, 10, 11, 12, 13, 14, 15, 17, 18] _ _ _ (by kernel_rfl) ?_
      simp only [pick, List.filterMap_cons, List.filterMap_nil, List.getElem?_cons_zero, List.getElem?_cons_succ]
      iterate 10 (refine wpFree_step ?_ (by kernel_rfl) ?_ ?_; rotate_left; (intro w; go_simp); try with_reducible rfl)
      refine wpFree_nil ?_
      refine wpAny_one 16 3 (by kernel_rfl) rfl (by kernel_rfl) (fun K hK => ?_)
      go_simp
      refine (I3.out _ (small_max4 (by rw [HXS.out]; decide)) (small_max4 (by omega))).mono ?_
      rintro e w9 ⟨rfl, hbn⟩
      have hc9 := hc8.trans (hbn.mono hc8.size)
      clear hbn hc8
      refine hK _ _ ?_
      clear hK K
      refine wpAny_takes (md := .any) 0 (by kernel_rfl) (by intro d v c a w h; cases d <;> exact h) [19, 20, 21] _ _ _ (by kernel_rfl) ?_
      simp only [pick, List.filterMap_cons, List.filterMap_nil, List.getElem?_cons_zero, List.getElem?_cons_succ]
      iterate 3 (refine wpFree_step ?_ (by kernel_rfl) ?_ ?_; rotate_left; (intro w; go_simp); try with_reducible rfl)
      refine wpFree_nil ?_
      refine wpAny_over (by kernel_rfl) ?_
      go_wp2
      go_ret
      exact ⟨rfl, hc9⟩
    · have hkd : ((k.size : Int) != 32) = true := by simp; omega
      clear hk32 hts
      go_wp2_with fail
      refine (S1.out _ (small_max4 (by omega)) (small_max4 (by omega))).mono ?_
      rintro e v4 ⟨rfl, hd4⟩
      have hd04 := hd03.trans (hd4.mono hd03.size)
      go_wp2
      go_ret
      exact ⟨rfl, hd04⟩
end Go.Proofs.Ytijoancnlpkcoaa
