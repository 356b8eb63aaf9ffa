/- Walk of the law FnPadded. -/
import Derived.Test.YtjmladejpdbdlaaDoorW4h
import Derived.Test.YtjmladejpdbdlaaDoorDraw9
namespace Go.Proofs.YtjmladejpdbdlaaDoor
open Go.ChangeShapes Go.WideShapes Go.ChangeAt Go.RowKit
set_option linter.unusedVariables false

theorem str_some9 (a : ByteArray) (h : a.size ≠ 0) : a.toList.isEmpty = false := by
  cases hl : a.toList with
  | nil => exact absurd ((str_empty a).1 hl) h
  | cons _ _ => rfl
theorem str_none9 (a : ByteArray) (h : a.size = 0) : a.toList.isEmpty = true := by
  rw [(str_empty a).2 h]; rfl
theorem padT_list (t : ByteArray) (j : Nat) : (padT t j).data.toList = t.data.toList ++ 128 :: List.replicate j 0 := by
  unfold padT
  rw [ba_app4, ba_app4, nghB_list, List.append_assoc]; rfl
theorem topN_pad (t : ByteArray) (J : Nat) : ∀ j, j ≤ J → topN (padT t J) (t.size + 1 + j) = t.size + 1
  | 0, _ => by
    show (if (padT t J).data.toList.getD t.size 0 = 0 then _ else t.size + 1) = _
    rw [if_neg]
    rw [padT_list, List.getD_eq_getElem?_getD, List.getElem?_append_right (by simp)]
    simp
  | j + 1, h => by
    show (if (padT t J).data.toList.getD (t.size + 1 + j) 0 = 0 then topN (padT t J) (t.size + 1 + j) else _) = _
    rw [if_pos, topN_pad t J j (by omega)]
    rw [padT_list, List.getD_eq_getElem?_getD, List.getElem?_append_right (by simp; omega)]
    have hx : t.size + 1 + j - t.data.toList.length = j + 1 := by simp; omega
    rw [hx, List.getElem?_cons_succ, List.getElem?_replicate]
    split <;> rfl
theorem unp_pad (t : ByteArray) (J : Nat) (h : t.size + 1 + J ≤ 8000) : unpOk (padT t J) = true ∧ unpT (padT t J) = t := by
  have ht := topN_pad t J J (Nat.le_refl _)
  have hs := padT_size t J
  rw [← hs] at ht
  have hok : unpOk (padT t J) = true := by
    unfold unpOk
    rw [ht]
    refine decide_eq_true ⟨by omega, by omega, ?_⟩
    rw [Nat.add_sub_cancel, padT_list, List.getD_eq_getElem?_getD, List.getElem?_append_right (by simp)]
    simp
  refine ⟨hok, ?_⟩
  unfold unpT
  rw [if_pos hok, ht, Nat.add_sub_cancel]
  apply ba_eq
  rw [ByteArray.data_extract, Array.toList_extract, padT_list]
  simp only [List.extract, List.drop_zero, Nat.sub_zero]
  rw [List.take_left' (by simp)]
theorem unp_le (u : ByteArray) (h : unpOk u = true) : (unpT u).size < u.size ∧ u.extract 0 (unpT u).size = unpT u := by
  have h1 : unpT u = u.extract 0 (topN u u.size - 1) := if_pos h
  have h2 : 1 ≤ topN u u.size := by unfold unpOk at h; exact (of_decide_eq_true h).2.1
  have h3 := topN_le u u.size
  have hs : (unpT u).size = topN u u.size - 1 := by rw [h1, ByteArray.size_extract]; omega
  exact ⟨by omega, by rw [hs, h1]⟩

set_option maxRecDepth 100000 in
set_option maxHeartbeats 3200000 in
theorem walk_FnPadded (a : Option Addr) (len cap : Nat) (z : List Int) (w : World) (h : IsRow .u8 w a len cap z) (hg : ∃ t x, Gives w t x) :
    Calls Tryd.prog 12 #[.slice a len cap] w fun e w' => e = .returned (.bool true) ∧ Below w.heap.size w w' := by
  obtain ⟨gt, gx, hg⟩ := hg
  have HG := Lib.hid hg
  have hcd := Cd.of_row h
  obtain ⟨cv, hcv⟩ : ∃ cv : Value, cv = .slice a len cap := ⟨_, rfl⟩
  rw [← hcv] at hcd ⊢
  clear h hcv hg
  go_enter Tryd.func12, Tryd.ntmps12
  go_wp2_with fail
  refine (big_any _ cv _ hcd).mono ?_
  rintro e w1 ⟨⟨b, rfl⟩, rfl⟩
  cases b with
  | true =>
    go_wp2
    go_ret
    exact ⟨rfl, Below.refl _ _⟩
  | false =>
    go_wp2_with fail
    refine (drawPadded_any _ cv _ hcd).mono ?_
    rintro e v1 ⟨t, n, rfl, ht, hn, hd1⟩
    have I1 := Lib.hid (fun w => implPadded_any t n w (small_max9 (by omega)) hn)
    have S1 := Lib.hid (fun w => specPadded_any t n w (small_max9 (by omega)) hn)
    have hps := padR_size t n
    have HPR : Hid (padR t n = if t.size ≤ 4000 ∧ 1 ≤ n ∧ n ≤ 256 then padT t (room (t.size + 1) n.toNat) else ⟨#[]⟩) := Lib.hid rfl
    obtain ⟨S, hS⟩ : ∃ S, S = padR t n := ⟨_, rfl⟩
    rw [← hS] at I1 S1 hps HPR
    clear hS
    go_wp2_with fail
    refine (I1.out _).mono ?_
    rintro e v2 ⟨rfl, hd2⟩
    have hd02 := hd1.trans (hd2.mono hd1.size)
    have hcd2 := hcd.below hd02
    clear hd1 hd2 hcd
    go_wp2_with fail
    refine (drawUnpadded_any _ cv _ hcd2).mono ?_
    rintro e v3 ⟨u, rfl, hu, hd3⟩
    have hd03 := hd02.trans (hd3.mono hd02.size)
    clear hd02 hd3 hcd2
    have I2 := Lib.hid (fun w hv => implUnpadded_any u w gt gx hv (by omega))
    have S2 := Lib.hid (fun w => specUnpadded_any u w (small_max9 (by omega)))
    have HUL := Lib.hid (unp_le u)
    obtain ⟨X, hX⟩ : ∃ X, X = unpT u := ⟨_, rfl⟩
    obtain ⟨B, hB⟩ : ∃ B, B = unpOk u := ⟨_, rfl⟩
    rw [← hX, ← hB] at I2 S2 HUL
    clear hX hB
    go_wp2_with fail
    refine (I2.out _ (HG.out.below hd03 (Nat.le_refl _))).mono ?_
    rintro e v4 ⟨rfl, hd4⟩
    have hd04 := hd03.trans (hd4.mono hd03.size)
    clear hd03 hd4 I2
    go_wp2_with fail
    refine (S2.out _).mono ?_
    rintro e v5 ⟨rfl, hd5⟩
    have hd05 := hd04.trans (hd5.mono hd04.size)
    clear hd04 hd5 S2
    go_wp2_with fail
    refine (S1.out _).mono ?_
    rintro e v6 ⟨rfl, hd6⟩
    have hd06 := hd05.trans (hd6.mono hd05.size)
    clear hd05 hd6
    by_cases hS0 : S.size = 0
    · have hse := str_none9 S hS0
      clear HPR
      go_wp2_with fail
      refine (S1.out _).mono ?_
      rintro e v7 ⟨rfl, hd7⟩
      have hd07 := hd06.trans (hd7.mono hd06.size)
      go_wp2
      go_ret
      exact ⟨ret_bool (by simp), hd07⟩
    · have hse := str_some9 S hS0
      have hall : t.size ≤ 4000 ∧ 1 ≤ n ∧ n ≤ 256 := by
        by_cases hc : t.size ≤ 4000 ∧ 1 ≤ n ∧ n ≤ 256
        · exact hc
        · exact absurd (by rw [HPR.out, if_neg hc]; rfl) hS0
      have hSe := HPR.out
      rw [if_pos hall] at hSe
      obtain ⟨-, hn1, hn2⟩ := hall
      obtain ⟨m, rfl⟩ := Int.eq_ofNat_of_zero_le (show 0 ≤ n by omega)
      rw [Int.toNat_natCast] at hSe
      have hrl := room_lt (t.size + 1) m (by omega)
      have hre := room_end (t.size + 1) m (by omega)
      have hSs : S.size = t.size + 1 + room (t.size + 1) m := by rw [hSe, padT_size]
      have hup := unp_pad t (room (t.size + 1) m) (by omega)
      rw [← hSe] at hup
      have I3 := Lib.hid (fun w hv => implUnpadded_any S w gt gx hv (by omega))
      rw [hup.1, hup.2] at I3
      have hmod : (S.size : Int) % (m : Int) = 0 := by rw [hSs]; exact_mod_cast hre
      have hle : (S.size : Int) ≤ (t.size : Int) + (m : Int) := by omega
      have hm0 : ¬ (m : Int) = 0 := by omega
      clear HPR hSe hrl hre hup hSs
      go_wp2_with fail
      refine (I3.out _ (HG.out.below hd06 (Nat.le_refl _))).mono ?_
      rintro e v7 ⟨rfl, hd7⟩
      have hd07 := hd06.trans (hd7.mono hd06.size)
      cases B with
      | false =>
        go_wp2
        go_ret
        exact ⟨ret_bool (by simp), hd07⟩
      | true =>
        obtain ⟨hX1, hX2⟩ := HUL.out rfl
        have hX3 : (X.size : Int) < (u.size : Int) := by omega
        have hX4 : X.size ≤ u.size := by omega
        go_wp2
        go_ret
        exact ⟨ret_bool (by simp), hd07⟩
end Go.Proofs.YtjmladejpdbdlaaDoor
