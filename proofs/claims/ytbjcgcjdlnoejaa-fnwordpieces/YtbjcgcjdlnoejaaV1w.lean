/- Walks of the laws FnWords, FnWordPieces. -/
import Derived.Test.YtbjcgcjdlnoejaaW1a
import Derived.Test.YtbjcgcjdlnoejaaW1e
import Derived.Test.YtbjcgcjdlnoejaaW1f
import Derived.Test.YtbjcgcjdlnoejaaW1g
import Derived.Test.YtbjcgcjdlnoejaaDraw3
import Derived.Test.YtbjcgcjdlnoejaaPlan
import Derived.WalkLawsBesides
namespace Go.Proofs.Ytbjcgcjdlnoejaa
open Go.ChangeShapes Go.WideShapes Go.ChangeAt Go.RowKit
set_option linter.unusedVariables false

theorem rot_eq (X k : Nat) (hX : X < 4294967296) (hk : k ≤ 32) : rot (X : Int) (k : Int) = (((X % 2 ^ (32 - k)) * 2 ^ k + X / 2 ^ (32 - k) : Nat) : Int) := by
  unfold rot
  have e32 : 2 ^ (32 - k) * 2 ^ k = 4294967296 := by rw [← Nat.pow_add, show 32 - k + k = 32 by omega]
  have h1 : ((X : Int) * 2 ^ (k : Int).toNat) = ((X * 2 ^ k : Nat) : Int) := by simp
  have h2 : (X * 2 ^ k) % 4294967296 = (X % 2 ^ (32 - k)) * 2 ^ k := by rw [← e32, Nat.mul_mod_mul_right]
  have h3 : ((32 : Int) - (k : Int)).toNat = 32 - k := by omega
  have h4 : (X : Int) / 2 ^ (32 - k) = ((X / 2 ^ (32 - k) : Nat) : Int) := by simp
  have hp : 0 < 2 ^ (32 - k) := Nat.two_pow_pos _
  have hA : X / 2 ^ (32 - k) < 2 ^ k := by
    rw [Nat.div_lt_iff_lt_mul hp, Nat.mul_comm, e32]; exact hX
  have hB : X % 2 ^ (32 - k) < 2 ^ (32 - k) := Nat.mod_lt _ hp
  have hB2 : (X % 2 ^ (32 - k) + 1) * 2 ^ k ≤ 2 ^ (32 - k) * 2 ^ k := Nat.mul_le_mul_right _ hB
  rw [Nat.add_mul, e32, Nat.one_mul] at hB2
  rw [h1, IntKind.wrap_u32', h3, h4]
  have h5 : ((X * 2 ^ k : Nat) : Int) % 4294967296 = ((X % 2 ^ (32 - k) * 2 ^ k : Nat) : Int) := by rw [← h2]; omega
  rw [h5]
  have hor := or_shift (X / 2 ^ (32 - k)) (X % 2 ^ (32 - k)) k hA
  have hk32 : 2 ^ k ≤ 4294967296 := Nat.pow_le_pow_right (n := 2) (by decide) hk
  generalize X / 2 ^ (32 - k) = A at *
  generalize X % 2 ^ (32 - k) * 2 ^ k = B at *
  rw [u32_or _ _ (by omega) (by omega) (by omega) (by omega), Int.toNat_natCast, Int.toNat_natCast, Nat.or_comm, hor, Nat.add_comm]

theorem rot_back (X k : Nat) (hX : X < 4294967296) (hk : k ≤ 32) : rot (rot (X : Int) (k : Int)) (32 - (k : Int)) = X := by
  have e32 : 2 ^ (32 - k) * 2 ^ k = 4294967296 := by rw [← Nat.pow_add, show 32 - k + k = 32 by omega]
  have hp : 0 < 2 ^ (32 - k) := Nat.two_pow_pos _
  have hq : 0 < 2 ^ k := Nat.two_pow_pos _
  have hA : X / 2 ^ (32 - k) < 2 ^ k := by
    rw [Nat.div_lt_iff_lt_mul hp, Nat.mul_comm, e32]; exact hX
  have hB : X % 2 ^ (32 - k) < 2 ^ (32 - k) := Nat.mod_lt _ hp
  have hB2 : (X % 2 ^ (32 - k) + 1) * 2 ^ k ≤ 2 ^ (32 - k) * 2 ^ k := Nat.mul_le_mul_right _ hB
  rw [Nat.add_mul, e32, Nat.one_mul] at hB2
  rw [rot_eq X k hX hk]
  have e : (32 : Int) - (k : Int) = ((32 - k : Nat) : Int) := by omega
  rw [e, rot_eq _ (32 - k) (by omega) (by omega), show 32 - (32 - k) = k by omega]
  have m1 : (X % 2 ^ (32 - k) * 2 ^ k + X / 2 ^ (32 - k)) % 2 ^ k = X / 2 ^ (32 - k) := by
    rw [Nat.mul_add_mod_self_right, Nat.mod_eq_of_lt hA]
  have m2 : (X % 2 ^ (32 - k) * 2 ^ k + X / 2 ^ (32 - k)) / 2 ^ k = X % 2 ^ (32 - k) := by
    rw [Nat.add_comm, Nat.add_mul_div_right _ _ hq, Nat.div_eq_of_lt hA, Nat.zero_add]
  rw [m1, m2, Nat.div_add_mod']

theorem rotR_back (n k : Int) (h : 0 ≤ rotR n k) (hk : k ≠ 0) : rotR (rotR n k) (32 - k) = n := by
  unfold rotR at h
  split at h
  · rename_i hc
    obtain ⟨h1, h2, h3, h4⟩ := hc
    obtain ⟨X, rfl⟩ := Int.eq_ofNat_of_zero_le h1
    obtain ⟨K, rfl⟩ := Int.eq_ofNat_of_zero_le h3
    have e : rotR (X : Int) (K : Int) = rot X K := by unfold rotR; rw [if_pos ⟨h1, h2, h3, h4⟩]
    have bd := rot_bd (X : Int) (K : Int) h1 h2
    rw [e]
    unfold rotR
    rw [if_pos ⟨bd.1, by omega, by omega, by omega⟩]
    exact rot_back X K (by omega) (by omega)
  · omega

theorem ldR_back {s : ByteArray} {zs : List Int} (h : s = stR zs) (hne : s ≠ ⟨#[]⟩) : ldR s = zs := by
  unfold stR at h
  split at h
  · rename_i hc
    subst h
    have hsz : (⟨(storeL zs).toArray⟩ : ByteArray).size = 4 * zs.length := by
      show (storeL zs).toArray.size = _
      rw [List.size_toArray, storeL_len]
    unfold ldR
    rw [if_pos ⟨by omega, by omega⟩]
    exact loadL_storeL zs (of_all hc.2)
  · exact absurd h hne
theorem stR_back {t : ByteArray} (h4 : t.size % 4 = 0) (hn : t.size ≤ 4000) : stR (ldR t) = t := by
  have e : ldR t = loadL t.data.toList := by unfold ldR; rw [if_pos ⟨h4, hn⟩]
  rw [e]
  unfold stR
  rw [if_pos ⟨by rw [loadL_len]; simp; omega, by
    rw [List.all_eq_true]
    intro n hn
    have := loadL_words _ n hn
    simp [isW, this.1, this.2]⟩]
  rw [storeL_loadL _ (by simpa using h4)]
theorem ldR_len' (s : ByteArray) : (ldR s).length ≤ 1000 := by
  unfold ldR; split
  · rw [loadL_len]; simp; omega
  · simp
theorem stR_size (zs : List Int) : (stR zs).size ≤ 4000 := by
  unfold stR; split
  · rename_i h
    show (storeL zs).toArray.size ≤ 4000
    rw [List.size_toArray, storeL_len]; omega
  · show (#[] : Array UInt8).size ≤ 4000; simp
theorem below_next' {w w1 w2 : World} (h : Below w.heap.size w w1) (k : Below w1.heap.size w1 w2) : Below w.heap.size w w2 := h.trans (k.mono h.size)
theorem small_max' {n : Nat} (h : n ≤ 1000000) : n ≤ maxLen := by unfold maxLen; omega

theorem rot_facts {n k r : Int} (hr : r = rotR n k) (h0 : 0 ≤ r) (hk : k ≠ 0) : (0 ≤ k ∧ k ≤ 31) ∧ Hid (∀ w : World, Calls Try.prog 16 #[.int .i64 r, .int .i64 (32 - k)] w fun e w' => e = .returned (.int .i64 n) ∧ w = w') := by
  refine ⟨?_, Lib.hid (fun w => ?_)⟩
  · rw [hr] at h0
    unfold rotR at h0
    split at h0
    · omega
    · omega
  · have h := implRotl_any r (32 - k) w
    rw [hr, rotR_back n k (by omega) hk] at h
    rw [hr]; exact h

set_option maxRecDepth 100000 in
set_option maxHeartbeats 6400000 in
theorem walk_FnWords (a : Option Addr) (len cap : Nat) (z : List Int) (w : World) (h : IsRow .u8 w a len cap z) :
    Calls Try.prog 9 #[.slice a len cap] w fun e w' => e = .returned (.bool true) ∧ Below w.heap.size w w' := by
  have hcd := Cd.of_row h
  obtain ⟨cv, hcv⟩ : ∃ cv : Value, cv = .slice a len cap := ⟨_, rfl⟩
  rw [← hcv] at hcd ⊢
  clear h hcv
  go_enter Try.func9, Try.ntmps9
  go_wp2_with fail
  refine (big_any _ cv _ hcd).mono ?_
  rintro e w1 ⟨⟨b, rfl⟩, rfl⟩
  cases b with
  | true =>
    go_wp2
    go_ret
    exact ⟨rfl, Below.refl _ _⟩
  | false =>
    go_wp2_with fail
    refine (drawStoreLe_any _ cv _ hcd).mono ?_
    rintro e w2 ⟨v, l, rfl, hl, ho, hbel⟩
    go_wp2_with fail
    refine (implStoreLe_any v l _ _ ho.row).mono ?_
    rintro e w3 ⟨rfl, hbn⟩
    replace ho := ho.keep hbn (Nat.le_refl _)
    replace hbel := below_next' hbel hbn
    clear hbn
    go_wp2_with fail
    refine (drawLoadLe_any _ cv _ (hcd.below hbel)).mono ?_
    rintro e w4 ⟨t, rfl, ht, hbn⟩
    replace ho := ho.keep hbn (Nat.le_refl _)
    replace hbel := below_next' hbel hbn
    clear hbn
    go_wp2_with fail
    refine (drawRotl_any _ cv _ (hcd.below hbel)).mono ?_
    rintro e w5 ⟨n, k, rfl, hn, hk, hbn⟩
    replace ho := ho.keep hbn (Nat.le_refl _)
    replace hbel := below_next' hbel hbn
    have hkb := bounds_i64 hk
    have HN := Lib.hid hn
    have HK := Lib.hid hk
    obtain ⟨hk0, hk1⟩ := hkb
    clear hbn hn hk
    go_wp2_with fail
    refine (implRotl_any n k _).mono ?_
    rintro e w6 ⟨rfl, rfl⟩
    obtain ⟨r, hr⟩ : ∃ r, r = rotR n k := ⟨_, rfl⟩
    rw [← hr]
    have HR := Lib.hid hr
    clear hr
    go_wp2_with fail
    refine (specStoreLe_any v l _ _ ho.row).mono ?_
    rintro e w7 ⟨rfl, hbn⟩
    replace ho := ho.keep hbn (Nat.le_refl _)
    replace hbel := below_next' hbel hbn
    clear hbn
    have HO := Lib.hid ho
    clear ho
    go_wp2_with fail
    refine (implLoadLe_any t _ (small_max' (by omega))).mono ?_
    rintro e w8 ⟨v8, rfl, ho8, hbn⟩
    replace HO := Lib.hid (HO.out.keep hbn (Nat.le_refl _))
    replace hbel := below_next' hbel hbn
    clear hbn
    go_wp2_with fail
    refine (specLoadLe_any t _ (small_max' (by omega))).mono ?_
    rintro e w9 ⟨v9, rfl, ho9, hbn⟩
    replace HO := Lib.hid (HO.out.keep hbn (Nat.le_refl _))
    replace ho8 := ho8.keep hbn (Nat.le_refl _)
    replace hbel := below_next' hbel hbn
    clear hbn
    go_wp2_with fail
    refine (sameInts_any v8 v9 (ldR t) (ldR t) _ _ _ ho8.row ho9.row).mono ?_
    rintro e w10 ⟨rfl, hbn⟩
    replace HO := Lib.hid (HO.out.keep hbn (Nat.le_refl _))
    replace hbel := below_next' hbel hbn
    clear hbn ho8 ho9
    have hS := specRotl_any n k
    rw [← HR.out] at hS
    have HS := Lib.hid hS
    clear hS
    go_wp2_with fail
    refine (HS.out _).mono ?_
    rintro e w11 ⟨rfl, rfl⟩
    obtain ⟨st, hst⟩ : ∃ st, st = stR l := ⟨_, rfl⟩
    rw [← hst]
    have HST := Lib.hid hst
    have hsts := stR_size l
    rw [← hst] at hsts
    clear hst
    have HO2 := HO
    by_cases hse : st.toList = []
    · by_cases h4 : (t.size : Int) % 4 = 0
      · have hSB := implStoreLe_any
        have hback := stR_back (t := t) (by omega) (by omega)
        have HBK := Lib.hid hback
        clear hSB hback
        go_wp2_with fail
        refine (implLoadLe_any t _ (small_max' (by omega))).mono ?_
        rintro e wx ⟨vx, rfl, hox, hbn⟩
        replace hbel := below_next' hbel hbn
        clear hbn
        have hST := implStoreLe_any vx (ldR t) _ _ hox.row
        rw [HBK.out] at hST
        have HST2 := Lib.hid hST
        clear hST hox HBK
        go_wp2_with fail
        refine HST2.out.mono ?_
        rintro e wy ⟨rfl, hbn⟩
        replace hbel := below_next' hbel hbn
        clear hbn HST2
        by_cases hr0 : r < 0
        · go_wp2
          go_ret
          exact ⟨rfl, hbel⟩
        · by_cases hkz : k = 0
          · subst hkz
            go_wp2
            go_ret
            exact ⟨rfl, hbel⟩
          · obtain ⟨hk31, HB⟩ := rot_facts HR.out (by omega) hkz
            go_wp2_with fail
            refine (HB.out _).mono ?_
            rintro e wz ⟨rfl, rfl⟩
            go_wp2
            go_ret
            exact ⟨rfl, hbel⟩
      · by_cases hr0 : r < 0
        · go_wp2
          go_ret
          exact ⟨rfl, hbel⟩
        · by_cases hkz : k = 0
          · subst hkz
            go_wp2
            go_ret
            exact ⟨rfl, hbel⟩
          · obtain ⟨hk31, HB⟩ := rot_facts HR.out (by omega) hkz
            go_wp2_with fail
            refine (HB.out _).mono ?_
            rintro e wz ⟨rfl, rfl⟩
            go_wp2
            go_ret
            exact ⟨rfl, hbel⟩
    · have hne : st ≠ ⟨#[]⟩ := fun e => hse (by rw [e, ByteArray.toList_eq])
      have hld := ldR_back HST.out hne
      have HLD := Lib.hid hld
      clear hld hne
      go_wp2_with fail
      refine (implLoadLe_any st _ (small_max' (by omega))).mono ?_
      rintro e wa ⟨va, rfl, hoa, hbn⟩
      rw [HLD.out] at hoa
      have hv := HO.out.keep hbn (Nat.le_refl _)
      replace hbel := below_next' hbel hbn
      clear hbn
      go_wp2_with fail
      refine (sameInts_any va v l l _ _ _ hoa.row hv.row).mono ?_
      rintro e wb ⟨rfl, hbn⟩
      replace hbel := below_next' hbel hbn
      clear hbn hoa hv
      by_cases h4 : (t.size : Int) % 4 = 0
      · have hSB := implStoreLe_any
        have hback := stR_back (t := t) (by omega) (by omega)
        have HBK := Lib.hid hback
        clear hSB hback
        go_wp2_with fail
        refine (implLoadLe_any t _ (small_max' (by omega))).mono ?_
        rintro e wx ⟨vx, rfl, hox, hbn⟩
        replace hbel := below_next' hbel hbn
        clear hbn
        have hST := implStoreLe_any vx (ldR t) _ _ hox.row
        rw [HBK.out] at hST
        have HST2 := Lib.hid hST
        clear hST hox HBK
        go_wp2_with fail
        refine HST2.out.mono ?_
        rintro e wy ⟨rfl, hbn⟩
        replace hbel := below_next' hbel hbn
        clear hbn HST2
        by_cases hr0 : r < 0
        · go_wp2
          go_ret
          exact ⟨rfl, hbel⟩
        · by_cases hkz : k = 0
          · subst hkz
            go_wp2
            go_ret
            exact ⟨rfl, hbel⟩
          · obtain ⟨hk31, HB⟩ := rot_facts HR.out (by omega) hkz
            go_wp2_with fail
            refine (HB.out _).mono ?_
            rintro e wz ⟨rfl, rfl⟩
            go_wp2
            go_ret
            exact ⟨rfl, hbel⟩
      · by_cases hr0 : r < 0
        · go_wp2
          go_ret
          exact ⟨rfl, hbel⟩
        · by_cases hkz : k = 0
          · subst hkz
            go_wp2
            go_ret
            exact ⟨rfl, hbel⟩
          · obtain ⟨hk31, HB⟩ := rot_facts HR.out (by omega) hkz
            go_wp2_with fail
            refine (HB.out _).mono ?_
            rintro e wz ⟨rfl, rfl⟩
            go_wp2
            go_ret
            exact ⟨rfl, hbel⟩

end Go.Proofs.Ytbjcgcjdlnoejaa
