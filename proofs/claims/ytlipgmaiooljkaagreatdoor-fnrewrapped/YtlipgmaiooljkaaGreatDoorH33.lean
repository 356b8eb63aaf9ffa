/- Joined: W2l. -/
import Derived.Laws.DeepStrings4
import Derived.IntWalk
import Derived.Test.YtlipgmaiooljkaaGreatDoorH2
import Derived.Test.YtlipgmaiooljkaaGreatDoorH3
import Derived.Test.YtlipgmaiooljkaaGreatDoorH32
/- W2l -/
namespace Go.Proofs.YtlipgmaiooljkaaGreatDoor
open Go.ChangeShapes Go.WideShapes Go.ChangeAt Go.RowKit
set_option linter.unusedVariables false

theorem blkR_list (key nonce : ByteArray) (c : Int) (hk : key.size = 32) (hn : nonce.size = 12) (h0 : 0 ≤ c) (h1 : c ≤ 4294967295) : (blkR key nonce c).data.toList.length = 64 := by
  have hst := firstL_st key nonce c hk hn ⟨h0, h1⟩
  have hms := tenN_st 10 hst
  show (storeL (sumL (tenN 10 (firstL key nonce c)) (firstL key nonce c))).toArray.toList.length = 64
  rw [List.toList_toArray, storeL_len, sumL_len hms.1 hst.1]
theorem blkR_size (key nonce : ByteArray) (c : Int) (hk : key.size = 32) (hn : nonce.size = 12) (h0 : 0 ≤ c) (h1 : c ≤ 4294967295) : (blkR key nonce c).size = 64 := by
  have := blkR_list key nonce c hk hn h0 h1
  simpa using this

set_option maxRecDepth 100000 in
set_option maxHeartbeats 2000000 in
theorem implChaBlock_any (key nonce : ByteArray) (c : Int) (w : World) (hk : key.size ≤ maxLen) (hn : nonce.size ≤ maxLen) :
    Calls Tryz.prog 94 #[.string key, .string nonce, .int .i64 c] w fun e w' => e = .returned (.string (chR key nonce c)) ∧ Below w.heap.size w w' := by
  unfold maxLen at hk hn
  by_cases hall : key.size = 32 ∧ nonce.size = 12 ∧ 0 ≤ c ∧ c ≤ 4294967295
  · have h := implBlk_any key nonce c w hall.1 hall.2.1 hall.2.2.1 hall.2.2.2
    unfold chR; rw [if_pos hall]; exact h
  · have HR : Hid (chR key nonce c = ⟨#[]⟩) := Lib.hid (by unfold chR; rw [if_neg hall])
    by_cases g1 : key.size = 32
    · have hd1 : ((key.size : Int) == 32) = true := by simp [g1]
      by_cases g2 : nonce.size = 12
      · have hd2 : ((nonce.size : Int) == 12) = true := by simp [g2]
        by_cases g3 : 0 ≤ c
        · have g4 : ¬ c ≤ 4294967295 := fun h => hall ⟨g1, g2, g3, h⟩
          clear hall g1 g2
          go_enter Tryz.func94, Tryz.ntmps94
          go_wp2
          go_ret
          exact ⟨ret_str HR.out.symm, Below.refl _ _⟩
        · clear hall g1 g2
          go_enter Tryz.func94, Tryz.ntmps94
          go_wp2
          go_ret
          exact ⟨ret_str HR.out.symm, Below.refl _ _⟩
      · have hd2 : ((nonce.size : Int) == 12) = false := by simp; omega
        clear hall g1 g2
        go_enter Tryz.func94, Tryz.ntmps94
        go_wp2
        go_ret
        exact ⟨ret_str HR.out.symm, Below.refl _ _⟩
    · have hd1 : ((key.size : Int) == 32) = false := by simp; omega
      clear hall g1
      go_enter Tryz.func94, Tryz.ntmps94
      go_wp2
      go_ret
      exact ⟨ret_str HR.out.symm, Below.refl _ _⟩

theorem ba_len (a : ByteArray) : a.data.toList.length = a.size := by simp
/-- The blocks of a stream, from a counter on. -/
def blkF (key nonce : ByteArray) (c : Int) : Nat → List UInt8 := fun j => (blkR key nonce (c + (j : Int))).data.toList
def strB (key nonce : ByteArray) (c : Int) (t : ByteArray) : ByteArray := ⟨(strmL (blkF key nonce c) t.data.toList).toArray⟩
theorem strB_size (key nonce : ByteArray) (c : Int) (t : ByteArray) : (strB key nonce c t).size = t.size := by
  show (strmL (blkF key nonce c) t.data.toList).toArray.size = t.size
  rw [List.size_toArray, strmL_len]; simp
/-- So many bytes of it. -/
def strT (key nonce : ByteArray) (c : Int) (t : ByteArray) (m : Nat) : ByteArray := ⟨((strmL (blkF key nonce c) t.data.toList).take m).toArray⟩
theorem strT_size (key nonce : ByteArray) (c : Int) (t : ByteArray) (m : Nat) : (strT key nonce c t m).size ≤ t.size := by
  show ((strmL (blkF key nonce c) t.data.toList).take m).toArray.size ≤ t.size
  rw [List.size_toArray, List.length_take, strmL_len]; simp; omega
theorem strT_all (key nonce : ByteArray) (c : Int) (t : ByteArray) (m : Nat) (h : t.size ≤ m) : strT key nonce c t m = strB key nonce c t := by
  unfold strT strB; rw [List.take_of_length_le (by rw [strmL_len]; simpa using h)]
theorem part_list (t : ByteArray) (m b : Nat) (hb : b = min (m + 64) t.size) : (t.extract m b).data.toList = (t.data.toList.drop m).take 64 := by
  subst hb
  rw [ByteArray.data_extract, Array.toList_extract, List.extract_eq_take_drop]
  rcases Nat.lt_or_ge (m + 64) t.size with h | h
  · rw [Nat.min_eq_left (Nat.le_of_lt h), show m + 64 - m = 64 by omega]
  · rw [Nat.min_eq_right h, List.take_of_length_le (by simp), List.take_of_length_le (by simp; omega)]
theorem strT_step (key nonce : ByteArray) (c : Int) (t : ByteArray) (k b : Nat) (x : ByteArray) (hl : (blkR key nonce (c + (k : Int))).data.toList.length = 64) (hk : 64 * k < t.size) (hb : b = min (64 * k + 64) t.size)
    (hx : x.data.toList = xorL (t.extract (64 * k) b).data.toList (blkR key nonce (c + (k : Int))).data.toList) : strT key nonce c t (64 * k) ++ x = strT key nonce c t (64 * k + 64) := by
  apply ba_eq
  rw [ba_append_list, hx, part_list t (64 * k) b hb]
  show (strmL (blkF key nonce c) t.data.toList).take (64 * k) ++ _ = (strmL (blkF key nonce c) t.data.toList).take (64 * (k + 1))
  rw [strmL_step (blkF key nonce c) t.data.toList k hl (by simpa using hk)]
  rfl

set_option maxRecDepth 100000 in
set_option maxHeartbeats 2000000 in
theorem l2Stream_any (key nonce : ByteArray) (c : Int) (t : ByteArray) (w : World) (hk : key.size = 32) (hn : nonce.size = 12) (h0 : 0 ≤ c) (h1 : c ≤ 4294960000) (ht : t.size ≤ 100000) :
    Calls Tryz.prog 61 #[.string key, .string nonce, .int .i64 c, .string t] w fun e w' => e = .returned (.string (strB key nonce c t)) ∧ Below w.heap.size w w' := by
  have HB := Lib.hid (fun k (h : 0 ≤ k ∧ k ≤ 4294967295) w => l2Block_any key nonce k w hk hn h)
  have HL := Lib.hid (fun k (h0 : 0 ≤ k) (h1 : k ≤ 4294967295) => blkR_list key nonce k hk hn h0 h1)
  clear hk hn
  go_enter Tryz.func61, Tryz.ntmps61
  go_wp2
  go_loopw [9, 10] (fun o i wr => ∃ k m : Nat, Hid (m = 64 * k) ∧ m ≤ t.size + 63 ∧ i = .int .i64 m ∧ o = .string (strT key nonce c t m) ∧ Below w.heap.size w wr)
    (fun _ i _ => t.size + 64 - (intOf i).toNat)
  case atStart => exact ⟨0, 0, Lib.hid rfl, Nat.zero_le _, rfl, rfl, Below.refl _ _⟩
  case round =>
    obtain ⟨k, m, hmk, hm, rfl, rfl, hbel⟩ := hrel
    have hos := strT_size key nonce c t m
    obtain ⟨o, ho⟩ : ∃ o, o = strT key nonce c t m := ⟨_, rfl⟩
    rw [← ho] at hos ⊢
    by_cases hlt : m < t.size
    · have hkb : (k : Int) ≤ 2000 := by have := hmk.out; omega
      have hdv : (m : Int) / 64 = (k : Int) := by have := hmk.out; omega
      have hwc : IntKind.u32.wrap (c + (k : Int)) = c + (k : Int) := by rw [IntKind.wrap_u32']; omega
      have hll := HL.out (c + (k : Int)) (by omega) (by omega)
      have HO := Lib.hid ho
      clear ho
      have HLL := Lib.hid hll
      clear hll
      by_cases hend : t.size < m + 64
      · have hmn : ((t.size : Int) < (m : Int) + 64) := by omega
        have hps : (t.extract m t.size).size ≤ 64 := by rw [ByteArray.size_extract]; omega
        have hpm : t.size = min (m + 64) t.size := by omega
        have HPM := Lib.hid hpm
        have HPS := Lib.hid hps
        clear hpm hps
        go_wp2_with fail
        refine (HB.out _ ⟨by omega, by omega⟩ _).mono ?_
        rintro e w1 ⟨rfl, hb1⟩
        have hb01 := hbel.trans (hb1.mono hbel.size)
        obtain ⟨B, hB⟩ : ∃ B, B = blkR key nonce (c + (k : Int)) := ⟨_, rfl⟩
        rw [← hB] at HLL ⊢
        have hBs : B.size = 64 := by simpa using HLL.out
        have HB' := Lib.hid hB
        have HBS := Lib.hid hBs
        clear hB hBs hb1 hbel
        go_wp2_with fail
        refine (l1Xor_any _ _ _ (by have := HPS.out; omega) (by have := HPS.out; have := HBS.out; omega) (by have := HBS.out; unfold maxLen; omega)).mono ?_
        rintro e w2 ⟨rfl, hb2⟩
        have hb02 := hb01.trans (hb2.mono hb01.size)
        obtain ⟨x, hx⟩ : ∃ x, x = xorB (t.extract m t.size) B := ⟨_, rfl⟩
        have hxl : x.data.toList = xorL (t.extract m t.size).data.toList B.data.toList := by rw [hx]; rfl
        have hxs : x.size ≤ 64 := by
          have h1 := congrArg List.length hxl
          rw [xorL_len _ _ (by have := HPS.out; have := HBS.out; simp; omega)] at h1
          rw [ba_len, ba_len] at h1
          rw [h1]; exact HPS.out
        rw [← hx]
        have HXL := Lib.hid hxl
        have HN : Hid (o ++ x = strT key nonce c t (m + 64)) := Lib.hid (by
          have e := hmk.out
          have h1 := HXL.out
          have h2 := HPM.out
          have h3 := HLL.out
          rw [HO.out]
          rw [HB'.out] at h1 h3
          subst e
          exact strT_step key nonce c t k _ x h3 hlt h2 h1)
        clear hx hxl hb01 hb2
        go_wp2
        go_roundw
        case rel => exact ⟨k + 1, m + 64, Lib.hid (by rw [hmk.out]; omega), by omega, by go_num, by rw [HN.out], hb02⟩
        case measure => simp [intOf]; omega
      · have hmn : ¬ ((t.size : Int) < (m : Int) + 64) := by omega
        have hps : (t.extract m (m + 64)).size ≤ 64 := by rw [ByteArray.size_extract]; omega
        have hpm : (m + 64) = min (m + 64) t.size := by omega
        have HPM := Lib.hid hpm
        have HPS := Lib.hid hps
        clear hpm hps
        go_wp2_with fail
        refine (HB.out _ ⟨by omega, by omega⟩ _).mono ?_
        rintro e w1 ⟨rfl, hb1⟩
        have hb01 := hbel.trans (hb1.mono hbel.size)
        obtain ⟨B, hB⟩ : ∃ B, B = blkR key nonce (c + (k : Int)) := ⟨_, rfl⟩
        rw [← hB] at HLL ⊢
        have hBs : B.size = 64 := by simpa using HLL.out
        have HB' := Lib.hid hB
        have HBS := Lib.hid hBs
        clear hB hBs hb1 hbel
        go_wp2_with fail
        refine (l1Xor_any _ _ _ (by have := HPS.out; omega) (by have := HPS.out; have := HBS.out; omega) (by have := HBS.out; unfold maxLen; omega)).mono ?_
        rintro e w2 ⟨rfl, hb2⟩
        have hb02 := hb01.trans (hb2.mono hb01.size)
        obtain ⟨x, hx⟩ : ∃ x, x = xorB (t.extract m (m + 64)) B := ⟨_, rfl⟩
        have hxl : x.data.toList = xorL (t.extract m (m + 64)).data.toList B.data.toList := by rw [hx]; rfl
        have hxs : x.size ≤ 64 := by
          have h1 := congrArg List.length hxl
          rw [xorL_len _ _ (by have := HPS.out; have := HBS.out; simp; omega)] at h1
          rw [ba_len, ba_len] at h1
          rw [h1]; exact HPS.out
        rw [← hx]
        have HXL := Lib.hid hxl
        have HN : Hid (o ++ x = strT key nonce c t (m + 64)) := Lib.hid (by
          have e := hmk.out
          have h1 := HXL.out
          have h2 := HPM.out
          have h3 := HLL.out
          rw [HO.out]
          rw [HB'.out] at h1 h3
          subst e
          exact strT_step key nonce c t k _ x h3 hlt h2 h1)
        clear hx hxl hb01 hb2
        go_wp2
        go_roundw
        case rel => exact ⟨k + 1, m + 64, Lib.hid (by rw [hmk.out]; omega), by omega, by go_num, by rw [HN.out], hb02⟩
        case measure => simp [intOf]; omega
    · have HE : Hid (o = strB key nonce c t) := Lib.hid (by rw [ho, strT_all key nonce c t m (by omega)])
      clear ho
      go_wp2
      go_ret
      exact ⟨ret_str HE.out, hbel⟩
end Go.Proofs.YtlipgmaiooljkaaGreatDoor
