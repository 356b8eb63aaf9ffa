/- Contracts: Sealed, of the program and of the reference. -/
import Derived.Test.YtfjaincogbdeiaaGreatDoorW4c
namespace Go.Proofs.YtfjaincogbdeiaaGreatDoor
open Go.ChangeShapes Go.WideShapes Go.ChangeAt Go.RowKit
set_option linter.unusedVariables false

theorem tagR_size (k t : ByteArray) : (tagR k t).size ≤ 16 := by
  unfold tagR
  split
  · show (List.toArray _).size ≤ 16
    rw [List.size_toArray, sumR_len]; omega
  · show 0 ≤ 16
    omega
def sealB (key nonce wi t : ByteArray) : ByteArray := strB key nonce 1 t ++ sealT key nonce wi (strB key nonce 1 t)
def slR (key nonce wi t : ByteArray) : ByteArray := if key.size = 32 ∧ nonce.size = 12 ∧ wi.size ≤ 1000 ∧ t.size ≤ 4000 then sealB key nonce wi t else ⟨#[]⟩

set_option maxRecDepth 100000 in
set_option maxHeartbeats 2000000 in
theorem l4Seal_any (key nonce wi t : ByteArray) (w : World) (hk : key.size = 32) (hn : nonce.size = 12) (h1 : wi.size ≤ 1000) (h2 : t.size ≤ 4000) :
    Calls Tryz.prog 40 #[.string key, .string nonce, .string wi, .string t] w fun e w' => e = .returned (.string (sealB key nonce wi t)) ∧ Below w.heap.size w w' := by
  have HR : Hid (sealB key nonce wi t = strB key nonce 1 t ++ sealT key nonce wi (strB key nonce 1 t)) := Lib.hid rfl
  have hss := strB_size key nonce 1 t
  have HS := Lib.hid (fun w => l2Stream_any key nonce 1 t w hk hn (by omega) (by omega) (by omega))
  obtain ⟨S, hS⟩ : ∃ S, S = strB key nonce 1 t := ⟨_, rfl⟩
  rw [← hS] at HR hss HS
  have HT := Lib.hid (fun w => l4Tag_any key nonce wi S w hk hn h1 (by omega))
  have hts : (sealT key nonce wi S).size ≤ 16 := tagR_size _ _
  clear hS hk hn
  go_enter Tryz.func40, Tryz.ntmps40
  go_wp2_with fail
  refine (HS.out _).mono ?_
  rintro e w1 ⟨rfl, hb1⟩
  go_wp2_with fail
  refine (HT.out _).mono ?_
  rintro e w2 ⟨rfl, hb2⟩
  go_wp2
  go_ret
  exact ⟨ret_str HR.out.symm, hb1.trans (hb2.mono hb1.size)⟩

set_option maxRecDepth 100000 in
set_option maxHeartbeats 2000000 in
theorem sealArgsOk_any (key nonce wi t : ByteArray) (w : World) (hk : key.size ≤ maxLen) (hn : nonce.size ≤ maxLen) (hw : wi.size ≤ maxLen) (ht : t.size ≤ maxLen) :
    Calls Tryz.prog 55 #[.string key, .string nonce, .string wi, .string t] w fun e w' => e = .returned (.bool (decide (key.size = 32 ∧ nonce.size = 12 ∧ wi.size ≤ 1000 ∧ t.size ≤ 4000))) ∧ w = w' := by
  unfold maxLen at hk hn hw ht
  obtain ⟨q, hq⟩ : ∃ q, q = decide (key.size = 32 ∧ nonce.size = 12 ∧ wi.size ≤ 1000 ∧ t.size ≤ 4000) := ⟨_, rfl⟩
  rw [← hq]
  by_cases g1 : key.size = 32
  · have hd1 : ((key.size : Int) == 32) = true := by simp [g1]
    by_cases g2 : nonce.size = 12
    · have hd2 : ((nonce.size : Int) == 12) = true := by simp [g2]
      by_cases g3 : wi.size ≤ 1000
      · by_cases g4 : t.size ≤ 4000
        · have HQ : Hid (q = true) := Lib.hid (by rw [hq]; exact decide_eq_true ⟨g1, g2, g3, g4⟩)
          clear hq g1 g2
          go_enter Tryz.func55, Tryz.ntmps55
          go_wp2
          go_ret
          exact ⟨ret_bool ((decide_eq_true (by omega)).trans HQ.out.symm), rfl⟩
        · have HQ : Hid (q = false) := Lib.hid (by rw [hq]; exact decide_eq_false (by omega))
          clear hq g1 g2
          go_enter Tryz.func55, Tryz.ntmps55
          go_wp2
          go_ret
          exact ⟨ret_bool ((decide_eq_false (by omega)).trans HQ.out.symm), rfl⟩
      · have HQ : Hid (q = false) := Lib.hid (by rw [hq]; exact decide_eq_false (by omega))
        clear hq g1 g2
        go_enter Tryz.func55, Tryz.ntmps55
        go_wp2
        go_ret
        exact ⟨ret_bool HQ.out.symm, rfl⟩
    · have hd2 : ((nonce.size : Int) == 12) = false := by simp; omega
      have HQ : Hid (q = false) := Lib.hid (by rw [hq]; exact decide_eq_false (by omega))
      clear hq g1 g2
      go_enter Tryz.func55, Tryz.ntmps55
      go_wp2
      go_ret
      exact ⟨ret_bool HQ.out.symm, rfl⟩
  · have hd1 : ((key.size : Int) == 32) = false := by simp; omega
    have HQ : Hid (q = false) := Lib.hid (by rw [hq]; exact decide_eq_false (by omega))
    clear hq g1
    go_enter Tryz.func55, Tryz.ntmps55
    go_wp2
    go_ret
    exact ⟨ret_bool HQ.out.symm, rfl⟩

set_option maxRecDepth 100000 in
set_option maxHeartbeats 2000000 in
theorem implSealed_any (key nonce wi t : ByteArray) (w : World) (hk : key.size ≤ maxLen) (hn : nonce.size ≤ maxLen) (hw : wi.size ≤ maxLen) (ht : t.size ≤ maxLen) :
    Calls Tryz.prog 25 #[.string key, .string nonce, .string wi, .string t] w fun e w' => e = .returned (.string (slR key nonce wi t)) ∧ Below w.heap.size w w' := by
  have HA := Lib.hid (fun w => sealArgsOk_any key nonce wi t w hk hn hw ht)
  unfold maxLen at hk hn hw ht
  by_cases hall : key.size = 32 ∧ nonce.size = 12 ∧ wi.size ≤ 1000 ∧ t.size ≤ 4000
  · have HR : Hid (slR key nonce wi t = sealB key nonce wi t) := Lib.hid (by unfold slR; rw [if_pos hall])
    rw [decide_eq_true hall] at HA
    obtain ⟨g1, g2, g3, g4⟩ := hall
    have HU : Hid (sealB key nonce wi t = strB key nonce 1 t ++ sealT key nonce wi (strB key nonce 1 t)) := Lib.hid rfl
    have hss := strB_size key nonce 1 t
    have HS := Lib.hid (fun w => implStrm_any key nonce 1 t w g1 g2 (by omega) (by omega) (by omega))
    obtain ⟨S, hS⟩ : ∃ S, S = strB key nonce 1 t := ⟨_, rfl⟩
    rw [← hS] at HU hss HS
    have HT := Lib.hid (fun w => sealTag_any key nonce wi S w g1 g2 g3 (by omega))
    have hts : (sealT key nonce wi S).size ≤ 16 := tagR_size _ _
    obtain ⟨G, hG⟩ : ∃ G, G = sealT key nonce wi S := ⟨_, rfl⟩
    rw [← hG] at HU HT hts
    clear hS hG g1 g2
    go_enter Tryz.func25, Tryz.ntmps25
    go_wp2_with fail
    refine (HA.out _).mono ?_
    rintro e w0 ⟨rfl, rfl⟩
    go_wp2_with fail
    refine (HS.out _).mono ?_
    rintro e w1 ⟨rfl, hb1⟩
    go_wp2_with fail
    refine (HT.out _).mono ?_
    rintro e w2 ⟨rfl, hb2⟩
    go_wp2
    go_ret
    exact ⟨ret_str (HU.out.symm.trans HR.out.symm), hb1.trans (hb2.mono hb1.size)⟩
  · have HR : Hid (slR key nonce wi t = ⟨#[]⟩) := Lib.hid (by unfold slR; rw [if_neg hall])
    rw [decide_eq_false hall] at HA
    clear hall
    go_enter Tryz.func25, Tryz.ntmps25
    go_wp2_with fail
    refine (HA.out _).mono ?_
    rintro e w0 ⟨rfl, rfl⟩
    go_wp2
    go_ret
    exact ⟨ret_str HR.out.symm, Below.refl _ _⟩

end Go.Proofs.YtfjaincogbdeiaaGreatDoor
