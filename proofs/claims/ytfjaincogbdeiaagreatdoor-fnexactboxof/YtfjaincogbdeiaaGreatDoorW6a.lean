/- Contracts: a key as long as a block, Hmac of the program (chapter 6). -/
import Derived.Test.YtfjaincogbdeiaaGreatDoorW5k
import Derived.Test.YtfjaincogbdeiaaGreatDoorW1a
import Derived.Test.YtfjaincogbdeiaaGreatDoorW4a
namespace Go.Proofs.YtfjaincogbdeiaaGreatDoor
open Go.ChangeShapes Go.WideShapes Go.ChangeAt Go.RowKit Go.Shelf
set_option linter.unusedVariables false

/-- A key that fits, and a key of a block. -/
def hKey (key : ByteArray) : ByteArray := if 64 < key.size then shaD key else key
theorem hKey_le (key : ByteArray) : (hKey key).size ≤ 64 := by
  unfold hKey
  split
  · rw [shaD_size]; omega
  · omega
def bkB (key : ByteArray) : ByteArray := hKey key ++ nghB (64 - (hKey key).size)
theorem bkB_size (key : ByteArray) : (bkB key).size = 64 := by
  have := hKey_le key
  unfold bkB; rw [ByteArray.size_append, nghB_size]; omega
def repB (b : UInt8) : ByteArray := ⟨(List.replicate 64 b).toArray⟩
theorem repB_size (b : UInt8) : (repB b).size = 64 := by show (List.replicate 64 b).toArray.size = 64; simp
theorem repeatL_byte (b : UInt8) : ∀ n, Lib.repeatL [b] n = List.replicate n b
  | 0 => rfl
  | n + 1 => by rw [Lib.repeatL, repeatL_byte b n]; rfl
theorem xorB_size (a b : ByteArray) (h : a.size ≤ b.size) : (xorB a b).size = a.size := by
  unfold xorB; rw [ba_list_size, xorL_len _ _ (by simpa using h)]; simp
/-- A text of which each byte is turned by another one. -/
def wkB (b : UInt8) (k : ByteArray) : ByteArray := xorB k (repB b)
theorem wkB_size (b : UInt8) (k : ByteArray) (h : k.size = 64) : (wkB b k).size = 64 := by
  unfold wkB; rw [xorB_size _ _ (by rw [repB_size]; omega), h]
def hmB (key text : ByteArray) : ByteArray := shaD (wkB 92 (bkB key) ++ shaD (wkB 54 (bkB key) ++ text))
theorem hmB_size (key text : ByteArray) : (hmB key text).size = 32 := shaD_size _
def hmR (key text : ByteArray) : ByteArray := if key.size ≤ 4000 ∧ text.size ≤ 4000 then hmB key text else ⟨#[]⟩

set_option maxRecDepth 100000 in
set_option maxHeartbeats 1600000 in
theorem blockKey_any (key : ByteArray) (w : World) (hk : key.size ≤ 100000) (hF : FTab w) (hK : KTab w) :
    Calls Tryz.prog 51 #[.string key] w fun e w' => e = .returned (.string (bkB key)) ∧ Below w.heap.size w w' := by
  have HE : Hid (bkB key = hKey key ++ nghB (64 - (hKey key).size)) := Lib.hid rfl
  by_cases h : 64 < key.size
  · have HD := Lib.hid (digestOf_any key w hk hF hK)
    rw [show hKey key = shaD key from if_pos h] at HE
    have hs : (shaD key).size ≤ 64 := by rw [shaD_size]; omega
    obtain ⟨D, hD⟩ : ∃ D, D = shaD key := ⟨_, rfl⟩
    rw [← hD] at HD hs HE
    have HN := Lib.hid (fun w => noughts_any (64 - D.size) w (by omega))
    rw [show ((64 - D.size : Nat) : Int) = 64 - (D.size : Int) by omega] at HN
    have hns : (nghB (64 - D.size)).size = 64 - D.size := nghB_size _
    generalize nghB (64 - D.size) = X at HN HE hns
    have hsum : D.size + X.size ≤ 100 := by omega
    clear hF hK hD hns
    go_enter Tryz.func51, Tryz.ntmps51
    go_wp2_with fail
    refine HD.out.mono ?_
    rintro e w1 ⟨rfl, hb1⟩
    go_wp2_with fail
    refine (HN.out _).mono ?_
    rintro e w2 ⟨rfl, hb2⟩
    go_wp2
    go_ret
    exact ⟨ret_str HE.out.symm, hb1.trans (hb2.mono hb1.size)⟩
  · have hs : key.size ≤ 64 := by omega
    rw [show hKey key = key from if_neg h] at HE
    have HN := Lib.hid (fun w => noughts_any (64 - key.size) w (by omega))
    rw [show ((64 - key.size : Nat) : Int) = 64 - (key.size : Int) by omega] at HN
    have hns : (nghB (64 - key.size)).size = 64 - key.size := nghB_size _
    generalize nghB (64 - key.size) = X at HN HE hns
    have hsum : key.size + X.size ≤ 100 := by omega
    clear hF hK hns
    go_enter Tryz.func51, Tryz.ntmps51
    go_wp2_with fail
    refine (HN.out _).mono ?_
    rintro e w2 ⟨rfl, hb2⟩
    go_wp2
    go_ret
    exact ⟨ret_str HE.out.symm, hb2⟩

set_option maxRecDepth 100000 in
set_option maxHeartbeats 4000000 in
theorem implHmac_any (key text : ByteArray) (w : World) (hk : key.size ≤ maxLen) (ht : text.size ≤ maxLen) (hF : FTab w) (hK : KTab w) :
    Calls Tryz.prog 24 #[.string key, .string text] w fun e w' => e = .returned (.string (hmR key text)) ∧ Below w.heap.size w w' := by
  unfold maxLen at hk ht
  by_cases h1 : key.size ≤ 4000
  · by_cases h2 : text.size ≤ 4000
    · have HE : Hid (hmR key text = shaD (xorB (bkB key) (repB 92) ++ shaD (xorB (bkB key) (repB 54) ++ text))) := Lib.hid (by unfold hmR; rw [if_pos ⟨h1, h2⟩]; rfl)
      have hF0 := Lib.hid hF
      have hK0 := Lib.hid hK
      have HB := Lib.hid (blockKey_any key w (by omega) hF hK)
      have hbs := bkB_size key
      obtain ⟨B, hB⟩ : ∃ B, B = bkB key := ⟨_, rfl⟩
      rw [← hB] at HB HE hbs
      have HR1 := Lib.hid (fun w => Tryz.strings_Repeat ⟨#[54]⟩ 64 w (by omega) (by show 1 * 64 ≤ _; omega))
      rw [show (⟨#[54]⟩ : ByteArray).data.toList = [54] from rfl, repeatL_byte] at HR1
      have HR2 := Lib.hid (fun w => Tryz.strings_Repeat ⟨#[92]⟩ 64 w (by omega) (by show 1 * 64 ≤ _; omega))
      rw [show (⟨#[92]⟩ : ByteArray).data.toList = [92] from rfl, repeatL_byte] at HR2
      have hr1 := repB_size 54
      have hr2 := repB_size 92
      change Hid (∀ w : World, Calls _ _ _ _ fun e w' => e = .returned (.string (repB 54)) ∧ _) at HR1
      change Hid (∀ w : World, Calls _ _ _ _ fun e w' => e = .returned (.string (repB 92)) ∧ _) at HR2
      generalize repB 54 = R1 at HR1 HE hr1
      generalize repB 92 = R2 at HR2 HE hr2
      have HX1 := Lib.hid (fun w => implXor_any B R1 w (by unfold maxLen; omega) (by unfold maxLen; omega))
      have HX2 := Lib.hid (fun w => implXor_any B R2 w (by unfold maxLen; omega) (by unfold maxLen; omega))
      rw [show xorR B R1 = xorB B R1 by unfold xorR; rw [if_pos ⟨by omega, by omega⟩]] at HX1
      rw [show xorR B R2 = xorB B R2 by unfold xorR; rw [if_pos ⟨by omega, by omega⟩]] at HX2
      have hx1 := xorB_size B R1 (by omega)
      have hx2 := xorB_size B R2 (by omega)
      generalize xorB B R1 = X1 at HX1 HE hx1
      generalize xorB B R2 = X2 at HX2 HE hx2
      obtain ⟨A1, hA1⟩ : ∃ A, X1 ++ text = A := ⟨_, rfl⟩
      have hs1 : A1.size = X1.size + text.size := by rw [← hA1, ByteArray.size_append]
      rw [hA1] at HE
      have HD1 := Lib.hid (fun w hF hK => digestOf_any A1 w (by omega) hF hK)
      have hi := shaD_size A1
      generalize shaD A1 = I at HD1 HE hi
      obtain ⟨A2, hA2⟩ : ∃ A, X2 ++ I = A := ⟨_, rfl⟩
      have hs2 : A2.size = X2.size + I.size := by rw [← hA2, ByteArray.size_append]
      rw [hA2] at HE
      have HD2 := Lib.hid (fun w hF hK => digestOf_any A2 w (by omega) hF hK)
      generalize shaD A2 = O at HD2 HE
      have k1 : X1.size + text.size ≤ 6000 := by omega
      have k2 : X2.size + I.size ≤ 6000 := by omega
      have hd1 : ¬ (4000 < (key.size : Int)) := by omega
      have hd2 : ¬ (4000 < (text.size : Int)) := by omega
      rw [HE.out]
      clear HE hF hK hB hs1 hs2 hx1 hx2 hi hr1 hr2 hbs h1 h2
      go_enter Tryz.func24, Tryz.ntmps24
      go_wp2_with fail
      refine HB.out.mono ?_
      rintro e w1 ⟨rfl, hb1⟩
      clear HB
      go_wp2_with fail
      refine (HR1.out _).mono ?_
      rintro e w2 ⟨rfl, hb2⟩
      have hB2 := hb1.trans (hb2.mono hb1.size)
      clear HR1 hb1 hb2
      go_wp2_with fail
      refine (HX1.out _).mono ?_
      rintro e w3 ⟨rfl, hb3⟩
      have hB3 := hB2.trans (hb3.mono hB2.size)
      clear HX1 hB2 hb3
      go_wp2_with fail
      refine (HD1.out _ (hF0.out.below hB3 (Nat.le_refl _)) (hK0.out.below hB3 (Nat.le_refl _))).mono ?_
      rintro e w4 ⟨rfl, hb4⟩
      have hB4 := hB3.trans (hb4.mono hB3.size)
      clear HD1 hB3 hb4
      go_wp2_with fail
      refine (HR2.out _).mono ?_
      rintro e w5 ⟨rfl, hb5⟩
      have hB5 := hB4.trans (hb5.mono hB4.size)
      clear HR2 hB4 hb5
      go_wp2_with fail
      refine (HX2.out _).mono ?_
      rintro e w6 ⟨rfl, hb6⟩
      have hB6 := hB5.trans (hb6.mono hB5.size)
      clear HX2 hB5 hb6
      go_wp2_with fail
      refine (HD2.out _ (hF0.out.below hB6 (Nat.le_refl _)) (hK0.out.below hB6 (Nat.le_refl _))).mono ?_
      rintro e w7 ⟨rfl, hb7⟩
      have hB7 := hB6.trans (hb7.mono hB6.size)
      clear HD2 hB6 hb7
      go_wp2
      go_ret
      exact ⟨rfl, hB7⟩
    · have HE : Hid (hmR key text = ⟨#[]⟩) := Lib.hid (by unfold hmR; rw [if_neg (by omega)])
      have hd1 : ¬ (4000 < (key.size : Int)) := by omega
      have hd2 : 4000 < (text.size : Int) := by omega
      rw [HE.out]
      clear HE h1 h2
      go_enter Tryz.func24, Tryz.ntmps24
      go_wp2
      go_ret
      exact ⟨rfl, Below.refl _ _⟩
  · have HE : Hid (hmR key text = ⟨#[]⟩) := Lib.hid (by unfold hmR; rw [if_neg (by omega)])
    have hd1 : 4000 < (key.size : Int) := by omega
    rw [HE.out]
    clear HE h1
    go_enter Tryz.func24, Tryz.ntmps24
    go_wp2
    go_ret
    exact ⟨rfl, Below.refl _ _⟩
end Go.Proofs.YtfjaincogbdeiaaGreatDoor
