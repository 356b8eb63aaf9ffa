/- Boxes: what both sides answer (plain); what stands beside a box. -/
import Derived.Test.YtfjaincogbdeiaaGreatDoorW11c
import Derived.Test.YtfjaincogbdeiaaGreatDoorW6b
import Derived.Test.YtfjaincogbdeiaaGreatDoorW4d
import Derived.Lib.QuoteBits
namespace Go.Proofs.YtfjaincogbdeiaaGreatDoor
open Go.ChangeShapes Go.WideShapes Go.ChangeAt Go.RowKit
set_option linter.unusedVariables false

theorem andLow32 (n : Nat) (h : n < 4294967296) : bits .and .i64 (n : Int) 4294967295 = (n : Int) := by
  show IntKind.i64.wrap ((BitVec.ofInt 64 (n : Int) &&& BitVec.ofInt 64 ((4294967295 : Nat) : Int)).toNat : Int) = _
  rw [BitVec.toNat_and, ofInt_u64 n (by omega), ofInt_u64 4294967295 (by omega)]
  have e : n &&& 4294967295 = n % 4294967296 := Nat.and_two_pow_sub_one_eq_mod n 32
  rw [e, Nat.mod_eq_of_lt h]
  exact Lib.wrap_i64_small _ (by omega)
theorem stR_two32 (n : Nat) (h : n < 4294967296) : stR [(n : Int), 0] = lenB n := by
  unfold stR lenB
  rw [if_pos ⟨by simp, by simp [isW]; omega⟩]

set_option maxRecDepth 100000 in
theorem eightBytes32_any (n : Nat) (w : World) (hn : n < 4294967296) :
    Calls Tryz.prog 50 #[.int .i64 (n : Int)] w fun e w' => e = .returned (.string (lenB n)) ∧ Below w.heap.size w w' := by
  have hand := andLow32 n hn
  have hz : (n : Int) / 4294967296 = 0 := by omega
  have HS := Lib.hid (stR_two32 n hn)
  go_enter Tryz.func50, Tryz.ntmps50
  go_wp2_with fail
  have hrow := rowAt_two .i64 2 w (n : Int) 0
  refine (implStoreLe_any _ _ _ _ hrow).mono ?_
  rintro e w1 ⟨rfl, hb1⟩
  go_wp2
  go_ret
  exact ⟨ret_str HS.out, ((Below.refl _ _).alloc (Nat.le_refl _) _).trans (hb1.mono (by simp))⟩

/-- What stands beside a box. -/
def bsB (n : Nat) (last : ByteArray) : ByteArray := lenB n ++ last
theorem bsB_size (n : Nat) (last : ByteArray) : (bsB n last).size = 8 + last.size := by unfold bsB; rw [ByteArray.size_append, lenB_size]

set_option maxRecDepth 100000 in
set_option maxHeartbeats 1600000 in
theorem besideOf_any (n : Nat) (last : ByteArray) (w : World) (hn : n < 4294967296) (hl : last.size ≤ 1000) :
    Calls Tryz.prog 23 #[.int .i64 (n : Int), .string last] w fun e w' => e = .returned (.string (bsB n last)) ∧ Below w.heap.size w w' := by
  have HC := Lib.hid (fun w => eightBytes32_any n w hn)
  have HE : Hid (bsB n last = lenB n ++ last) := Lib.hid rfl
  have hs := lenB_size n
  generalize lenB n = L at HC HE hs
  have hs2 : L.size ≤ 8 := by omega
  clear hs
  generalize bsB n last = R at HE ⊢
  have hR := HE.out.symm
  go_enter Tryz.func23, Tryz.ntmps23
  go_wp2_with fail
  refine (HC.out _).mono ?_
  rintro e w1 ⟨rfl, hb1⟩
  go_wp2
  go_ret
  exact ⟨rfl, hb1⟩

set_option maxRecDepth 100000 in
set_option maxHeartbeats 1600000 in
theorem l12With_any (n : Nat) (last : ByteArray) (w : World) (hn : n < 4294967296) (hl : last.size ≤ 1000) :
    Calls Tryz.prog 38 #[.int .i64 (n : Int), .string last] w fun e w' => e = .returned (.string (bsB n last)) ∧ Below w.heap.size w w' := by
  have HE : Hid (bsB n last = ⟨(storeL [(n : Int), 0]).toArray⟩ ++ last) := Lib.hid rfl
  have hs : (⟨(storeL [(n : Int), 0]).toArray⟩ : ByteArray).size ≤ 8 := by have := lenB_size n; unfold lenB at this; omega
  have HS := Lib.hid (l1Store_any _ _ _ _ (rowAt_two .u32 89 w (n : Int) 0) (by simp; omega) (by simp))
  generalize (⟨(storeL [(n : Int), 0]).toArray⟩ : ByteArray) = L at HE hs HS
  generalize bsB n last = R at HE ⊢
  have hR := HE.out.symm
  have hwr : IntKind.u32.wrap (n : Int) = (n : Int) := by rw [IntKind.wrap_u32]; omega
  go_enter Tryz.func38, Tryz.ntmps38
  go_wp2_with fail
  refine HS.out.mono ?_
  rintro e w1 ⟨rfl, hb1⟩
  go_wp2
  go_ret
  exact ⟨rfl, ((Below.refl _ _).alloc (Nat.le_refl _) _).trans (hb1.mono (by simp))⟩

/-- The nonce of a box. -/
def ncB (key bs t : ByteArray) : ByteArray := (hmB key (bs ++ t)).extract 0 12
theorem ncB_size (key bs t : ByteArray) : (ncB key bs t).size = 12 := by
  unfold ncB
  rw [ByteArray.size_extract, hmB_size]
  rfl

set_option maxRecDepth 100000 in
set_option maxHeartbeats 1600000 in
theorem l12Nonce_any (key bs t : ByteArray) (w : World) (hk : key.size = 32) (hb : bs.size ≤ 1000) (ht : t.size ≤ 4000) :
    Calls Tryz.prog 39 #[.string key, .string bs, .string t] w fun e w' => e = .returned (.string (ncB key bs t)) ∧ Below w.heap.size w w' := by
  have hxs : (bs ++ t).size ≤ 5000 := by rw [ByteArray.size_append]; omega
  have HC := Lib.hid (fun w => l6Hmac_any key (bs ++ t) w (by omega) (by omega))
  have HE : Hid (ncB key bs t = (hmB key (bs ++ t)).extract 0 12) := Lib.hid rfl
  have hms := hmB_size key (bs ++ t)
  obtain ⟨X, hX⟩ : ∃ X, bs ++ t = X := ⟨_, rfl⟩
  rw [hX] at hxs HC HE hms
  generalize hmB key X = M at HC HE hms
  have hms2 : 32 ≤ M.size ∧ M.size ≤ 32 := by omega
  clear hms
  obtain ⟨hm1, hm2⟩ := hms2
  generalize ncB key bs t = R at HE ⊢
  have hR := HE.out.symm
  clear HE hk
  go_enter Tryz.func39, Tryz.ntmps39
  go_wp2_with fail
  refine (HC.out _).mono ?_
  rintro e w1 ⟨rfl, hb1⟩
  go_wp2
  go_ret
  exact ⟨rfl, hb1⟩

/-- The text in a box, and the box. -/
noncomputable def ptO (o : OpD) : ByteArray := padT (opX o) (room ((opX o).size + 1) 64)
theorem ptO_size (o : OpD) : (ptO o).size ≤ 3118 := by
  unfold ptO
  rw [padT_size]
  have h1 := room_lt ((opX o).size + 1) 64 (by omega)
  have h2 := opX_small o
  omega
noncomputable def bxB (key : ByteArray) (n : Nat) (last : ByteArray) (o : OpD) : ByteArray := ncB key (bsB n last) (ptO o) ++ sealB key (ncB key (bsB n last) (ptO o)) (bsB n last) (ptO o)
noncomputable def bxR (key : ByteArray) (n : Int) (last : ByteArray) (o : OpD) : ByteArray := if key.size = 32 ∧ 1 ≤ n ∧ n ≤ 1000000 ∧ last.size = 16 ∧ opB o = true then bxB key n.toNat last o else ⟨#[]⟩
theorem sealB_size (key nonce wi t : ByteArray) : (sealB key nonce wi t).size ≤ t.size + 16 := by
  unfold sealB
  rw [ByteArray.size_append, strB_size]
  have : (sealT key nonce wi (strB key nonce 1 t)).size ≤ 16 := tagR_size _ _
  omega
theorem bxB_size (key : ByteArray) (n : Nat) (last : ByteArray) (o : OpD) : (bxB key n last o).size ≤ 3146 := by
  unfold bxB
  rw [ByteArray.size_append, ncB_size]
  have h1 := sealB_size key (ncB key (bsB n last) (ptO o)) (bsB n last) (ptO o)
  have h2 := ptO_size o
  omega

set_option maxRecDepth 100000 in
set_option maxHeartbeats 1600000 in
theorem l12Box_any (key : ByteArray) (n : Nat) (last : ByteArray) (o : OpD) (x : Value) (w : World) (hk : key.size = 32) (hn : n < 4294967296) (hl : last.size = 16) (hI : ItAt w w.heap.size x o.its) (hz : OpSz o) :
    Calls Tryz.prog 18 #[.string key, .int .i64 (n : Int), .string last, opV o x] w fun e w' => e = .returned (.string (bxB key n last o)) ∧ Below w.heap.size w w' := by
  have HI := Lib.hid hI
  obtain ⟨a, cap, rfl⟩ := hI.1.slice
  have HO := Lib.hid (fun w h => specOpText_any o (.slice a o.its.length cap) w h hz)
  have HP := Lib.hid (fun w => l4Padded_any (opX o) 64 w (by have := opX_small o; omega) (by omega) (by omega))
  have HW := Lib.hid (fun w => l12With_any n last w hn (by omega))
  have hbs := bsB_size n last
  have hps := ptO_size o
  have HPe : Hid (ptO o = padT (opX o) (room ((opX o).size + 1) 64)) := Lib.hid rfl
  rw [← HPe.out] at HP
  have HN := Lib.hid (fun w => l12Nonce_any key (bsB n last) (ptO o) w hk (by omega) (by omega))
  have hns := ncB_size key (bsB n last) (ptO o)
  have HS := Lib.hid (fun w => l4Seal_any key (ncB key (bsB n last) (ptO o)) (bsB n last) (ptO o) w hk hns (by omega) (by omega))
  have hss := sealB_size key (ncB key (bsB n last) (ptO o)) (bsB n last) (ptO o)
  have HE : Hid (bxB key n last o = ncB key (bsB n last) (ptO o) ++ sealB key (ncB key (bsB n last) (ptO o)) (bsB n last) (ptO o)) := Lib.hid rfl
  generalize sealB key (ncB key (bsB n last) (ptO o)) (bsB n last) (ptO o) = SL at HS HE hss
  generalize ncB key (bsB n last) (ptO o) = NC at HN HS HE hns
  generalize bsB n last = BS at HW HN HS hbs
  generalize ptO o = PT at HP HN HS hps hss HPe
  generalize opX o = OX at HO HP
  generalize bxB key n last o = R at HE ⊢
  have hn2 : NC.size ≤ 12 := by omega
  have hss2 : SL.size ≤ 5000 := by omega
  have hR := HE.out.symm
  have hB0 : Below w.heap.size w (w.alloc (.cells #[.int .i64 o.k, .string o.u, .string o.i, .int .i64 o.d, .string o.fu, .string o.ft, .slice a o.its.length cap] 33)) := (Below.refl _ _).alloc (Nat.le_refl _) _
  clear hI hz HPe HE hns hbs hps hss hk hl
  go_enter Tryz.func18, Tryz.ntmps18
  go_wp2_with fail
  refine (HO.out _ ((HI.out.below hB0).mono hB0.size)).mono ?_
  rintro e w1 ⟨rfl, hb1⟩
  have hB1 := hB0.trans (hb1.mono hB0.size)
  clear hb1 hB0
  go_wp2_with fail
  refine (HP.out _).mono ?_
  rintro e w2 ⟨rfl, hb2⟩
  have hB2 := hB1.trans (hb2.mono hB1.size)
  clear hb2 hB1
  go_wp2_with fail
  refine (HW.out _).mono ?_
  rintro e w3 ⟨rfl, hb3⟩
  have hB3 := hB2.trans (hb3.mono hB2.size)
  clear hb3 hB2
  go_wp2_with fail
  refine (HN.out _).mono ?_
  rintro e w4 ⟨rfl, hb4⟩
  have hB4 := hB3.trans (hb4.mono hB3.size)
  clear hb4 hB3
  go_wp2_with fail
  refine (HS.out _).mono ?_
  rintro e w5 ⟨rfl, hb5⟩
  have hB5 := hB4.trans (hb5.mono hB4.size)
  clear hb5 hB4
  go_wp2
  go_ret
  exact ⟨rfl, hB5⟩
end Go.Proofs.YtfjaincogbdeiaaGreatDoor
