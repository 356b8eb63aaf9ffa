/- Contracts: the tag of a seal, of the program and of the reference. -/
import Derived.Test.YtfjaincogbdeiaaGreatDoorW4b
namespace Go.Proofs.YtfjaincogbdeiaaGreatDoor
open Go.ChangeShapes Go.WideShapes Go.ChangeAt Go.RowKit
set_option linter.unusedVariables false

/-- The text that a seal's tag speaks of. -/
def sealTx (wi hid : ByteArray) : ByteArray := fillR wi ++ fillR hid ++ lenB wi.size ++ lenB hid.size
theorem sealTx_size (wi hid : ByteArray) : (sealTx wi hid).size ≤ wi.size + hid.size + 48 := by
  unfold sealTx
  rw [ByteArray.size_append, ByteArray.size_append, ByteArray.size_append, lenB_size, lenB_size]
  have := fillR_size wi
  have := fillR_size hid
  omega
def sealKey (key nonce : ByteArray) : ByteArray := (blkR key nonce 0).extract 0 32
def sealT (key nonce wi hid : ByteArray) : ByteArray := tagR (sealKey key nonce) (sealTx wi hid)

set_option maxRecDepth 100000 in
set_option maxHeartbeats 2000000 in
theorem sealTag_any (key nonce wi hid : ByteArray) (w : World) (hk : key.size = 32) (hn : nonce.size = 12) (h1 : wi.size ≤ 1000) (h2 : hid.size ≤ 4000) :
    Calls Tryz.prog 57 #[.string key, .string nonce, .string wi, .string hid] w fun e w' => e = .returned (.string (sealT key nonce wi hid)) ∧ Below w.heap.size w w' := by
  have hbs := blkR_size key nonce 0 hk hn (by omega) (by omega)
  have HB := Lib.hid (fun w => implBlk_any key nonce 0 w hk hn (by omega) (by omega))
  have HKey : Hid (sealT key nonce wi hid = tagR ((blkR key nonce 0).extract 0 32) (sealTx wi hid)) := Lib.hid rfl
  have hks : ((blkR key nonce 0).extract 0 32).size = 32 := by rw [ByteArray.size_extract]; omega
  obtain ⟨B, hB⟩ : ∃ B, B = blkR key nonce 0 := ⟨_, rfl⟩
  rw [← hB] at hbs HB HKey hks
  obtain ⟨K, hK⟩ : ∃ K, K = B.extract 0 32 := ⟨_, rfl⟩
  have hK' := hK.symm
  rw [← hK] at HKey hks
  have hr1 := room_lt wi.size 16 (by omega)
  have hr2 := room_lt hid.size 16 (by omega)
  have HR1 := Lib.hid (fun w => roomTo_any wi.size 16 w (by omega) (by omega) (by omega))
  have HR2 := Lib.hid (fun w => roomTo_any hid.size 16 w (by omega) (by omega) (by omega))
  have HTX : Hid (sealTx wi hid = wi ++ nghB (room wi.size 16) ++ hid ++ nghB (room hid.size 16) ++ lenB wi.size ++ lenB hid.size) := Lib.hid (by
    unfold sealTx fillR; rw [ByteArray.append_assoc (a := wi ++ nghB (room wi.size 16)) (b := hid)])
  obtain ⟨r1, hr1e⟩ : ∃ r, r = room wi.size 16 := ⟨_, rfl⟩
  obtain ⟨r2, hr2e⟩ : ∃ r, r = room hid.size 16 := ⟨_, rfl⟩
  rw [← hr1e] at hr1 HR1 HTX
  rw [← hr2e] at hr2 HR2 HTX
  have HN1 := Lib.hid (fun w => noughts_any r1 w (by omega))
  have HN2 := Lib.hid (fun w => noughts_any r2 w (by omega))
  have hn1 : (nghB r1).size = r1 := nghB_size r1
  have hn2 : (nghB r2).size = r2 := nghB_size r2
  obtain ⟨n1, hn1e⟩ : ∃ n, n = nghB r1 := ⟨_, rfl⟩
  obtain ⟨n2, hn2e⟩ : ∃ n, n = nghB r2 := ⟨_, rfl⟩
  rw [← hn1e] at hn1 HN1 HTX
  rw [← hn2e] at hn2 HN2 HTX
  have HL1 := Lib.hid (fun w => eightBytes_any wi.size w (by omega))
  have HL2 := Lib.hid (fun w => eightBytes_any hid.size w (by omega))
  have hl1 := lenB_size wi.size
  have hl2 := lenB_size hid.size
  obtain ⟨l1, hl1e⟩ : ∃ n, n = lenB wi.size := ⟨_, rfl⟩
  obtain ⟨l2, hl2e⟩ : ∃ n, n = lenB hid.size := ⟨_, rfl⟩
  rw [← hl1e] at hl1 HL1 HTX
  rw [← hl2e] at hl2 HL2 HTX
  obtain ⟨A1, hA1⟩ : ∃ A, wi ++ n1 = A := ⟨_, rfl⟩
  have hs1 : A1.size = wi.size + n1.size := by rw [← hA1, ByteArray.size_append]
  obtain ⟨A2, hA2⟩ : ∃ A, A1 ++ hid = A := ⟨_, rfl⟩
  have hs2 : A2.size = A1.size + hid.size := by rw [← hA2, ByteArray.size_append]
  obtain ⟨A3, hA3⟩ : ∃ A, A2 ++ n2 = A := ⟨_, rfl⟩
  have hs3 : A3.size = A2.size + n2.size := by rw [← hA3, ByteArray.size_append]
  obtain ⟨A4, hA4⟩ : ∃ A, A3 ++ l1 = A := ⟨_, rfl⟩
  have hs4 : A4.size = A3.size + l1.size := by rw [← hA4, ByteArray.size_append]
  obtain ⟨A5, hA5⟩ : ∃ A, A4 ++ l2 = A := ⟨_, rfl⟩
  have hs5 : A5.size = A4.size + l2.size := by rw [← hA5, ByteArray.size_append]
  rw [hA1, hA2, hA3, hA4, hA5] at HTX
  rw [HTX.out] at HKey
  have k1 : wi.size + n1.size ≤ 6000 := by omega
  have k2 : A1.size + hid.size ≤ 6000 := by omega
  have k3 : A2.size + n2.size ≤ 6000 := by omega
  have k4 : A3.size + l1.size ≤ 6000 := by omega
  have k5 : A4.size + l2.size ≤ 6000 := by omega
  have HTag := Lib.hid (fun w => implTagOf_any K A5 w (by unfold maxLen; omega) (by unfold maxLen; omega))
  clear HTX hB hK hr1e hr2e hn1e hn2e hl1e hl2e hk hn hs1 hs2 hs3 hs4 hs5 hks
  go_enter Tryz.func57, Tryz.ntmps57
  go_wp2_with fail
  refine (HB.out _).mono ?_
  rintro e w1 ⟨rfl, hb1⟩
  go_wp2_with fail
  refine (HR1.out _).mono ?_
  rintro e w2 ⟨rfl, rfl⟩
  go_wp2_with fail
  refine (HN1.out _).mono ?_
  rintro e w3 ⟨rfl, hb3⟩
  go_wp2_with fail
  refine (HR2.out _).mono ?_
  rintro e w4 ⟨rfl, rfl⟩
  go_wp2_with fail
  refine (HN2.out _).mono ?_
  rintro e w5 ⟨rfl, hb5⟩
  go_wp2_with fail
  refine (HL1.out _).mono ?_
  rintro e w6 ⟨rfl, hb6⟩
  go_wp2_with fail
  refine (HL2.out _).mono ?_
  rintro e w7 ⟨rfl, hb7⟩
  go_wp2_with fail
  refine (HTag.out _).mono ?_
  rintro e w8 ⟨rfl, hb8⟩
  go_wp2
  go_ret
  have b3 := hb1.trans (hb3.mono hb1.size)
  have b5 := b3.trans (hb5.mono b3.size)
  have b6 := b5.trans (hb6.mono b5.size)
  have b7 := b6.trans (hb7.mono b6.size)
  exact ⟨ret_str HKey.out.symm, b7.trans (hb8.mono b7.size)⟩

set_option maxRecDepth 100000 in
set_option maxHeartbeats 2000000 in
theorem l4Tag_any (key nonce wi hid : ByteArray) (w : World) (hk : key.size = 32) (hn : nonce.size = 12) (h1 : wi.size ≤ 1000) (h2 : hid.size ≤ 4000) :
    Calls Tryz.prog 69 #[.string key, .string nonce, .string wi, .string hid] w fun e w' => e = .returned (.string (sealT key nonce wi hid)) ∧ Below w.heap.size w w' := by
  have hbs := blkR_size key nonce 0 hk hn (by omega) (by omega)
  have HB := Lib.hid (fun w => l2Block_any key nonce 0 w hk hn ⟨by omega, by omega⟩)
  have HKey : Hid (sealT key nonce wi hid = tagR ((blkR key nonce 0).extract 0 32) (sealTx wi hid)) := Lib.hid rfl
  have hks : ((blkR key nonce 0).extract 0 32).size = 32 := by rw [ByteArray.size_extract]; omega
  obtain ⟨B, hB⟩ : ∃ B, B = blkR key nonce 0 := ⟨_, rfl⟩
  rw [← hB] at hbs HB HKey hks
  obtain ⟨K, hK⟩ : ∃ K, K = B.extract 0 32 := ⟨_, rfl⟩
  have hK' := hK.symm
  rw [← hK] at HKey hks
  have HP1 := Lib.hid (fun w => l4Pad_any wi w (by omega))
  have HP2 := Lib.hid (fun w => l4Pad_any hid w (by omega))
  have HTX : Hid (sealTx wi hid = fillR wi ++ fillR hid ++ lenB wi.size ++ lenB hid.size) := Lib.hid rfl
  have hf1 := fillR_size wi
  have hf2 := fillR_size hid
  obtain ⟨n1, hn1e⟩ : ∃ n, n = fillR wi := ⟨_, rfl⟩
  obtain ⟨n2, hn2e⟩ : ∃ n, n = fillR hid := ⟨_, rfl⟩
  rw [← hn1e] at hf1 HP1 HTX
  rw [← hn2e] at hf2 HP2 HTX
  have HL1 := Lib.hid (fun w => l4Len_any wi.size w (by omega))
  have HL2 := Lib.hid (fun w => l4Len_any hid.size w (by omega))
  have hl1 := lenB_size wi.size
  have hl2 := lenB_size hid.size
  obtain ⟨l1, hl1e⟩ : ∃ n, n = lenB wi.size := ⟨_, rfl⟩
  obtain ⟨l2, hl2e⟩ : ∃ n, n = lenB hid.size := ⟨_, rfl⟩
  rw [← hl1e] at hl1 HL1 HTX
  rw [← hl2e] at hl2 HL2 HTX
  obtain ⟨A3, hA3⟩ : ∃ A, n1 ++ n2 = A := ⟨_, rfl⟩
  have hs3 : A3.size = n1.size + n2.size := by rw [← hA3, ByteArray.size_append]
  obtain ⟨A4, hA4⟩ : ∃ A, A3 ++ l1 = A := ⟨_, rfl⟩
  have hs4 : A4.size = A3.size + l1.size := by rw [← hA4, ByteArray.size_append]
  obtain ⟨A5, hA5⟩ : ∃ A, A4 ++ l2 = A := ⟨_, rfl⟩
  have hs5 : A5.size = A4.size + l2.size := by rw [← hA5, ByteArray.size_append]
  rw [hA3, hA4, hA5] at HTX
  rw [HTX.out] at HKey
  have k3 : n1.size + n2.size ≤ 6000 := by omega
  have k4 : A3.size + l1.size ≤ 6000 := by omega
  have k5 : A4.size + l2.size ≤ 6000 := by omega
  have HTag := Lib.hid (fun w => l3Tag_any K A5 w hks (by omega))
  have HRes : Hid (tagR K A5 = ⟨(sumR 16 ((leBy 17 (accN (facN K) A5 (nBlk A5))).take 16) (K.data.toList.drop 16)).toArray⟩) := Lib.hid (by unfold tagR; rw [if_pos ⟨hks, by omega⟩])
  rw [← HRes.out] at HTag
  clear HTX hB hK hn1e hn2e hl1e hl2e hk hn hs3 hs4 hs5 hks HRes
  go_enter Tryz.func69, Tryz.ntmps69
  go_wp2_with fail
  refine (HB.out _).mono ?_
  rintro e w1 ⟨rfl, hb1⟩
  go_wp2_with fail
  refine (HP1.out _).mono ?_
  rintro e w3 ⟨rfl, hb3⟩
  go_wp2_with fail
  refine (HP2.out _).mono ?_
  rintro e w5 ⟨rfl, hb5⟩
  go_wp2_with fail
  refine (HL1.out _).mono ?_
  rintro e w6 ⟨rfl, hb6⟩
  go_wp2_with fail
  refine (HL2.out _).mono ?_
  rintro e w7 ⟨rfl, hb7⟩
  go_wp2_with fail
  refine (HTag.out _).mono ?_
  rintro e w8 ⟨rfl, hb8⟩
  go_wp2
  go_ret
  have b3 := hb1.trans (hb3.mono hb1.size)
  have b5 := b3.trans (hb5.mono b3.size)
  have b6 := b5.trans (hb6.mono b5.size)
  have b7 := b6.trans (hb7.mono b6.size)
  exact ⟨ret_str HKey.out.symm, b7.trans (hb8.mono b7.size)⟩
end Go.Proofs.YtfjaincogbdeiaaGreatDoor
