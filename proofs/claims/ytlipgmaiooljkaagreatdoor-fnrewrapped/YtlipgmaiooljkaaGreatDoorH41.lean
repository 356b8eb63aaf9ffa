/- Joined: W4b, W4c, W4d. -/
import Derived.Test.YtlipgmaiooljkaaGreatDoorH5
import Derived.Test.YtlipgmaiooljkaaGreatDoorH34
import Derived.Test.YtlipgmaiooljkaaGreatDoorH40
/- W4b -/
namespace Go.Proofs.YtlipgmaiooljkaaGreatDoor
open Go.ChangeShapes Go.WideShapes Go.ChangeAt Go.RowKit
set_option linter.unusedVariables false

/-- A length as eight bytes. -/
def lenB (n : Nat) : ByteArray := ⟨(storeL [(n : Int), 0]).toArray⟩
theorem lenB_size (n : Nat) : (lenB n).size = 8 := rfl
theorem rowAt_two (k : IntKind) (ty : TypeId) (w : World) (c d : Int) : RowAt k (w.alloc (.cells #[.int k c, .int k d] ty)) (w.heap.size + 1) (.slice (some ⟨w.heap.size, 0, none⟩) 2 2) [c, d] := by
  refine ⟨some ⟨w.heap.size, 0, none⟩, 2, rfl, by simp, by unfold maxLen; omega, fun j hj => ⟨w.heap.size, 0, rfl, by omega, fun i hi => ?_⟩⟩
  have hi2 : i = 0 ∨ i = 1 := by simp at hi; omega
  rcases hi2 with rfl | rfl
  · rw [cell_of_row _ w.heap.size _ _ _ (0, 0) (heap_alloc_new w _)]; rfl
  · rw [cell_of_row _ w.heap.size _ _ _ (0, 0) (heap_alloc_new w _)]; rfl
theorem andLow (n : Nat) (h : n < 8192) : bits .and .i64 (n : Int) 4294967295 = (n : Int) := by
  have h2 : ∀ a : Fin 128, ∀ b : Fin 64, bits .and .i64 ((64 * a.val + b.val : Nat) : Int) 4294967295 = ((64 * a.val + b.val : Nat) : Int) := by decide +kernel
  have h3 := h2 ⟨n / 64, by omega⟩ ⟨n % 64, by omega⟩
  rw [show 64 * (n / 64) + n % 64 = n by omega] at h3
  exact h3
theorem stR_two (n : Nat) (h : n < 8192) : stR [(n : Int), 0] = lenB n := by
  unfold stR lenB
  rw [if_pos ⟨by simp, by simp [isW]; omega⟩]

set_option maxRecDepth 100000 in
theorem eightBytes_any (n : Nat) (w : World) (hn : n < 8192) :
    Calls Tryz.prog 97 #[.int .i64 (n : Int)] w fun e w' => e = .returned (.string (lenB n)) ∧ Below w.heap.size w w' := by
  have hand := andLow n hn
  have hz : (n : Int) / 4294967296 = 0 := by omega
  have HS := Lib.hid (stR_two n hn)
  go_enter Tryz.func97, Tryz.ntmps97
  go_wp2_with fail
  have hrow := rowAt_two .i64 2 w (n : Int) 0
  refine (implStoreLe_any _ _ _ _ hrow).mono ?_
  rintro e w1 ⟨rfl, hb1⟩
  go_wp2
  go_ret
  exact ⟨ret_str HS.out, ((Below.refl _ _).alloc (Nat.le_refl _) _).trans (hb1.mono (by simp))⟩

set_option maxRecDepth 100000 in
theorem l4Len_any (n : Nat) (w : World) (hn : n < 8192) :
    Calls Tryz.prog 89 #[.int .i64 (n : Int)] w fun e w' => e = .returned (.string (lenB n)) ∧ Below w.heap.size w w' := by
  go_enter Tryz.func89, Tryz.ntmps89
  go_wp2_with fail
  refine (l1Store_any _ _ _ _ (rowAt_two .u32 104 w (n : Int) 0) (by simp; omega) (by simp)).mono ?_
  rintro e w1 ⟨rfl, hb1⟩
  go_wp2
  go_ret
  exact ⟨rfl, ((Below.refl _ _).alloc (Nat.le_refl _) _).trans (hb1.mono (by simp))⟩

/-- A text filled up with noughts. -/
def fillR (t : ByteArray) : ByteArray := t ++ nghB (room t.size 16)
theorem fillR_size (t : ByteArray) : (fillR t).size ≤ t.size + 16 := by
  unfold fillR; rw [ByteArray.size_append, nghB_size]; have := room_lt t.size 16 (by omega); omega
theorem ngh_zero (t : ByteArray) : t = t ++ nghB 0 := by
  apply ba_eq
  rw [ba_app4, nghB_list]; simp
theorem ngh_succ (t : ByteArray) (j : Nat) : t ++ nghB j ++ ⟨#[0]⟩ = t ++ nghB (j + 1) := by
  apply ba_eq
  rw [ba_app4, ba_app4 t, ba_app4 t, nghB_list, nghB_list, List.append_assoc, List.replicate_succ']
theorem ngh_size (t : ByteArray) (j : Nat) : (t ++ nghB j).size = t.size + j := by rw [ByteArray.size_append, nghB_size]

set_option maxRecDepth 100000 in
set_option maxHeartbeats 2000000 in
theorem l4Pad_any (t : ByteArray) (w : World) (ht : t.size ≤ 100000) :
    Calls Tryz.prog 88 #[.string t] w fun e w' => e = .returned (.string (fillR t)) ∧ Below w.heap.size w w' := by
  have hrl := room_lt t.size 16 (by omega)
  have HW := Lib.hid (fun j => room_way t.size 16 j (by omega))
  have HE := Lib.hid (room_end t.size 16 (by omega))
  have HF0 : Hid (fillR t = t ++ nghB (room t.size 16)) := Lib.hid rfl
  obtain ⟨R, hR⟩ : ∃ R, R = room t.size 16 := ⟨_, rfl⟩
  rw [← hR] at hrl HW HE HF0
  have HZ := Lib.hid (ngh_zero t)
  clear hR
  go_enter Tryz.func88, Tryz.ntmps88
  go_wp2
  go_loopw [0] (fun s wr => ∃ j : Nat, j ≤ R ∧ s = .string (t ++ nghB j) ∧ Below w.heap.size w wr) (fun s _ => t.size + R - (match s with | .string b => b.size | _ => 0))
  case atStart => exact ⟨0, Nat.zero_le _, by rw [← HZ.out], Below.refl _ _⟩
  case round =>
    obtain ⟨j, hj, rfl, hB⟩ := hrel
    have hps := ngh_size t j
    have HPS := Lib.hid hps
    have hsu := ngh_succ t j
    have hpl : (t ++ nghB j).size ≤ 300000 := by omega
    obtain ⟨P, hP⟩ : ∃ P, P = t ++ nghB j := ⟨_, rfl⟩
    rw [← hP] at hps HPS hsu hpl ⊢
    have HP := Lib.hid hP
    by_cases hlt : j < R
    · have hmd : ((P.size : Int) % 16 != 0) = true := by
        have := HW.out j hlt
        rw [← hps] at this
        have e : (P.size : Int) % 16 = ((P.size % 16 : Nat) : Int) := by simp
        rw [e]; simp; omega
      obtain ⟨P2, hP2⟩ : ∃ P2, P2 = t ++ nghB (j + 1) := ⟨_, rfl⟩
      rw [← hP2] at hsu
      have HP2 := Lib.hid hP2
      have HS2 : Hid (P2.size = t.size + (j + 1)) := Lib.hid (by rw [hP2, ngh_size])
      clear hps hP hP2
      go_wp2
      refine ⟨⟨j + 1, by omega, by rw [HP2.out], hB⟩, ?_⟩
      show t.size + R - P2.size < t.size + R - P.size
      have h3 := HPS.out
      have h4 := HS2.out
      omega
    · have hjR : j = R := by omega
      have hmd : ((P.size : Int) % 16 != 0) = false := by
        have := HE.out
        rw [← hjR, ← hps] at this
        have e : (P.size : Int) % 16 = ((P.size % 16 : Nat) : Int) := by simp
        rw [e, this]; rfl
      have HF : Hid (P = fillR t) := Lib.hid (by rw [hP, hjR, HF0.out])
      clear hps hP hjR
      go_wp2
      go_ret
      exact ⟨ret_str HF.out, hB⟩
end Go.Proofs.YtlipgmaiooljkaaGreatDoor

/- W4c -/
namespace Go.Proofs.YtlipgmaiooljkaaGreatDoor
open Go.ChangeShapes Go.WideShapes Go.ChangeAt Go.RowKit
set_option linter.unusedVariables false

/-- The text that a seal's tag speaks of. -/
def sealTx (wi hid : ByteArray) : ByteArray := fillR wi ++ fillR hid ++ lenB wi.size ++ lenB hid.size
theorem sealTx_size (wi hid : ByteArray) : (sealTx wi hid).size ≤ wi.size + hid.size + 48 := by
  unfold sealTx
  rw [ByteArray.size_append, ByteArray.size_append, ByteArray.size_append, lenB_size, lenB_size]
  have := fillR_size wi
  have := fillR_size hid
  omega
def sealKey (key nonce : ByteArray) : ByteArray := (blkR key nonce 0).extract 0 32
def sealT (key nonce wi hid : ByteArray) : ByteArray := tagR (sealKey key nonce) (sealTx wi hid)

set_option maxRecDepth 100000 in
set_option maxHeartbeats 2000000 in
theorem sealTag_any (key nonce wi hid : ByteArray) (w : World) (hk : key.size = 32) (hn : nonce.size = 12) (h1 : wi.size ≤ 1000) (h2 : hid.size ≤ 4000) :
    Calls Tryz.prog 67 #[.string key, .string nonce, .string wi, .string hid] w fun e w' => e = .returned (.string (sealT key nonce wi hid)) ∧ Below w.heap.size w w' := by
  have hbs := blkR_size key nonce 0 hk hn (by omega) (by omega)
  have HB := Lib.hid (fun w => implBlk_any key nonce 0 w hk hn (by omega) (by omega))
  have HKey : Hid (sealT key nonce wi hid = tagR ((blkR key nonce 0).extract 0 32) (sealTx wi hid)) := Lib.hid rfl
  have hks : ((blkR key nonce 0).extract 0 32).size = 32 := by rw [ByteArray.size_extract]; omega
  obtain ⟨B, hB⟩ : ∃ B, B = blkR key nonce 0 := ⟨_, rfl⟩
  rw [← hB] at hbs HB HKey hks
  obtain ⟨K, hK⟩ : ∃ K, K = B.extract 0 32 := ⟨_, rfl⟩
  have hK' := hK.symm
  rw [← hK] at HKey hks
  have hr1 := room_lt wi.size 16 (by omega)
  have hr2 := room_lt hid.size 16 (by omega)
  have HR1 := Lib.hid (fun w => roomTo_any wi.size 16 w (by omega) (by omega) (by omega))
  have HR2 := Lib.hid (fun w => roomTo_any hid.size 16 w (by omega) (by omega) (by omega))
  have HTX : Hid (sealTx wi hid = wi ++ nghB (room wi.size 16) ++ hid ++ nghB (room hid.size 16) ++ lenB wi.size ++ lenB hid.size) := Lib.hid (by
    unfold sealTx fillR; rw [ByteArray.append_assoc (a := wi ++ nghB (room wi.size 16)) (b := hid)])
  obtain ⟨r1, hr1e⟩ : ∃ r, r = room wi.size 16 := ⟨_, rfl⟩
  obtain ⟨r2, hr2e⟩ : ∃ r, r = room hid.size 16 := ⟨_, rfl⟩
  rw [← hr1e] at hr1 HR1 HTX
  rw [← hr2e] at hr2 HR2 HTX
  have HN1 := Lib.hid (fun w => noughts_any r1 w (by omega))
  have HN2 := Lib.hid (fun w => noughts_any r2 w (by omega))
  have hn1 : (nghB r1).size = r1 := nghB_size r1
  have hn2 : (nghB r2).size = r2 := nghB_size r2
  obtain ⟨n1, hn1e⟩ : ∃ n, n = nghB r1 := ⟨_, rfl⟩
  obtain ⟨n2, hn2e⟩ : ∃ n, n = nghB r2 := ⟨_, rfl⟩
  rw [← hn1e] at hn1 HN1 HTX
  rw [← hn2e] at hn2 HN2 HTX
  have HL1 := Lib.hid (fun w => eightBytes_any wi.size w (by omega))
  have HL2 := Lib.hid (fun w => eightBytes_any hid.size w (by omega))
  have hl1 := lenB_size wi.size
  have hl2 := lenB_size hid.size
  obtain ⟨l1, hl1e⟩ : ∃ n, n = lenB wi.size := ⟨_, rfl⟩
  obtain ⟨l2, hl2e⟩ : ∃ n, n = lenB hid.size := ⟨_, rfl⟩
  rw [← hl1e] at hl1 HL1 HTX
  rw [← hl2e] at hl2 HL2 HTX
  obtain ⟨A1, hA1⟩ : ∃ A, wi ++ n1 = A := ⟨_, rfl⟩
  have hs1 : A1.size = wi.size + n1.size := by rw [← hA1, ByteArray.size_append]
  obtain ⟨A2, hA2⟩ : ∃ A, A1 ++ hid = A := ⟨_, rfl⟩
  have hs2 : A2.size = A1.size + hid.size := by rw [← hA2, ByteArray.size_append]
  obtain ⟨A3, hA3⟩ : ∃ A, A2 ++ n2 = A := ⟨_, rfl⟩
  have hs3 : A3.size = A2.size + n2.size := by rw [← hA3, ByteArray.size_append]
  obtain ⟨A4, hA4⟩ : ∃ A, A3 ++ l1 = A := ⟨_, rfl⟩
  have hs4 : A4.size = A3.size + l1.size := by rw [← hA4, ByteArray.size_append]
  obtain ⟨A5, hA5⟩ : ∃ A, A4 ++ l2 = A := ⟨_, rfl⟩
  have hs5 : A5.size = A4.size + l2.size := by rw [← hA5, ByteArray.size_append]
  rw [hA1, hA2, hA3, hA4, hA5] at HTX
  rw [HTX.out] at HKey
  have k1 : wi.size + n1.size ≤ 6000 := by omega
  have k2 : A1.size + hid.size ≤ 6000 := by omega
  have k3 : A2.size + n2.size ≤ 6000 := by omega
  have k4 : A3.size + l1.size ≤ 6000 := by omega
  have k5 : A4.size + l2.size ≤ 6000 := by omega
  have HTag := Lib.hid (fun w => implTagOf_any K A5 w (by unfold maxLen; omega) (by unfold maxLen; omega))
  clear HTX hB hK hr1e hr2e hn1e hn2e hl1e hl2e hk hn hs1 hs2 hs3 hs4 hs5 hks
  go_enter Tryz.func67, Tryz.ntmps67
  go_wp2_with fail
  refine (HB.out _).mono ?_
  rintro e w1 ⟨rfl, hb1⟩
  go_wp2_with fail
  refine (HR1.out _).mono ?_
  rintro e w2 ⟨rfl, rfl⟩
  go_wp2_with fail
  refine (HN1.out _).mono ?_
  rintro e w3 ⟨rfl, hb3⟩
  go_wp2_with fail
  refine (HR2.out _).mono ?_
  rintro e w4 ⟨rfl, rfl⟩
  go_wp2_with fail
  refine (HN2.out _).mono ?_
  rintro e w5 ⟨rfl, hb5⟩
  go_wp2_with fail
  refine (HL1.out _).mono ?_
  rintro e w6 ⟨rfl, hb6⟩
  go_wp2_with fail
  refine (HL2.out _).mono ?_
  rintro e w7 ⟨rfl, hb7⟩
  go_wp2_with fail
  refine (HTag.out _).mono ?_
  rintro e w8 ⟨rfl, hb8⟩
  go_wp2
  go_ret
  have b3 := hb1.trans (hb3.mono hb1.size)
  have b5 := b3.trans (hb5.mono b3.size)
  have b6 := b5.trans (hb6.mono b5.size)
  have b7 := b6.trans (hb7.mono b6.size)
  exact ⟨ret_str HKey.out.symm, b7.trans (hb8.mono b7.size)⟩

set_option maxRecDepth 100000 in
set_option maxHeartbeats 2000000 in
theorem l4Tag_any (key nonce wi hid : ByteArray) (w : World) (hk : key.size = 32) (hn : nonce.size = 12) (h1 : wi.size ≤ 1000) (h2 : hid.size ≤ 4000) :
    Calls Tryz.prog 62 #[.string key, .string nonce, .string wi, .string hid] w fun e w' => e = .returned (.string (sealT key nonce wi hid)) ∧ Below w.heap.size w w' := by
  have hbs := blkR_size key nonce 0 hk hn (by omega) (by omega)
  have HB := Lib.hid (fun w => l2Block_any key nonce 0 w hk hn ⟨by omega, by omega⟩)
  have HKey : Hid (sealT key nonce wi hid = tagR ((blkR key nonce 0).extract 0 32) (sealTx wi hid)) := Lib.hid rfl
  have hks : ((blkR key nonce 0).extract 0 32).size = 32 := by rw [ByteArray.size_extract]; omega
  obtain ⟨B, hB⟩ : ∃ B, B = blkR key nonce 0 := ⟨_, rfl⟩
  rw [← hB] at hbs HB HKey hks
  obtain ⟨K, hK⟩ : ∃ K, K = B.extract 0 32 := ⟨_, rfl⟩
  have hK' := hK.symm
  rw [← hK] at HKey hks
  have HP1 := Lib.hid (fun w => l4Pad_any wi w (by omega))
  have HP2 := Lib.hid (fun w => l4Pad_any hid w (by omega))
  have HTX : Hid (sealTx wi hid = fillR wi ++ fillR hid ++ lenB wi.size ++ lenB hid.size) := Lib.hid rfl
  have hf1 := fillR_size wi
  have hf2 := fillR_size hid
  obtain ⟨n1, hn1e⟩ : ∃ n, n = fillR wi := ⟨_, rfl⟩
  obtain ⟨n2, hn2e⟩ : ∃ n, n = fillR hid := ⟨_, rfl⟩
  rw [← hn1e] at hf1 HP1 HTX
  rw [← hn2e] at hf2 HP2 HTX
  have HL1 := Lib.hid (fun w => l4Len_any wi.size w (by omega))
  have HL2 := Lib.hid (fun w => l4Len_any hid.size w (by omega))
  have hl1 := lenB_size wi.size
  have hl2 := lenB_size hid.size
  obtain ⟨l1, hl1e⟩ : ∃ n, n = lenB wi.size := ⟨_, rfl⟩
  obtain ⟨l2, hl2e⟩ : ∃ n, n = lenB hid.size := ⟨_, rfl⟩
  rw [← hl1e] at hl1 HL1 HTX
  rw [← hl2e] at hl2 HL2 HTX
  obtain ⟨A3, hA3⟩ : ∃ A, n1 ++ n2 = A := ⟨_, rfl⟩
  have hs3 : A3.size = n1.size + n2.size := by rw [← hA3, ByteArray.size_append]
  obtain ⟨A4, hA4⟩ : ∃ A, A3 ++ l1 = A := ⟨_, rfl⟩
  have hs4 : A4.size = A3.size + l1.size := by rw [← hA4, ByteArray.size_append]
  obtain ⟨A5, hA5⟩ : ∃ A, A4 ++ l2 = A := ⟨_, rfl⟩
  have hs5 : A5.size = A4.size + l2.size := by rw [← hA5, ByteArray.size_append]
  rw [hA3, hA4, hA5] at HTX
  rw [HTX.out] at HKey
  have k3 : n1.size + n2.size ≤ 6000 := by omega
  have k4 : A3.size + l1.size ≤ 6000 := by omega
  have k5 : A4.size + l2.size ≤ 6000 := by omega
  have HTag := Lib.hid (fun w => l3Tag_any K A5 w hks (by omega))
  have HRes : Hid (tagR K A5 = ⟨(sumR 16 ((leBy 17 (accN (facN K) A5 (nBlk A5))).take 16) (K.data.toList.drop 16)).toArray⟩) := Lib.hid (by unfold tagR; rw [if_pos ⟨hks, by omega⟩])
  rw [← HRes.out] at HTag
  clear HTX hB hK hn1e hn2e hl1e hl2e hk hn hs3 hs4 hs5 hks HRes
  go_enter Tryz.func62, Tryz.ntmps62
  go_wp2_with fail
  refine (HB.out _).mono ?_
  rintro e w1 ⟨rfl, hb1⟩
  go_wp2_with fail
  refine (HP1.out _).mono ?_
  rintro e w3 ⟨rfl, hb3⟩
  go_wp2_with fail
  refine (HP2.out _).mono ?_
  rintro e w5 ⟨rfl, hb5⟩
  go_wp2_with fail
  refine (HL1.out _).mono ?_
  rintro e w6 ⟨rfl, hb6⟩
  go_wp2_with fail
  refine (HL2.out _).mono ?_
  rintro e w7 ⟨rfl, hb7⟩
  go_wp2_with fail
  refine (HTag.out _).mono ?_
  rintro e w8 ⟨rfl, hb8⟩
  go_wp2
  go_ret
  have b3 := hb1.trans (hb3.mono hb1.size)
  have b5 := b3.trans (hb5.mono b3.size)
  have b6 := b5.trans (hb6.mono b5.size)
  have b7 := b6.trans (hb7.mono b6.size)
  exact ⟨ret_str HKey.out.symm, b7.trans (hb8.mono b7.size)⟩
end Go.Proofs.YtlipgmaiooljkaaGreatDoor

/- W4d -/
namespace Go.Proofs.YtlipgmaiooljkaaGreatDoor
open Go.ChangeShapes Go.WideShapes Go.ChangeAt Go.RowKit
set_option linter.unusedVariables false

theorem tagR_size (k t : ByteArray) : (tagR k t).size ≤ 16 := by
  unfold tagR
  split
  · show (List.toArray _).size ≤ 16
    rw [List.size_toArray, sumR_len]; omega
  · show 0 ≤ 16
    omega
def sealB (key nonce wi t : ByteArray) : ByteArray := strB key nonce 1 t ++ sealT key nonce wi (strB key nonce 1 t)
def slR (key nonce wi t : ByteArray) : ByteArray := if key.size = 32 ∧ nonce.size = 12 ∧ wi.size ≤ 1000 ∧ t.size ≤ 4000 then sealB key nonce wi t else ⟨#[]⟩

set_option maxRecDepth 100000 in
set_option maxHeartbeats 2000000 in
theorem l4Seal_any (key nonce wi t : ByteArray) (w : World) (hk : key.size = 32) (hn : nonce.size = 12) (h1 : wi.size ≤ 1000) (h2 : t.size ≤ 4000) :
    Calls Tryz.prog 28 #[.string key, .string nonce, .string wi, .string t] w fun e w' => e = .returned (.string (sealB key nonce wi t)) ∧ Below w.heap.size w w' := by
  have HR : Hid (sealB key nonce wi t = strB key nonce 1 t ++ sealT key nonce wi (strB key nonce 1 t)) := Lib.hid rfl
  have hss := strB_size key nonce 1 t
  have HS := Lib.hid (fun w => l2Stream_any key nonce 1 t w hk hn (by omega) (by omega) (by omega))
  obtain ⟨S, hS⟩ : ∃ S, S = strB key nonce 1 t := ⟨_, rfl⟩
  rw [← hS] at HR hss HS
  have HT := Lib.hid (fun w => l4Tag_any key nonce wi S w hk hn h1 (by omega))
  have hts : (sealT key nonce wi S).size ≤ 16 := tagR_size _ _
  clear hS hk hn
  go_enter Tryz.func28, Tryz.ntmps28
  go_wp2_with fail
  refine (HS.out _).mono ?_
  rintro e w1 ⟨rfl, hb1⟩
  go_wp2_with fail
  refine (HT.out _).mono ?_
  rintro e w2 ⟨rfl, hb2⟩
  go_wp2
  go_ret
  exact ⟨ret_str HR.out.symm, hb1.trans (hb2.mono hb1.size)⟩

set_option maxRecDepth 100000 in
set_option maxHeartbeats 2000000 in
theorem sealArgsOk_any (key nonce wi t : ByteArray) (w : World) (hk : key.size ≤ maxLen) (hn : nonce.size ≤ maxLen) (hw : wi.size ≤ maxLen) (ht : t.size ≤ maxLen) :
    Calls Tryz.prog 65 #[.string key, .string nonce, .string wi, .string t] w fun e w' => e = .returned (.bool (decide (key.size = 32 ∧ nonce.size = 12 ∧ wi.size ≤ 1000 ∧ t.size ≤ 4000))) ∧ w = w' := by
  unfold maxLen at hk hn hw ht
  obtain ⟨q, hq⟩ : ∃ q, q = decide (key.size = 32 ∧ nonce.size = 12 ∧ wi.size ≤ 1000 ∧ t.size ≤ 4000) := ⟨_, rfl⟩
  rw [← hq]
  by_cases g1 : key.size = 32
  · have hd1 : ((key.size : Int) == 32) = true := by simp [g1]
    by_cases g2 : nonce.size = 12
    · have hd2 : ((nonce.size : Int) == 12) = true := by simp [g2]
      by_cases g3 : wi.size ≤ 1000
      · by_cases g4 : t.size ≤ 4000
        · have HQ : Hid (q = true) := Lib.hid (by rw [hq]; exact decide_eq_true ⟨g1, g2, g3, g4⟩)
          clear hq g1 g2
          go_enter Tryz.func65, Tryz.ntmps65
          go_wp2
          go_ret
          exact ⟨ret_bool ((decide_eq_true (by omega)).trans HQ.out.symm), rfl⟩
        · have HQ : Hid (q = false) := Lib.hid (by rw [hq]; exact decide_eq_false (by omega))
          clear hq g1 g2
          go_enter Tryz.func65, Tryz.ntmps65
          go_wp2
          go_ret
          exact ⟨ret_bool ((decide_eq_false (by omega)).trans HQ.out.symm), rfl⟩
      · have HQ : Hid (q = false) := Lib.hid (by rw [hq]; exact decide_eq_false (by omega))
        clear hq g1 g2
        go_enter Tryz.func65, Tryz.ntmps65
        go_wp2
        go_ret
        exact ⟨ret_bool HQ.out.symm, rfl⟩
    · have hd2 : ((nonce.size : Int) == 12) = false := by simp; omega
      have HQ : Hid (q = false) := Lib.hid (by rw [hq]; exact decide_eq_false (by omega))
      clear hq g1 g2
      go_enter Tryz.func65, Tryz.ntmps65
      go_wp2
      go_ret
      exact ⟨ret_bool HQ.out.symm, rfl⟩
  · have hd1 : ((key.size : Int) == 32) = false := by simp; omega
    have HQ : Hid (q = false) := Lib.hid (by rw [hq]; exact decide_eq_false (by omega))
    clear hq g1
    go_enter Tryz.func65, Tryz.ntmps65
    go_wp2
    go_ret
    exact ⟨ret_bool HQ.out.symm, rfl⟩

set_option maxRecDepth 100000 in
set_option maxHeartbeats 2000000 in
theorem implSealed_any (key nonce wi t : ByteArray) (w : World) (hk : key.size ≤ maxLen) (hn : nonce.size ≤ maxLen) (hw : wi.size ≤ maxLen) (ht : t.size ≤ maxLen) :
    Calls Tryz.prog 32 #[.string key, .string nonce, .string wi, .string t] w fun e w' => e = .returned (.string (slR key nonce wi t)) ∧ Below w.heap.size w w' := by
  have HA := Lib.hid (fun w => sealArgsOk_any key nonce wi t w hk hn hw ht)
  unfold maxLen at hk hn hw ht
  by_cases hall : key.size = 32 ∧ nonce.size = 12 ∧ wi.size ≤ 1000 ∧ t.size ≤ 4000
  · have HR : Hid (slR key nonce wi t = sealB key nonce wi t) := Lib.hid (by unfold slR; rw [if_pos hall])
    rw [decide_eq_true hall] at HA
    obtain ⟨g1, g2, g3, g4⟩ := hall
    have HU : Hid (sealB key nonce wi t = strB key nonce 1 t ++ sealT key nonce wi (strB key nonce 1 t)) := Lib.hid rfl
    have hss := strB_size key nonce 1 t
    have HS := Lib.hid (fun w => implStrm_any key nonce 1 t w g1 g2 (by omega) (by omega) (by omega))
    obtain ⟨S, hS⟩ : ∃ S, S = strB key nonce 1 t := ⟨_, rfl⟩
    rw [← hS] at HU hss HS
    have HT := Lib.hid (fun w => sealTag_any key nonce wi S w g1 g2 g3 (by omega))
    have hts : (sealT key nonce wi S).size ≤ 16 := tagR_size _ _
    obtain ⟨G, hG⟩ : ∃ G, G = sealT key nonce wi S := ⟨_, rfl⟩
    rw [← hG] at HU HT hts
    clear hS hG g1 g2
    go_enter Tryz.func32, Tryz.ntmps32
    go_wp2_with fail
    refine (HA.out _).mono ?_
    rintro e w0 ⟨rfl, rfl⟩
    go_wp2_with fail
    refine (HS.out _).mono ?_
    rintro e w1 ⟨rfl, hb1⟩
    go_wp2_with fail
    refine (HT.out _).mono ?_
    rintro e w2 ⟨rfl, hb2⟩
    go_wp2
    go_ret
    exact ⟨ret_str (HU.out.symm.trans HR.out.symm), hb1.trans (hb2.mono hb1.size)⟩
  · have HR : Hid (slR key nonce wi t = ⟨#[]⟩) := Lib.hid (by unfold slR; rw [if_neg hall])
    rw [decide_eq_false hall] at HA
    clear hall
    go_enter Tryz.func32, Tryz.ntmps32
    go_wp2_with fail
    refine (HA.out _).mono ?_
    rintro e w0 ⟨rfl, rfl⟩
    go_wp2
    go_ret
    exact ⟨ret_str HR.out.symm, Below.refl _ _⟩

end Go.Proofs.YtlipgmaiooljkaaGreatDoor
