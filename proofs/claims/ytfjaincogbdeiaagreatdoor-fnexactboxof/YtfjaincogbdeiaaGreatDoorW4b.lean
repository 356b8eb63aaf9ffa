/- Contracts: the parts of a seal's tag: lengths as eight bytes, texts filled up to sixteen bytes. -/
import Derived.Test.YtfjaincogbdeiaaGreatDoorW2m
import Derived.Test.YtfjaincogbdeiaaGreatDoorW3k
import Derived.Test.YtfjaincogbdeiaaGreatDoorW4a
namespace Go.Proofs.YtfjaincogbdeiaaGreatDoor
open Go.ChangeShapes Go.WideShapes Go.ChangeAt Go.RowKit
set_option linter.unusedVariables false

/-- A length as eight bytes. -/
def lenB (n : Nat) : ByteArray := ⟨(storeL [(n : Int), 0]).toArray⟩
theorem lenB_size (n : Nat) : (lenB n).size = 8 := rfl
theorem rowAt_two (k : IntKind) (ty : TypeId) (w : World) (c d : Int) : RowAt k (w.alloc (.cells #[.int k c, .int k d] ty)) (w.heap.size + 1) (.slice (some ⟨w.heap.size, 0, none⟩) 2 2) [c, d] := by
  refine ⟨some ⟨w.heap.size, 0, none⟩, 2, rfl, by simp, by unfold maxLen; omega, fun j hj => ⟨w.heap.size, 0, rfl, by omega, fun i hi => ?_⟩⟩
  have hi2 : i = 0 ∨ i = 1 := by simp at hi; omega
  rcases hi2 with rfl | rfl
  · rw [cell_of_row _ w.heap.size _ _ _ (0, 0) (heap_alloc_new w _)]; rfl
  · rw [cell_of_row _ w.heap.size _ _ _ (0, 0) (heap_alloc_new w _)]; rfl
theorem andLow (n : Nat) (h : n < 8192) : bits .and .i64 (n : Int) 4294967295 = (n : Int) := by
  have h2 : ∀ a : Fin 128, ∀ b : Fin 64, bits .and .i64 ((64 * a.val + b.val : Nat) : Int) 4294967295 = ((64 * a.val + b.val : Nat) : Int) := by decide +kernel
  have h3 := h2 ⟨n / 64, by omega⟩ ⟨n % 64, by omega⟩
  rw [show 64 * (n / 64) + n % 64 = n by omega] at h3
  exact h3
theorem stR_two (n : Nat) (h : n < 8192) : stR [(n : Int), 0] = lenB n := by
  unfold stR lenB
  rw [if_pos ⟨by simp, by simp [isW]; omega⟩]

set_option maxRecDepth 100000 in
theorem eightBytes_any (n : Nat) (w : World) (hn : n < 8192) :
    Calls Tryz.prog 50 #[.int .i64 (n : Int)] w fun e w' => e = .returned (.string (lenB n)) ∧ Below w.heap.size w w' := by
  have hand := andLow n hn
  have hz : (n : Int) / 4294967296 = 0 := by omega
  have HS := Lib.hid (stR_two n hn)
  go_enter Tryz.func50, Tryz.ntmps50
  go_wp2_with fail
  have hrow := rowAt_two .i64 2 w (n : Int) 0
  refine (implStoreLe_any _ _ _ _ hrow).mono ?_
  rintro e w1 ⟨rfl, hb1⟩
  go_wp2
  go_ret
  exact ⟨ret_str HS.out, ((Below.refl _ _).alloc (Nat.le_refl _) _).trans (hb1.mono (by simp))⟩

set_option maxRecDepth 100000 in
theorem l4Len_any (n : Nat) (w : World) (hn : n < 8192) :
    Calls Tryz.prog 101 #[.int .i64 (n : Int)] w fun e w' => e = .returned (.string (lenB n)) ∧ Below w.heap.size w w' := by
  go_enter Tryz.func101, Tryz.ntmps101
  go_wp2_with fail
  refine (l1Store_any _ _ _ _ (rowAt_two .u32 89 w (n : Int) 0) (by simp; omega) (by simp)).mono ?_
  rintro e w1 ⟨rfl, hb1⟩
  go_wp2
  go_ret
  exact ⟨rfl, ((Below.refl _ _).alloc (Nat.le_refl _) _).trans (hb1.mono (by simp))⟩

/-- A text filled up with noughts. -/
def fillR (t : ByteArray) : ByteArray := t ++ nghB (room t.size 16)
theorem fillR_size (t : ByteArray) : (fillR t).size ≤ t.size + 16 := by
  unfold fillR; rw [ByteArray.size_append, nghB_size]; have := room_lt t.size 16 (by omega); omega
theorem ngh_zero (t : ByteArray) : t = t ++ nghB 0 := by
  apply ba_eq
  rw [ba_app4, nghB_list]; simp
theorem ngh_succ (t : ByteArray) (j : Nat) : t ++ nghB j ++ ⟨#[0]⟩ = t ++ nghB (j + 1) := by
  apply ba_eq
  rw [ba_app4, ba_app4 t, ba_app4 t, nghB_list, nghB_list, List.append_assoc, List.replicate_succ']
theorem ngh_size (t : ByteArray) (j : Nat) : (t ++ nghB j).size = t.size + j := by rw [ByteArray.size_append, nghB_size]

set_option maxRecDepth 100000 in
set_option maxHeartbeats 2000000 in
theorem l4Pad_any (t : ByteArray) (w : World) (ht : t.size ≤ 100000) :
    Calls Tryz.prog 100 #[.string t] w fun e w' => e = .returned (.string (fillR t)) ∧ Below w.heap.size w w' := by
  have hrl := room_lt t.size 16 (by omega)
  have HW := Lib.hid (fun j => room_way t.size 16 j (by omega))
  have HE := Lib.hid (room_end t.size 16 (by omega))
  have HF0 : Hid (fillR t = t ++ nghB (room t.size 16)) := Lib.hid rfl
  obtain ⟨R, hR⟩ : ∃ R, R = room t.size 16 := ⟨_, rfl⟩
  rw [← hR] at hrl HW HE HF0
  have HZ := Lib.hid (ngh_zero t)
  clear hR
  go_enter Tryz.func100, Tryz.ntmps100
  go_wp2
  go_loopw [0] (fun s wr => ∃ j : Nat, j ≤ R ∧ s = .string (t ++ nghB j) ∧ Below w.heap.size w wr) (fun s _ => t.size + R - (match s with | .string b => b.size | _ => 0))
  case atStart => exact ⟨0, Nat.zero_le _, by rw [← HZ.out], Below.refl _ _⟩
  case round =>
    obtain ⟨j, hj, rfl, hB⟩ := hrel
    have hps := ngh_size t j
    have HPS := Lib.hid hps
    have hsu := ngh_succ t j
    have hpl : (t ++ nghB j).size ≤ 300000 := by omega
    obtain ⟨P, hP⟩ : ∃ P, P = t ++ nghB j := ⟨_, rfl⟩
    rw [← hP] at hps HPS hsu hpl ⊢
    have HP := Lib.hid hP
    by_cases hlt : j < R
    · have hmd : ((P.size : Int) % 16 != 0) = true := by
        have := HW.out j hlt
        rw [← hps] at this
        have e : (P.size : Int) % 16 = ((P.size % 16 : Nat) : Int) := by simp
        rw [e]; simp; omega
      obtain ⟨P2, hP2⟩ : ∃ P2, P2 = t ++ nghB (j + 1) := ⟨_, rfl⟩
      rw [← hP2] at hsu
      have HP2 := Lib.hid hP2
      have HS2 : Hid (P2.size = t.size + (j + 1)) := Lib.hid (by rw [hP2, ngh_size])
      clear hps hP hP2
      go_wp2
      refine ⟨⟨j + 1, by omega, by rw [HP2.out], hB⟩, ?_⟩
      show t.size + R - P2.size < t.size + R - P.size
      have h3 := HPS.out
      have h4 := HS2.out
      omega
    · have hjR : j = R := by omega
      have hmd : ((P.size : Int) % 16 != 0) = false := by
        have := HE.out
        rw [← hjR, ← hps] at this
        have e : (P.size : Int) % 16 = ((P.size % 16 : Nat) : Int) := by simp
        rw [e, this]; rfl
      have HF : Hid (P = fillR t) := Lib.hid (by rw [hP, hjR, HF0.out])
      clear hps hP hjR
      go_wp2
      go_ret
      exact ⟨ret_str HF.out, hB⟩
end Go.Proofs.YtfjaincogbdeiaaGreatDoor
