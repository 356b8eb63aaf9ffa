/- Contract: Sha256 of the reference (chapter 5). -/
import Derived.Test.YtfjaincogbdeiaaGreatDoorW5m
import Derived.Test.YtfjaincogbdeiaaGreatDoorW5k
namespace Go.Proofs.YtfjaincogbdeiaaGreatDoor
open Go.ChangeShapes Go.WideShapes Go.ChangeAt Go.RowKit Go.Shelf
set_option linter.unusedVariables false

/-- The text of a state. -/
def stB (l : List Int) : ByteArray := ⟨(stoB l).toArray⟩
theorem stB_size (l : List Int) (h : l.length = 8) : (stB l).size = 32 := by unfold stB; rw [ba_list_size, stoB_len, h]
theorem stB_step (p : ByteArray) (n : Nat) : stpB (stB (blksN p n)) (blk p n) = stB (blksN p (n + 1)) := by
  show (⟨(stoB (stepL (beL (stB (blksN p n)).data.toList) (beL (blk p n).data.toList))).toArray⟩ : ByteArray) = stB (stepL (blksN p n) (beL (blk p n).data.toList))
  have : (stB (blksN p n)).data.toList = stoB (blksN p n) := by unfold stB; simp
  rw [this, beL_stoB _ (blksN_words p n)]
  rfl
set_option maxRecDepth 100000 in
theorem stB_first (p : ByteArray) : stB (blksN p 0) = ⟨#[106, 9, 230, 103, 187, 103, 174, 133, 60, 110, 243, 114, 165, 79, 245, 58, 81, 14, 82, 127, 155, 5, 104, 140, 31, 131, 217, 171, 91, 224, 205, 25]⟩ := by
  show stB sha0 = _
  decide +kernel

set_option maxRecDepth 100000 in
set_option maxHeartbeats 4000000 in
theorem l5Sha_any (t : ByteArray) (w : World) (ht : t.size ≤ 100000) :
    Calls Tryz.prog 95 #[.string t] w fun e w' => e = .returned (.string (shaD t)) ∧ Below w.heap.size w w' := by
  have HP := Lib.hid (l5Pad_any t · ht)
  have hpm := padS_mod t
  have hpl := padS_le t
  have HE : Hid (shaD t = stB (blksN (padS t) ((padS t).size / 64))) := Lib.hid rfl
  generalize shaD t = out at HE ⊢
  generalize padS t = p at HP hpm hpl HE
  have hpb : p.size ≤ 200000 := by omega
  have HPM := Lib.hid hpm
  have HBS := Lib.hid (stB_step p)
  have HBZ := Lib.hid (fun n => stB_size (blksN p n) (blksN_len p n))
  clear hpm hpl ht
  go_enter Tryz.func95, Tryz.ntmps95
  go_wp2_with fail
  refine (HP.out _).mono ?_
  rintro e w4 ⟨rfl, hB4⟩
  clear HP
  go_wp2
  rw [← stB_first p]
  generalize hfb : stB (blksN p 0) = f0
  have HF0 := Lib.hid hfb
  clear hfb
  go_loopw [4, 5] (fun s i wr => ∃ k n : Nat, Hid (n = 64 * k) ∧ n ≤ p.size ∧ i = .int .i64 n ∧ s = .string (stB (blksN p k)) ∧ Below w.heap.size w wr) (fun _ i _ => p.size - (intOf i).toNat)
  case atStart => exact ⟨0, 0, Lib.hid rfl, Nat.zero_le _, rfl, by rw [HF0.out], hB4⟩
  case round =>
    obtain ⟨k, n, hnk, hn, rfl, rfl, hB⟩ := hrel
    clear hB4
    have hs1 := HBZ.out k
    have hst := HBS.out k
    obtain ⟨S1, hS1⟩ : ∃ S1, S1 = stB (blksN p k) := ⟨_, rfl⟩
    rw [← hS1] at hs1 hst ⊢
    have HS1 := Lib.hid hS1
    clear hS1
    by_cases hlt : n < p.size
    · have hfit : n + 64 ≤ p.size := by have := HPM.out; have := hnk.out; omega
      have hbe : blk p k = p.extract n (n + 64) := by rw [hnk.out]; rfl
      have hbs : (p.extract n (n + 64)).size = 64 := by rw [ByteArray.size_extract]; omega
      rw [hbe] at hst
      have HC := Lib.hid (l5Step_any S1 (p.extract n (n + 64)) · hs1 hbs)
      rw [hst] at HC
      obtain ⟨S2, hS2⟩ : ∃ S2, S2 = stB (blksN p (k + 1)) := ⟨_, rfl⟩
      rw [← hS2] at HC
      have HS2 := Lib.hid hS2
      clear hs1 hst hbe hbs hS2
      go_wp2_with fail
      refine (HC.out _).mono ?_
      rintro en w5 ⟨rfl, hb5⟩
      have hB5 := hB.trans (hb5.mono hB.size)
      clear HC hb5 hB
      go_wp2
      go_roundw
      case rel => exact ⟨k + 1, n + 64, Lib.hid (by rw [hnk.out]; omega), hfit, by go_num, by rw [HS2.out], hB5⟩
      case measure => simp [intOf]; omega
    · have hke : k = p.size / 64 := by have := hnk.out; have := HPM.out; omega
      have HO : Hid (S1 = out) := Lib.hid (by rw [HS1.out, HE.out, hke])
      clear hke hs1 hst
      go_wp2
      go_ret
      exact ⟨ret_str HO.out, hB⟩

end Go.Proofs.YtfjaincogbdeiaaGreatDoor
