/- Contracts: words turned (l01 Rotl, both sides), texts either-or (l01 Xor, both sides). -/
import Derived.Test.YtfjaincogbdeiaaGreatDoorOwn
namespace Go.Proofs.YtfjaincogbdeiaaGreatDoor
open Go.ChangeShapes Go.WideShapes Go.ChangeAt Go.RowKit

theorem rot32_any (x k : Int) (hk0 : 0 ≤ k) (hk : k ≤ 31) (w : World) :
    Calls Tryz.prog 160 #[.int .u32 x, .int .i64 k] w fun e w' => e = .returned (.int .u32 (rot x k)) ∧ w = w' := by
  have h := and31 k hk0 hk
  go_enter Tryz.func160, Tryz.ntmps160
  go_wp2
  go_ret
  exact ⟨rfl, rfl⟩

theorem wordTest (x : Int) : (decide (0 ≤ x) && decide (x ≤ 4294967295)) = decide (0 ≤ x ∧ x ≤ 4294967295) := by simp

/-- Rotl, as the document says it. -/
def rotR (x k : Int) : Int := if 0 ≤ x ∧ x ≤ 4294967295 ∧ 0 ≤ k ∧ k ≤ 31 then rot x k else -1

set_option maxHeartbeats 400000 in
theorem l1Xor_any (a b : ByteArray) (w : World) (ha : a.size ≤ 100000000) (hb : a.size ≤ b.size) (hm : b.size ≤ maxLen) :
    Calls Tryz.prog 97 #[.string a, .string b] w fun e w' => e = .returned (.string (xorB a b)) ∧ Below w.heap.size w w' := by
  unfold maxLen at hm
  have hlen : (xorL a.data.toList b.data.toList).length = a.size := by simpa using xorL_len a.data.toList b.data.toList (by simpa using hb)
  have HL := Lib.hid hlen
  clear hlen
  go_enter Tryz.func97, Tryz.ntmps97
  go_wp2
  go_loopw [5, 6] (fun v i wr => ∃ k : Nat, k ≤ a.size ∧ i = .int .i64 k ∧ OwnB wr w.heap.size v ((xorL a.data.toList b.data.toList).take k) ∧ Below w.heap.size w wr)
    (fun _ i _ => a.size - (intOf i).toNat)
  case atStart =>
    exact ⟨0, Nat.zero_le _, rfl, OwnB.lit w _ (Nat.le_refl _), (Below.refl _ _).alloc (Nat.le_refl _) _⟩
  case round =>
    obtain ⟨k, hk, rfl, hown, hbel⟩ := hrel
    by_cases hlt : k < a.size
    · have hkb : k < b.size := by omega
      have hsz := hbel.size
      go_wp2
      go_region_law (refine step_appB rfl (.tmp 14) (.tmp 22) rfl w.heap.size _ _ rfl ((hown.alloc _).drew) wr.heap.size 1 _ _ [a[k] ^^^ b[k]] rfl (heap_alloc_new wr _) (by simp [bc, xor8]) rfl (by decide) (by simp; omega) (by simp; omega) ?_; intro v1 w1 hown1 hb1)
      all_goals
        have hsn := xorL_snoc a b k hlt hkb
        rw [← hsn] at hown1
        clear hsn
        have hb2 := (hbel.alloc hsz _).drew.trans hb1
        clear hb1 hown
        go_wp2
        go_roundw
        case rel => exact ⟨k + 1, by omega, by go_num, hown1, hb2⟩
        case measure => simp [intOf]; omega
    · have hc := conv_ownB hown
      go_wp2
      go_ret
      have : k = a.size := by omega
      subst this
      refine ⟨?_, hbel⟩
      rw [List.take_of_length_le (by rw [HL.out]; exact Nat.le_refl _)]
      rfl

/-- Xor, as the document says it. -/
def xorR (a b : ByteArray) : ByteArray := if a.size = b.size ∧ a.size ≤ 4000 then xorB a b else ⟨#[]⟩

set_option maxHeartbeats 800000 in
theorem implXor_any (a b : ByteArray) (w : World) (ha : a.size ≤ maxLen) (hb : b.size ≤ maxLen) :
    Calls Tryz.prog 53 #[.string a, .string b] w fun e w' => e = .returned (.string (xorR a b)) ∧ Below w.heap.size w w' := by
  unfold maxLen at ha hb
  by_cases h1 : a.size = b.size
  · by_cases h2 : a.size ≤ 4000
    · have hd1 : ((a.size : Int) != (b.size : Int)) = false := by simp [h1]
      have hx : xorR a b = xorB a b := by rw [xorR, if_pos ⟨h1, h2⟩]
      have hlen : (xorL a.data.toList b.data.toList).length = a.size := by simpa using xorL_len a.data.toList b.data.toList (by simpa using (by omega : a.size ≤ b.size))
      have HL := Lib.hid hlen
      have HX := Lib.hid hx
      have hle : a.size ≤ b.size := by omega
      clear h1 hx hlen
      go_enter Tryz.func53, Tryz.ntmps53
      go_wp2_with (at_make; refine wpList_makeB rfl _ _ rfl w.heap.size .i64 .i64 _ rfl rfl (by omega) (by omega) (Nat.le_refl _) ?_; intro v0 w0 hown0 hb0)
      go_loopw [5, 22] (fun v i wr => ∃ k : Nat, k ≤ a.size ∧ i = .int .i64 k ∧ OwnB wr w.heap.size v ((xorL a.data.toList b.data.toList).take k) ∧ Below w.heap.size w wr)
        (fun _ i _ => a.size - (intOf i).toNat)
      case atStart =>
        exact ⟨0, Nat.zero_le _, rfl, hown0, hb0⟩
      case round =>
        obtain ⟨k, hk, rfl, hown, hbel⟩ := hrel
        clear hown0 hb0
        by_cases hlt : k < a.size
        · have hkb : k < b.size := by omega
          have hsz := hbel.size
          go_wp2
          go_region_law (refine step_appB rfl (.tmp 25) (.tmp 33) rfl w.heap.size _ _ rfl ((hown.alloc _).drew) wr.heap.size 1 _ _ [a[k] ^^^ b[k]] rfl (heap_alloc_new wr _) (by simp [bc, xor8]) rfl (by decide) (by simp; omega) (by simp; omega) ?_; intro v1 w1 hown1 hb1)
          all_goals
            have hsn := xorL_snoc a b k hlt hkb
            rw [← hsn] at hown1
            clear hsn
            have hb2 := (hbel.alloc hsz _).drew.trans hb1
            clear hb1 hown
            go_wp2
            go_roundw
            case rel => exact ⟨k + 1, by omega, by go_num, hown1, hb2⟩
            case measure => simp [intOf]; omega
        · have hc := conv_ownB hown
          go_wp2
          go_ret
          have : k = a.size := by omega
          subst this
          refine ⟨?_, hbel⟩
          rw [List.take_of_length_le (by rw [HL.out]; exact Nat.le_refl _), HX.out]
          rfl
    · have hd1 : ((a.size : Int) != (b.size : Int)) = false := by simp [h1]
      have hx : xorR a b = ⟨#[]⟩ := by rw [xorR, if_neg (by omega)]
      have HX := Lib.hid hx
      clear h1 hx
      go_enter Tryz.func53, Tryz.ntmps53
      go_wp2
      go_ret
      exact ⟨ret_str HX.out.symm, Below.refl _ _⟩
  · have hd1 : ((a.size : Int) != (b.size : Int)) = true := by simp; omega
    have hx : xorR a b = ⟨#[]⟩ := by rw [xorR, if_neg (by omega)]
    have HX := Lib.hid hx
    clear hx
    go_enter Tryz.func53, Tryz.ntmps53
    go_wp2
    go_ret
    exact ⟨ret_str HX.out.symm, Below.refl _ _⟩
end Go.Proofs.YtfjaincogbdeiaaGreatDoor
