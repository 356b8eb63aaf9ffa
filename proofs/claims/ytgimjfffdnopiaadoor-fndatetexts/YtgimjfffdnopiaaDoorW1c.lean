/- Contracts: digits (l01 Hex, Unhex, both sides). -/
import Derived.Test.YtgimjfffdnopiaaDoorOwn
import Derived.Test.YtgimjfffdnopiaaDoorPlainA
namespace Go.Proofs.YtgimjfffdnopiaaDoor
open Go.ChangeShapes Go.WideShapes Go.ChangeAt Go.RowKit

/-- Hex, as the document says it. -/
def hexR (a : ByteArray) : ByteArray := if a.size ≤ 4000 then hexB a else ⟨#[]⟩

theorem hex_end {a : ByteArray} {k : Nat} (h : a.size ≤ k) : (⟨(hexL (a.data.toList.take k)).toArray⟩ : ByteArray) = hexB a := by rw [take_all a k h]; rfl
theorem hex_room {a : ByteArray} {k : Nat} (h : k ≤ a.size) : (hexL (a.data.toList.take k)).length = 2 * k := by rw [hexL_len]; simp; omega

theorem hx_cells (c : UInt8) (i j : Int) (hi : i = (c.toNat : Int) / 16) (hj : j = (c.toNat : Int) % 16) (h1 : i.toNat < 16) (h2 : j.toNat < 16) :
    (#[Value.int .u8 (((⟨#[48, 49, 50, 51, 52, 53, 54, 55, 56, 57, 97, 98, 99, 100, 101, 102]⟩ : ByteArray)[i.toNat]'h1).toNat : Int), Value.int .u8 (((⟨#[48, 49, 50, 51, 52, 53, 54, 55, 56, 57, 97, 98, 99, 100, 101, 102]⟩ : ByteArray)[j.toNat]'h2).toNat : Int)] : Array Value).toList
      = [hd (c.toNat / 16), hd (c.toNat % 16)].map bc := by
  rw [hd_at i (c.toNat / 16) h1 (by omega), hd_at j (c.toNat % 16) h2 (by omega)]; rfl

set_option maxHeartbeats 800000 in
theorem specHex_any (a : ByteArray) (w : World) (ha : a.size ≤ maxLen) :
    Calls Tryd.prog 108 #[.string a] w fun e w' => e = .returned (.string (hexR a)) ∧ Below w.heap.size w w' := by
  unfold maxLen at ha
  by_cases h4 : a.size ≤ 4000
  · have HX : Hid (hexR a = hexB a) := Lib.hid (by rw [hexR, if_pos h4])
    go_enter Tryd.func108, Tryd.ntmps108
    go_wp2
    go_loopw [3, 4] (fun v i wr => ∃ k : Nat, k ≤ a.size ∧ i = .int .i64 k ∧ OwnB wr w.heap.size v (hexL (a.data.toList.take k)) ∧ Below w.heap.size w wr)
      (fun _ i _ => a.size - (intOf i).toNat)
    case atStart =>
      exact ⟨0, Nat.zero_le _, rfl, OwnB.lit w _ (Nat.le_refl _), (Below.refl _ _).alloc (Nat.le_refl _) _⟩
    case round =>
      obtain ⟨k, hk, rfl, hown, hbel⟩ := hrel
      by_cases hlt : k < a.size
      · have hsz := hbel.size
        have hc : a[k].toNat < 256 := a[k].toNat_lt
        have hq : ((a[k].toNat : Int) / 16) < 16 := by omega
        have hq0 : 0 ≤ ((a[k].toNat : Int) / 16) := by omega
        have hr : ((a[k].toNat : Int) % 16) < 16 := by omega
        have hr0 : 0 ≤ ((a[k].toNat : Int) % 16) := by omega
        have hw1 : IntKind.u8.wrap ((a[k].toNat : Int) / 16) = (a[k].toNat : Int) / 16 := by rw [IntKind.wrap_u8']; omega
        have hw2 : (a[k].toNat : Int).tmod 16 = (a[k].toNat : Int) % 16 := Int.tmod_eq_emod_of_nonneg (by omega)
        have HR := Lib.hid (hex_room hk)
        go_wp2
        go_region_law (refine step_appB rfl (.tmp 15) (.tmp 26) rfl w.heap.size _ _ rfl ((hown.alloc _).drew) wr.heap.size 2 _ _ [hd (a[k].toNat / 16), hd (a[k].toNat % 16)] rfl (heap_alloc_new wr _) (hx_cells a[k] _ _ rfl rfl _ _) rfl (by decide) (by rw [HR.out]; omega) (by simp; omega) ?_; intro v1 w1 hown1 hb1)
        all_goals
          rw [← hexL_snoc a k hlt] at hown1
          have hb2 := (hbel.alloc hsz _).drew.trans hb1
          clear hb1 hown
          go_wp2
          go_roundw
          case rel => exact ⟨k + 1, by omega, by go_num, hown1, hb2⟩
          case measure => simp [intOf]; omega
      · have hc := conv_ownB hown
        go_wp2
        go_ret
        exact ⟨ret_str ((hex_end (by omega)).trans HX.out.symm), hbel⟩
  · have HX : Hid (hexR a = ⟨#[]⟩) := Lib.hid (by rw [hexR, if_neg h4])
    go_enter Tryd.func108, Tryd.ntmps108
    go_wp2
    go_ret
    exact ⟨ret_str HX.out.symm, Below.refl _ _⟩

theorem and15 (c : UInt8) : bits .and .u8 (c.toNat : Int) 15 = (c.toNat : Int) % 16 := by
  have hlt : c.toNat < 256 := c.toNat_lt
  rw [u8_and _ _ (by omega) (by omega) (by omega) (by omega)]
  have : (c.toNat : Int).toNat &&& (15 : Int).toNat = c.toNat % 2 ^ 4 := by
    rw [show (15 : Int).toNat = 2 ^ 4 - 1 from rfl, Nat.and_two_pow_sub_one_eq_mod]; rfl
  rw [this]; omega

end Go.Proofs.YtgimjfffdnopiaaDoor
