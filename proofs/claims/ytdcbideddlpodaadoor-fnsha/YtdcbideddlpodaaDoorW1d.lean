/- Contracts: digits read (l01 Unhex, both sides). -/
import Derived.Test.YtdcbideddlpodaaDoorOwn
import Derived.Test.YtdcbideddlpodaaDoorPlainA
namespace Go.Proofs.YtdcbideddlpodaaDoor
open Go.ChangeShapes Go.WideShapes Go.ChangeAt Go.RowKit

theorem ret_sb {a b : ByteArray} {x y : Bool} (h : a = b) (k : x = y) : Ending.returned (.tuple #[.string a, .bool x]) = .returned (.tuple #[.string b, .bool y]) := by rw [h, k]

theorem pair_cells {x y : Int} {c : UInt8} (h : x % 256 = (c.toNat : Int)) (hy : y = x % 256) : (#[Value.int .u8 y] : Array Value).toList = [c].map bc := by rw [hy, h]; rfl

/-- What the walk holds of the digits that were read so far. -/
def UnSo (s : ByteArray) (k : Nat) (l : List UInt8) : Prop := k ≤ s.size ∧ k % 2 = 0 ∧ 2 * l.length = k ∧ unhexL s.data.toList = (unhexL (s.data.toList.drop k)).map (l ++ ·)
theorem UnSo.start (s : ByteArray) : UnSo s 0 [] := ⟨Nat.zero_le _, rfl, rfl, by cases h : unhexL s.data.toList <;> simp [h]⟩
theorem UnSo.step {s : ByteArray} {k : Nat} {l : List UInt8} (h : UnSo s k l) (hk : k + 1 < s.size) (hc : 0 ≤ digV s[k]) (hd : 0 ≤ digV s[k + 1]) : UnSo s (k + 2) (l ++ [pairB s[k] s[k + 1]]) :=
  ⟨by omega, by have := h.2.1; omega, by have := h.2.2.1; simp; omega, unhexL_step s k l hk hc hd h.2.2.2⟩
theorem UnSo.bad {s : ByteArray} {k : Nat} {l : List UInt8} (h : UnSo s k l) (hk : k + 1 < s.size) (hc : digV s[k] < 0 ∨ digV s[k + 1] < 0) : unhexL s.data.toList = none := unhexL_bad s k l hk hc h.2.2.2
theorem UnSo.done {s : ByteArray} {k : Nat} {l : List UInt8} (h : UnSo s k l) (hk : s.size ≤ k) : unhexL s.data.toList = some l := unhexL_end s k l hk h.2.2.2

theorem un_none {s : ByteArray} (h : unV s = none) : (⟨#[]⟩ : ByteArray) = unS s ∧ false = (unV s).isSome := by simp [unS, h]
theorem un_some {s : ByteArray} {l : List UInt8} (h : unV s = some l) : (⟨l.toArray⟩ : ByteArray) = unS s ∧ true = (unV s).isSome := by simp [unS, h]

theorem digitValue_any (c : UInt8) (w : World) :
    Calls Tryd.prog 44 #[.int .u8 (c.toNat : Int)] w fun e w' => e = .returned (.int .i64 (digV c)) ∧ w = w' := by
  have hlt : c.toNat < 256 := c.toNat_lt
  by_cases h1 : 48 ≤ (c.toNat : Int)
  · by_cases h2 : (c.toNat : Int) ≤ 57
    · have HD : Hid (digV c = (c.toNat : Int) - 48) := Lib.hid (by rw [digV, if_pos ⟨h1, h2⟩])
      go_enter Tryd.func44, Tryd.ntmps44
      go_wp2
      go_ret
      exact ⟨ret_int HD.out.symm, rfl⟩
    · by_cases h3 : 97 ≤ (c.toNat : Int)
      · by_cases h4 : (c.toNat : Int) ≤ 102
        · have HD : Hid (digV c = (c.toNat : Int) - 97 + 10) := Lib.hid (by rw [digV, if_neg (by omega), if_pos ⟨h3, h4⟩]; omega)
          go_enter Tryd.func44, Tryd.ntmps44
          go_wp2
          go_ret
          exact ⟨ret_int HD.out.symm, rfl⟩
        · have HD : Hid (digV c = -1) := Lib.hid (by rw [digV, if_neg (by omega), if_neg (by omega)])
          go_enter Tryd.func44, Tryd.ntmps44
          go_wp2
          go_ret
          exact ⟨ret_int HD.out.symm, rfl⟩
      · have HD : Hid (digV c = -1) := Lib.hid (by rw [digV, if_neg (by omega), if_neg (by omega)])
        go_enter Tryd.func44, Tryd.ntmps44
        go_wp2
        go_ret
        exact ⟨ret_int HD.out.symm, rfl⟩
  · have HD : Hid (digV c = -1) := Lib.hid (by rw [digV, if_neg (by omega), if_neg (by omega)])
    go_enter Tryd.func44, Tryd.ntmps44
    go_wp2
    go_ret
    exact ⟨ret_int HD.out.symm, rfl⟩

set_option maxHeartbeats 1600000 in
theorem implUnhex_any (s : ByteArray) (w : World) (hs : s.size ≤ maxLen) :
    Calls Tryd.prog 20 #[.string s] w fun e w' => e = .returned (.tuple #[.string (unS s), .bool (unV s).isSome]) ∧ Below w.heap.size w w' := by
  unfold maxLen at hs
  by_cases h8 : s.size ≤ 8000
  · by_cases h2 : s.size % 2 = 0
    · have hd2 : ((s.size : Int) % 2 != 0) = false := by simp; omega
      have HV : Hid (unV s = unhexL s.data.toList) := Lib.hid (by rw [unV, if_pos ⟨h2, h8⟩])
      have H2 := Lib.hid h2
      clear h2
      go_enter Tryd.func20, Tryd.ntmps20
      go_wp2_with (at_make; refine wpList_makeB rfl _ _ rfl w.heap.size .i64 .i64 _ rfl rfl (by omega) (by omega) (Nat.le_refl _) ?_; intro v0 w0 hown0 hb0)
      go_loopw [4, 5] (fun v i wr => ∃ (k : Nat) (l : List UInt8), k ≤ s.size ∧ i = .int .i64 k ∧ UnSo s k l ∧ OwnB wr w.heap.size v l ∧ Below w.heap.size w wr)
        (fun _ i _ => s.size - (intOf i).toNat)
      case atStart =>
        exact ⟨0, [], Nat.zero_le _, rfl, UnSo.start s, hown0, hb0⟩
      case round =>
        obtain ⟨k, l, hk, rfl, hso, hown, hbel⟩ := hrel
        clear hown0 hb0
        by_cases hlt : k < s.size
        · have hk1 : k + 1 < s.size := by have := hso.2.1; have := H2.out; omega
          have hll : l.length ≤ 4000 := by have := hso.2.2.1; omega
          have hsz := hbel.size
          have b1 := digV_bd s[k]
          have b2 := digV_bd s[k + 1]
          have ki : (k : Int) + 1 < (s.size : Int) := by omega
          have ki0 : (0 : Int) ≤ (k : Int) + 1 := by omega
          have kw : IntKind.i64.wrap ((k : Int) + 1) = (k : Int) + 1 := IntWalk.i64_in _ (by omega)
          have kt : ((k : Int) + 1).toNat = k + 1 := by omega
          by_cases hc : digV s[k] < 0
          · go_wp2
            go_quiet ((go_at_call 44; exact quiet_same (digitValue_any _ _)))
            go_wp2
            go_ret2
            have hn := un_none (HV.out.trans (hso.bad hk1 (.inl hc)))
            exact ⟨ret_sb hn.1 hn.2, below_drewN hbel _⟩
          · by_cases hd : digV s[k + 1] < 0
            · go_wp2
              go_quiet ((go_at_call 44; exact quiet_same (digitValue_any _ _)))
              go_wp2
              go_ret2
              have hn := un_none (HV.out.trans (hso.bad hk1 (.inr hd)))
              exact ⟨ret_sb hn.1 hn.2, below_drewN hbel _⟩
            · have hp := pair_mul s[k] s[k + 1] (by omega) (by omega)
              have ho := or_pair (digV s[k]) (digV s[k + 1]) (by omega) (by omega) (by omega) (by omega)
              have HP := Lib.hid hp
              clear hp
              go_wp2
              go_quiet ((go_at_call 44; exact quiet_same (digitValue_any _ _)))
              go_wp2_with (at_builtin; refine wpList_appB rfl (.tmp 42) (.tmp 48) rfl w.heap.size _ _ rfl ((hown.drewN nq).alloc _) wr.heap.size 1 _ _ [pairB s[k] s[k + 1]] rfl (heap_alloc_new (wr.drewN nq) _) (pair_cells HP.out (by omega)) rfl (by decide) (by omega) (by simp; omega) ?_; intro v1 w1 hown1 hb1)
              have hso1 := hso.step hk1 (by omega) (by omega)
              have hb2 := ((below_drewN hbel nq).alloc hsz _).trans hb1
              clear hb1 hown hso ho
              go_wp2
              go_roundw
              case rel => exact ⟨k + 2, _, by omega, by go_num, hso1, hown1, hb2⟩
              case measure => simp [intOf]; omega
        · have hc := conv_ownB hown
          go_wp2
          go_ret2
          have hn := un_some (HV.out.trans (hso.done (by omega)))
          exact ⟨ret_sb hn.1 hn.2, hbel⟩
    · have hd2 : ((s.size : Int) % 2 != 0) = true := by simp; omega
      have HV : Hid (unV s = none) := Lib.hid (by rw [unV, if_neg (by omega)])
      clear h2
      go_enter Tryd.func20, Tryd.ntmps20
      go_wp2
      go_ret2
      exact ⟨ret_sb (un_none HV.out).1 (un_none HV.out).2, Below.refl _ _⟩
  · have HV : Hid (unV s = none) := Lib.hid (by rw [unV, if_neg (by omega)])
    go_enter Tryd.func20, Tryd.ntmps20
    go_wp2
    go_ret2
    exact ⟨ret_sb (un_none HV.out).1 (un_none HV.out).2, Below.refl _ _⟩
end Go.Proofs.YtdcbideddlpodaaDoor
