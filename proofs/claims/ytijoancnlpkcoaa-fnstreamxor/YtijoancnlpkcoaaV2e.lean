/- Walk of the law FnStreamXor. -/
import Derived.Test.YtijoancnlpkcoaaV2d
namespace Go.Proofs.Ytijoancnlpkcoaa
open Go.ChangeShapes Go.WideShapes Go.ChangeAt Go.RowKit
set_option linter.unusedVariables false

theorem xorR_ok {a b : ByteArray} (h : a.size = b.size) (h4 : a.size ≤ 4000) : xorR a b = xorB a b := by unfold xorR; rw [if_pos ⟨h, h4⟩]
theorem xorB_size2 (a b : ByteArray) (h : a.size = b.size) : (xorB a b).size = a.size := by
  have := xorL_len a.data.toList b.data.toList (by simp; omega)
  show (xorL a.data.toList b.data.toList).toArray.size = _
  rw [List.size_toArray, this]; simp

set_option maxRecDepth 100000 in
set_option maxHeartbeats 3200000 in
theorem walk_FnStreamXor (a : Option Addr) (len cap : Nat) (z : List Int) (w : World) (h : IsRow .u8 w a len cap z) :
    Calls Try.prog 4 #[.slice a len cap] w fun e w' => e = .returned (.bool true) ∧ Below w.heap.size w w' := by
  have hcd := Cd.of_row h
  obtain ⟨cv, hcv⟩ : ∃ cv : Value, cv = .slice a len cap := ⟨_, rfl⟩
  rw [← hcv] at hcd ⊢
  clear h hcv
  go_enter Try.func4, Try.ntmps4
  go_wp2_with fail
  refine (big_any _ cv _ hcd).mono ?_
  rintro e w1 ⟨⟨b, rfl⟩, rfl⟩
  cases b with
  | true =>
    go_wp2
    go_ret
    exact ⟨rfl, Below.refl _ _⟩
  | false =>
    go_wp2_with fail
    refine (drawChaStream_any _ cv _ hcd).mono ?_
    rintro e v1 ⟨k, n, c, t, rfl, hk, hn, hc0, hc9, ht, hd1⟩
    have i1 := implChaStream_any k n c t
    have s1 := specChaStream_any k n c t
    have hss := csR_size k n c t
    obtain ⟨s, hs⟩ : ∃ s, s = csR k n c t := ⟨_, rfl⟩
    rw [← hs] at i1 s1 hss
    have I1 := Lib.hid i1
    have S1 := Lib.hid s1
    have HS := Lib.hid hs
    clear i1 s1 hs hcd
    go_wp2_with fail
    refine (I1.out _ (small_max2 (by omega)) (small_max2 (by omega)) (small_max2 (by omega))).mono ?_
    rintro e v2 ⟨rfl, hd2⟩
    have hd02 := hd1.trans (hd2.mono hd1.size)
    clear hd1 hd2
    go_wp2_with fail
    refine (S1.out _ (small_max2 (by omega)) (small_max2 (by omega)) (small_max2 (by omega))).mono ?_
    rintro e v3 ⟨rfl, hd3⟩
    have hd03 := hd02.trans (hd3.mono hd02.size)
    clear hd02 hd3
    by_cases hse : s.size = 0
    · have hse1 := str_none2 s hse
      clear hse
      go_wp2_with fail
      refine (S1.out _ (small_max2 (by omega)) (small_max2 (by omega)) (small_max2 (by omega))).mono ?_
      rintro e v4 ⟨rfl, hd4⟩
      have hd04 := hd03.trans (hd4.mono hd03.size)
      go_wp2
      go_ret
      exact ⟨rfl, hd04⟩
    · have hse1 := str_some2 s hse
      have hval : k.size = 32 ∧ n.size = 12 := by
        refine Classical.byContradiction fun hcon => hse ?_
        rw [HS.out]; unfold csR; rw [if_neg (fun h => hcon ⟨h.1, h.2.1⟩)]; rfl
      obtain ⟨hk32, hn12⟩ := hval
      have HSB : Hid (s = strB k n c t) := Lib.hid (by rw [HS.out, csR_ok hk32 hn12 hc0 (by omega) (by omega)])
      have HK32 := Lib.hid hk32
      have HN12 := Lib.hid hn12
      have HSZ : Hid (s.size = t.size) := Lib.hid (by rw [HSB.out, strB_size])
      clear hk32 hn12 hse
      go_wp2
      go_loopw [8, 9] (fun uu i wr => ∃ (j : Nat) (u : ByteArray), j ≤ t.size ∧ i = .int .i64 j ∧ uu = .string u ∧ Hid (u.size = j) ∧ Below w.heap.size w wr) (fun _ i _ => t.size - (intOf i).toNat)
      case atStart => exact ⟨0, ⟨#[]⟩, Nat.zero_le _, rfl, rfl, Lib.hid rfl, hd03⟩
      case round =>
        obtain ⟨j, u, hj, rfl, rfl, hu, hB⟩ := hrel
        clear hd03
        by_cases hlt : j < t.size
        · have hus : u.size ≤ 90 := by have := hu.out; omega
          have hj1 : j + 1 ≤ t.size := by omega
          have hes : (t.extract j (j + 1)).size = 1 := by rw [ByteArray.size_extract]; omega
          have hes' : (t.extract j (j + 1)).size ≤ 1 := by omega
          have HES := Lib.hid hes
          clear hes
          go_wp2
          go_roundw
          case rel => exact ⟨j + 1, _, by omega, by go_num, rfl, Lib.hid (by rw [ByteArray.size_append, HES.out, hu.out]; omega), hB⟩
          case measure => simp [intOf]; omega
        · have hut : t.size = u.size := by have := hu.out; omega
          have x1 := implXor_any t u
          rw [xorR_ok hut (by omega)] at x1
          have x2 := implXor_any s u
          rw [xorR_ok (by rw [HSZ.out]; exact hut) (by omega)] at x2
          have hxs := xorB_size2 t u hut
          have hxe : strB k n c (xorB t u) = xorB s u := by rw [strB_xor k n c t u hut, HSB.out]
          have i2 := implChaStream_any k n c (xorB t u)
          rw [csR_ok HK32.out HN12.out hc0 (by omega) (by rw [hxs]; omega), hxe] at i2
          obtain ⟨X, hX⟩ : ∃ X, X = xorB t u := ⟨_, rfl⟩
          obtain ⟨Y, hY⟩ : ∃ Y, Y = xorB s u := ⟨_, rfl⟩
          rw [← hX] at x1 i2 hxs
          rw [← hY] at x2 i2
          have hxs' : X.size ≤ 90 := by omega
          have hus : u.size ≤ 90 := by omega
          have X1 := Lib.hid x1
          have X2 := Lib.hid x2
          have I2 := Lib.hid i2
          clear x1 x2 i2 hX hY hxs hxe hut
          go_wp2_with fail
          refine (X1.out _ (small_max2 (by omega)) (small_max2 (by omega))).mono ?_
          rintro e y1 ⟨rfl, hb1⟩
          have hc1 := hB.trans (hb1.mono hB.size)
          clear hB hb1
          go_wp2_with fail
          refine (I2.out _ (small_max2 (by omega)) (small_max2 (by omega)) (small_max2 (by omega))).mono ?_
          rintro e y2 ⟨rfl, hb2⟩
          have hc2 := hc1.trans (hb2.mono hc1.size)
          clear hc1 hb2
          go_wp2_with fail
          refine (X2.out _ (small_max2 (by omega)) (small_max2 (by omega))).mono ?_
          rintro e y3 ⟨rfl, hb3⟩
          have hc3 := hc2.trans (hb3.mono hc2.size)
          clear hc2 hb3
          go_wp2
          go_ret
          exact ⟨rfl, hc3⟩
end Go.Proofs.Ytijoancnlpkcoaa
