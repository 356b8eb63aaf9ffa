/- Walk of the law FnXor. -/
import Derived.Test.YtbjcgcjdlnoejaaW1a
import Derived.Test.YtbjcgcjdlnoejaaDraw3
import Derived.WalkLawsBesides
import Derived.Laws.DeepStrings4
namespace Go.Proofs.Ytbjcgcjdlnoejaa
open Go.ChangeShapes Go.WideShapes Go.ChangeAt Go.RowKit
set_option linter.unusedVariables false

theorem xorB_size (a b : ByteArray) (h : a.size = b.size) : (xorB a b).size = a.size := by
  have := xorL_len a.data.toList b.data.toList (by simp; omega)
  show (xorL a.data.toList b.data.toList).toArray.size = _
  rw [List.size_toArray, this]; simp
theorem xorL_comm (a b : List UInt8) : xorL a b = xorL b a := by
  unfold xorL; rw [List.zipWith_comm]; congr 1; funext x y; exact UInt8.xor_comm _ _
theorem xorL_back : ∀ (a b : List UInt8), a.length = b.length → xorL (xorL a b) b = a
  | [], [], _ => rfl
  | x :: a, y :: b, h => by
    have ih := xorL_back a b (by simpa using h)
    simp only [xorL, List.zipWith_cons_cons] at *
    rw [ih, UInt8.xor_assoc, UInt8.xor_self, UInt8.xor_zero]
theorem ba_ext {a b : ByteArray} (h : a.data.toList = b.data.toList) : a = b := by
  cases a; cases b; simp at h; simp [h]
theorem xorB_comm (a b : ByteArray) : xorB a b = xorB b a := by unfold xorB; rw [xorL_comm]
theorem xorB_back (a b : ByteArray) (h : a.size = b.size) : xorB (xorB a b) b = a := by
  apply ba_ext
  show xorL (xorL a.data.toList b.data.toList) b.data.toList = _
  exact xorL_back _ _ (by simpa using h)
theorem xorR_comm (a b : ByteArray) : xorR a b = xorR b a := by
  unfold xorR
  by_cases h : a.size = b.size ∧ a.size ≤ 4000
  · rw [if_pos h, if_pos ⟨h.1.symm, by omega⟩, xorB_comm]
  · rw [if_neg h, if_neg (by omega)]
theorem xorR_back (a b : ByteArray) (h : a.size = b.size) (h4 : a.size ≤ 4000) : xorR (xorR a b) b = a := by
  have e : xorR a b = xorB a b := by unfold xorR; rw [if_pos ⟨h, h4⟩]
  rw [e]; unfold xorR
  rw [if_pos ⟨by rw [xorB_size a b h]; exact h, by rw [xorB_size a b h]; exact h4⟩]
  exact xorB_back a b h
theorem xorR_size (a b : ByteArray) : (xorR a b).size ≤ 4000 := by
  unfold xorR; split
  · rename_i h; rw [xorB_size a b h.1]; exact h.2
  · simp [ByteArray.size]

theorem small_max {n : Nat} (h : n ≤ 1000000) : n ≤ maxLen := by unfold maxLen; omega

set_option maxHeartbeats 1600000 in
theorem walk_FnXor (a : Option Addr) (len cap : Nat) (z : List Int) (w : World) (h : IsRow .u8 w a len cap z) :
    Calls Try.prog 11 #[.slice a len cap] w fun e w' => e = .returned (.bool true) ∧ Below w.heap.size w w' := by
  have hcd := Cd.of_row h
  obtain ⟨cv, hcv⟩ : ∃ cv : Value, cv = .slice a len cap := ⟨_, rfl⟩
  rw [← hcv] at hcd ⊢
  clear h hcv
  go_enter Try.func11, Try.ntmps11
  go_wp2_with fail
  refine (big_any _ cv _ hcd).mono ?_
  rintro e w1 ⟨⟨b, rfl⟩, rfl⟩
  cases b with
  | true =>
    go_wp2
    go_ret
    exact ⟨rfl, Below.refl _ _⟩
  | false =>
    go_wp2_with fail
    refine (drawXor_any _ cv _ hcd).mono ?_
    rintro e w2 ⟨s, t, rfl, hs, ht, hb2⟩
    go_wp2_with fail
    refine (implXor_any s t _ (small_max (by omega)) (small_max (by omega))).mono ?_
    rintro e w3 ⟨rfl, hb3⟩
    have hb03 := hb2.trans (hb3.mono hb2.size)
    clear hb2 hb3
    go_wp2_with fail
    refine (specXor_any s t _ (small_max (by omega)) (small_max (by omega))).mono ?_
    rintro e w4 ⟨rfl, hb4⟩
    have hb04 := hb03.trans (hb4.mono hb03.size)
    clear hb03 hb4
    by_cases hl : s.size = t.size
    · have hd : ((s.size : Int) != (t.size : Int)) = false := by simp [hl]
      have hz := xorR_size s t
      have h1 := implXor_any (xorR s t) t
      rw [xorR_back s t hl (by omega)] at h1
      have h2 := implXor_any t s
      rw [xorR_comm t s] at h2
      have H1 := Lib.hid h1
      have H2 := Lib.hid h2
      clear hl h1 h2
      go_wp2_with fail
      refine (H1.out _ (small_max (by omega)) (small_max (by omega))).mono ?_
      rintro e w5 ⟨rfl, hb5⟩
      have hb05 := hb04.trans (hb5.mono hb04.size)
      clear hb04 hb5
      go_wp2_with fail
      refine (H2.out _ (small_max (by omega)) (small_max (by omega))).mono ?_
      rintro e w6 ⟨rfl, hb6⟩
      go_wp2
      go_ret
      exact ⟨rfl, hb05.trans (hb6.mono hb05.size)⟩
    · have hd : ((s.size : Int) != (t.size : Int)) = true := by simp; omega
      clear hl
      go_wp2_with fail
      refine (specXor_any s t _ (small_max (by omega)) (small_max (by omega))).mono ?_
      rintro e w5 ⟨rfl, hb5⟩
      go_wp2
      go_ret
      exact ⟨rfl, hb04.trans (hb5.mono hb04.size)⟩

/-- make([]byte, n) -/
theorem wpList_fullB {w : World} {ops : Array Oper} {rest : List Oper} {o : Oper} {a : Act} {Q : Exit → Act → World → Prop}
    (hg : o.guard = none) (l c : Operand) (hop : o.op = Op.makeSlice 37 l c) (base : Nat) (kl kc : IntKind) (n : Nat)
    (hl : a.eval l = .int kl n) (hc : a.eval c = .int kc n) (hn : n ≤ 1000000000) (hbase : base ≤ w.heap.size)
    (hK : ∀ w', OwnB w' base (.slice (some ⟨w.heap.size, 0, none⟩) n n) (List.replicate n 0) → Below base w w' → wpList Try.prog ops Q rest (a.put o.dst (.slice (some ⟨w.heap.size, 0, none⟩) n n)) w') :
    wpList Try.prog ops Q (o :: rest) a w := by
  refine wpList_fullK Try.underlying37 Try.infoU8 (by decide) hg l c hop base kl kc n hl hc hn hbase ?_
  intro w1 hown hb
  refine hK w1 ?_ hb
  unfold OwnB
  unfold OwnK at hown
  have e : (List.replicate n (0 : Int)).map (Value.int .u8) = (List.replicate n (0 : UInt8)).map bc := by simp [bc]
  rw [e] at hown
  simpa using hown

theorem xorL_assoc : ∀ (a b c : List UInt8), xorL (xorL a b) c = xorL a (xorL b c)
  | [], _, _ => by simp [xorL]
  | _ :: _, [], _ => by simp [xorL]
  | _ :: _, _ :: _, [] => by simp [xorL]
  | x :: a, y :: b, z :: c => by
    have ih := xorL_assoc a b c
    simp only [xorL, List.zipWith_cons_cons] at *
    rw [ih, UInt8.xor_assoc]
theorem xorL_self : ∀ (a : List UInt8), xorL a a = List.replicate a.length 0
  | [] => rfl
  | x :: a => by
    have ih := xorL_self a
    simp only [xorL, List.zipWith_cons_cons, List.length_cons, List.replicate_succ] at *
    rw [ih, UInt8.xor_self]
theorem xorL_zero : ∀ (a : List UInt8), xorL a (List.replicate a.length 0) = a
  | [] => rfl
  | x :: a => by
    have ih := xorL_zero a
    simp only [xorL, List.zipWith_cons_cons, List.length_cons, List.replicate_succ] at *
    rw [ih, UInt8.xor_zero]
def zeroB (n : Nat) : ByteArray := ⟨(List.replicate n (0 : UInt8)).toArray⟩
theorem zeroB_size (n : Nat) : (zeroB n).size = n := by show (List.toArray _).size = _; simp
theorem xorR_pos {a b : ByteArray} (h : a.size = b.size) (h4 : a.size ≤ 4000) : xorR a b = xorB a b := by unfold xorR; rw [if_pos ⟨h, h4⟩]
theorem xorR_three (a b c : ByteArray) (h1 : a.size = b.size) (h2 : b.size = c.size) (h4 : a.size ≤ 4000) : xorR (xorR a b) c = xorR a (xorR b c) := by
  rw [xorR_pos h1 h4, xorR_pos h2 (by omega)]
  have s1 := xorB_size a b h1
  have s2 := xorB_size b c h2
  rw [xorR_pos (by omega) (by omega), xorR_pos (by omega) (by omega)]
  unfold xorB
  congr 2
  exact xorL_assoc _ _ _
theorem xorR_self (a : ByteArray) (h4 : a.size ≤ 4000) : xorR a a = zeroB a.size := by
  rw [xorR_pos rfl h4]
  unfold xorB zeroB
  congr 2
  rw [xorL_self]; simp
theorem xorR_zero (a : ByteArray) (h4 : a.size ≤ 4000) : xorR a (zeroB a.size) = a := by
  rw [xorR_pos (zeroB_size _).symm h4]
  apply ba_ext
  show xorL a.data.toList (List.replicate a.size 0) = _
  have := xorL_zero a.data.toList
  simpa using this

theorem conv_zero {w : World} {base n : Nat} {v : Value} (h : OwnB w base v (List.replicate n 0)) :
    (convert 37 9 v).run Try.prog w = .ok (.string (zeroB n)) w := conv_ownB h

set_option maxHeartbeats 3200000 in
theorem walk_FnXorThree (a : Option Addr) (len cap : Nat) (z : List Int) (w : World) (h : IsRow .u8 w a len cap z) :
    Calls Try.prog 12 #[.slice a len cap] w fun e w' => e = .returned (.bool true) ∧ Below w.heap.size w w' := by
  have hcd := Cd.of_row h
  obtain ⟨cv, hcv⟩ : ∃ cv : Value, cv = .slice a len cap := ⟨_, rfl⟩
  rw [← hcv] at hcd ⊢
  clear h hcv
  go_enter Try.func12, Try.ntmps12
  go_wp2_with fail
  refine (big_any _ cv _ hcd).mono ?_
  rintro e w1 ⟨⟨b, rfl⟩, rfl⟩
  cases b with
  | true =>
    go_wp2
    go_ret
    exact ⟨rfl, Below.refl _ _⟩
  | false =>
    go_wp2_with fail
    refine (drawXor_any _ cv _ hcd).mono ?_
    rintro e w2 ⟨s, t, rfl, hs, ht, hb2⟩
    go_wp2_with fail
    refine (implXor_any s t _ (small_max (by omega)) (small_max (by omega))).mono ?_
    rintro e w3 ⟨rfl, hb3⟩
    have hb03 := hb2.trans (hb3.mono hb2.size)
    clear hb2 hb3
    go_wp2_with fail
    refine (specXor_any s t _ (small_max (by omega)) (small_max (by omega))).mono ?_
    rintro e w4 ⟨rfl, hb4⟩
    have hb04 := hb03.trans (hb4.mono hb03.size)
    clear hb03 hb4
    by_cases hl : s.size = t.size
    · have hd : ((s.size : Int) != (t.size : Int)) = false := by simp [hl]
      have HL := Lib.hid hl
      clear hl
      go_wp2
      go_loop [6, 7] (fun v i => ∃ (k : Nat) (c : ByteArray), k ≤ s.size ∧ i = .int .i64 k ∧ v = .string c ∧ Hid (c.size = k)) (fun _ i => s.size - (intOf i).toNat)
      case atStart => exact ⟨0, ⟨#[]⟩, Nat.zero_le _, rfl, rfl, Lib.hid rfl⟩
      case round =>
        obtain ⟨k, c, hk, rfl, rfl, hc⟩ := hrel
        by_cases hlt : k < s.size
        · have hcs : c.size ≤ 100 := by have := hc.out; omega
          have hcs2 : (s.extract k (k + 1) ++ c).size = k + 1 := by
            have := hc.out
            rw [ByteArray.size_append, ByteArray.size_extract]; omega
          have HS := Lib.hid hcs2
          have hex : (s.extract k (k + 1)).size ≤ 1 := by rw [ByteArray.size_extract]; omega
          clear hcs2
          go_wp2
          go_round
          case rel => exact ⟨k + 1, _, by omega, by go_num, rfl, HS⟩
          case measure => simp [intOf]; omega
        · have hks : k = s.size := by omega
          have hcs : c.size = s.size := by rw [hc.out, hks]
          have hcm : c.size ≤ maxLen := small_max (by omega)
          have h3 := xorR_three s t c HL.out (by rw [← HL.out, hcs]) (by omega)
          have i1 := implXor_any (xorR s t) c
          rw [h3] at i1
          have I1 := Lib.hid i1
          have I3 := Lib.hid (implXor_any s (xorR t c))
          have i4 := implXor_any s s
          rw [xorR_self s (by omega)] at i4
          have I4 := Lib.hid i4
          have i5 := implXor_any s (zeroB s.size)
          rw [xorR_zero s (by omega)] at i5
          have I5 := Lib.hid i5
          have z1 := xorR_size s t
          have z2 := xorR_size t c
          have z3 := zeroB_size s.size
          have Z3 : (zeroB s.size).size ≤ maxLen := small_max (by omega)
          clear hks hcs h3 i1 i4 i5 z3 hc
          go_wp2_with (refine wpList_fullB rfl (.tmp 50) (.tmp 50) rfl w.heap.size .i64 .i64 s.size rfl rfl (by omega) hb04.size ?_; intro w5 ho5 hb5; have hcv := conv_zero ho5; clear ho5)
          have hb05 := hb04.trans hb5
          clear hb04 hb5 hcv
          refine (I1.out _ (small_max (by omega)) hcm).mono ?_
          rintro e w6 ⟨rfl, hb6⟩
          have hb06 := hb05.trans (hb6.mono hb05.size)
          clear hb05 hb6 I1
          go_wp2_with fail
          refine (implXor_any t c _ (small_max (by omega)) hcm).mono ?_
          rintro e w7 ⟨rfl, hb7⟩
          have hb07 := hb06.trans (hb7.mono hb06.size)
          clear hb06 hb7
          go_wp2_with fail
          refine (I3.out _ (small_max (by omega)) (small_max (by omega))).mono ?_
          rintro e w8 ⟨rfl, hb8⟩
          have hb08 := hb07.trans (hb8.mono hb07.size)
          clear hb07 hb8 I3
          go_wp2_with fail
          refine (I4.out _ (small_max (by omega)) (small_max (by omega))).mono ?_
          rintro e w9 ⟨rfl, hb9⟩
          have hb09 := hb08.trans (hb9.mono hb08.size)
          clear hb08 hb9 I4
          go_wp2_with fail
          refine (I5.out _ (small_max (by omega)) Z3).mono ?_
          rintro e w10 ⟨rfl, hb10⟩
          have hb010 := hb09.trans (hb10.mono hb09.size)
          clear hb09 hb10 I5
          go_wp2
          go_ret
          exact ⟨rfl, hb010⟩
    · have hd : ((s.size : Int) != (t.size : Int)) = true := by simp; omega
      clear hl
      go_wp2_with fail
      refine (specXor_any s t _ (small_max (by omega)) (small_max (by omega))).mono ?_
      rintro e w5 ⟨rfl, hb5⟩
      go_wp2
      go_ret
      exact ⟨rfl, hb04.trans (hb5.mono hb04.size)⟩
end Go.Proofs.Ytbjcgcjdlnoejaa
