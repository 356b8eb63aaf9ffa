/- Walks of the laws FnNumbers, FnOneAndNone, FnSquares. -/
import Derived.Test.YtijoancnlpkcoabW3h
import Derived.Test.YtijoancnlpkcoabDraw6
namespace Go.Proofs.Ytijoancnlpkcoab
open Go.ChangeShapes Go.WideShapes Go.ChangeAt Go.RowKit
set_option linter.unusedVariables false

theorem str_some (a : ByteArray) (h : a.size ≠ 0) : a.toList.isEmpty = false := by
  cases hl : a.toList with
  | nil => exact absurd ((str_empty a).1 hl) h
  | cons _ _ => rfl
theorem small_max3 {n : Nat} (h : n ≤ 1000000) : n ≤ maxLen := by unfold maxLen; omega
theorem txtR_max (v : Nat) : (txtR v).size ≤ maxLen := by rw [txtR_size]; exact small_max3 (by decide)
theorem val_txtR {v : Nat} (h : v < prm) : leNat (txtR v).data.toList = v := by
  show leNat (leBy 17 v) = v
  rw [leNat_leBy]
  exact Nat.mod_eq_of_lt (Nat.lt_trans h (by decide +kernel))
theorem okR_txtR {v : Nat} (h : v < prm) : okR (txtR v) = true := by
  unfold okR; rw [val_txtR h, txtR_size]; simp [h]
theorem okR_form {s : ByteArray} (h : okR s = true) : ∃ v, v < prm ∧ s = txtR v := by
  obtain ⟨h17, hv⟩ := okR_lt h
  refine ⟨leNat s.data.toList, hv, ?_⟩
  have hsl : s.data.toList.length = 17 := by simpa using h17
  have hback := leBy_leNat s.data.toList
  rw [hsl] at hback
  unfold txtR; rw [hback]
theorem mulR_txtR {u v : Nat} (hu : u < prm) (hv : v < prm) : mulR (txtR u) (txtR v) = txtR (u * v % prm) := by
  unfold mulR; rw [if_pos ⟨okR_txtR hu, okR_txtR hv⟩, val_txtR hu, val_txtR hv]
theorem addR_txtR {u v : Nat} (hu : u < prm) (hv : v < prm) : addR (txtR u) (txtR v) = txtR ((u + v) % prm) := by
  unfold addR; rw [if_pos ⟨okR_txtR hu, okR_txtR hv⟩, val_txtR hu, val_txtR hv]
theorem implMulT {u v z : Nat} (hu : u < prm) (hv : v < prm) (hz : u * v % prm = z) (w : World) :
    Calls Try.prog 14 #[.string (txtR u), .string (txtR v)] w fun e w' => e = .returned (.string (txtR z)) ∧ Below w.heap.size w w' := by
  have h := implNumMul_any (txtR u) (txtR v) w (txtR_max u) (txtR_max v)
  rw [mulR_txtR hu hv, hz] at h; exact h
theorem implAddT {u v z : Nat} (hu : u < prm) (hv : v < prm) (hz : (u + v) % prm = z) (w : World) :
    Calls Try.prog 16 #[.string (txtR u), .string (txtR v)] w fun e w' => e = .returned (.string (txtR z)) ∧ Below w.heap.size w w' := by
  have h := implNumAdd_any (txtR u) (txtR v) w (txtR_max u) (txtR_max v)
  rw [addR_txtR hu hv, hz] at h; exact h
theorem specMulT {u v z : Nat} (hu : u < prm) (hv : v < prm) (hz : u * v % prm = z) (w : World) :
    Calls Try.prog 15 #[.string (txtR u), .string (txtR v)] w fun e w' => e = .returned (.string (txtR z)) ∧ Below w.heap.size w w' := by
  have h := specNumMul_any (txtR u) (txtR v) w (txtR_max u) (txtR_max v)
  rw [mulR_txtR hu hv, hz] at h; exact h
theorem implOkT {u : Nat} (hu : u < prm) (w : World) :
    Calls Try.prog 18 #[.string (txtR u)] w fun e w' => e = .returned (.bool true) ∧ Below w.heap.size w w' := by
  have h := implNumOk_any (txtR u) w (txtR_max u)
  rw [okR_txtR hu] at h; exact h
theorem specOkT {u : Nat} (hu : u < prm) (w : World) :
    Calls Try.prog 19 #[.string (txtR u)] w fun e w' => e = .returned (.bool true) ∧ Below w.heap.size w w' := by
  have h := specNumOk_any (txtR u) w (txtR_max u)
  rw [okR_txtR hu] at h; exact h
theorem implOkB {s : ByteArray} {b : Bool} (hb : Hid (b = okR s)) (hs : s.size ≤ 17) (w : World) :
    Calls Try.prog 18 #[.string s] w fun e w' => e = .returned (.bool b) ∧ Below w.heap.size w w' := by
  have h := implNumOk_any s w (small_max3 (by omega))
  rw [← hb.out] at h; exact h
theorem specOkB {s : ByteArray} {b : Bool} (hb : Hid (b = okR s)) (hs : s.size ≤ 17) (w : World) :
    Calls Try.prog 19 #[.string s] w fun e w' => e = .returned (.bool b) ∧ Below w.heap.size w w' := by
  have h := specNumOk_any s w (small_max3 (by omega))
  rw [← hb.out] at h; exact h
theorem mod_lt_prm (x : Nat) : x % prm < prm := Nat.mod_lt _ prm_pos
theorem mulAss (u v t : Nat) : u * (v * t % prm) % prm = u * v % prm * t % prm := by
  rw [Nat.mul_mod, Nat.mod_mod, ← Nat.mul_mod, Nat.mul_mod (u * v % prm), Nat.mod_mod, ← Nat.mul_mod, Nat.mul_assoc]
theorem addAss (u v t : Nat) : (u + (v + t) % prm) % prm = ((u + v) % prm + t) % prm := by
  rw [Nat.add_mod_mod, Nat.mod_add_mod, Nat.add_assoc]
theorem distR (u v t : Nat) : (u * t % prm + v * t % prm) % prm = (u + v) % prm * t % prm := by
  rw [← Nat.add_mod, Nat.mul_mod ((u + v) % prm), Nat.mod_mod, ← Nat.mul_mod, Nat.add_mul]
theorem squR (u v : Nat) : ((u * u % prm + (u * v % prm + u * v % prm) % prm) % prm + v * v % prm) % prm = (u + v) % prm * ((u + v) % prm) % prm := by
  rw [Nat.add_mod_mod, Nat.mod_add_mod, Nat.add_mod_mod, ← Nat.mul_mod]
  have e : (u + v) * (u + v) = u * u + (u * v + u * v) + v * v := by
    rw [Nat.add_mul, Nat.mul_add, Nat.mul_add, Nat.mul_comm v u]; omega
  rw [e, Nat.add_mod (u * u + (u * v + u * v)) (v * v), Nat.add_mod (u * u) (u * v + u * v), Nat.add_mod (u * v) (u * v)]
  simp only [Nat.add_mod, Nat.mod_mod]

set_option maxRecDepth 100000 in
set_option maxHeartbeats 3200000 in
theorem walk_FnNumbers (a : Option Addr) (len cap : Nat) (z : List Int) (w : World) (h : IsRow .u8 w a len cap z) :
    Calls Try.prog 3 #[.slice a len cap] w fun e w' => e = .returned (.bool true) ∧ Below w.heap.size w w' := by
  have hcd := Cd.of_row h
  obtain ⟨cv, hcv⟩ : ∃ cv : Value, cv = .slice a len cap := ⟨_, rfl⟩
  rw [← hcv] at hcd ⊢
  clear h hcv
  go_enter Try.func3, Try.ntmps3
  go_wp2_with fail
  refine (big_any _ cv _ hcd).mono ?_
  rintro e w1 ⟨⟨b, rfl⟩, rfl⟩
  cases b with
  | true =>
    go_wp2
    go_ret
    exact ⟨rfl, Below.refl _ _⟩
  | false =>
    go_wp2_with fail
    refine (drawNumMul_any _ cv _ hcd).mono ?_
    rintro e v1 ⟨s, t, rfl, hs, ht, hd1⟩
    have hcd1 := hcd.below hd1
    go_wp2_with fail
    refine (drawNumOk_any _ cv _ hcd1).mono ?_
    rintro e v2 ⟨c, rfl, hc, hd2⟩
    have hd02 := hd1.trans (hd2.mono hd1.size)
    have hcd2 := hcd.below hd02
    clear hd1 hd2 hcd1
    go_wp2_with fail
    refine (drawNumAdd_any _ cv _ hcd2).mono ?_
    rintro e v3 ⟨x, y, rfl, hx, hy, hd3⟩
    have hbd := hd02.trans (hd3.mono hd02.size)
    clear hd02 hd3 hcd2 hcd
    obtain ⟨A, hA⟩ : ∃ A, A = okR s := ⟨_, rfl⟩
    obtain ⟨B, hB⟩ : ∃ B, B = okR t := ⟨_, rfl⟩
    obtain ⟨C, hC⟩ : ∃ C, C = okR c := ⟨_, rfl⟩
    have HA := Lib.hid hA
    have HB := Lib.hid hB
    have HC := Lib.hid hC
    clear hA hB hC
    cases A with
    | false =>
      cases C with
      | false =>
        go_wp2_with fail
        refine (implNumMul_any s t _ (small_max3 (by omega)) (small_max3 (by omega))).mono ?_
        rintro e w1 ⟨rfl, hb1⟩
        have hc1 := hbd.trans (hb1.mono hbd.size)
        clear hb1
        go_wp2_with fail
        refine (specNumMul_any s t _ (small_max3 (by omega)) (small_max3 (by omega))).mono ?_
        rintro e w2 ⟨rfl, hb2⟩
        have hc2 := hc1.trans (hb2.mono hc1.size)
        clear hc1 hb2
        go_wp2_with fail
        refine (implNumAdd_any x y _ (small_max3 (by omega)) (small_max3 (by omega))).mono ?_
        rintro e w3 ⟨rfl, hb3⟩
        have hc3 := hc2.trans (hb3.mono hc2.size)
        clear hc2 hb3
        go_wp2_with fail
        refine (specNumAdd_any x y _ (small_max3 (by omega)) (small_max3 (by omega))).mono ?_
        rintro e w4 ⟨rfl, hb4⟩
        have hc4 := hc3.trans (hb4.mono hc3.size)
        clear hc3 hb4
        go_wp2_with fail
        refine (implOkB HC hc _).mono ?_
        rintro e w5 ⟨rfl, hb5⟩
        have hc5 := hc4.trans (hb5.mono hc4.size)
        clear hc4 hb5
        go_wp2_with fail
        refine (specOkB HC hc _).mono ?_
        rintro e w6 ⟨rfl, hb6⟩
        have hc6 := hc5.trans (hb6.mono hc5.size)
        clear hc5 hb6
        go_wp2_with fail
        refine (specOkB HA hs _).mono ?_
        rintro e w7 ⟨rfl, hb7⟩
        have hc7 := hc6.trans (hb7.mono hc6.size)
        clear hc6 hb7
        go_wp2
        go_ret
        exact ⟨rfl, hc7⟩
      | true =>
        go_wp2_with fail
        refine (implNumMul_any s t _ (small_max3 (by omega)) (small_max3 (by omega))).mono ?_
        rintro e w1 ⟨rfl, hb1⟩
        have hc1 := hbd.trans (hb1.mono hbd.size)
        clear hb1
        go_wp2_with fail
        refine (specNumMul_any s t _ (small_max3 (by omega)) (small_max3 (by omega))).mono ?_
        rintro e w2 ⟨rfl, hb2⟩
        have hc2 := hc1.trans (hb2.mono hc1.size)
        clear hc1 hb2
        go_wp2_with fail
        refine (implNumAdd_any x y _ (small_max3 (by omega)) (small_max3 (by omega))).mono ?_
        rintro e w3 ⟨rfl, hb3⟩
        have hc3 := hc2.trans (hb3.mono hc2.size)
        clear hc2 hb3
        go_wp2_with fail
        refine (specNumAdd_any x y _ (small_max3 (by omega)) (small_max3 (by omega))).mono ?_
        rintro e w4 ⟨rfl, hb4⟩
        have hc4 := hc3.trans (hb4.mono hc3.size)
        clear hc3 hb4
        go_wp2_with fail
        refine (implOkB HC hc _).mono ?_
        rintro e w5 ⟨rfl, hb5⟩
        have hc5 := hc4.trans (hb5.mono hc4.size)
        clear hc4 hb5
        go_wp2_with fail
        refine (specOkB HC hc _).mono ?_
        rintro e w6 ⟨rfl, hb6⟩
        have hc6 := hc5.trans (hb6.mono hc5.size)
        clear hc5 hb6
        go_wp2_with fail
        refine (specOkB HA hs _).mono ?_
        rintro e w7 ⟨rfl, hb7⟩
        have hc7 := hc6.trans (hb7.mono hc6.size)
        clear hc6 hb7
        go_wp2
        go_ret
        exact ⟨rfl, hc7⟩
    | true =>
      cases B with
      | false =>
        cases C with
        | false =>
          go_wp2_with fail
          refine (implNumMul_any s t _ (small_max3 (by omega)) (small_max3 (by omega))).mono ?_
          rintro e w1 ⟨rfl, hb1⟩
          have hc1 := hbd.trans (hb1.mono hbd.size)
          clear hb1
          go_wp2_with fail
          refine (specNumMul_any s t _ (small_max3 (by omega)) (small_max3 (by omega))).mono ?_
          rintro e w2 ⟨rfl, hb2⟩
          have hc2 := hc1.trans (hb2.mono hc1.size)
          clear hc1 hb2
          go_wp2_with fail
          refine (implNumAdd_any x y _ (small_max3 (by omega)) (small_max3 (by omega))).mono ?_
          rintro e w3 ⟨rfl, hb3⟩
          have hc3 := hc2.trans (hb3.mono hc2.size)
          clear hc2 hb3
          go_wp2_with fail
          refine (specNumAdd_any x y _ (small_max3 (by omega)) (small_max3 (by omega))).mono ?_
          rintro e w4 ⟨rfl, hb4⟩
          have hc4 := hc3.trans (hb4.mono hc3.size)
          clear hc3 hb4
          go_wp2_with fail
          refine (implOkB HC hc _).mono ?_
          rintro e w5 ⟨rfl, hb5⟩
          have hc5 := hc4.trans (hb5.mono hc4.size)
          clear hc4 hb5
          go_wp2_with fail
          refine (specOkB HC hc _).mono ?_
          rintro e w6 ⟨rfl, hb6⟩
          have hc6 := hc5.trans (hb6.mono hc5.size)
          clear hc5 hb6
          go_wp2_with fail
          refine (specOkB HA hs _).mono ?_
          rintro e w7 ⟨rfl, hb7⟩
          have hc7 := hc6.trans (hb7.mono hc6.size)
          clear hc6 hb7
          go_wp2_with fail
          refine (specOkB HB ht _).mono ?_
          rintro e w8 ⟨rfl, hb8⟩
          have hc8 := hc7.trans (hb8.mono hc7.size)
          clear hc7 hb8
          go_wp2
          go_ret
          exact ⟨rfl, hc8⟩
        | true =>
          go_wp2_with fail
          refine (implNumMul_any s t _ (small_max3 (by omega)) (small_max3 (by omega))).mono ?_
          rintro e w1 ⟨rfl, hb1⟩
          have hc1 := hbd.trans (hb1.mono hbd.size)
          clear hb1
          go_wp2_with fail
          refine (specNumMul_any s t _ (small_max3 (by omega)) (small_max3 (by omega))).mono ?_
          rintro e w2 ⟨rfl, hb2⟩
          have hc2 := hc1.trans (hb2.mono hc1.size)
          clear hc1 hb2
          go_wp2_with fail
          refine (implNumAdd_any x y _ (small_max3 (by omega)) (small_max3 (by omega))).mono ?_
          rintro e w3 ⟨rfl, hb3⟩
          have hc3 := hc2.trans (hb3.mono hc2.size)
          clear hc2 hb3
          go_wp2_with fail
          refine (specNumAdd_any x y _ (small_max3 (by omega)) (small_max3 (by omega))).mono ?_
          rintro e w4 ⟨rfl, hb4⟩
          have hc4 := hc3.trans (hb4.mono hc3.size)
          clear hc3 hb4
          go_wp2_with fail
          refine (implOkB HC hc _).mono ?_
          rintro e w5 ⟨rfl, hb5⟩
          have hc5 := hc4.trans (hb5.mono hc4.size)
          clear hc4 hb5
          go_wp2_with fail
          refine (specOkB HC hc _).mono ?_
          rintro e w6 ⟨rfl, hb6⟩
          have hc6 := hc5.trans (hb6.mono hc5.size)
          clear hc5 hb6
          go_wp2_with fail
          refine (specOkB HA hs _).mono ?_
          rintro e w7 ⟨rfl, hb7⟩
          have hc7 := hc6.trans (hb7.mono hc6.size)
          clear hc6 hb7
          go_wp2_with fail
          refine (specOkB HB ht _).mono ?_
          rintro e w8 ⟨rfl, hb8⟩
          have hc8 := hc7.trans (hb8.mono hc7.size)
          clear hc7 hb8
          go_wp2
          go_ret
          exact ⟨rfl, hc8⟩
      | true =>
        cases C with
        | false =>
          go_wp2_with fail
          refine (implNumMul_any s t _ (small_max3 (by omega)) (small_max3 (by omega))).mono ?_
          rintro e w1 ⟨rfl, hb1⟩
          have hc1 := hbd.trans (hb1.mono hbd.size)
          clear hb1
          go_wp2_with fail
          refine (specNumMul_any s t _ (small_max3 (by omega)) (small_max3 (by omega))).mono ?_
          rintro e w2 ⟨rfl, hb2⟩
          have hc2 := hc1.trans (hb2.mono hc1.size)
          clear hc1 hb2
          go_wp2_with fail
          refine (implNumAdd_any x y _ (small_max3 (by omega)) (small_max3 (by omega))).mono ?_
          rintro e w3 ⟨rfl, hb3⟩
          have hc3 := hc2.trans (hb3.mono hc2.size)
          clear hc2 hb3
          go_wp2_with fail
          refine (specNumAdd_any x y _ (small_max3 (by omega)) (small_max3 (by omega))).mono ?_
          rintro e w4 ⟨rfl, hb4⟩
          have hc4 := hc3.trans (hb4.mono hc3.size)
          clear hc3 hb4
          go_wp2_with fail
          refine (implOkB HC hc _).mono ?_
          rintro e w5 ⟨rfl, hb5⟩
          have hc5 := hc4.trans (hb5.mono hc4.size)
          clear hc4 hb5
          go_wp2_with fail
          refine (specOkB HC hc _).mono ?_
          rintro e w6 ⟨rfl, hb6⟩
          have hc6 := hc5.trans (hb6.mono hc5.size)
          clear hc5 hb6
          go_wp2_with fail
          refine (specOkB HA hs _).mono ?_
          rintro e w7 ⟨rfl, hb7⟩
          have hc7 := hc6.trans (hb7.mono hc6.size)
          clear hc6 hb7
          go_wp2_with fail
          refine (specOkB HB ht _).mono ?_
          rintro e w8 ⟨rfl, hb8⟩
          have hc8 := hc7.trans (hb8.mono hc7.size)
          clear hc7 hb8
          go_wp2_with fail
          refine (specOkB HC hc _).mono ?_
          rintro e w9 ⟨rfl, hb9⟩
          have hc9 := hc8.trans (hb9.mono hc8.size)
          clear hc8 hb9
          go_wp2
          go_ret
          exact ⟨rfl, hc9⟩
        | true =>
          obtain ⟨u, hu, rfl⟩ := okR_form HA.out.symm
          obtain ⟨v, hv, rfl⟩ := okR_form HB.out.symm
          obtain ⟨t, htp, rfl⟩ := okR_form HC.out.symm
          obtain ⟨P, hP⟩ : ∃ n, n = u * v % prm := ⟨_, rfl⟩
          have lP : P < prm := by rw [hP]; exact mod_lt_prm _
          obtain ⟨S, hS⟩ : ∃ n, n = (u + v) % prm := ⟨_, rfl⟩
          have lS : S < prm := by rw [hS]; exact mod_lt_prm _
          obtain ⟨R, hR⟩ : ∃ n, n = v * t % prm := ⟨_, rfl⟩
          have lR : R < prm := by rw [hR]; exact mod_lt_prm _
          obtain ⟨Q, hQ⟩ : ∃ n, n = u * v % prm * t % prm := ⟨_, rfl⟩
          have lQ : Q < prm := by rw [hQ]; exact mod_lt_prm _
          obtain ⟨U, hU⟩ : ∃ n, n = (v + t) % prm := ⟨_, rfl⟩
          have lU : U < prm := by rw [hU]; exact mod_lt_prm _
          obtain ⟨T, hT⟩ : ∃ n, n = ((u + v) % prm + t) % prm := ⟨_, rfl⟩
          have lT : T < prm := by rw [hT]; exact mod_lt_prm _
          obtain ⟨X, hX⟩ : ∃ n, n = u * t % prm := ⟨_, rfl⟩
          have lX : X < prm := by rw [hX]; exact mod_lt_prm _
          obtain ⟨V, hV⟩ : ∃ n, n = (u + v) % prm * t % prm := ⟨_, rfl⟩
          have lV : V < prm := by rw [hV]; exact mod_lt_prm _
          have e1 := Lib.hid (show u * v % prm = P from hP.symm)
          have e2 := Lib.hid (show (u + v) % prm = S from hS.symm)
          have e3 := Lib.hid (show v * u % prm = P by rw [hP, Nat.mul_comm])
          have e4 := Lib.hid (show (v + u) % prm = S by rw [hS, Nat.add_comm])
          have e5 := Lib.hid (show P * t % prm = Q by rw [hP, hQ])
          have e6 := Lib.hid (show v * t % prm = R from hR.symm)
          have e7 := Lib.hid (show u * R % prm = Q by rw [hR, hQ, mulAss])
          have e8 := Lib.hid (show (S + t) % prm = T by rw [hS, hT])
          have e9 := Lib.hid (show (v + t) % prm = U from hU.symm)
          have e10 := Lib.hid (show (u + U) % prm = T by rw [hU, hT, addAss])
          have e11 := Lib.hid (show S * t % prm = V by rw [hS, hV])
          have e12 := Lib.hid (show u * t % prm = X from hX.symm)
          have e13 := Lib.hid (show (X + R) % prm = V by rw [hX, hR, hV, distR])
          clear hP hS hR hQ hU hT hX hV HA HB
          go_wp2_with fail
          refine (implMulT hu hv e1.out _).mono ?_
          rintro e w1 ⟨rfl, hb1⟩
          have hc1 := hbd.trans (hb1.mono hbd.size)
          clear hb1
          go_wp2_with fail
          refine (specMulT hu hv e1.out _).mono ?_
          rintro e w2 ⟨rfl, hb2⟩
          have hc2 := hc1.trans (hb2.mono hc1.size)
          clear hc1 hb2
          go_wp2_with fail
          refine (implNumAdd_any x y _ (small_max3 (by omega)) (small_max3 (by omega))).mono ?_
          rintro e w3 ⟨rfl, hb3⟩
          have hc3 := hc2.trans (hb3.mono hc2.size)
          clear hc2 hb3
          go_wp2_with fail
          refine (specNumAdd_any x y _ (small_max3 (by omega)) (small_max3 (by omega))).mono ?_
          rintro e w4 ⟨rfl, hb4⟩
          have hc4 := hc3.trans (hb4.mono hc3.size)
          clear hc3 hb4
          go_wp2_with fail
          refine (implOkT htp _).mono ?_
          rintro e w5 ⟨rfl, hb5⟩
          have hc5 := hc4.trans (hb5.mono hc4.size)
          clear hc4 hb5
          go_wp2_with fail
          refine (specOkT htp _).mono ?_
          rintro e w6 ⟨rfl, hb6⟩
          have hc6 := hc5.trans (hb6.mono hc5.size)
          clear hc5 hb6
          go_wp2_with fail
          refine (specOkT hu _).mono ?_
          rintro e w7 ⟨rfl, hb7⟩
          have hc7 := hc6.trans (hb7.mono hc6.size)
          clear hc6 hb7
          go_wp2_with fail
          refine (specOkT hv _).mono ?_
          rintro e w8 ⟨rfl, hb8⟩
          have hc8 := hc7.trans (hb8.mono hc7.size)
          clear hc7 hb8
          go_wp2_with fail
          refine (specOkT htp _).mono ?_
          rintro e w9 ⟨rfl, hb9⟩
          have hc9 := hc8.trans (hb9.mono hc8.size)
          clear hc8 hb9
          go_wp2_with fail
          refine (implMulT hu hv e1.out _).mono ?_
          rintro e w10 ⟨rfl, hb10⟩
          have hc10 := hc9.trans (hb10.mono hc9.size)
          clear hc9 hb10
          go_wp2_with fail
          refine (implAddT hu hv e2.out _).mono ?_
          rintro e w11 ⟨rfl, hb11⟩
          have hc11 := hc10.trans (hb11.mono hc10.size)
          clear hc10 hb11
          go_wp2_with fail
          refine (implOkT lP _).mono ?_
          rintro e w12 ⟨rfl, hb12⟩
          have hc12 := hc11.trans (hb12.mono hc11.size)
          clear hc11 hb12
          go_wp2_with fail
          refine (implOkT lS _).mono ?_
          rintro e w13 ⟨rfl, hb13⟩
          have hc13 := hc12.trans (hb13.mono hc12.size)
          clear hc12 hb13
          go_wp2_with fail
          refine (implMulT hv hu e3.out _).mono ?_
          rintro e w14 ⟨rfl, hb14⟩
          have hc14 := hc13.trans (hb14.mono hc13.size)
          clear hc13 hb14
          go_wp2_with fail
          refine (implAddT hv hu e4.out _).mono ?_
          rintro e w15 ⟨rfl, hb15⟩
          have hc15 := hc14.trans (hb15.mono hc14.size)
          clear hc14 hb15
          go_wp2_with fail
          refine (implMulT lP htp e5.out _).mono ?_
          rintro e w16 ⟨rfl, hb16⟩
          have hc16 := hc15.trans (hb16.mono hc15.size)
          clear hc15 hb16
          go_wp2_with fail
          refine (implMulT hv htp e6.out _).mono ?_
          rintro e w17 ⟨rfl, hb17⟩
          have hc17 := hc16.trans (hb17.mono hc16.size)
          clear hc16 hb17
          go_wp2_with fail
          refine (implMulT hu lR e7.out _).mono ?_
          rintro e w18 ⟨rfl, hb18⟩
          have hc18 := hc17.trans (hb18.mono hc17.size)
          clear hc17 hb18
          go_wp2_with fail
          refine (implAddT lS htp e8.out _).mono ?_
          rintro e w19 ⟨rfl, hb19⟩
          have hc19 := hc18.trans (hb19.mono hc18.size)
          clear hc18 hb19
          go_wp2_with fail
          refine (implAddT hv htp e9.out _).mono ?_
          rintro e w20 ⟨rfl, hb20⟩
          have hc20 := hc19.trans (hb20.mono hc19.size)
          clear hc19 hb20
          go_wp2_with fail
          refine (implAddT hu lU e10.out _).mono ?_
          rintro e w21 ⟨rfl, hb21⟩
          have hc21 := hc20.trans (hb21.mono hc20.size)
          clear hc20 hb21
          go_wp2_with fail
          refine (implMulT lS htp e11.out _).mono ?_
          rintro e w22 ⟨rfl, hb22⟩
          have hc22 := hc21.trans (hb22.mono hc21.size)
          clear hc21 hb22
          go_wp2_with fail
          refine (implMulT hu htp e12.out _).mono ?_
          rintro e w23 ⟨rfl, hb23⟩
          have hc23 := hc22.trans (hb23.mono hc22.size)
          clear hc22 hb23
          go_wp2_with fail
          refine (implMulT hv htp e6.out _).mono ?_
          rintro e w24 ⟨rfl, hb24⟩
          have hc24 := hc23.trans (hb24.mono hc23.size)
          clear hc23 hb24
          go_wp2_with fail
          refine (implAddT lX lR e13.out _).mono ?_
          rintro e w25 ⟨rfl, hb25⟩
          have hc25 := hc24.trans (hb25.mono hc24.size)
          clear hc24 hb25
          go_wp2
          go_ret
          exact ⟨rfl, hc25⟩

set_option maxRecDepth 100000 in
set_option maxHeartbeats 3200000 in
theorem walk_FnSquares (a : Option Addr) (len cap : Nat) (z : List Int) (w : World) (h : IsRow .u8 w a len cap z) :
    Calls Try.prog 5 #[.slice a len cap] w fun e w' => e = .returned (.bool true) ∧ Below w.heap.size w w' := by
  have hcd := Cd.of_row h
  obtain ⟨cv, hcv⟩ : ∃ cv : Value, cv = .slice a len cap := ⟨_, rfl⟩
  rw [← hcv] at hcd ⊢
  clear h hcv
  go_enter Try.func5, Try.ntmps5
  go_wp2_with fail
  refine (big_any _ cv _ hcd).mono ?_
  rintro e w1 ⟨⟨b, rfl⟩, rfl⟩
  cases b with
  | true =>
    go_wp2
    go_ret
    exact ⟨rfl, Below.refl _ _⟩
  | false =>
    go_wp2_with fail
    refine (drawNumMul_any _ cv _ hcd).mono ?_
    rintro e v1 ⟨s, t, rfl, hs, ht, hbd⟩
    clear hcd
    obtain ⟨A, hA⟩ : ∃ A, A = okR s := ⟨_, rfl⟩
    obtain ⟨B, hB⟩ : ∃ B, B = okR t := ⟨_, rfl⟩
    have HA := Lib.hid hA
    have HB := Lib.hid hB
    clear hA hB
    by_cases hAB : A = true ∧ B = true
    · obtain ⟨rfl, rfl⟩ := hAB
      obtain ⟨u, hu, rfl⟩ := okR_form HA.out.symm
      obtain ⟨v, hv, rfl⟩ := okR_form HB.out.symm
      obtain ⟨P, hP⟩ : ∃ n, n = u * v % prm := ⟨_, rfl⟩
      have lP : P < prm := by rw [hP]; exact mod_lt_prm _
      obtain ⟨S, hS⟩ : ∃ n, n = (u + v) % prm := ⟨_, rfl⟩
      have lS : S < prm := by rw [hS]; exact mod_lt_prm _
      obtain ⟨D, hD⟩ : ∃ n, n = (u * v % prm + u * v % prm) % prm := ⟨_, rfl⟩
      have lD : D < prm := by rw [hD]; exact mod_lt_prm _
      obtain ⟨Q, hQ⟩ : ∃ n, n = (u + v) % prm * ((u + v) % prm) % prm := ⟨_, rfl⟩
      have lQ : Q < prm := by rw [hQ]; exact mod_lt_prm _
      obtain ⟨E, hE⟩ : ∃ n, n = u * u % prm := ⟨_, rfl⟩
      have lE : E < prm := by rw [hE]; exact mod_lt_prm _
      obtain ⟨G, hG⟩ : ∃ n, n = (u * u % prm + (u * v % prm + u * v % prm) % prm) % prm := ⟨_, rfl⟩
      have lG : G < prm := by rw [hG]; exact mod_lt_prm _
      obtain ⟨K, hK⟩ : ∃ n, n = v * v % prm := ⟨_, rfl⟩
      have lK : K < prm := by rw [hK]; exact mod_lt_prm _
      have e1 := Lib.hid (show u * v % prm = P from hP.symm)
      have e2 := Lib.hid (show (u + v) % prm = S from hS.symm)
      have e3 := Lib.hid (show (P + P) % prm = D by rw [hP, hD])
      have e4 := Lib.hid (show S * S % prm = Q by rw [hS, hQ])
      have e5 := Lib.hid (show u * u % prm = E from hE.symm)
      have e6 := Lib.hid (show (E + D) % prm = G by rw [hE, hD, hG])
      have e7 := Lib.hid (show v * v % prm = K from hK.symm)
      have e8 := Lib.hid (show (G + K) % prm = Q by rw [hG, hK, hQ, squR])
      have hne : (txtR P).toList.isEmpty = false := str_some _ (by rw [txtR_size]; decide)
      have hsz : (txtR P).size = 17 := txtR_size P
      have HSZ := Lib.hid hsz
      clear hP hS hD hQ hE hG hK HA HB hsz
      go_wp2_with fail
      refine (implMulT hu hv e1.out _).mono ?_
      rintro e w1 ⟨rfl, hb1⟩
      have hc1 := hbd.trans (hb1.mono hbd.size)
      clear hb1
      go_wp2_with fail
      refine (specMulT hu hv e1.out _).mono ?_
      rintro e w2 ⟨rfl, hb2⟩
      have hc2 := hc1.trans (hb2.mono hc1.size)
      clear hc1 hb2
      go_wp2_with fail
      refine (implAddT hu hv e2.out _).mono ?_
      rintro e w3 ⟨rfl, hb3⟩
      have hc3 := hc2.trans (hb3.mono hc2.size)
      clear hc2 hb3
      go_wp2_with fail
      refine (implAddT lP lP e3.out _).mono ?_
      rintro e w4 ⟨rfl, hb4⟩
      have hc4 := hc3.trans (hb4.mono hc3.size)
      clear hc3 hb4
      go_wp2_with fail
      refine (implMulT lS lS e4.out _).mono ?_
      rintro e w5 ⟨rfl, hb5⟩
      have hc5 := hc4.trans (hb5.mono hc4.size)
      clear hc4 hb5
      go_wp2_with fail
      refine (implMulT hu hu e5.out _).mono ?_
      rintro e w6 ⟨rfl, hb6⟩
      have hc6 := hc5.trans (hb6.mono hc5.size)
      clear hc5 hb6
      go_wp2_with fail
      refine (implAddT lE lD e6.out _).mono ?_
      rintro e w7 ⟨rfl, hb7⟩
      have hc7 := hc6.trans (hb7.mono hc6.size)
      clear hc6 hb7
      go_wp2_with fail
      refine (implMulT hv hv e7.out _).mono ?_
      rintro e w8 ⟨rfl, hb8⟩
      have hc8 := hc7.trans (hb8.mono hc7.size)
      clear hc7 hb8
      go_wp2_with fail
      refine (implAddT lG lK e8.out _).mono ?_
      rintro e w9 ⟨rfl, hb9⟩
      have hc9 := hc8.trans (hb9.mono hc8.size)
      clear hc8 hb9
      go_wp2
      go_ret
      exact ⟨rfl, hc9⟩
    · have HM : Hid (mulR s t = ⟨#[]⟩) := Lib.hid (by unfold mulR; rw [← HA.out, ← HB.out, if_neg hAB])
      have i1 := implNumMul_any s t
      have i2 := specNumMul_any s t
      rw [HM.out] at i1 i2
      have I1 := Lib.hid i1
      have I2 := Lib.hid i2
      clear i1 i2 hAB HA HB
      go_wp2_with fail
      refine (I1.out _ (small_max3 (by omega)) (small_max3 (by omega))).mono ?_
      rintro e w1 ⟨rfl, hb1⟩
      have hc1 := hbd.trans (hb1.mono hbd.size)
      clear hb1
      go_wp2_with fail
      refine (I2.out _ (small_max3 (by omega)) (small_max3 (by omega))).mono ?_
      rintro e w2 ⟨rfl, hb2⟩
      have hc2 := hc1.trans (hb2.mono hc1.size)
      clear hc1 hb2
      go_wp2_with fail
      refine (I2.out _ (small_max3 (by omega)) (small_max3 (by omega))).mono ?_
      rintro e w3 ⟨rfl, hb3⟩
      have hc3 := hc2.trans (hb3.mono hc2.size)
      clear hc2 hb3
      go_wp2
      go_ret
      exact ⟨rfl, hc3⟩

end Go.Proofs.Ytijoancnlpkcoab
