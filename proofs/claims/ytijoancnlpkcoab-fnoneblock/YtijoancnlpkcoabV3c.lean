/- Walk of the law FnOneAndNone. -/
import Derived.Test.YtijoancnlpkcoabV3b
namespace Go.Proofs.Ytijoancnlpkcoab
open Go.ChangeShapes Go.WideShapes Go.ChangeAt Go.RowKit
set_option linter.unusedVariables false

theorem leBy_nought : leBy 17 0 = List.replicate 17 0 := by decide +kernel
theorem conv_none {w : World} {base : Nat} {val : Value} (h : OwnK 5 .u8 w base val (List.replicate 17 0)) : (convert 22 9 val).run Try.prog w = .ok (.string (txtR 0)) w := by
  have h' : OwnK 5 .u8 w base val (bytesL 17 0) := by rw [bytesL_zero]; exact h
  exact conv_ownK h'
theorem one_text : (⟨#[1]⟩ : ByteArray) ++ (txtR 0).extract 1 17 = txtR 1 := by
  apply ba_eq
  decide +kernel

set_option maxRecDepth 100000 in
set_option maxHeartbeats 3200000 in
theorem walk_FnOneAndNone (a : Option Addr) (len cap : Nat) (z : List Int) (w : World) (h : IsRow .u8 w a len cap z) :
    Calls Try.prog 4 #[.slice a len cap] w fun e w' => e = .returned (.bool true) ∧ Below w.heap.size w w' := by
  have hcd := Cd.of_row h
  obtain ⟨cv, hcv⟩ : ∃ cv : Value, cv = .slice a len cap := ⟨_, rfl⟩
  rw [← hcv] at hcd ⊢
  clear h hcv
  go_enter Try.func4, Try.ntmps4
  go_wp2_with fail
  refine (big_any _ cv _ hcd).mono ?_
  rintro e w1 ⟨⟨b, rfl⟩, rfl⟩
  cases b with
  | true =>
    go_wp2
    go_ret
    exact ⟨rfl, Below.refl _ _⟩
  | false =>
    go_wp2_with fail
    refine (drawNumAdd_any _ cv _ hcd).mono ?_
    rintro e v1 ⟨s, t, rfl, hs, ht, hd1⟩
    have hv1 := hd1.size
    have z0 : 0 < prm := prm_pos
    have z1 : 1 < prm := by unfold prm; decide
    obtain ⟨N0, hN0⟩ : ∃ N0, N0 = txtR 0 := ⟨_, rfl⟩
    obtain ⟨N1, hN1⟩ : ∃ N1, N1 = txtR 1 := ⟨_, rfl⟩
    have hone := one_text
    rw [← hN0, ← hN1] at hone
    have hns : N0.size = 17 := by rw [hN0]; exact txtR_size 0
    have hns' : 17 ≤ N0.size := by omega
    have hex : (N0.extract 1 17).size ≤ 16 := by rw [ByteArray.size_extract]; omega
    obtain ⟨A, hA⟩ : ∃ A, A = okR s := ⟨_, rfl⟩
    have HA := Lib.hid hA
    have HN0 := Lib.hid hN0
    have HN1 := Lib.hid hN1
    clear hA hcd hN0 hN1
    go_wp2_with (at_make; refine wpList_fullK Try.underlying22 Try.infoU8 (by decide) rfl _ _ rfl w.heap.size .i64 .i64 17 rfl rfl (by decide) hv1 ?_; intro v2 hown2 hgr2; have hbd := hd1.trans hgr2; have hcn := conv_none hown2; rw [← HN0.out] at hcn; clear hown2 hgr2 hd1)
    have o1 := implOkT z0
    have o2 := implOkT z1
    rw [← HN0.out] at o1
    rw [← HN1.out] at o2
    have O1 := Lib.hid o1
    have O2 := Lib.hid o2
    clear o1 o2 hone hns hns' hex hcn
    refine (O1.out _).mono ?_
    rintro e y1 ⟨rfl, hy1⟩
    have hz1 := hbd.trans (hy1.mono hbd.size)
    clear hbd hy1
    have hbd := hz1
    clear hz1
    cases A with
    | false =>
      go_wp2_with fail
      refine (O2.out _).mono ?_
      rintro e w1 ⟨rfl, hb1⟩
      have hc1 := hbd.trans (hb1.mono hbd.size)
      clear hb1
      go_wp2_with fail
      refine (implOkB HA hs _).mono ?_
      rintro e w2 ⟨rfl, hb2⟩
      have hc2 := hc1.trans (hb2.mono hc1.size)
      clear hc1 hb2
      go_wp2_with fail
      refine (specOkB HA hs _).mono ?_
      rintro e w3 ⟨rfl, hb3⟩
      have hc3 := hc2.trans (hb3.mono hc2.size)
      clear hc2 hb3
      go_wp2_with fail
      refine (specOkB HA hs _).mono ?_
      rintro e w4 ⟨rfl, hb4⟩
      have hc4 := hc3.trans (hb4.mono hc3.size)
      clear hc3 hb4
      go_wp2
      go_ret
      exact ⟨rfl, hc4⟩
    | true =>
      obtain ⟨u, hu, rfl⟩ := okR_form HA.out.symm
      have i1 := implAddT hu z0 (show (u + 0) % prm = u by rw [Nat.add_zero, Nat.mod_eq_of_lt hu])
      have i2 := implMulT hu z1 (show u * 1 % prm = u by rw [Nat.mul_one, Nat.mod_eq_of_lt hu])
      have i3 := implMulT z0 hu (show 0 * u % prm = 0 by rw [Nat.zero_mul, Nat.zero_mod])
      rw [← HN0.out] at i1 i3
      rw [← HN1.out] at i2
      have I1 := Lib.hid i1
      have I2 := Lib.hid i2
      have I3 := Lib.hid i3
      clear i1 i2 i3
      go_wp2_with fail
      refine (O2.out _).mono ?_
      rintro e w1 ⟨rfl, hb1⟩
      have hc1 := hbd.trans (hb1.mono hbd.size)
      clear hb1
      go_wp2_with fail
      refine (implOkT hu _).mono ?_
      rintro e w2 ⟨rfl, hb2⟩
      have hc2 := hc1.trans (hb2.mono hc1.size)
      clear hc1 hb2
      go_wp2_with fail
      refine (specOkT hu _).mono ?_
      rintro e w3 ⟨rfl, hb3⟩
      have hc3 := hc2.trans (hb3.mono hc2.size)
      clear hc2 hb3
      go_wp2_with fail
      refine (specOkT hu _).mono ?_
      rintro e w4 ⟨rfl, hb4⟩
      have hc4 := hc3.trans (hb4.mono hc3.size)
      clear hc3 hb4
      go_wp2_with fail
      refine (I1.out _).mono ?_
      rintro e w5 ⟨rfl, hb5⟩
      have hc5 := hc4.trans (hb5.mono hc4.size)
      clear hc4 hb5
      go_wp2_with fail
      refine (I2.out _).mono ?_
      rintro e w6 ⟨rfl, hb6⟩
      have hc6 := hc5.trans (hb6.mono hc5.size)
      clear hc5 hb6
      go_wp2_with fail
      refine (I3.out _).mono ?_
      rintro e w7 ⟨rfl, hb7⟩
      have hc7 := hc6.trans (hb7.mono hc6.size)
      clear hc6 hb7
      go_wp2
      go_ret
      exact ⟨rfl, hc7⟩
end Go.Proofs.Ytijoancnlpkcoab
