/- Contracts: the day of a date, a date that there is (chapter 7), of the program. -/
import Derived.Test.YtgimjfffdnopiaaDoorW7a
namespace Go.Proofs.YtgimjfffdnopiaaDoor
open Go.ChangeShapes Go.WideShapes Go.ChangeAt Go.RowKit
set_option linter.unusedVariables false

/-- A date as a value. -/
abbrev dV (y m d : Int) : Value := .agg #[.int .i64 y, .int .i64 m, .int .i64 d]

theorem MTab.drewN {w : World} (h : MTab w) (n : Nat) : MTab (w.drewN n) := by
  obtain ⟨t, h⟩ := h
  exact ⟨t, h.drewN n⟩

set_option maxRecDepth 100000 in
set_option maxHeartbeats 1600000 in
theorem dayNumber_any (y m d : Int) (w : World) (h0 : 1970 ≤ y) (h1 : y ≤ 9999) (h2 : 1 ≤ m) (h3 : m ≤ 12) (h4 : 1 ≤ d) (h5 : d ≤ 31) (hM : MTab w) :
    Calls Tryd.prog 37 #[dV y m d] w fun e w' => e = .returned (.int .i64 (dN y m d)) ∧ Below w.heap.size w w' := by
  have HE : Hid (dN y m d = yS y + (d - 1) + mS y (m.toNat - 1)) := Lib.hid rfl
  have hb : 0 ≤ yS y ∧ yS y ≤ 3000000 := by
    have a := yS_mono 1970 y h0
    have b := yS_mono y 9999 h1
    have f := yS_first
    have g : yS 9999 ≤ 3000000 := by decide
    omega
  have HY := Lib.hid (fun w => yearStart_any y w h0 (by omega))
  generalize yS y = Y at hb HY HE
  have HM := Lib.hid (hM.alloc (.cells #[.int .i64 y, .int .i64 m, .int .i64 d] 25))
  clear hM
  go_enter Tryd.func37, Tryd.ntmps37
  go_wp2
  go_quiet ((go_at_call 43; exact quiet_same (HY.out _)))
  go_wp2
  have HB : Hid (Below w.heap.size w ((w.alloc (.cells #[.int .i64 y, .int .i64 m, .int .i64 d] 25)).drewN nq)) := Lib.hid (below_drewN ((Below.refl _ _).alloc (Nat.le_refl _) _) nq)
  have HM2 := Lib.hid (HM.out.drewN nq)
  have hcm : ((w.alloc (.cells #[.int .i64 y, .int .i64 m, .int .i64 d] 25)).drewN nq).cell? ⟨w.heap.size, 1, none⟩ = some (.int .i64 m) := by simp [go_sem]
  have hcy : ((w.alloc (.cells #[.int .i64 y, .int .i64 m, .int .i64 d] 25)).drewN nq).cell? ⟨w.heap.size, 0, none⟩ = some (.int .i64 y) := by simp [go_sem]
  generalize (w.alloc (.cells #[.int .i64 y, .int .i64 m, .int .i64 d] 25)).drewN nq = W at HB HM2 hcm hcy ⊢
  clear HM
  go_loop [3, 4] (fun a b => ∃ k : Nat, (k : Int) + 1 ≤ m ∧ b = .int .i64 ((k : Int) + 1) ∧ a = .int .i64 (Y + d - 1 + mS y k)) (fun _ b => 20 - (intOf b).toNat)
  case atStart => exact ⟨0, by omega, rfl, by simp [mS]⟩
  case round =>
    obtain ⟨k, hk, rfl, rfl⟩ := hrel
    have hs0 := mS_nn y k
    have hs1 := mS_le y k
    have hs2 := dIM_bd y ((k : Int) + 1)
    by_cases hlt : (k : Int) + 1 < m
    · have HC := Lib.hid (daysIn_any y ((k : Int) + 1) W (by omega) (by omega) (by omega) (by omega) HM2.out)
      have HS : Hid (mS y (k + 1) = mS y k + dIM y ((k : Int) + 1)) := Lib.hid rfl
      generalize mS y k = A at hs0 hs1 HS ⊢
      generalize dIM y ((k : Int) + 1) = D at hs2 HC HS
      have hk12 : k < 12 := by omega
      go_wp2_with fail
      refine HC.out.mono ?_
      rintro e w1 ⟨rfl, rfl⟩
      go_wp2
      go_round
      case rel => exact ⟨k + 1, by omega, by simp, by rw [HS.out]; congr 1; omega⟩
      case measure => simp [intOf]; omega
    · have hke : m.toNat - 1 = k := by omega
      have HE2 : Hid (Y + d - 1 + mS y k = dN y m d) := Lib.hid (by rw [HE.out, hke]; omega)
      generalize mS y k = A at hs0 hs1 HE2 ⊢
      clear hke HE
      go_wp2
      go_ret
      exact ⟨ret_int HE2.out, HB.out⟩
end Go.Proofs.YtgimjfffdnopiaaDoor
