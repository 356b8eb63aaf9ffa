/- Joined: W7d. -/
import Derived.Test.YtgimjfffdnopiaaDoorH7
import Derived.Test.YtgimjfffdnopiaaDoorH9
/- W7d -/
namespace Go.Proofs.YtgimjfffdnopiaaDoor
open Go.ChangeShapes Go.WideShapes Go.ChangeAt Go.RowKit
set_option linter.unusedVariables false

set_option maxRecDepth 100000 in
set_option maxHeartbeats 1600000 in
theorem l7Day_any (y m d : Int) (w : World) (h0 : 1970 ≤ y) (h1 : y ≤ 2517) (h2 : 1 ≤ m) (h3 : m ≤ 12) (h4 : 1 ≤ d) (h5 : d ≤ 31) :
    Calls Tryd.prog 45 #[dV y m d] w fun e w' => e = .returned (.int .i64 (dN y m d)) ∧ Below w.heap.size w w' := by
  have HE : Hid (dN y m d = yS y + (d - 1) + mS y (m.toNat - 1)) := Lib.hid rfl
  have HB : Hid (Below w.heap.size w (w.alloc (.cells #[.int .i64 y, .int .i64 m, .int .i64 d] 25))) := Lib.hid ((Below.refl _ _).alloc (Nat.le_refl _) _)
  have hA := DAt.new w y m d
  have hcy := hA.c0
  have hcm := hA.c1
  have hcd := hA.c2
  clear hA
  go_enter Tryd.func45, Tryd.ntmps45
  go_wp2
  generalize w.alloc (.cells #[.int .i64 y, .int .i64 m, .int .i64 d] 25) = W at HB hcy hcm hcd ⊢
  go_loop [3, 4] (fun a b => ∃ z : Int, 1970 ≤ z ∧ z ≤ y ∧ b = .int .i64 z ∧ a = .int .i64 (yS z + (d - 1))) (fun _ b => 3000 - (intOf b).toNat)
  case atStart => exact ⟨1970, by omega, h0, rfl, by rw [yS_first]; simp⟩
  case round =>
    obtain ⟨z, hz0, hz1, rfl, rfl⟩ := hrel
    have hb : 0 ≤ yS z ∧ yS z ≤ 3000000 := by
      have a := yS_mono 1970 z hz0
      have b := yS_mono z 9999 (by omega)
      have f := yS_first
      have g : yS 9999 ≤ 3000000 := by decide
      omega
    by_cases hlt : z < y
    · have HS : Hid (yS (z + 1) = yS z + 365 + lpD z) := Lib.hid (yS_succ z)
      have HL := Lib.hid (fun w => l7Leap_any z w (by omega) (by omega))
      generalize yS z = Y at hb HS ⊢
      cases hl : leapB z with
      | true =>
        have hlp : lpD z = 1 := by unfold lpD; rw [if_pos hl]
        rw [hl] at HL
        rw [hlp] at HS
        clear hl hlp
        go_wp2_with fail
        refine (HL.out _).mono ?_
        rintro e w1 ⟨rfl, rfl⟩
        go_wp2
        go_round
        case rel => exact ⟨z + 1, by omega, by omega, rfl, by rw [HS.out]; congr 1; omega⟩
        case measure => simp [intOf]; omega
      | false =>
        have hlp : lpD z = 0 := by unfold lpD; rw [hl]; rfl
        rw [hl] at HL
        rw [hlp] at HS
        clear hl hlp
        go_wp2_with fail
        refine (HL.out _).mono ?_
        rintro e w1 ⟨rfl, rfl⟩
        go_wp2
        go_round
        case rel => exact ⟨z + 1, by omega, by omega, rfl, by rw [HS.out]; congr 1; omega⟩
        case measure => simp [intOf]; omega
    · obtain rfl : z = y := by omega
      generalize yS z = Y at hb HE ⊢
      clear hlt hz0 hz1
      go_wp2
      go_loop [3, 5] (fun a b => ∃ k : Nat, (k : Int) + 1 ≤ m ∧ b = .int .i64 ((k : Int) + 1) ∧ a = .int .i64 (Y + (d - 1) + mS z k)) (fun _ b => 20 - (intOf b).toNat)
      case atStart => exact ⟨0, by omega, rfl, by simp [mS]⟩
      case round =>
        obtain ⟨k, hk, rfl, rfl⟩ := hrel
        have hs0 := mS_nn z k
        have hs1 := mS_le z k
        have hs2 := dIM_bd z ((k : Int) + 1)
        by_cases hlt : (k : Int) + 1 < m
        · have HC := Lib.hid (l7Days_any z ((k : Int) + 1) W (by omega) (by omega))
          have HS : Hid (mS z (k + 1) = mS z k + dIM z ((k : Int) + 1)) := Lib.hid rfl
          generalize mS z k = A at hs0 hs1 HS ⊢
          generalize dIM z ((k : Int) + 1) = D at hs2 HC HS
          have hk12 : k < 12 := by omega
          go_wp2_with fail
          refine HC.out.mono ?_
          rintro e w1 ⟨rfl, rfl⟩
          go_wp2
          go_round
          case rel => exact ⟨k + 1, by omega, by simp, by rw [HS.out]; congr 1; omega⟩
          case measure => simp [intOf]; omega
        · have hke : m.toNat - 1 = k := by omega
          have HE2 : Hid (Y + (d - 1) + mS z k = dN z m d) := Lib.hid (by rw [HE.out, hke])
          generalize mS z k = A at hs0 hs1 HE2 ⊢
          clear hke HE
          go_wp2
          go_ret
          exact ⟨ret_int HE2.out, HB.out⟩
end Go.Proofs.YtgimjfffdnopiaaDoor
