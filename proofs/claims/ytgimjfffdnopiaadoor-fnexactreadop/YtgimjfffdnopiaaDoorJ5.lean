/- Joined: W7a, W7b. -/
import Derived.IntWalk
import Derived.Test.YtgimjfffdnopiaaDoorJ1
import Derived.Test.YtgimjfffdnopiaaDoorJ2
import Derived.Test.YtgimjfffdnopiaaDoorJ4
/- W7a -/
namespace Go.Proofs.YtgimjfffdnopiaaDoor
open Go.ChangeShapes Go.WideShapes Go.ChangeAt Go.RowKit
set_option linter.unusedVariables false

set_option maxHeartbeats 800000 in
theorem isLeap_any (y : Int) (w : World) (h0 : 0 ≤ y) (h1 : y ≤ 100000) :
    Calls Tryd.prog 86 #[.int .i64 y] w fun e w' => e = .returned (.bool (leapB y)) ∧ w = w' := by
  have HE : Hid (leapB y = (y % 4 == 0 && (y % 100 != 0 || y % 400 == 0))) := Lib.hid rfl
  obtain ⟨y, rfl⟩ := Int.eq_ofNat_of_zero_le h0
  by_cases h4 : (y : Int) % 4 = 0
  · by_cases h100 : (y : Int) % 100 = 0
    · go_enter Tryd.func86, Tryd.ntmps86
      go_wp2
      go_ret
      exact ⟨ret_bool (by rw [HE.out, h4, h100]; rfl), rfl⟩
    · go_enter Tryd.func86, Tryd.ntmps86
      go_wp2
      go_ret
      exact ⟨ret_bool (by rw [HE.out, h4]; simp [h100]), rfl⟩
  · go_enter Tryd.func86, Tryd.ntmps86
    go_wp2
    go_ret
    exact ⟨ret_bool (by rw [HE.out]; simp [h4]), rfl⟩

set_option maxHeartbeats 800000 in
theorem l7Leap_any (y : Int) (w : World) (h0 : 0 ≤ y) (h1 : y ≤ 100000) :
    Calls Tryd.prog 87 #[.int .i64 y] w fun e w' => e = .returned (.bool (leapB y)) ∧ w = w' := by
  have HE : Hid (leapB y = (y % 4 == 0 && (y % 100 != 0 || y % 400 == 0))) := Lib.hid rfl
  obtain ⟨y, rfl⟩ := Int.eq_ofNat_of_zero_le h0
  by_cases h4 : (y : Int) % 4 = 0
  · by_cases h100 : (y : Int) % 100 = 0
    · go_enter Tryd.func87, Tryd.ntmps87
      go_wp2
      go_ret
      exact ⟨ret_bool (by rw [HE.out, h4, h100]; rfl), rfl⟩
    · go_enter Tryd.func87, Tryd.ntmps87
      go_wp2
      go_ret
      exact ⟨ret_bool (by rw [HE.out, h4]; simp [h100]), rfl⟩
  · go_enter Tryd.func87, Tryd.ntmps87
    go_wp2
    go_ret
    exact ⟨ret_bool (by rw [HE.out]; simp [h4]), rfl⟩

/-- The table of the months' days lies as it should. -/
def mTab : List Int := [31, 28, 31, 30, 31, 30, 31, 31, 30, 31, 30, 31]
def MTab (w : World) : Prop := ∃ t, Arr w 0 t .i64 mTab
theorem MTab.below {w w' : World} {B : Nat} (h : MTab w) (hb : Below B w w') (hB : w.heap.size ≤ B) : MTab w' := by
  obtain ⟨t, h⟩ := h
  exact ⟨t, h.below hb (by have := h.lt; omega)⟩
theorem MTab.alloc {w : World} (h : MTab w) (o : Obj) : MTab (w.alloc o) := by
  obtain ⟨t, h⟩ := h
  exact ⟨t, h.alloc o⟩
theorem mTab_at (y : Int) (k : Nat) (h : k < 12) (hl : (k : Int) + 1 = 2 → leapB y = false) : mTab[k]'h = dIM y ((k : Int) + 1) := by
  rcases k with _ | _ | _ | _ | _ | _ | _ | _ | _ | _ | _ | _ | k
  case succ.zero => unfold dIM; rw [if_pos (by omega), hl (by omega)]; rfl
  all_goals first | rfl | omega

set_option maxHeartbeats 800000 in
theorem daysIn_any (y : Int) (m : Int) (w : World) (h0 : 0 ≤ y) (h1 : y ≤ 100000) (hm1 : 1 ≤ m) (hm2 : m ≤ 12) (hM : MTab w) :
    Calls Tryd.prog 44 #[.int .i64 y, .int .i64 m] w fun e w' => e = .returned (.int .i64 (dIM y m)) ∧ w = w' := by
  have HL := Lib.hid (fun w => isLeap_any y w h0 h1)
  obtain ⟨t, hA⟩ := hM
  obtain ⟨k, hk⟩ := Int.eq_ofNat_of_zero_le (show 0 ≤ m - 1 by omega)
  obtain rfl : m = (k : Int) + 1 := by omega
  have hk12 : k < 12 := by omega
  by_cases h2 : (k : Int) + 1 = 2
  · have hk1 : k = 1 := by omega
    subst hk1
    have HC := Lib.hid (hA.cell 1 (by decide))
    rw [show mTab[1] = 28 from rfl] at HC
    have hc := HC.out
    cases hl : leapB y with
    | true =>
      rw [hl] at HL
      have HE : Hid (dIM y (((1 : Nat) : Int) + 1) = 29) := Lib.hid (by unfold dIM; rw [hl]; rfl)
      rw [HE.out]
      go_enter Tryd.func44, Tryd.ntmps44
      go_wp2_with fail
      refine (HL.out _).mono ?_
      rintro e w1 ⟨rfl, rfl⟩
      go_wp2
      go_ret
      exact ⟨rfl, rfl⟩
    | false =>
      rw [hl] at HL
      have HE : Hid (dIM y (((1 : Nat) : Int) + 1) = 28) := Lib.hid (by unfold dIM; rw [hl]; rfl)
      rw [HE.out]
      go_enter Tryd.func44, Tryd.ntmps44
      go_wp2_with fail
      refine (HL.out _).mono ?_
      rintro e w1 ⟨rfl, rfl⟩
      go_wp2
      go_ret
      exact ⟨rfl, rfl⟩
  · have HE := mTab_at y k hk12 (fun h => absurd h h2)
    have hc := hA.cell k hk12
    rw [HE] at hc
    have hd := dIM_bd y ((k : Int) + 1)
    generalize dIM y ((k : Int) + 1) = D at hc hd ⊢
    clear HE
    go_enter Tryd.func44, Tryd.ntmps44
    go_wp2
    go_ret
    exact ⟨rfl, rfl⟩

set_option maxHeartbeats 800000 in
theorem l7Days_any (y : Int) (m : Int) (w : World) (h0 : 0 ≤ y) (h1 : y ≤ 100000) :
    Calls Tryd.prog 49 #[.int .i64 y, .int .i64 m] w fun e w' => e = .returned (.int .i64 (dIM y m)) ∧ w = w' := by
  have HL := Lib.hid (fun w => l7Leap_any y w h0 h1)
  by_cases h2 : m = 2
  · subst h2
    cases hl : leapB y with
    | true =>
      rw [hl] at HL
      have HE : Hid (dIM y 2 = 29) := Lib.hid (by unfold dIM; rw [hl]; rfl)
      rw [HE.out]
      go_enter Tryd.func49, Tryd.ntmps49
      go_wp2_with fail
      refine (HL.out _).mono ?_
      rintro e w1 ⟨rfl, rfl⟩
      go_wp2
      go_ret
      exact ⟨rfl, rfl⟩
    | false =>
      rw [hl] at HL
      have HE : Hid (dIM y 2 = 28) := Lib.hid (by unfold dIM; rw [hl]; rfl)
      rw [HE.out]
      go_enter Tryd.func49, Tryd.ntmps49
      go_wp2_with fail
      refine (HL.out _).mono ?_
      rintro e w1 ⟨rfl, rfl⟩
      go_wp2
      go_ret
      exact ⟨rfl, rfl⟩
  · by_cases h30 : m = 4 ∨ m = 6 ∨ m = 9 ∨ m = 11
    · have HE : Hid (dIM y m = 30) := Lib.hid (by unfold dIM; rw [if_neg h2, if_pos h30])
      rw [HE.out]
      rcases h30 with rfl | rfl | rfl | rfl
      all_goals
        go_enter Tryd.func49, Tryd.ntmps49
        go_wp2
        go_ret
        exact ⟨rfl, rfl⟩
    · have HE : Hid (dIM y m = 31) := Lib.hid (by unfold dIM; rw [if_neg h2, if_neg h30])
      rw [HE.out]
      have h4 : (m == 4) = false := by simpa using fun h => h30 (.inl h)
      have h6 : (m == 6) = false := by simpa using fun h => h30 (.inr (.inl h))
      have h9 : (m == 9) = false := by simpa using fun h => h30 (.inr (.inr (.inl h)))
      have h11 : (m == 11) = false := by simpa using fun h => h30 (.inr (.inr (.inr h)))
      clear h30
      go_enter Tryd.func49, Tryd.ntmps49
      go_wp2
      go_ret
      exact ⟨rfl, rfl⟩

set_option maxHeartbeats 800000 in
theorem leapsBefore_any (y : Int) (w : World) (h0 : 1 ≤ y) (h1 : y ≤ 100000) :
    Calls Tryd.prog 85 #[.int .i64 y] w fun e w' => e = .returned (.int .i64 (lpB y)) ∧ w = w' := by
  have HE : Hid (lpB y = (y - 1) / 4 - (y - 1) / 100 + (y - 1) / 400) := Lib.hid rfl
  obtain ⟨k, hk⟩ := Int.eq_ofNat_of_zero_le (show 0 ≤ y - 1 by omega)
  obtain rfl : y = (k : Int) + 1 := by omega
  rw [show (k : Int) + 1 - 1 = k by omega] at HE
  go_enter Tryd.func85, Tryd.ntmps85
  go_wp2
  go_ret
  exact ⟨ret_int HE.out.symm, rfl⟩

set_option maxHeartbeats 800000 in
theorem yearStart_any (y : Int) (w : World) (h0 : 1970 ≤ y) (h1 : y ≤ 20000) :
    Calls Tryd.prog 43 #[.int .i64 y] w fun e w' => e = .returned (.int .i64 (yS y)) ∧ w = w' := by
  have HE : Hid (yS y = 365 * (y - 1970) + lpB y - 477) := Lib.hid rfl
  have HC := Lib.hid (fun w => leapsBefore_any y w (by omega) (by omega))
  have HC2 := Lib.hid (fun w => leapsBefore_any 1970 w (by omega) (by omega))
  rw [show lpB 1970 = 477 by decide] at HC2
  have hb : 0 ≤ lpB y ∧ lpB y ≤ 10000 := by unfold lpB; omega
  generalize lpB y = L at HE HC hb
  go_enter Tryd.func43, Tryd.ntmps43
  go_wp2_with fail
  refine (HC.out _).mono ?_
  rintro e w1 ⟨rfl, rfl⟩
  go_wp2_with fail
  refine (HC2.out _).mono ?_
  rintro e w1 ⟨rfl, rfl⟩
  go_wp2
  go_ret
  exact ⟨ret_int (by rw [HE.out]), rfl⟩
end Go.Proofs.YtgimjfffdnopiaaDoor

/- W7b -/
namespace Go.Proofs.YtgimjfffdnopiaaDoor
open Go.ChangeShapes Go.WideShapes Go.ChangeAt Go.RowKit
set_option linter.unusedVariables false

/-- A date as a value. -/
abbrev dV (y m d : Int) : Value := .agg #[.int .i64 y, .int .i64 m, .int .i64 d]

theorem MTab.drewN {w : World} (h : MTab w) (n : Nat) : MTab (w.drewN n) := by
  obtain ⟨t, h⟩ := h
  exact ⟨t, h.drewN n⟩

set_option maxRecDepth 100000 in
set_option maxHeartbeats 1600000 in
theorem dayNumber_any (y m d : Int) (w : World) (h0 : 1970 ≤ y) (h1 : y ≤ 9999) (h2 : 1 ≤ m) (h3 : m ≤ 12) (h4 : 1 ≤ d) (h5 : d ≤ 31) (hM : MTab w) :
    Calls Tryd.prog 37 #[dV y m d] w fun e w' => e = .returned (.int .i64 (dN y m d)) ∧ Below w.heap.size w w' := by
  have HE : Hid (dN y m d = yS y + (d - 1) + mS y (m.toNat - 1)) := Lib.hid rfl
  have hb : 0 ≤ yS y ∧ yS y ≤ 3000000 := by
    have a := yS_mono 1970 y h0
    have b := yS_mono y 9999 h1
    have f := yS_first
    have g : yS 9999 ≤ 3000000 := by decide
    omega
  have HY := Lib.hid (fun w => yearStart_any y w h0 (by omega))
  generalize yS y = Y at hb HY HE
  have HM := Lib.hid (hM.alloc (.cells #[.int .i64 y, .int .i64 m, .int .i64 d] 25))
  clear hM
  go_enter Tryd.func37, Tryd.ntmps37
  go_wp2
  go_quiet ((go_at_call 43; exact quiet_same (HY.out _)))
  go_wp2
  have HB : Hid (Below w.heap.size w ((w.alloc (.cells #[.int .i64 y, .int .i64 m, .int .i64 d] 25)).drewN nq)) := Lib.hid (below_drewN ((Below.refl _ _).alloc (Nat.le_refl _) _) nq)
  have HM2 := Lib.hid (HM.out.drewN nq)
  have hcm : ((w.alloc (.cells #[.int .i64 y, .int .i64 m, .int .i64 d] 25)).drewN nq).cell? ⟨w.heap.size, 1, none⟩ = some (.int .i64 m) := by simp [go_sem]
  have hcy : ((w.alloc (.cells #[.int .i64 y, .int .i64 m, .int .i64 d] 25)).drewN nq).cell? ⟨w.heap.size, 0, none⟩ = some (.int .i64 y) := by simp [go_sem]
  generalize (w.alloc (.cells #[.int .i64 y, .int .i64 m, .int .i64 d] 25)).drewN nq = W at HB HM2 hcm hcy ⊢
  clear HM
  go_loop [3, 4] (fun a b => ∃ k : Nat, (k : Int) + 1 ≤ m ∧ b = .int .i64 ((k : Int) + 1) ∧ a = .int .i64 (Y + d - 1 + mS y k)) (fun _ b => 20 - (intOf b).toNat)
  case atStart => exact ⟨0, by omega, rfl, by simp [mS]⟩
  case round =>
    obtain ⟨k, hk, rfl, rfl⟩ := hrel
    have hs0 := mS_nn y k
    have hs1 := mS_le y k
    have hs2 := dIM_bd y ((k : Int) + 1)
    by_cases hlt : (k : Int) + 1 < m
    · have HC := Lib.hid (daysIn_any y ((k : Int) + 1) W (by omega) (by omega) (by omega) (by omega) HM2.out)
      have HS : Hid (mS y (k + 1) = mS y k + dIM y ((k : Int) + 1)) := Lib.hid rfl
      generalize mS y k = A at hs0 hs1 HS ⊢
      generalize dIM y ((k : Int) + 1) = D at hs2 HC HS
      have hk12 : k < 12 := by omega
      go_wp2_with fail
      refine HC.out.mono ?_
      rintro e w1 ⟨rfl, rfl⟩
      go_wp2
      go_round
      case rel => exact ⟨k + 1, by omega, by simp, by rw [HS.out]; congr 1; omega⟩
      case measure => simp [intOf]; omega
    · have hke : m.toNat - 1 = k := by omega
      have HE2 : Hid (Y + d - 1 + mS y k = dN y m d) := Lib.hid (by rw [HE.out, hke]; omega)
      generalize mS y k = A at hs0 hs1 HE2 ⊢
      clear hke HE
      go_wp2
      go_ret
      exact ⟨ret_int HE2.out, HB.out⟩
end Go.Proofs.YtgimjfffdnopiaaDoor
