/- Parts of the proof. -/
import Derived.IntWalk
import Derived.Test.YtffkakpbelknaaaGreatDoorO1
import Derived.Test.YtffkakpbelknaaaGreatDoorO2
import Derived.Test.YtffkakpbelknaaaGreatDoorO4
import Derived.Test.YtffkakpbelknaaaGreatDoorO5
namespace Go.Proofs.YtffkakpbelknaaaGreatDoor
set_option maxHeartbeats 4000000
set_option maxRecDepth 100000
open Go.ChangeShapes Go.WideShapes Go.ChangeAt Go.RowKit
set_option linter.unusedVariables false
theorem isLeap_any (y : Int) (w : World) (h0 : 0 <= y) (h1 : y <= 100000) :
  Calls Tryz.prog 171 #[.int .i64 y] w fun e w' => e = .returned (.bool (leapB y)) /\ w = w' := by
 have HE : Hid (leapB y = (y % 4 == 0 && (y % 100 != 0 || y % 400 == 0))) := Lib.hid rfl
 obtain ⟨y, rfl⟩ := Int.eq_ofNat_of_zero_le h0
 by_cases h4 : (y : Int) % 4 = 0
 ·by_cases h100 : (y : Int) % 100 = 0
  ·go_enter Tryz.func171, Tryz.ntmps171
   go_wp2
   go_ret
   exact ⟨ret_bool (by rw [HE.out, h4, h100]; rfl), rfl⟩
  ·go_enter Tryz.func171, Tryz.ntmps171
   go_wp2
   go_ret
   exact ⟨ret_bool (by rw [HE.out, h4]; simp [h100]), rfl⟩
 ·go_enter Tryz.func171, Tryz.ntmps171
  go_wp2
  go_ret
  exact ⟨ret_bool (by rw [HE.out]; simp [h4]), rfl⟩
theorem l7Leap_any (y : Int) (w : World) (h0 : 0 <= y) (h1 : y <= 100000) :
  Calls Tryz.prog 97 #[.int .i64 y] w fun e w' => e = .returned (.bool (leapB y)) /\ w = w' := by
 have HE : Hid (leapB y = (y % 4 == 0 && (y % 100 != 0 || y % 400 == 0))) := Lib.hid rfl
 obtain ⟨y, rfl⟩ := Int.eq_ofNat_of_zero_le h0
 by_cases h4 : (y : Int) % 4 = 0
 ·by_cases h100 : (y : Int) % 100 = 0
  ·go_enter Tryz.func97, Tryz.ntmps97
   go_wp2
   go_ret
   exact ⟨ret_bool (by rw [HE.out, h4, h100]; rfl), rfl⟩
  ·go_enter Tryz.func97, Tryz.ntmps97
   go_wp2
   go_ret
   exact ⟨ret_bool (by rw [HE.out, h4]; simp [h100]), rfl⟩
 ·go_enter Tryz.func97, Tryz.ntmps97
  go_wp2
  go_ret
  exact ⟨ret_bool (by rw [HE.out]; simp [h4]), rfl⟩
def mTab : List Int := [31, 28, 31, 30, 31, 30, 31, 31, 30, 31, 30, 31]
def MTab (w : World) : Prop := ∃ t, Arr w 3 t .i64 mTab
theorem MTab.below {w w' : World} {B : Nat} (h : MTab w) (hb : Below B w w') (hB : w.heap.size <= B) : MTab w' := by
 obtain ⟨t, h⟩ := h
 exact ⟨t, h.below hb (by have := h.lt; omega)⟩
theorem MTab.alloc {w : World} (h : MTab w) (o : Obj) : MTab (w.alloc o) := by
 obtain ⟨t, h⟩ := h
 exact ⟨t, h.alloc o⟩
theorem mTab_at (y : Int) (k : Nat) (h : k < 12) (hl : (k : Int) + 1 = 2 -> leapB y = false) : mTab[k]'h = dIM y ((k : Int) + 1) := by
 rcases k with _ | _ | _ | _ | _ | _ | _ | _ | _ | _ | _ | _ | k
 case succ.zero => unfold dIM; rw [if_pos (by omega), hl (by omega)]; rfl
 all_goals first | rfl | omega
theorem daysIn_any (y : Int) (m : Int) (w : World) (h0 : 0 <= y) (h1 : y <= 100000) (hm1 : 1 <= m) (hm2 : m <= 12) (hM : MTab w) :
  Calls Tryz.prog 140 #[.int .i64 y, .int .i64 m] w fun e w' => e = .returned (.int .i64 (dIM y m)) /\ w = w' := by
 have HL := Lib.hid (fun w => isLeap_any y w h0 h1)
 obtain ⟨t, hA⟩ := hM
 obtain ⟨k, hk⟩ := Int.eq_ofNat_of_zero_le (show 0 <= m - 1 by omega)
 obtain rfl : m = (k : Int) + 1 := by omega
 have hk12 : k < 12 := by omega
 by_cases h2 : (k : Int) + 1 = 2
 ·have hk1 : k = 1 := by omega
  subst hk1
  have HC := Lib.hid (hA.cell 1 (by decide))
  rw [show mTab[1] = 28 from rfl] at HC
  have hc := HC.out
  cases hl : leapB y with
  | true =>
   rw [hl] at HL
   have HE : Hid (dIM y (((1 : Nat) : Int) + 1) = 29) := Lib.hid (by unfold dIM; rw [hl]; rfl)
   rw [HE.out]
   go_enter Tryz.func140, Tryz.ntmps140
   go_wp2_with fail
   refine (HL.out _).mono ?_
   rintro e w1 ⟨rfl, rfl⟩
   go_wp2
   go_ret
   exact ⟨rfl, rfl⟩
  | false =>
   rw [hl] at HL
   have HE : Hid (dIM y (((1 : Nat) : Int) + 1) = 28) := Lib.hid (by unfold dIM; rw [hl]; rfl)
   rw [HE.out]
   go_enter Tryz.func140, Tryz.ntmps140
   go_wp2_with fail
   refine (HL.out _).mono ?_
   rintro e w1 ⟨rfl, rfl⟩
   go_wp2
   go_ret
   exact ⟨rfl, rfl⟩
 ·have HE := mTab_at y k hk12 (fun h => absurd h h2)
  have hc := hA.cell k hk12
  rw [HE] at hc
  have hd := dIM_bd y ((k : Int) + 1)
  generalize dIM y ((k : Int) + 1) = D at hc hd ⊢
  clear HE
  go_enter Tryz.func140, Tryz.ntmps140
  go_wp2
  go_ret
  exact ⟨rfl, rfl⟩
theorem l7Days_any (y : Int) (m : Int) (w : World) (h0 : 0 <= y) (h1 : y <= 100000) :
  Calls Tryz.prog 98 #[.int .i64 y, .int .i64 m] w fun e w' => e = .returned (.int .i64 (dIM y m)) /\ w = w' := by
 have HL := Lib.hid (fun w => l7Leap_any y w h0 h1)
 by_cases h2 : m = 2
 ·subst h2
  cases hl : leapB y with
  | true =>
   rw [hl] at HL
   have HE : Hid (dIM y 2 = 29) := Lib.hid (by unfold dIM; rw [hl]; rfl)
   rw [HE.out]
   go_enter Tryz.func98, Tryz.ntmps98
   go_wp2_with fail
   refine (HL.out _).mono ?_
   rintro e w1 ⟨rfl, rfl⟩
   go_wp2
   go_ret
   exact ⟨rfl, rfl⟩
  | false =>
   rw [hl] at HL
   have HE : Hid (dIM y 2 = 28) := Lib.hid (by unfold dIM; rw [hl]; rfl)
   rw [HE.out]
   go_enter Tryz.func98, Tryz.ntmps98
   go_wp2_with fail
   refine (HL.out _).mono ?_
   rintro e w1 ⟨rfl, rfl⟩
   go_wp2
   go_ret
   exact ⟨rfl, rfl⟩
 ·by_cases h30 : m = 4 \/ m = 6 \/ m = 9 \/ m = 11
  ·have HE : Hid (dIM y m = 30) := Lib.hid (by unfold dIM; rw [if_neg h2, if_pos h30])
   rw [HE.out]
   rcases h30 with rfl | rfl | rfl | rfl
   all_goals
    go_enter Tryz.func98, Tryz.ntmps98
    go_wp2
    go_ret
    exact ⟨rfl, rfl⟩
  ·have HE : Hid (dIM y m = 31) := Lib.hid (by unfold dIM; rw [if_neg h2, if_neg h30])
   rw [HE.out]
   have h4 : (m == 4) = false := by simpa using fun h => h30 (.inl h)
   have h6 : (m == 6) = false := by simpa using fun h => h30 (.inr (.inl h))
   have h9 : (m == 9) = false := by simpa using fun h => h30 (.inr (.inr (.inl h)))
   have h11 : (m == 11) = false := by simpa using fun h => h30 (.inr (.inr (.inr h)))
   clear h30
   go_enter Tryz.func98, Tryz.ntmps98
   go_wp2
   go_ret
   exact ⟨rfl, rfl⟩
theorem leapsBefore_any (y : Int) (w : World) (h0 : 1 <= y) (h1 : y <= 100000) :
  Calls Tryz.prog 170 #[.int .i64 y] w fun e w' => e = .returned (.int .i64 (lpB y)) /\ w = w' := by
 have HE : Hid (lpB y = (y - 1) / 4 - (y - 1) / 100 + (y - 1) / 400) := Lib.hid rfl
 obtain ⟨k, hk⟩ := Int.eq_ofNat_of_zero_le (show 0 <= y - 1 by omega)
 obtain rfl : y = (k : Int) + 1 := by omega
 rw [show (k : Int) + 1 - 1 = k by omega] at HE
 go_enter Tryz.func170, Tryz.ntmps170
 go_wp2
 go_ret
 exact ⟨ret_int HE.out.symm, rfl⟩
theorem yearStart_any (y : Int) (w : World) (h0 : 1970 <= y) (h1 : y <= 20000) :
  Calls Tryz.prog 139 #[.int .i64 y] w fun e w' => e = .returned (.int .i64 (yS y)) /\ w = w' := by
 have HE : Hid (yS y = 365 * (y - 1970) + lpB y - 477) := Lib.hid rfl
 have HC := Lib.hid (fun w => leapsBefore_any y w (by omega) (by omega))
 have HC2 := Lib.hid (fun w => leapsBefore_any 1970 w (by omega) (by omega))
 rw [show lpB 1970 = 477 by decide] at HC2
 have hb : 0 <= lpB y /\ lpB y <= 10000 := by unfold lpB; omega
 generalize lpB y = L at HE HC hb
 go_enter Tryz.func139, Tryz.ntmps139
 go_wp2_with fail
 refine (HC.out _).mono ?_
 rintro e w1 ⟨rfl, rfl⟩
 go_wp2_with fail
 refine (HC2.out _).mono ?_
 rintro e w1 ⟨rfl, rfl⟩
 go_wp2
 go_ret
 exact ⟨ret_int (by rw [HE.out]), rfl⟩
end Go.Proofs.YtffkakpbelknaaaGreatDoor
namespace Go.Proofs.YtffkakpbelknaaaGreatDoor
open Go.ChangeShapes Go.WideShapes Go.ChangeAt Go.RowKit
set_option linter.unusedVariables false
abbrev dV (y m d : Int) : Value := .agg #[.int .i64 y, .int .i64 m, .int .i64 d]
theorem MTab.drewN {w : World} (h : MTab w) (n : Nat) : MTab (w.drewN n) := by
 obtain ⟨t, h⟩ := h
 exact ⟨t, h.drewN n⟩
theorem dayNumber_any (y m d : Int) (w : World) (h0 : 1970 <= y) (h1 : y <= 9999) (h2 : 1 <= m) (h3 : m <= 12) (h4 : 1 <= d) (h5 : d <= 31) (hM : MTab w) :
  Calls Tryz.prog 126 #[dV y m d] w fun e w' => e = .returned (.int .i64 (dN y m d)) /\ Below w.heap.size w w' := by
 have HE : Hid (dN y m d = yS y + (d - 1) + mS y (m.toNat - 1)) := Lib.hid rfl
 have hb : 0 <= yS y /\ yS y <= 3000000 := by
  have a := yS_mono 1970 y h0
  have b := yS_mono y 9999 h1
  have f := yS_first
  have g : yS 9999 <= 3000000 := by decide
  omega
 have HY := Lib.hid (fun w => yearStart_any y w h0 (by omega))
 generalize yS y = Y at hb HY HE
 have HM := Lib.hid (hM.alloc (.cells #[.int .i64 y, .int .i64 m, .int .i64 d] 74))
 clear hM
 go_enter Tryz.func126, Tryz.ntmps126
 go_wp2
 go_quiet ((go_at_call 139; exact quiet_same (HY.out _)))
 go_wp2
 have HB : Hid (Below w.heap.size w ((w.alloc (.cells #[.int .i64 y, .int .i64 m, .int .i64 d] 74)).drewN nq)) := Lib.hid (below_drewN ((Below.refl _ _).alloc (Nat.le_refl _) _) nq)
 have HM2 := Lib.hid (HM.out.drewN nq)
 have hcm : ((w.alloc (.cells #[.int .i64 y, .int .i64 m, .int .i64 d] 74)).drewN nq).cell? ⟨w.heap.size, 1, none⟩ = some (.int .i64 m) := by simp [go_sem]
 have hcy : ((w.alloc (.cells #[.int .i64 y, .int .i64 m, .int .i64 d] 74)).drewN nq).cell? ⟨w.heap.size, 0, none⟩ = some (.int .i64 y) := by simp [go_sem]
 generalize (w.alloc (.cells #[.int .i64 y, .int .i64 m, .int .i64 d] 74)).drewN nq = W at HB HM2 hcm hcy ⊢
 clear HM
 go_loop [3, 4] (fun a b => ∃ k : Nat, (k : Int) + 1 <= m /\ b = .int .i64 ((k : Int) + 1) /\ a = .int .i64 (Y + d - 1 + mS y k)) (fun _ b => 20 - (intOf b).toNat)
 case atStart => exact ⟨0, by omega, rfl, by simp [mS]⟩
 case round =>
  obtain ⟨k, hk, rfl, rfl⟩ := hrel
  have hs0 := mS_nn y k
  have hs1 := mS_le y k
  have hs2 := dIM_bd y ((k : Int) + 1)
  by_cases hlt : (k : Int) + 1 < m
  ·have HC := Lib.hid (daysIn_any y ((k : Int) + 1) W (by omega) (by omega) (by omega) (by omega) HM2.out)
   have HS : Hid (mS y (k + 1) = mS y k + dIM y ((k : Int) + 1)) := Lib.hid rfl
   generalize mS y k = A at hs0 hs1 HS ⊢
   generalize dIM y ((k : Int) + 1) = D at hs2 HC HS
   have hk12 : k < 12 := by omega
   go_wp2_with fail
   refine HC.out.mono ?_
   rintro e w1 ⟨rfl, rfl⟩
   go_wp2
   go_round
   case rel => exact ⟨k + 1, by omega, by simp, by rw [HS.out]; congr 1; omega⟩
   case measure => simp [intOf]; omega
  ·have hke : m.toNat - 1 = k := by omega
   have HE2 : Hid (Y + d - 1 + mS y k = dN y m d) := Lib.hid (by rw [HE.out, hke]; omega)
   generalize mS y k = A at hs0 hs1 HE2 ⊢
   clear hke HE
   go_wp2
   go_ret
   exact ⟨ret_int HE2.out, HB.out⟩
end Go.Proofs.YtffkakpbelknaaaGreatDoor
namespace Go.Proofs.YtffkakpbelknaaaGreatDoor
open Go.ChangeShapes Go.WideShapes Go.ChangeAt Go.RowKit
set_option linter.unusedVariables false
def DAt (w : World) (g : Nat) (y m d : Int) : Prop := Arr w g 74 .i64 [y, m, d]
theorem DAt.new (w : World) (y m d : Int) : DAt (w.alloc (.cells #[.int .i64 y, .int .i64 m, .int .i64 d] 74)) w.heap.size y m d := Arr.new w 74 .i64 [y, m, d]
theorem DAt.keep {w w' : World} {g B : Nat} {y m d : Int} (h : DAt w g y m d) (hb : Below B w w') (hB : w.heap.size <= B) : DAt w' g y m d := Arr.below h hb (by have := Arr.lt h; omega)
theorem DAt.c0 {w : World} {g : Nat} {y m d : Int} (h : DAt w g y m d) : w.cell? ⟨g, 0, none⟩ = some (.int .i64 y) := Arr.cell h 0 (by simp)
theorem DAt.c1 {w : World} {g : Nat} {y m d : Int} (h : DAt w g y m d) : w.cell? ⟨g, 1, none⟩ = some (.int .i64 m) := Arr.cell h 1 (by simp)
theorem DAt.c2 {w : World} {g : Nat} {y m d : Int} (h : DAt w g y m d) : w.cell? ⟨g, 2, none⟩ = some (.int .i64 d) := Arr.cell h 2 (by simp)
def calB (y m d : Int) : Bool := decide (1970 <= y /\ y <= 9999 /\ 1 <= m /\ m <= 12 /\ 1 <= d /\ d <= dIM y m)
theorem calB_iff (y m d : Int) : calB y m d = true ↔ (1970 <= y /\ y <= 9999 /\ 1 <= m /\ m <= 12 /\ 1 <= d /\ d <= dIM y m) := by unfold calB; simp
theorem calB_not {y m d : Int} (h : ¬ (1970 <= y /\ y <= 9999 /\ 1 <= m /\ m <= 12 /\ 1 <= d /\ d <= dIM y m)) : calB y m d = false := by
 rw [<- calB_iff] at h; simpa using h
theorem inCalendar_any (y m d : Int) (w : World) (hM : MTab w) :
  Calls Tryz.prog 159 #[dV y m d] w fun e w' => e = .returned (.bool (calB y m d)) /\ Below w.heap.size w w' := by
 have HM := Lib.hid (hM.alloc (.cells #[.int .i64 y, .int .i64 m, .int .i64 d] 74))
 have HB : Hid (∀ n, Below w.heap.size w ((w.alloc (.cells #[.int .i64 y, .int .i64 m, .int .i64 d] 74)).drewN n)) := Lib.hid (fun n => below_drewN ((Below.refl _ _).alloc (Nat.le_refl _) _) n)
 clear hM
 by_cases c1 : 1970 <= y
 ·by_cases c2 : y <= 9999
  ·by_cases c3 : 1 <= m
   ·by_cases c4 : m <= 12
    ·by_cases c5 : 1 <= d
     ·have HC := Lib.hid (fun n => daysIn_any y m ((w.alloc (.cells #[.int .i64 y, .int .i64 m, .int .i64 d] 74)).drewN n) (by omega) (by omega) c3 c4 (HM.out.drewN n))
      have HE : Hid (calB y m d = decide (d <= dIM y m)) := Lib.hid (by unfold calB; simp [c1, c2, c3, c4, c5])
      generalize dIM y m = D at HC HE
      go_enter Tryz.func159, Tryz.ntmps159
      go_wp2
      go_quiet ((go_at_call 140; exact quiet_same (HC.out _)))
      go_wp2
      go_ret
      exact ⟨ret_bool HE.out.symm, HB.out _⟩
     ·have HE := Lib.hid (calB_not (y := y) (m := m) (d := d) (by omega))
      have f5 : decide (1 <= d) = false := decide_eq_false c5
      rw [HE.out]
      clear c5
      go_enter Tryz.func159, Tryz.ntmps159
      go_wp2
      go_quiet (fail)
      go_wp2
      go_ret
      exact ⟨rfl, HB.out _⟩
    ·have HE := Lib.hid (calB_not (y := y) (m := m) (d := d) (by omega))
     have f5 : decide (m <= 12) = false := decide_eq_false c4
     rw [HE.out]
     clear c4
     go_enter Tryz.func159, Tryz.ntmps159
     go_wp2
     go_quiet (fail)
     go_wp2
     go_ret
     exact ⟨rfl, HB.out _⟩
   ·have HE := Lib.hid (calB_not (y := y) (m := m) (d := d) (by omega))
    have f5 : decide (1 <= m) = false := decide_eq_false c3
    rw [HE.out]
    clear c3
    go_enter Tryz.func159, Tryz.ntmps159
    go_wp2
    go_quiet (fail)
    go_wp2
    go_ret
    exact ⟨rfl, HB.out _⟩
  ·have HE := Lib.hid (calB_not (y := y) (m := m) (d := d) (by omega))
   have f5 : decide (y <= 9999) = false := decide_eq_false c2
   rw [HE.out]
   clear c2
   go_enter Tryz.func159, Tryz.ntmps159
   go_wp2
   go_quiet (fail)
   go_wp2
   go_ret
   exact ⟨rfl, HB.out _⟩
 ·have HE := Lib.hid (calB_not (y := y) (m := m) (d := d) (by omega))
  have f5 : decide (1970 <= y) = false := decide_eq_false c1
  rw [HE.out]
  clear c1
  go_enter Tryz.func159, Tryz.ntmps159
  go_wp2
  go_quiet (fail)
  go_wp2
  go_ret
  exact ⟨rfl, HB.out _⟩
theorem implDateOk_any (y m d : Int) (w : World) (hM : MTab w) :
  Calls Tryz.prog 125 #[dV y m d] w fun e w' => e = .returned (.bool (dOk y m d)) /\ Below w.heap.size w w' := by
 have HM := Lib.hid (hM.alloc (.cells #[.int .i64 y, .int .i64 m, .int .i64 d] 74))
 have HI := Lib.hid (inCalendar_any y m d _ HM.out)
 have hB0 : Below w.heap.size w (w.alloc (.cells #[.int .i64 y, .int .i64 m, .int .i64 d] 74)) := (Below.refl _ _).alloc (Nat.le_refl _) _
 have HA0 := Lib.hid (DAt.new w y m d)
 by_cases hc : calB y m d = true
 ·have hcc := (calB_iff y m d).1 hc
  obtain ⟨c1, c2, c3, c4, c5, c6⟩ := hcc
  rw [hc] at HI
  have hd31 := dIM_bd y m
  have HN := Lib.hid (fun w hM => dayNumber_any y m d w c1 c2 c3 c4 c5 (by omega) hM)
  have HE : Hid (dOk y m d = decide (dN y m d <= 200000)) := Lib.hid (by
   unfold dOk
   by_cases h : y <= 2517
   ·simp [c1, h, c3, c4, c5, c6]
   ·have := late_year y m d (by omega) c5
    rw [decide_eq_false (by omega), decide_eq_false (by omega)])
  have hbd := dN_bd y m d c1 c2 c4 c5 (by omega)
  generalize dN y m d = N at HN HE hbd
  clear hc c1 c2 c3 c4 c5 c6 hd31 hM
  go_enter Tryz.func125, Tryz.ntmps125
  go_wp2_with fail
  refine HI.out.mono ?_
  rintro e w1 ⟨rfl, hb1⟩
  have HM1 := Lib.hid (HM.out.below hb1 (Nat.le_refl _))
  have hA1 := HA0.out.keep hb1 (Nat.le_refl _)
  have k0 := hA1.c0
  have k1 := hA1.c1
  have k2 := hA1.c2
  have hB1 := hB0.trans (hb1.mono hB0.size)
  clear hb1 HI hA1
  go_wp2_with fail
  refine (HN.out _ HM1.out).mono ?_
  rintro e w2 ⟨rfl, hb2⟩
  have hB2 := hB1.trans (hb2.mono hB1.size)
  clear hb2
  go_wp2
  go_ret
  exact ⟨ret_bool HE.out.symm, hB2⟩
 ·have HE : Hid (dOk y m d = false) := Lib.hid (by
   rw [calB_iff] at hc
   unfold dOk
   exact decide_eq_false (by omega))
  have hcf : calB y m d = false := by simpa using hc
  rw [hcf] at HI
  rw [HE.out]
  clear hc hcf hM
  go_enter Tryz.func125, Tryz.ntmps125
  go_wp2_with fail
  refine HI.out.mono ?_
  rintro e w1 ⟨rfl, hb1⟩
  have hB1 := hB0.trans (hb1.mono hB0.size)
  go_wp2
  go_ret
  exact ⟨rfl, hB1⟩
def dayR (y m d : Int) : Int := if dOk y m d = true then dN y m d else -1
theorem implDayOf_any (y m d : Int) (w : World) (hM : MTab w) :
  Calls Tryz.prog 85 #[dV y m d] w fun e w' => e = .returned (.int .i64 (dayR y m d)) /\ Below w.heap.size w w' := by
 have HM := Lib.hid (hM.alloc (.cells #[.int .i64 y, .int .i64 m, .int .i64 d] 74))
 have HI := Lib.hid (implDateOk_any y m d _ HM.out)
 have hB0 : Below w.heap.size w (w.alloc (.cells #[.int .i64 y, .int .i64 m, .int .i64 d] 74)) := (Below.refl _ _).alloc (Nat.le_refl _) _
 have HA0 := Lib.hid (DAt.new w y m d)
 cases hc : dOk y m d with
 | true =>
  rw [hc] at HI
  obtain ⟨c1, c2, c3, c4, c5, c6, c7⟩ := (dOk_iff y m d).1 hc
  have hd31 := dIM_bd y m
  have HN := Lib.hid (fun w hM => dayNumber_any y m d w c1 (by omega) c3 c4 c5 (by omega) hM)
  have HE : Hid (dayR y m d = dN y m d) := Lib.hid (by unfold dayR; rw [if_pos hc])
  rw [HE.out]
  generalize dN y m d = N at HN ⊢
  clear hc c1 c2 c3 c4 c5 c6 hd31 hM c7 HE
  go_enter Tryz.func85, Tryz.ntmps85
  go_wp2_with fail
  refine HI.out.mono ?_
  rintro e w1 ⟨rfl, hb1⟩
  have HM1 := Lib.hid (HM.out.below hb1 (Nat.le_refl _))
  have hA1 := HA0.out.keep hb1 (Nat.le_refl _)
  have k0 := hA1.c0
  have k1 := hA1.c1
  have k2 := hA1.c2
  have hB1 := hB0.trans (hb1.mono hB0.size)
  clear hb1 HI hA1
  go_wp2_with fail
  refine (HN.out _ HM1.out).mono ?_
  rintro e w2 ⟨rfl, hb2⟩
  have hB2 := hB1.trans (hb2.mono hB1.size)
  clear hb2
  go_wp2
  go_ret
  exact ⟨rfl, hB2⟩
 | false =>
  rw [hc] at HI
  have HE : Hid (dayR y m d = -1) := Lib.hid (by unfold dayR; rw [hc]; rfl)
  rw [HE.out]
  clear hc hM HE
  go_enter Tryz.func85, Tryz.ntmps85
  go_wp2_with fail
  refine HI.out.mono ?_
  rintro e w1 ⟨rfl, hb1⟩
  have hB1 := hB0.trans (hb1.mono hB0.size)
  go_wp2
  go_ret
  exact ⟨rfl, hB1⟩
end Go.Proofs.YtffkakpbelknaaaGreatDoor
namespace Go.Proofs.YtffkakpbelknaaaGreatDoor
open Go.ChangeShapes Go.WideShapes Go.ChangeAt Go.RowKit
set_option linter.unusedVariables false
theorem l7Day_any (y m d : Int) (w : World) (h0 : 1970 <= y) (h1 : y <= 2517) (h2 : 1 <= m) (h3 : m <= 12) (h4 : 1 <= d) (h5 : d <= 31) :
  Calls Tryz.prog 51 #[dV y m d] w fun e w' => e = .returned (.int .i64 (dN y m d)) /\ Below w.heap.size w w' := by
 have HE : Hid (dN y m d = yS y + (d - 1) + mS y (m.toNat - 1)) := Lib.hid rfl
 have HB : Hid (Below w.heap.size w (w.alloc (.cells #[.int .i64 y, .int .i64 m, .int .i64 d] 74))) := Lib.hid ((Below.refl _ _).alloc (Nat.le_refl _) _)
 have hA := DAt.new w y m d
 have hcy := hA.c0
 have hcm := hA.c1
 have hcd := hA.c2
 clear hA
 go_enter Tryz.func51, Tryz.ntmps51
 go_wp2
 generalize w.alloc (.cells #[.int .i64 y, .int .i64 m, .int .i64 d] 74) = W at HB hcy hcm hcd ⊢
 go_loop [3, 4] (fun a b => ∃ z : Int, 1970 <= z /\ z <= y /\ b = .int .i64 z /\ a = .int .i64 (yS z + (d - 1))) (fun _ b => 3000 - (intOf b).toNat)
 case atStart => exact ⟨1970, by omega, h0, rfl, by rw [yS_first]; simp⟩
 case round =>
  obtain ⟨z, hz0, hz1, rfl, rfl⟩ := hrel
  have hb : 0 <= yS z /\ yS z <= 3000000 := by
   have a := yS_mono 1970 z hz0
   have b := yS_mono z 9999 (by omega)
   have f := yS_first
   have g : yS 9999 <= 3000000 := by decide
   omega
  by_cases hlt : z < y
  ·have HS : Hid (yS (z + 1) = yS z + 365 + lpD z) := Lib.hid (yS_succ z)
   have HL := Lib.hid (fun w => l7Leap_any z w (by omega) (by omega))
   generalize yS z = Y at hb HS ⊢
   cases hl : leapB z with
   | true =>
    have hlp : lpD z = 1 := by unfold lpD; rw [if_pos hl]
    rw [hl] at HL
    rw [hlp] at HS
    clear hl hlp
    go_wp2_with fail
    refine (HL.out _).mono ?_
    rintro e w1 ⟨rfl, rfl⟩
    go_wp2
    go_round
    case rel => exact ⟨z + 1, by omega, by omega, rfl, by rw [HS.out]; congr 1; omega⟩
    case measure => simp [intOf]; omega
   | false =>
    have hlp : lpD z = 0 := by unfold lpD; rw [hl]; rfl
    rw [hl] at HL
    rw [hlp] at HS
    clear hl hlp
    go_wp2_with fail
    refine (HL.out _).mono ?_
    rintro e w1 ⟨rfl, rfl⟩
    go_wp2
    go_round
    case rel => exact ⟨z + 1, by omega, by omega, rfl, by rw [HS.out]; congr 1; omega⟩
    case measure => simp [intOf]; omega
  ·obtain rfl : z = y := by omega
   generalize yS z = Y at hb HE ⊢
   clear hlt hz0 hz1
   go_wp2
   go_loop [3, 5] (fun a b => ∃ k : Nat, (k : Int) + 1 <= m /\ b = .int .i64 ((k : Int) + 1) /\ a = .int .i64 (Y + (d - 1) + mS z k)) (fun _ b => 20 - (intOf b).toNat)
   case atStart => exact ⟨0, by omega, rfl, by simp [mS]⟩
   case round =>
    obtain ⟨k, hk, rfl, rfl⟩ := hrel
    have hs0 := mS_nn z k
    have hs1 := mS_le z k
    have hs2 := dIM_bd z ((k : Int) + 1)
    by_cases hlt : (k : Int) + 1 < m
    ·have HC := Lib.hid (l7Days_any z ((k : Int) + 1) W (by omega) (by omega))
     have HS : Hid (mS z (k + 1) = mS z k + dIM z ((k : Int) + 1)) := Lib.hid rfl
     generalize mS z k = A at hs0 hs1 HS ⊢
     generalize dIM z ((k : Int) + 1) = D at hs2 HC HS
     have hk12 : k < 12 := by omega
     go_wp2_with fail
     refine HC.out.mono ?_
     rintro e w1 ⟨rfl, rfl⟩
     go_wp2
     go_round
     case rel => exact ⟨k + 1, by omega, by simp, by rw [HS.out]; congr 1; omega⟩
     case measure => simp [intOf]; omega
    ·have hke : m.toNat - 1 = k := by omega
     have HE2 : Hid (Y + (d - 1) + mS z k = dN z m d) := Lib.hid (by rw [HE.out, hke])
     generalize mS z k = A at hs0 hs1 HE2 ⊢
     clear hke HE
     go_wp2
     go_ret
     exact ⟨ret_int HE2.out, HB.out⟩
end Go.Proofs.YtffkakpbelknaaaGreatDoor
