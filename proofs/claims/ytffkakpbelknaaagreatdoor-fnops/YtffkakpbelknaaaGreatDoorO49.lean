/- Parts of the proof. -/
import Derived.Test.YtffkakpbelknaaaGreatDoorO10
import Derived.Test.YtffkakpbelknaaaGreatDoorO26
import Derived.Test.YtffkakpbelknaaaGreatDoorO45
import Derived.Test.YtffkakpbelknaaaGreatDoorO48
set_option maxHeartbeats 4000000
set_option maxRecDepth 100000
namespace Go.Proofs.YtffkakpbelknaaaGreatDoor
open Go.ChangeShapes Go.WideShapes Go.ChangeAt Go.RowKit Go.Shelf
set_option linter.unusedVariables false
set_option linter.unusedSimpArgs false
theorem cloneO_any (s : ByteArray) (w : World) (hs : s.size <= 1000000000) : Calls Tryz.prog 101 #[.string s] w fun e w' => e = .returned (.string s) /\ Below w.heap.size w w' := by
 have H := Lib.hid (fun w => Tryz.stringslite_Clone s w (by omega))
 go_enter Tryz.func101, Tryz.ntmps101
 go_wp2_with fail
 refine (H.out _).mono ?_
 rintro e w1 ⟨rfl, hb1⟩
 go_wp2
 go_ret
 exact ⟨rfl, hb1⟩
theorem cutm2_any (R M : ByteArray) (w : World) (hs : R.size <= 4000000) (h : XTab w) : Calls Tryz.prog 55 #[.string R, .string M] w fun e w' => e = .returned (.tuple #[.string (bl (Lib.cut R.data.toList M.data.toList).1), .string (bl (Lib.cut R.data.toList M.data.toList).2.1), .bool (Lib.cut R.data.toList M.data.toList).2.2]) /\ Below w.heap.size w w' := by
 obtain ⟨m, hm⟩ := h
 refine (Tryz.strings_Cut R M m w (by omega) hm).mono ?_
 rintro e w' ⟨rfl, n, rfl⟩
 exact ⟨rfl, below_drewN (Below.refl _ _) n⟩
theorem OTab.cells {w : World} (h : OTab w) : w.cell? ⟨0, 0, none⟩ = some (.string ⟨#[]⟩) /\ w.cell? ⟨0, 1, none⟩ = some (.string ⟨#[97, 100, 100]⟩) /\ w.cell? ⟨0, 2, none⟩ = some (.string ⟨#[100, 114, 111, 112]⟩) /\ w.cell? ⟨0, 3, none⟩ = some (.string ⟨#[102, 101, 116, 99, 104]⟩) /\ w.cell? ⟨0, 4, none⟩ = some (.string ⟨#[114, 101, 97, 100]⟩) /\ w.cell? ⟨0, 5, none⟩ = some (.string ⟨#[117, 110, 114, 101, 97, 100]⟩) /\ w.cell? ⟨0, 6, none⟩ = some (.string ⟨#[115, 116, 97, 114]⟩) /\ w.cell? ⟨0, 7, none⟩ = some (.string ⟨#[117, 110, 115, 116, 97, 114]⟩) /\ w.cell? ⟨0, 8, none⟩ = some (.string ⟨#[97, 108, 108]⟩) /\ w.cell? ⟨0, 9, none⟩ = some (.string ⟨#[112, 117, 114, 103, 101]⟩) := by
 obtain ⟨t, h⟩ := h
 refine ⟨?_, ?_, ?_, ?_, ?_, ?_, ?_, ?_, ?_, ?_⟩ <;> simp [World.cell?, h]
theorem kd_none (l : List UInt8) (h1 : l ≠ [97, 100, 100]) (h2 : l ≠ [100, 114, 111, 112]) (h3 : l ≠ [102, 101, 116, 99, 104]) (h4 : l ≠ [114, 101, 97, 100]) (h5 : l ≠ [117, 110, 114, 101, 97, 100]) (h6 : l ≠ [115, 116, 97, 114]) (h7 : l ≠ [117, 110, 115, 116, 97, 114]) (h8 : l ≠ [97, 108, 108]) (h9 : l ≠ [112, 117, 114, 103, 101]) : kdN l = 0 := by
 unfold kdN
 rw [if_neg h1, if_neg h2, if_neg h3, if_neg h4, if_neg h5, if_neg h6, if_neg h7, if_neg h8, if_neg h9]
theorem kindOf_any (wd : ByteArray) (w : World) (hO : OTab w) :
  Calls Tryz.prog 56 #[.string wd] w fun e w' => e = .returned (.int .i64 (kdN wd.data.toList)) /\ w = w' := by
 obtain ⟨c0, c1, c2, c3, c4, c5, c6, c7, c8, c9⟩ := hO.cells
 clear hO
 have HI : ∀ k : Nat, k < 10 -> True := fun _ _ => trivial
 clear HI
 have hix0 : ∀ w, Sem.run Tryz.prog (Instr.index 78 (.agg #[.string ⟨#[]⟩, .string ⟨#[97, 100, 100]⟩, .string ⟨#[100, 114, 111, 112]⟩, .string ⟨#[102, 101, 116, 99, 104]⟩, .string ⟨#[114, 101, 97, 100]⟩, .string ⟨#[117, 110, 114, 101, 97, 100]⟩, .string ⟨#[115, 116, 97, 114]⟩, .string ⟨#[117, 110, 115, 116, 97, 114]⟩, .string ⟨#[97, 108, 108]⟩, .string ⟨#[112, 117, 114, 103, 101]⟩]) (.int .i64 0)) w = .ok (.string ⟨#[]⟩) w := fun w => by simp [Instr.index, run_underlying Tryz.underlying78, asIntOf, part]
 have HX0 := Lib.hid hix0
 clear hix0
 have hix1 : ∀ w, Sem.run Tryz.prog (Instr.index 78 (.agg #[.string ⟨#[]⟩, .string ⟨#[97, 100, 100]⟩, .string ⟨#[100, 114, 111, 112]⟩, .string ⟨#[102, 101, 116, 99, 104]⟩, .string ⟨#[114, 101, 97, 100]⟩, .string ⟨#[117, 110, 114, 101, 97, 100]⟩, .string ⟨#[115, 116, 97, 114]⟩, .string ⟨#[117, 110, 115, 116, 97, 114]⟩, .string ⟨#[97, 108, 108]⟩, .string ⟨#[112, 117, 114, 103, 101]⟩]) (.int .i64 1)) w = .ok (.string ⟨#[97, 100, 100]⟩) w := fun w => by simp [Instr.index, run_underlying Tryz.underlying78, asIntOf, part]
 have HX1 := Lib.hid hix1
 clear hix1
 have hix2 : ∀ w, Sem.run Tryz.prog (Instr.index 78 (.agg #[.string ⟨#[]⟩, .string ⟨#[97, 100, 100]⟩, .string ⟨#[100, 114, 111, 112]⟩, .string ⟨#[102, 101, 116, 99, 104]⟩, .string ⟨#[114, 101, 97, 100]⟩, .string ⟨#[117, 110, 114, 101, 97, 100]⟩, .string ⟨#[115, 116, 97, 114]⟩, .string ⟨#[117, 110, 115, 116, 97, 114]⟩, .string ⟨#[97, 108, 108]⟩, .string ⟨#[112, 117, 114, 103, 101]⟩]) (.int .i64 2)) w = .ok (.string ⟨#[100, 114, 111, 112]⟩) w := fun w => by simp [Instr.index, run_underlying Tryz.underlying78, asIntOf, part]
 have HX2 := Lib.hid hix2
 clear hix2
 have hix3 : ∀ w, Sem.run Tryz.prog (Instr.index 78 (.agg #[.string ⟨#[]⟩, .string ⟨#[97, 100, 100]⟩, .string ⟨#[100, 114, 111, 112]⟩, .string ⟨#[102, 101, 116, 99, 104]⟩, .string ⟨#[114, 101, 97, 100]⟩, .string ⟨#[117, 110, 114, 101, 97, 100]⟩, .string ⟨#[115, 116, 97, 114]⟩, .string ⟨#[117, 110, 115, 116, 97, 114]⟩, .string ⟨#[97, 108, 108]⟩, .string ⟨#[112, 117, 114, 103, 101]⟩]) (.int .i64 3)) w = .ok (.string ⟨#[102, 101, 116, 99, 104]⟩) w := fun w => by simp [Instr.index, run_underlying Tryz.underlying78, asIntOf, part]
 have HX3 := Lib.hid hix3
 clear hix3
 have hix4 : ∀ w, Sem.run Tryz.prog (Instr.index 78 (.agg #[.string ⟨#[]⟩, .string ⟨#[97, 100, 100]⟩, .string ⟨#[100, 114, 111, 112]⟩, .string ⟨#[102, 101, 116, 99, 104]⟩, .string ⟨#[114, 101, 97, 100]⟩, .string ⟨#[117, 110, 114, 101, 97, 100]⟩, .string ⟨#[115, 116, 97, 114]⟩, .string ⟨#[117, 110, 115, 116, 97, 114]⟩, .string ⟨#[97, 108, 108]⟩, .string ⟨#[112, 117, 114, 103, 101]⟩]) (.int .i64 4)) w = .ok (.string ⟨#[114, 101, 97, 100]⟩) w := fun w => by simp [Instr.index, run_underlying Tryz.underlying78, asIntOf, part]
 have HX4 := Lib.hid hix4
 clear hix4
 have hix5 : ∀ w, Sem.run Tryz.prog (Instr.index 78 (.agg #[.string ⟨#[]⟩, .string ⟨#[97, 100, 100]⟩, .string ⟨#[100, 114, 111, 112]⟩, .string ⟨#[102, 101, 116, 99, 104]⟩, .string ⟨#[114, 101, 97, 100]⟩, .string ⟨#[117, 110, 114, 101, 97, 100]⟩, .string ⟨#[115, 116, 97, 114]⟩, .string ⟨#[117, 110, 115, 116, 97, 114]⟩, .string ⟨#[97, 108, 108]⟩, .string ⟨#[112, 117, 114, 103, 101]⟩]) (.int .i64 5)) w = .ok (.string ⟨#[117, 110, 114, 101, 97, 100]⟩) w := fun w => by simp [Instr.index, run_underlying Tryz.underlying78, asIntOf, part]
 have HX5 := Lib.hid hix5
 clear hix5
 have hix6 : ∀ w, Sem.run Tryz.prog (Instr.index 78 (.agg #[.string ⟨#[]⟩, .string ⟨#[97, 100, 100]⟩, .string ⟨#[100, 114, 111, 112]⟩, .string ⟨#[102, 101, 116, 99, 104]⟩, .string ⟨#[114, 101, 97, 100]⟩, .string ⟨#[117, 110, 114, 101, 97, 100]⟩, .string ⟨#[115, 116, 97, 114]⟩, .string ⟨#[117, 110, 115, 116, 97, 114]⟩, .string ⟨#[97, 108, 108]⟩, .string ⟨#[112, 117, 114, 103, 101]⟩]) (.int .i64 6)) w = .ok (.string ⟨#[115, 116, 97, 114]⟩) w := fun w => by simp [Instr.index, run_underlying Tryz.underlying78, asIntOf, part]
 have HX6 := Lib.hid hix6
 clear hix6
 have hix7 : ∀ w, Sem.run Tryz.prog (Instr.index 78 (.agg #[.string ⟨#[]⟩, .string ⟨#[97, 100, 100]⟩, .string ⟨#[100, 114, 111, 112]⟩, .string ⟨#[102, 101, 116, 99, 104]⟩, .string ⟨#[114, 101, 97, 100]⟩, .string ⟨#[117, 110, 114, 101, 97, 100]⟩, .string ⟨#[115, 116, 97, 114]⟩, .string ⟨#[117, 110, 115, 116, 97, 114]⟩, .string ⟨#[97, 108, 108]⟩, .string ⟨#[112, 117, 114, 103, 101]⟩]) (.int .i64 7)) w = .ok (.string ⟨#[117, 110, 115, 116, 97, 114]⟩) w := fun w => by simp [Instr.index, run_underlying Tryz.underlying78, asIntOf, part]
 have HX7 := Lib.hid hix7
 clear hix7
 have hix8 : ∀ w, Sem.run Tryz.prog (Instr.index 78 (.agg #[.string ⟨#[]⟩, .string ⟨#[97, 100, 100]⟩, .string ⟨#[100, 114, 111, 112]⟩, .string ⟨#[102, 101, 116, 99, 104]⟩, .string ⟨#[114, 101, 97, 100]⟩, .string ⟨#[117, 110, 114, 101, 97, 100]⟩, .string ⟨#[115, 116, 97, 114]⟩, .string ⟨#[117, 110, 115, 116, 97, 114]⟩, .string ⟨#[97, 108, 108]⟩, .string ⟨#[112, 117, 114, 103, 101]⟩]) (.int .i64 8)) w = .ok (.string ⟨#[97, 108, 108]⟩) w := fun w => by simp [Instr.index, run_underlying Tryz.underlying78, asIntOf, part]
 have HX8 := Lib.hid hix8
 clear hix8
 have hix9 : ∀ w, Sem.run Tryz.prog (Instr.index 78 (.agg #[.string ⟨#[]⟩, .string ⟨#[97, 100, 100]⟩, .string ⟨#[100, 114, 111, 112]⟩, .string ⟨#[102, 101, 116, 99, 104]⟩, .string ⟨#[114, 101, 97, 100]⟩, .string ⟨#[117, 110, 114, 101, 97, 100]⟩, .string ⟨#[115, 116, 97, 114]⟩, .string ⟨#[117, 110, 115, 116, 97, 114]⟩, .string ⟨#[97, 108, 108]⟩, .string ⟨#[112, 117, 114, 103, 101]⟩]) (.int .i64 9)) w = .ok (.string ⟨#[112, 117, 114, 103, 101]⟩) w := fun w => by simp [Instr.index, run_underlying Tryz.underlying78, asIntOf, part]
 have HX9 := Lib.hid hix9
 clear hix9
 obtain ⟨z, hz0⟩ : ∃ z, z = kdN wd.data.toList := ⟨_, rfl⟩
 rw [<- hz0]
 have HZ := Lib.hid hz0
 clear hz0
 go_enter Tryz.func56, Tryz.ntmps56
 go_wp2
 clear c0 c1 c2 c3 c4 c5 c6 c7 c8 c9
 go_loopw [6] (fun i wr => ∃ k : Nat, k <= 10 /\ i = .int .i64 (k : Int) /\ wr = w /\ Hid (∀ j, j < k -> ∀ l, ([[], [97, 100, 100], [100, 114, 111, 112], [102, 101, 116, 99, 104], [114, 101, 97, 100], [117, 110, 114, 101, 97, 100], [115, 116, 97, 114], [117, 110, 115, 116, 97, 114], [97, 108, 108], [112, 117, 114, 103, 101]] : List (List UInt8))[j]? = some l -> wd.data.toList ≠ l)) (fun i _ => 10 - (intOf i).toNat)
 case atStart => exact ⟨0, Nat.zero_le _, rfl, rfl, Lib.hid (fun j hj => by omega)⟩
 case round =>
  obtain ⟨k, hk, rfl, rfl, HJ⟩ := hrel
  by_cases h10 : k = 10
  case pos =>
   subst h10
   have hz : kdN wd.data.toList = 0 := kd_none _ (HJ.out 1 (by omega) _ rfl) (HJ.out 2 (by omega) _ rfl) (HJ.out 3 (by omega) _ rfl) (HJ.out 4 (by omega) _ rfl) (HJ.out 5 (by omega) _ rfl) (HJ.out 6 (by omega) _ rfl) (HJ.out 7 (by omega) _ rfl) (HJ.out 8 (by omega) _ rfl) (HJ.out 9 (by omega) _ rfl)
   clear HJ
   have hz2 := HZ.out.trans hz
   clear hz HZ
   subst hz2
   go_wp2
   go_ret
   exact ⟨rfl, rfl⟩
  rcases (show k = 0 \/ k = 1 \/ k = 2 \/ k = 3 \/ k = 4 \/ k = 5 \/ k = 6 \/ k = 7 \/ k = 8 \/ k = 9 by omega) with rfl | rfl | rfl | rfl | rfl | rfl | rfl | rfl | rfl | rfl
  ·by_cases hq : wd.data.toList = []
   ·obtain rfl : wd = ⟨#[]⟩ := by rw [<- bl_back wd, hq]
    have hz : kdN (⟨#[]⟩ : ByteArray).data.toList = 0 := by decide
    have hz2 := HZ.out.trans hz
    clear hz HZ hq HJ
    subst hz2
    have hix := HX0.out wr
    go_wp2
    go_ret
    exact ⟨rfl, rfl⟩
   ·have hne : ([] == wd.toList) = false := by rw [ByteArray.toList_eq]; exact beq_eq_false_iff_ne.2 (fun h => hq h.symm)
    have HJ2 : Hid (∀ j, j < 1 -> ∀ l, ([[], [97, 100, 100], [100, 114, 111, 112], [102, 101, 116, 99, 104], [114, 101, 97, 100], [117, 110, 114, 101, 97, 100], [115, 116, 97, 114], [117, 110, 115, 116, 97, 114], [97, 108, 108], [112, 117, 114, 103, 101]] : List (List UInt8))[j]? = some l -> wd.data.toList ≠ l) := Lib.hid (fun j hj l hl => by
     by_cases h : j < 0
     ·exact HJ.out j h l hl
     ·obtain rfl : j = 0 := by omega
      cases hl
      exact hq)
    have hix := HX0.out wr
    clear HJ hq
    go_wp2
    go_roundw
    case rel => exact ⟨1, by omega, by go_num, by first | rfl | trivial, HJ2⟩
    case measure => simp [intOf]
  ·by_cases hq : wd.data.toList = [97, 100, 100]
   ·obtain rfl : wd = ⟨#[97, 100, 100]⟩ := by rw [<- bl_back wd, hq]
    have hz : kdN (⟨#[97, 100, 100]⟩ : ByteArray).data.toList = 1 := by decide
    have hz2 := HZ.out.trans hz
    clear hz HZ hq HJ
    subst hz2
    have hix := HX1.out wr
    go_wp2
    go_ret
    exact ⟨rfl, rfl⟩
   ·have hne : ([97, 100, 100] == wd.toList) = false := by rw [ByteArray.toList_eq]; exact beq_eq_false_iff_ne.2 (fun h => hq h.symm)
    have HJ2 : Hid (∀ j, j < 2 -> ∀ l, ([[], [97, 100, 100], [100, 114, 111, 112], [102, 101, 116, 99, 104], [114, 101, 97, 100], [117, 110, 114, 101, 97, 100], [115, 116, 97, 114], [117, 110, 115, 116, 97, 114], [97, 108, 108], [112, 117, 114, 103, 101]] : List (List UInt8))[j]? = some l -> wd.data.toList ≠ l) := Lib.hid (fun j hj l hl => by
     by_cases h : j < 1
     ·exact HJ.out j h l hl
     ·obtain rfl : j = 1 := by omega
      cases hl
      exact hq)
    have hix := HX1.out wr
    clear HJ hq
    go_wp2
    go_roundw
    case rel => exact ⟨2, by omega, by go_num, by first | rfl | trivial, HJ2⟩
    case measure => simp [intOf]
  ·by_cases hq : wd.data.toList = [100, 114, 111, 112]
   ·obtain rfl : wd = ⟨#[100, 114, 111, 112]⟩ := by rw [<- bl_back wd, hq]
    have hz : kdN (⟨#[100, 114, 111, 112]⟩ : ByteArray).data.toList = 2 := by decide
    have hz2 := HZ.out.trans hz
    clear hz HZ hq HJ
    subst hz2
    have hix := HX2.out wr
    go_wp2
    go_ret
    exact ⟨rfl, rfl⟩
   ·have hne : ([100, 114, 111, 112] == wd.toList) = false := by rw [ByteArray.toList_eq]; exact beq_eq_false_iff_ne.2 (fun h => hq h.symm)
    have HJ2 : Hid (∀ j, j < 3 -> ∀ l, ([[], [97, 100, 100], [100, 114, 111, 112], [102, 101, 116, 99, 104], [114, 101, 97, 100], [117, 110, 114, 101, 97, 100], [115, 116, 97, 114], [117, 110, 115, 116, 97, 114], [97, 108, 108], [112, 117, 114, 103, 101]] : List (List UInt8))[j]? = some l -> wd.data.toList ≠ l) := Lib.hid (fun j hj l hl => by
     by_cases h : j < 2
     ·exact HJ.out j h l hl
     ·obtain rfl : j = 2 := by omega
      cases hl
      exact hq)
    have hix := HX2.out wr
    clear HJ hq
    go_wp2
    go_roundw
    case rel => exact ⟨3, by omega, by go_num, by first | rfl | trivial, HJ2⟩
    case measure => simp [intOf]
  ·by_cases hq : wd.data.toList = [102, 101, 116, 99, 104]
   ·obtain rfl : wd = ⟨#[102, 101, 116, 99, 104]⟩ := by rw [<- bl_back wd, hq]
    have hz : kdN (⟨#[102, 101, 116, 99, 104]⟩ : ByteArray).data.toList = 3 := by decide
    have hz2 := HZ.out.trans hz
    clear hz HZ hq HJ
    subst hz2
    have hix := HX3.out wr
    go_wp2
    go_ret
    exact ⟨rfl, rfl⟩
   ·have hne : ([102, 101, 116, 99, 104] == wd.toList) = false := by rw [ByteArray.toList_eq]; exact beq_eq_false_iff_ne.2 (fun h => hq h.symm)
    have HJ2 : Hid (∀ j, j < 4 -> ∀ l, ([[], [97, 100, 100], [100, 114, 111, 112], [102, 101, 116, 99, 104], [114, 101, 97, 100], [117, 110, 114, 101, 97, 100], [115, 116, 97, 114], [117, 110, 115, 116, 97, 114], [97, 108, 108], [112, 117, 114, 103, 101]] : List (List UInt8))[j]? = some l -> wd.data.toList ≠ l) := Lib.hid (fun j hj l hl => by
     by_cases h : j < 3
     ·exact HJ.out j h l hl
     ·obtain rfl : j = 3 := by omega
      cases hl
      exact hq)
    have hix := HX3.out wr
    clear HJ hq
    go_wp2
    go_roundw
    case rel => exact ⟨4, by omega, by go_num, by first | rfl | trivial, HJ2⟩
    case measure => simp [intOf]
  ·by_cases hq : wd.data.toList = [114, 101, 97, 100]
   ·obtain rfl : wd = ⟨#[114, 101, 97, 100]⟩ := by rw [<- bl_back wd, hq]
    have hz : kdN (⟨#[114, 101, 97, 100]⟩ : ByteArray).data.toList = 4 := by decide
    have hz2 := HZ.out.trans hz
    clear hz HZ hq HJ
    subst hz2
    have hix := HX4.out wr
    go_wp2
    go_ret
    exact ⟨rfl, rfl⟩
   ·have hne : ([114, 101, 97, 100] == wd.toList) = false := by rw [ByteArray.toList_eq]; exact beq_eq_false_iff_ne.2 (fun h => hq h.symm)
    have HJ2 : Hid (∀ j, j < 5 -> ∀ l, ([[], [97, 100, 100], [100, 114, 111, 112], [102, 101, 116, 99, 104], [114, 101, 97, 100], [117, 110, 114, 101, 97, 100], [115, 116, 97, 114], [117, 110, 115, 116, 97, 114], [97, 108, 108], [112, 117, 114, 103, 101]] : List (List UInt8))[j]? = some l -> wd.data.toList ≠ l) := Lib.hid (fun j hj l hl => by
     by_cases h : j < 4
     ·exact HJ.out j h l hl
     ·obtain rfl : j = 4 := by omega
      cases hl
      exact hq)
    have hix := HX4.out wr
    clear HJ hq
    go_wp2
    go_roundw
    case rel => exact ⟨5, by omega, by go_num, by first | rfl | trivial, HJ2⟩
    case measure => simp [intOf]
  ·by_cases hq : wd.data.toList = [117, 110, 114, 101, 97, 100]
   ·obtain rfl : wd = ⟨#[117, 110, 114, 101, 97, 100]⟩ := by rw [<- bl_back wd, hq]
    have hz : kdN (⟨#[117, 110, 114, 101, 97, 100]⟩ : ByteArray).data.toList = 5 := by decide
    have hz2 := HZ.out.trans hz
    clear hz HZ hq HJ
    subst hz2
    have hix := HX5.out wr
    go_wp2
    go_ret
    exact ⟨rfl, rfl⟩
   ·have hne : ([117, 110, 114, 101, 97, 100] == wd.toList) = false := by rw [ByteArray.toList_eq]; exact beq_eq_false_iff_ne.2 (fun h => hq h.symm)
    have HJ2 : Hid (∀ j, j < 6 -> ∀ l, ([[], [97, 100, 100], [100, 114, 111, 112], [102, 101, 116, 99, 104], [114, 101, 97, 100], [117, 110, 114, 101, 97, 100], [115, 116, 97, 114], [117, 110, 115, 116, 97, 114], [97, 108, 108], [112, 117, 114, 103, 101]] : List (List UInt8))[j]? = some l -> wd.data.toList ≠ l) := Lib.hid (fun j hj l hl => by
     by_cases h : j < 5
     ·exact HJ.out j h l hl
     ·obtain rfl : j = 5 := by omega
      cases hl
      exact hq)
    have hix := HX5.out wr
    clear HJ hq
    go_wp2
    go_roundw
    case rel => exact ⟨6, by omega, by go_num, by first | rfl | trivial, HJ2⟩
    case measure => simp [intOf]
  ·by_cases hq : wd.data.toList = [115, 116, 97, 114]
   ·obtain rfl : wd = ⟨#[115, 116, 97, 114]⟩ := by rw [<- bl_back wd, hq]
    have hz : kdN (⟨#[115, 116, 97, 114]⟩ : ByteArray).data.toList = 6 := by decide
    have hz2 := HZ.out.trans hz
    clear hz HZ hq HJ
    subst hz2
    have hix := HX6.out wr
    go_wp2
    go_ret
    exact ⟨rfl, rfl⟩
   ·have hne : ([115, 116, 97, 114] == wd.toList) = false := by rw [ByteArray.toList_eq]; exact beq_eq_false_iff_ne.2 (fun h => hq h.symm)
    have HJ2 : Hid (∀ j, j < 7 -> ∀ l, ([[], [97, 100, 100], [100, 114, 111, 112], [102, 101, 116, 99, 104], [114, 101, 97, 100], [117, 110, 114, 101, 97, 100], [115, 116, 97, 114], [117, 110, 115, 116, 97, 114], [97, 108, 108], [112, 117, 114, 103, 101]] : List (List UInt8))[j]? = some l -> wd.data.toList ≠ l) := Lib.hid (fun j hj l hl => by
     by_cases h : j < 6
     ·exact HJ.out j h l hl
     ·obtain rfl : j = 6 := by omega
      cases hl
      exact hq)
    have hix := HX6.out wr
    clear HJ hq
    go_wp2
    go_roundw
    case rel => exact ⟨7, by omega, by go_num, by first | rfl | trivial, HJ2⟩
    case measure => simp [intOf]
  ·by_cases hq : wd.data.toList = [117, 110, 115, 116, 97, 114]
   ·obtain rfl : wd = ⟨#[117, 110, 115, 116, 97, 114]⟩ := by rw [<- bl_back wd, hq]
    have hz : kdN (⟨#[117, 110, 115, 116, 97, 114]⟩ : ByteArray).data.toList = 7 := by decide
    have hz2 := HZ.out.trans hz
    clear hz HZ hq HJ
    subst hz2
    have hix := HX7.out wr
    go_wp2
    go_ret
    exact ⟨rfl, rfl⟩
   ·have hne : ([117, 110, 115, 116, 97, 114] == wd.toList) = false := by rw [ByteArray.toList_eq]; exact beq_eq_false_iff_ne.2 (fun h => hq h.symm)
    have HJ2 : Hid (∀ j, j < 8 -> ∀ l, ([[], [97, 100, 100], [100, 114, 111, 112], [102, 101, 116, 99, 104], [114, 101, 97, 100], [117, 110, 114, 101, 97, 100], [115, 116, 97, 114], [117, 110, 115, 116, 97, 114], [97, 108, 108], [112, 117, 114, 103, 101]] : List (List UInt8))[j]? = some l -> wd.data.toList ≠ l) := Lib.hid (fun j hj l hl => by
     by_cases h : j < 7
     ·exact HJ.out j h l hl
     ·obtain rfl : j = 7 := by omega
      cases hl
      exact hq)
    have hix := HX7.out wr
    clear HJ hq
    go_wp2
    go_roundw
    case rel => exact ⟨8, by omega, by go_num, by first | rfl | trivial, HJ2⟩
    case measure => simp [intOf]
  ·by_cases hq : wd.data.toList = [97, 108, 108]
   ·obtain rfl : wd = ⟨#[97, 108, 108]⟩ := by rw [<- bl_back wd, hq]
    have hz : kdN (⟨#[97, 108, 108]⟩ : ByteArray).data.toList = 8 := by decide
    have hz2 := HZ.out.trans hz
    clear hz HZ hq HJ
    subst hz2
    have hix := HX8.out wr
    go_wp2
    go_ret
    exact ⟨rfl, rfl⟩
   ·have hne : ([97, 108, 108] == wd.toList) = false := by rw [ByteArray.toList_eq]; exact beq_eq_false_iff_ne.2 (fun h => hq h.symm)
    have HJ2 : Hid (∀ j, j < 9 -> ∀ l, ([[], [97, 100, 100], [100, 114, 111, 112], [102, 101, 116, 99, 104], [114, 101, 97, 100], [117, 110, 114, 101, 97, 100], [115, 116, 97, 114], [117, 110, 115, 116, 97, 114], [97, 108, 108], [112, 117, 114, 103, 101]] : List (List UInt8))[j]? = some l -> wd.data.toList ≠ l) := Lib.hid (fun j hj l hl => by
     by_cases h : j < 8
     ·exact HJ.out j h l hl
     ·obtain rfl : j = 8 := by omega
      cases hl
      exact hq)
    have hix := HX8.out wr
    clear HJ hq
    go_wp2
    go_roundw
    case rel => exact ⟨9, by omega, by go_num, by first | rfl | trivial, HJ2⟩
    case measure => simp [intOf]
  ·by_cases hq : wd.data.toList = [112, 117, 114, 103, 101]
   ·obtain rfl : wd = ⟨#[112, 117, 114, 103, 101]⟩ := by rw [<- bl_back wd, hq]
    have hz : kdN (⟨#[112, 117, 114, 103, 101]⟩ : ByteArray).data.toList = 9 := by decide
    have hz2 := HZ.out.trans hz
    clear hz HZ hq HJ
    subst hz2
    have hix := HX9.out wr
    go_wp2
    go_ret
    exact ⟨rfl, rfl⟩
   ·have hne : ([112, 117, 114, 103, 101] == wd.toList) = false := by rw [ByteArray.toList_eq]; exact beq_eq_false_iff_ne.2 (fun h => hq h.symm)
    have HJ2 : Hid (∀ j, j < 10 -> ∀ l, ([[], [97, 100, 100], [100, 114, 111, 112], [102, 101, 116, 99, 104], [114, 101, 97, 100], [117, 110, 114, 101, 97, 100], [115, 116, 97, 114], [117, 110, 115, 116, 97, 114], [97, 108, 108], [112, 117, 114, 103, 101]] : List (List UInt8))[j]? = some l -> wd.data.toList ≠ l) := Lib.hid (fun j hj l hl => by
     by_cases h : j < 9
     ·exact HJ.out j h l hl
     ·obtain rfl : j = 9 := by omega
      cases hl
      exact hq)
    have hix := HX9.out wr
    clear HJ hq
    go_wp2
    go_roundw
    case rel => exact ⟨10, by omega, by go_num, by first | rfl | trivial, HJ2⟩
    case measure => simp [intOf]
theorem readDeed_1 (s : ByteArray) (w : World) (hs : s.size <= 2000000) :
  Calls Tryz.prog 57 #[.iface 121 (.agg #[.string ⟨#[]⟩]), .string s] w fun e w' => e = .returned (.tuple #[.iface 121 (.agg #[.string s]), .bool true]) /\ Below w.heap.size w w' := by
 have e1 := Tryz.asFF (.agg #[.string ⟨#[]⟩])
 have HC := Lib.hid (fun w => cloneO_any s w (by omega))
 go_enter Tryz.func57, Tryz.ntmps57
 go_wp2_with fail
 refine (HC.out _).mono ?_
 rintro e w1 ⟨rfl, hb⟩
 go_wp2
 go_ret2
 exact ⟨rfl, hb⟩
theorem readDeed_3 (s : ByteArray) (w : World) (hE : ETab w) (hX : XTab w) (hM : MTab w) :
  Calls Tryz.prog 57 #[.iface 123 (.agg #[.string ⟨#[]⟩, .string ⟨#[]⟩, .slice none 0 0]), .string s] w fun e w' => (∃ (u t : ByteArray) (v : Value) (its : List It) (b : Bool), e = .returned (.tuple #[.iface 123 (.agg #[.string u, .string t, v]), .bool b]) /\ ((b = false /\ rdF s = none) \/ (b = true /\ rdF s = some ⟨u, t, its⟩ /\ OwnR 55 3 itC w' w.heap.size v its))) /\ Below w.heap.size w w' := by
 have e1 := Tryz.asTF (.agg #[.string ⟨#[]⟩, .string ⟨#[]⟩, .slice none 0 0])
 have e2 := Tryz.asTT (.agg #[.string ⟨#[]⟩, .string ⟨#[]⟩, .slice none 0 0])
 have HR := Lib.hid (implReadFeed_any s w hE hX hM)
 clear hE hX hM
 go_enter Tryz.func57, Tryz.ntmps57
 go_wp2_with fail
 refine HR.out.mono ?_
 rintro e w1 ⟨hr, hb⟩
 cases hf : rdF s with
 | none =>
  rw [hf] at hr
  obtain rfl : e = .returned (.tuple #[fV ⟨#[]⟩ ⟨#[]⟩ (.slice none 0 0), .bool false]) := hr
  have hB := hb.alloc hb.size (fC ⟨#[]⟩ ⟨#[]⟩ (.slice none 0 0))
  go_wp2
  go_ret2
  exact ⟨⟨⟨#[]⟩, ⟨#[]⟩, .slice none 0 0, [], false, rfl, .inl ⟨rfl, hf⟩⟩, hB⟩
 | some f =>
  rw [hf] at hr
  obtain ⟨v, rfl, hown⟩ := hr
  obtain ⟨fu, ft, its⟩ := f
  obtain ⟨va, vc, rfl⟩ := hown.slice
  have hB := hb.alloc hb.size (fC fu ft (.slice va its.length vc))
  have hO := hown.alloc (fC fu ft (.slice va its.length vc))
  dsimp only at hO hown
  clear hown
  go_wp2
  go_ret2
  exact ⟨⟨fu, ft, .slice va its.length vc, its, true, rfl, .inr ⟨rfl, hf, hO⟩⟩, hB⟩
theorem readDeed_4 (s : ByteArray) (w : World) (hs : s.size <= 2000000) (hX : XTab w) :
  Calls Tryz.prog 57 #[.iface 125 (.agg #[.string ⟨#[]⟩, .string ⟨#[]⟩]), .string s] w fun e w' => e = .returned (.tuple #[.iface 125 (.agg #[.string (bl (Lib.cut s.data.toList [32]).1), .string (bl (Lib.cut s.data.toList [32]).2.1)]), .bool (Lib.cut s.data.toList [32]).2.2]) /\ Below w.heap.size w w' := by
 have e1 := Tryz.asEF (.agg #[.string ⟨#[]⟩, .string ⟨#[]⟩])
 have e2 := Tryz.asET (.agg #[.string ⟨#[]⟩, .string ⟨#[]⟩])
 have e3 := Tryz.asEE (.agg #[.string ⟨#[]⟩, .string ⟨#[]⟩])
 have HC := Lib.hid (fun w => cloneO_any s w (by omega))
 have HX := Lib.hid hX
 have HT := Lib.hid (fun w h => cutm2_any s ⟨#[32]⟩ w (by omega) h)
 generalize hc : Lib.cut s.data.toList (⟨#[32]⟩ : ByteArray).data.toList = c at HT
 have hc2 : Lib.cut s.data.toList [32] = c := hc
 try rw [hc2]
 clear hc hc2 hX hs
 obtain ⟨ca, cb, cc⟩ := c
 dsimp only at HT ⊢
 go_enter Tryz.func57, Tryz.ntmps57
 go_wp2_with fail
 refine (HC.out _).mono ?_
 rintro e w1 ⟨rfl, hb⟩
 have hx := HX.out.below hb (Nat.le_refl _)
 go_wp2_with fail
 refine (HT.out _ hx).mono ?_
 rintro e w2 ⟨rfl, hb2⟩
 have hB := hb.trans (hb2.mono hb.size)
 clear hb hb2 hx
 go_wp2
 go_ret2
 exact ⟨rfl, hB⟩
theorem readDeed_9 (s : ByteArray) (w : World) (hM : MTab w) :
  Calls Tryz.prog 57 #[.iface 127 (.agg #[.int .i64 0]), .string s] w fun e w' => (∃ n : Int, e = .returned (.tuple #[.iface 127 (.agg #[.int .i64 n]), .bool (rdOk s)]) /\ (rdOk s = true -> n = dN (rY s) (rM s) (rD s))) /\ Below w.heap.size w w' := by
 have e1 := Tryz.asDF (.agg #[.int .i64 0])
 have e2 := Tryz.asDT (.agg #[.int .i64 0])
 have e3 := Tryz.asDE (.agg #[.int .i64 0])
 have e4 := Tryz.asDD (.agg #[.int .i64 0])
 have HM := Lib.hid hM
 have HR := Lib.hid (fun w h => implReadDate_any s w h)
 obtain ⟨n, hn⟩ : ∃ n : Int, (∀ w, MTab w -> ∃ y m d : Int, rdV s = .tuple #[dV y m d, .bool (rdOk s)] /\ Calls Tryz.prog 85 #[dV y m d] w fun e w' => e = .returned (.int .i64 n) /\ Below w.heap.size w w') /\ (rdOk s = true -> n = dN (rY s) (rM s) (rD s)) := by
  cases h : rdOk s with
  | true =>
   have hk := ((rdOk_iff s).1 h).2.2.2
   exact ⟨_, fun w hM => ⟨_, _, _, rdV_yes ((rdOk_iff s).1 h), implDayOf_any _ _ _ w hM⟩, fun _ => by unfold dayR; rw [if_pos hk]⟩
  | false => exact ⟨_, fun w hM => ⟨0, 0, 0, rdV_not (fun hx => by rw [(rdOk_iff s).2 hx] at h; cases h), implDayOf_any _ _ _ w hM⟩, fun hx => by cases hx⟩
 have HN := Lib.hid hn
 clear hn hM
 generalize rdOk s = F at HN ⊢
 go_enter Tryz.func57, Tryz.ntmps57
 go_wp2_with fail
 refine (HR.out _ HM.out).mono ?_
 rintro e w1 ⟨rfl, hb⟩
 have hm := HM.out.below hb (Nat.le_refl _)
 obtain ⟨y0, m0, d0, hv, _⟩ := HN.out.1 _ hm
 have hB := hb.alloc hb.size (dC y0 m0 d0)
 have hm2 := hm.below ((Below.refl _ _).alloc (Nat.le_refl _) (dC y0 m0 d0)) (Nat.le_refl _)
 obtain ⟨y1, m1, d1, hv2, HD⟩ := HN.out.1 _ hm2
 rw [hv] at hv2 ⊢
 cases hv2
 have HDh := Lib.hid HD
 clear HD
 go_wp2_with fail
 refine HDh.out.mono ?_
 rintro e w2 ⟨rfl, hb2⟩
 have hB2 := hB.trans (hb2.mono hB.size)
 clear hb hb2 hm hm2 hB
 go_wp2
 go_ret2
 exact ⟨⟨n, rfl, HN.out.2⟩, hB2⟩
end Go.Proofs.YtffkakpbelknaaaGreatDoor
namespace Go.Proofs.YtffkakpbelknaaaGreatDoor
open Go.ChangeShapes Go.WideShapes Go.ChangeAt Go.RowKit Go.Shelf
set_option linter.unusedVariables false
set_option linter.unusedSimpArgs false
theorem Tryz.infOpR : (Tryz.prog.info? 35).map (·.size) = some 7 := by kernel_rfl
theorem put7o (w : World) (gg : Nat) (a b c d e f h : Value) {cs : Array Value} {t : TypeId} (hx : Box w gg cs t) (hz : cs.size = 7) : Box (((((((w.setCell ⟨gg, 0, none⟩ a).setCell ⟨gg, 1, none⟩ b).setCell ⟨gg, 2, none⟩ c).setCell ⟨gg, 3, none⟩ d).setCell ⟨gg, 4, none⟩ e).setCell ⟨gg, 5, none⟩ f).setCell ⟨gg, 6, none⟩ h) gg #[a, b, c, d, e, f, h] t := by
 obtain ⟨xs, rfl, hl⟩ := arrS hz
 exact Box.fillAll (us := [a, b, c, d, e, f, h]) hx hl.symm
theorem below7o (w : World) (B gg : Nat) (hB : B <= gg) (a b c d e f h : Value) : Below B w (((((((w.setCell ⟨gg, 0, none⟩ a).setCell ⟨gg, 1, none⟩ b).setCell ⟨gg, 2, none⟩ c).setCell ⟨gg, 3, none⟩ d).setCell ⟨gg, 4, none⟩ e).setCell ⟨gg, 5, none⟩ f).setCell ⟨gg, 6, none⟩ h) := below_putRow gg B hB [a, b, c, d, e, f, h] 0 w
theorem results_op1 {fn : Func} {p : Tmp} (h : fn.results = #[.cell p 35]) (tmps : Array Value) (w : World) (g : Nat) (k : Int) (u i : ByteArray) (d : Int) (fu ft : ByteArray) (x : Value)
  (hp : tmps.getD p undef = .pointer (some ⟨g, 0, none⟩)) (hA : Box w g #[.int .i64 k, .string u, .string i, .int .i64 d, .string fu, .string ft, x] 35) : (results fn tmps).run Tryz.prog w = .ok (opV ⟨k, u, i, d, fu, ft, []⟩ x) w :=
 results_cell_row h tmps w g _ _ _ _ hp hA Tryz.underlying35 rfl Tryz.infOpR
theorem results_op2 {fn : Func} {p q : Tmp} (h : fn.results = #[.cell p 35, .tmp q]) (tmps : Array Value) (w : World) (g : Nat) (k : Int) (u i : ByteArray) (d : Int) (fu ft : ByteArray) (x b : Value)
  (hp : tmps.getD p undef = .pointer (some ⟨g, 0, none⟩)) (hu : tmps.getD q undef = b) (hA : Box w g #[.int .i64 k, .string u, .string i, .int .i64 d, .string fu, .string ft, x] 35) : (results fn tmps).run Tryz.prog w = .ok (.tuple #[opV ⟨k, u, i, d, fu, ft, []⟩ x, b]) w := by
 have e := run_loadVar_row (P := Tryz.prog) w g _ 35 _ _ _ hA Tryz.underlying35 rfl Tryz.infOpR
 rw [results_cell_tmp h, hp, hu]
 simp [asAddr, e, Result.andThen]
theorem Tryz.mthF (v : Value) (w : World) : (method 375 121 v "loop.example/g00569/impl.op").run Tryz.prog w = .ok (282, v) w := by kernel_rfl
theorem Tryz.mthT (v : Value) (w : World) : (method 375 123 v "loop.example/g00569/impl.op").run Tryz.prog w = .ok (283, v) w := by kernel_rfl
theorem Tryz.mthE (v : Value) (w : World) : (method 375 125 v "loop.example/g00569/impl.op").run Tryz.prog w = .ok (284, v) w := by kernel_rfl
theorem Tryz.mthD (v : Value) (w : World) : (method 375 127 v "loop.example/g00569/impl.op").run Tryz.prog w = .ok (285, v) w := by kernel_rfl
theorem Tryz.asNF (w : World) : (Instr.typeAssert .nilIface 81 121 true).run Tryz.prog w = .ok (.tuple #[.agg #[.string ⟨#[]⟩], .bool false]) w := by kernel_rfl
theorem Tryz.asNT (w : World) : (Instr.typeAssert .nilIface 81 123 true).run Tryz.prog w = .ok (.tuple #[.agg #[.string ⟨#[]⟩, .string ⟨#[]⟩, .slice none 0 0], .bool false]) w := by kernel_rfl
theorem Tryz.asNE (w : World) : (Instr.typeAssert .nilIface 81 125 true).run Tryz.prog w = .ok (.tuple #[.agg #[.string ⟨#[]⟩, .string ⟨#[]⟩], .bool false]) w := by kernel_rfl
theorem Tryz.asND (w : World) : (Instr.typeAssert .nilIface 81 127 true).run Tryz.prog w = .ok (.tuple #[.agg #[.int .i64 0], .bool false]) w := by kernel_rfl
theorem readDeed_0 (s : ByteArray) (w : World) :
  Calls Tryz.prog 57 #[.nilIface, .string s] w fun e w' => e = .returned (.tuple #[.nilIface, .bool false]) /\ Below w.heap.size w w' := by
 have e1 := Tryz.asNF
 have e2 := Tryz.asNT
 have e3 := Tryz.asNE
 have e4 := Tryz.asND
 go_enter Tryz.func57, Tryz.ntmps57
 go_wp2
 go_ret2
 exact ⟨rfl, Below.refl _ _⟩
theorem deedOf_0 (u i : ByteArray) (d : Int) (fu ft : ByteArray) (x : Value) (w : World) :
  Calls Tryz.prog 54 #[.agg #[.int .i64 0, .string u, .string i, .int .i64 d, .string fu, .string ft, x]] w fun e w' => e = .returned .nilIface /\ Below w.heap.size w w' := by
 have hB0 : Below w.heap.size w (w.alloc (.cells #[.int .i64 0, .string u, .string i, .int .i64 d, .string fu, .string ft, x] 35)) := (Below.refl _ _).alloc (Nat.le_refl _) _
 go_enter Tryz.func54, Tryz.ntmps54
 go_wp2
 go_ret
 exact ⟨rfl, hB0⟩
theorem opF_any (k : Int) (u : ByteArray) (w : World) :
  Calls Tryz.prog 282 #[.agg #[.string u], .int .i64 k] w fun e w' => e = .returned (.agg #[.int .i64 k, .string u, .string ⟨#[]⟩, .int .i64 0, .string ⟨#[]⟩, .string ⟨#[]⟩, .slice none 0 0]) /\ Below w.heap.size w w' := by
 have hB0 : Below w.heap.size w ((w.alloc (.cells #[.string u] 121)).alloc (.cells #[.int .i64 k, .string u, .string ⟨#[]⟩, .int .i64 0, .string ⟨#[]⟩, .string ⟨#[]⟩, .slice none 0 0] 35)) := ((Below.refl _ _).alloc (Nat.le_refl _) _).alloc (by simp) _
 have hx : Box ((w.alloc (.cells #[.string u] 121)).alloc (.cells #[.int .i64 k, .string u, .string ⟨#[]⟩, .int .i64 0, .string ⟨#[]⟩, .string ⟨#[]⟩, .slice none 0 0] 35)) (w.heap.size + 1) #[.int .i64 k, .string u, .string ⟨#[]⟩, .int .i64 0, .string ⟨#[]⟩, .string ⟨#[]⟩, .slice none 0 0] 35 := by
  have := Box.new (w.alloc (.cells #[.string u] 121)) #[.int .i64 k, .string u, .string ⟨#[]⟩, .int .i64 0, .string ⟨#[]⟩, .string ⟨#[]⟩, .slice none 0 0] 35
  simpa using this
 go_enter Tryz.func282, Tryz.ntmps282
 go_wp2
 exact bodyPost_ret (results_op1 rfl _ _ _ _ _ _ _ _ _ _ rfl hx) rfl ⟨rfl, hB0⟩
theorem opT_any (k : Int) (u t : ByteArray) (a : Option Addr) (n c : Nat) (w : World) :
  Calls Tryz.prog 283 #[.agg #[.string u, .string t, .slice a n c], .int .i64 k] w fun e w' => e = .returned (.agg #[.int .i64 k, .string ⟨#[]⟩, .string ⟨#[]⟩, .int .i64 0, .string u, .string t, .slice a n c]) /\ Below w.heap.size w w' := by
 have hB0 : Below w.heap.size w ((w.alloc (.cells #[.string u, .string t, .slice a n c] 123)).alloc (.cells #[.int .i64 k, .string ⟨#[]⟩, .string ⟨#[]⟩, .int .i64 0, .string u, .string t, .slice a n c] 35)) := ((Below.refl _ _).alloc (Nat.le_refl _) _).alloc (by simp) _
 have hx : Box ((w.alloc (.cells #[.string u, .string t, .slice a n c] 123)).alloc (.cells #[.int .i64 k, .string ⟨#[]⟩, .string ⟨#[]⟩, .int .i64 0, .string u, .string t, .slice a n c] 35)) (w.heap.size + 1) #[.int .i64 k, .string ⟨#[]⟩, .string ⟨#[]⟩, .int .i64 0, .string u, .string t, .slice a n c] 35 := by
  have := Box.new (w.alloc (.cells #[.string u, .string t, .slice a n c] 123)) #[.int .i64 k, .string ⟨#[]⟩, .string ⟨#[]⟩, .int .i64 0, .string u, .string t, .slice a n c] 35
  simpa using this
 go_enter Tryz.func283, Tryz.ntmps283
 go_wp2
 exact bodyPost_ret (results_op1 rfl _ _ _ _ _ _ _ _ _ _ rfl hx) rfl ⟨rfl, hB0⟩
theorem opE_any (k : Int) (u i : ByteArray) (w : World) :
  Calls Tryz.prog 284 #[.agg #[.string u, .string i], .int .i64 k] w fun e w' => e = .returned (.agg #[.int .i64 k, .string u, .string i, .int .i64 0, .string ⟨#[]⟩, .string ⟨#[]⟩, .slice none 0 0]) /\ Below w.heap.size w w' := by
 have hB0 : Below w.heap.size w ((w.alloc (.cells #[.string u, .string i] 125)).alloc (.cells #[.int .i64 k, .string u, .string i, .int .i64 0, .string ⟨#[]⟩, .string ⟨#[]⟩, .slice none 0 0] 35)) := ((Below.refl _ _).alloc (Nat.le_refl _) _).alloc (by simp) _
 have hx : Box ((w.alloc (.cells #[.string u, .string i] 125)).alloc (.cells #[.int .i64 k, .string u, .string i, .int .i64 0, .string ⟨#[]⟩, .string ⟨#[]⟩, .slice none 0 0] 35)) (w.heap.size + 1) #[.int .i64 k, .string u, .string i, .int .i64 0, .string ⟨#[]⟩, .string ⟨#[]⟩, .slice none 0 0] 35 := by
  have := Box.new (w.alloc (.cells #[.string u, .string i] 125)) #[.int .i64 k, .string u, .string i, .int .i64 0, .string ⟨#[]⟩, .string ⟨#[]⟩, .slice none 0 0] 35
  simpa using this
 go_enter Tryz.func284, Tryz.ntmps284
 go_wp2
 exact bodyPost_ret (results_op1 rfl _ _ _ _ _ _ _ _ _ _ rfl hx) rfl ⟨rfl, hB0⟩
theorem opD_any (k : Int) (d : Int) (w : World) :
  Calls Tryz.prog 285 #[.agg #[.int .i64 d], .int .i64 k] w fun e w' => e = .returned (.agg #[.int .i64 k, .string ⟨#[]⟩, .string ⟨#[]⟩, .int .i64 d, .string ⟨#[]⟩, .string ⟨#[]⟩, .slice none 0 0]) /\ Below w.heap.size w w' := by
 have hB0 : Below w.heap.size w ((w.alloc (.cells #[.int .i64 d] 127)).alloc (.cells #[.int .i64 k, .string ⟨#[]⟩, .string ⟨#[]⟩, .int .i64 d, .string ⟨#[]⟩, .string ⟨#[]⟩, .slice none 0 0] 35)) := ((Below.refl _ _).alloc (Nat.le_refl _) _).alloc (by simp) _
 have hx : Box ((w.alloc (.cells #[.int .i64 d] 127)).alloc (.cells #[.int .i64 k, .string ⟨#[]⟩, .string ⟨#[]⟩, .int .i64 d, .string ⟨#[]⟩, .string ⟨#[]⟩, .slice none 0 0] 35)) (w.heap.size + 1) #[.int .i64 k, .string ⟨#[]⟩, .string ⟨#[]⟩, .int .i64 d, .string ⟨#[]⟩, .string ⟨#[]⟩, .slice none 0 0] 35 := by
  have := Box.new (w.alloc (.cells #[.int .i64 d] 127)) #[.int .i64 k, .string ⟨#[]⟩, .string ⟨#[]⟩, .int .i64 d, .string ⟨#[]⟩, .string ⟨#[]⟩, .slice none 0 0] 35
  simpa using this
 go_enter Tryz.func285, Tryz.ntmps285
 go_wp2
 exact bodyPost_ret (results_op1 rfl _ _ _ _ _ _ _ _ _ _ rfl hx) rfl ⟨rfl, hB0⟩
def RoOut (S : Nat) (o : Option OpD) (e : Ending) (w' : World) : Prop := match o with
 | none => e = .returned (.tuple #[opV (o0 0) (.slice none 0 0), .bool false])
 | some q => ∃ v, e = .returned (.tuple #[opV q v, .bool true]) /\ OwnR 55 3 itC w' S v q.its
theorem ro_zero {o : Option OpD} {S : Nat} {w' : World} (ho : o = none) : RoOut S o (.returned (.tuple #[opV (o0 0) (.slice none 0 0), .bool false])) w' := by
 rw [ho]; rfl
theorem ro_some {o : Option OpD} {S : Nat} {w' : World} {q : OpD} {v : Value} (ho : o = some q) (h : OwnR 55 3 itC w' S v q.its) : RoOut S o (.returned (.tuple #[opV q v, .bool true])) w' := by
 rw [ho]; exact ⟨v, rfl, h⟩
theorem implReadOp_any (s : ByteArray) (w : World) (hs : s.size <= 2000000) (hO : OTab w) (hE : ETab w) (hX : XTab w) (hM : MTab w) :
  Calls Tryz.prog 18 #[.string s] w fun e w' => RoOut w.heap.size (rdO s) e w' /\ Below w.heap.size w w' := by
 obtain ⟨o, ho⟩ : ∃ o, o = rdO s := ⟨_, rfl⟩
 rw [<- ho]
 have hz := Box.new w #[.int .i64 0, .string ⟨#[]⟩, .string ⟨#[]⟩, .int .i64 0, .string ⟨#[]⟩, .string ⟨#[]⟩, .slice none 0 0] 35
 have hB : Below w.heap.size w (w.alloc (.cells #[.int .i64 0, .string ⟨#[]⟩, .string ⟨#[]⟩, .int .i64 0, .string ⟨#[]⟩, .string ⟨#[]⟩, .slice none 0 0] 35)) := (Below.refl _ _).alloc (Nat.le_refl _) _
 have HO := Lib.hid hO
 have HE := Lib.hid hE
 have HX := Lib.hid hX
 have HM := Lib.hid hM
 have HT := Lib.hid (fun w h => cutm2_any s ⟨#[32]⟩ w (by omega) h)
 have hcl : (Lib.cut s.data.toList [32]).2.2 = true -> (Lib.cut s.data.toList [32]).2.1.length <= 2000000 := fun h => by
  have e := congrArg List.length (cut_yes h)
  simp only [List.length_append] at e
  have k0 : s.data.toList.length = s.size := by simp
  omega
 have HC : Hid (o = (if (Lib.cut s.data.toList [32]).2.2 = true then dP (kdN (Lib.cut s.data.toList [32]).1) (Lib.cut s.data.toList [32]).2.1 else none).bind fun q => if opB q = true then some q else none) := Lib.hid ho
 generalize hc : Lib.cut s.data.toList (⟨#[32]⟩ : ByteArray).data.toList = c at HT
 have hc2 : Lib.cut s.data.toList [32] = c := hc
 rw [hc2] at HC hcl
 clear hc hc2 ho hs hO hE hX hM
 obtain ⟨wd, r, fd⟩ := c
 dsimp only at HT HC hcl
 go_enter Tryz.func18, Tryz.ntmps18
 go_wp2_with fail
 generalize w.alloc (.cells #[.int .i64 0, .string ⟨#[]⟩, .string ⟨#[]⟩, .int .i64 0, .string ⟨#[]⟩, .string ⟨#[]⟩, .slice none 0 0] 35) = W0 at hz hB ⊢
 refine (HT.out _ (HX.out.below hB (Nat.le_refl _))).mono ?_
 rintro e w1 ⟨rfl, hb⟩
 replace hz := hz.keep hb hz.lt
 replace hB := hB.trans (hb.mono hB.size)
 clear hb HT
 cases fd with
 | false =>
  have hO : o = none := HC.out
  clear HC
  have z0 := hz.cell 0 _ rfl
  have z1 := hz.cell 1 _ rfl
  have z2 := hz.cell 2 _ rfl
  have z3 := hz.cell 3 _ rfl
  have z4 := hz.cell 4 _ rfl
  have z5 := hz.cell 5 _ rfl
  have z6 := hz.cell 6 _ rfl
  have f0 := hz.free 0
  have f1 := hz.free 1
  have f2 := hz.free 2
  have f3 := hz.free 3
  have f4 := hz.free 4
  have f5 := hz.free 5
  have f6 := hz.free 6
  go_wp2
  refine bodyPost_ret (results_op2 rfl _ _ _ 0 ⟨#[]⟩ ⟨#[]⟩ 0 ⟨#[]⟩ ⟨#[]⟩ (.slice none 0 0) _ rfl rfl (put7o _ _ _ _ _ _ _ _ _ hz rfl)) rfl ?_
  exact ⟨ro_zero hO, hB.trans (below7o _ w.heap.size _ (Nat.le_refl _) _ _ _ _ _ _ _)⟩
 | true =>
  have hrl := hcl (by first | rfl | trivial)
  clear hcl
  have HKd := Lib.hid (fun w h => kindOf_any (bl wd) w h)
  have HC2 : Hid (o = (dP (kdN wd) r).bind fun q => if opB q = true then some q else none) := Lib.hid HC.out
  have hkc := kdN_cases wd
  have hkd : kdN (bl wd).data.toList = kdN wd := rfl
  rw [hkd] at HKd
  clear hkd HC
  generalize kdN wd = k at HKd HC2 hkc
  go_wp2_with fail
  refine (HKd.out _ (HO.out.below hB (Nat.le_refl _))).mono ?_
  rintro e w2 ⟨rfl, rfl⟩
  clear HKd
  have hrs : (bl r).size <= 2000000 := by rw [bl_size]; exact hrl
  rcases (show k = 0 \/ (k = 1 \/ k = 2 \/ k = 8) \/ k = 3 \/ (k = 4 \/ k = 5 \/ k = 6 \/ k = 7) \/ k = 9 by omega) with rfl | hk | rfl | hk | rfl
  ·
   have hO : o = none := HC2.out
   clear HC2 hkc
   have HD := Lib.hid (fun w => deedOf_0 ⟨#[]⟩ ⟨#[]⟩ 0 ⟨#[]⟩ ⟨#[]⟩ (.slice none 0 0) w)
   have HR := Lib.hid (fun w => readDeed_0 (bl r) w)
   go_wp2_with fail
   refine (HD.out _).mono ?_
   rintro e w3 ⟨rfl, hb⟩
   replace hz := hz.keep hb hz.lt
   replace hB := Below.trans hB (hb.mono hB.size)
   clear hb
   go_wp2_with fail
   refine (HR.out _).mono ?_
   rintro e w4 ⟨rfl, hb⟩
   replace hz := hz.keep hb hz.lt
   replace hB := Below.trans hB (hb.mono hB.size)
   clear hb
   have z0 := hz.cell 0 _ rfl
   have z1 := hz.cell 1 _ rfl
   have z2 := hz.cell 2 _ rfl
   have z3 := hz.cell 3 _ rfl
   have z4 := hz.cell 4 _ rfl
   have z5 := hz.cell 5 _ rfl
   have z6 := hz.cell 6 _ rfl
   have f0 := hz.free 0
   have f1 := hz.free 1
   have f2 := hz.free 2
   have f3 := hz.free 3
   have f4 := hz.free 4
   have f5 := hz.free 5
   have f6 := hz.free 6
   go_wp2
   refine bodyPost_ret (results_op2 rfl _ _ _ 0 ⟨#[]⟩ ⟨#[]⟩ 0 ⟨#[]⟩ ⟨#[]⟩ (.slice none 0 0) _ rfl rfl (put7o _ _ _ _ _ _ _ _ _ hz rfl)) rfl ?_
   exact ⟨ro_zero hO, hB.trans (below7o _ w.heap.size _ (Nat.le_refl _) _ _ _ _ _ _ _)⟩
  ·
   have HD : Hid (∀ w, Calls Tryz.prog 54 #[.agg #[.int .i64 k, .string ⟨#[]⟩, .string ⟨#[]⟩, .int .i64 0, .string ⟨#[]⟩, .string ⟨#[]⟩, .slice none 0 0]] w fun e w' => e = .returned (.iface 121 (.agg #[.string ⟨#[]⟩])) /\ Below w.heap.size w w') := Lib.hid (fun w => by
    have := deedOf_any (o0 k) (.slice none 0 0) w (by dsimp only; omega)
    have e : deV (o0 k) (.slice none 0 0) = .iface 121 (.agg #[.string ⟨#[]⟩]) := by unfold deV; (rw [if_neg (by dsimp only; omega), if_neg (by dsimp only; omega), if_pos hk])
    rwa [e] at this)
   clear hkc
   have HR := Lib.hid (fun w => readDeed_1 (bl r) w hrs)
   have HP := Lib.hid (fun w => opF_any k (bl r) w)
   go_wp2_with fail
   refine (HD.out _).mono ?_
   rintro e w3 ⟨rfl, hb⟩
   replace hz := hz.keep hb hz.lt
   replace hB := Below.trans hB (hb.mono hB.size)
   clear hb
   go_wp2_with fail
   refine (HR.out _).mono ?_
   rintro e w4 ⟨rfl, hb⟩
   replace hz := hz.keep hb hz.lt
   replace hB := Below.trans hB (hb.mono hB.size)
   clear hb
   have hM1 := fun v w => Tryz.mthF v w
   go_wp2_with fail
   clear hM1
   refine (HP.out _).mono ?_
   rintro e w5 ⟨rfl, hb⟩
   replace hz := hz.keep hb hz.lt
   replace hB := Below.trans hB (hb.mono hB.size)
   clear hb
   clear HD HR HP
   have hx := Box.new w5 #[.int .i64 k, .string (bl r), .string ⟨#[]⟩, .int .i64 0, .string ⟨#[]⟩, .string ⟨#[]⟩, .slice none 0 0] 35
   have hia : Below w5.heap.size w5 (w5.alloc (.cells #[.int .i64 k, .string (bl r), .string ⟨#[]⟩, .int .i64 0, .string ⟨#[]⟩, .string ⟨#[]⟩, .slice none 0 0] 35)) := (Below.refl _ _).alloc (Nat.le_refl _) _
   have hwl : w.heap.size < w5.heap.size := hz.lt
   replace hz := hz.keep hia hz.lt
   replace hB := hB.trans (hia.mono hB.size)
   clear hia
   have x0 := hx.cell 0 _ rfl
   have x1 := hx.cell 1 _ rfl
   have x2 := hx.cell 2 _ rfl
   have x3 := hx.cell 3 _ rfl
   have x4 := hx.cell 4 _ rfl
   have x5 := hx.cell 5 _ rfl
   have x6 := hx.cell 6 _ rfl
   go_wp2_with fail
   clear x0 x1 x2 x3 x4 x5 x6
   generalize w5.alloc (.cells #[.int .i64 k, .string (bl r), .string ⟨#[]⟩, .int .i64 0, .string ⟨#[]⟩, .string ⟨#[]⟩, .slice none 0 0] 35) = W6 at hx hz hB ⊢
   generalize w5.heap.size = GX at hx hwl ⊢
   refine (implOpOk_any (⟨k, (bl r), ⟨#[]⟩, 0, ⟨#[]⟩, ⟨#[]⟩, []⟩ : OpD) (.slice none 0 0) W6 ⟨⟨none, 0, rfl, Nat.le_refl _, Nat.zero_le _, fun h => absurd h (by simp)⟩, fun x hx => by cases hx⟩ ⟨by (show (bl r).size <= maxLen; unfold maxLen; omega), by exact Nat.zero_le _, Nat.zero_le _, Nat.zero_le _⟩).mono ?_
   rintro e w7 ⟨rfl, hb⟩
   replace hz := hz.keep hb hz.lt
   replace hx := hx.keep hb hx.lt
   replace hB := hB.trans (hb.mono hB.size)
   clear hb
   have HOe : Hid (o = if opB (⟨k, (bl r), ⟨#[]⟩, 0, ⟨#[]⟩, ⟨#[]⟩, []⟩ : OpD) = true then some (⟨k, (bl r), ⟨#[]⟩, 0, ⟨#[]⟩, ⟨#[]⟩, []⟩ : OpD) else none) := Lib.hid (by have h := HC2.out; unfold dP at h; rw [if_pos hk, Option.bind_some] at h; exact h)
   clear HC2
   generalize opB (⟨k, (bl r), ⟨#[]⟩, 0, ⟨#[]⟩, ⟨#[]⟩, []⟩ : OpD) = F at HOe ⊢
   cases F with
   | false =>
    have hO : o = none := HOe.out
    clear HOe
    have z0 := hz.cell 0 _ rfl
    have z1 := hz.cell 1 _ rfl
    have z2 := hz.cell 2 _ rfl
    have z3 := hz.cell 3 _ rfl
    have z4 := hz.cell 4 _ rfl
    have z5 := hz.cell 5 _ rfl
    have z6 := hz.cell 6 _ rfl
    have f0 := hz.free 0
    have f1 := hz.free 1
    have f2 := hz.free 2
    have f3 := hz.free 3
    have f4 := hz.free 4
    have f5 := hz.free 5
    have f6 := hz.free 6
    go_wp2
    refine bodyPost_ret (results_op2 rfl _ _ _ 0 ⟨#[]⟩ ⟨#[]⟩ 0 ⟨#[]⟩ ⟨#[]⟩ (.slice none 0 0) _ rfl rfl (put7o _ _ _ _ _ _ _ _ _ hz rfl)) rfl ?_
    exact ⟨ro_zero hO, hB.trans (below7o _ w.heap.size _ (Nat.le_refl _) _ _ _ _ _ _ _)⟩
   | true =>
    have hO : o = some (⟨k, (bl r), ⟨#[]⟩, 0, ⟨#[]⟩, ⟨#[]⟩, []⟩ : OpD) := HOe.out
    clear HOe
    have x0 := hx.cell 0 _ rfl
    have x1 := hx.cell 1 _ rfl
    have x2 := hx.cell 2 _ rfl
    have x3 := hx.cell 3 _ rfl
    have x4 := hx.cell 4 _ rfl
    have x5 := hx.cell 5 _ rfl
    have x6 := hx.cell 6 _ rfl
    have z0 := hz.cell 0 _ rfl
    have z1 := hz.cell 1 _ rfl
    have z2 := hz.cell 2 _ rfl
    have z3 := hz.cell 3 _ rfl
    have z4 := hz.cell 4 _ rfl
    have z5 := hz.cell 5 _ rfl
    have z6 := hz.cell 6 _ rfl
    have f0 := hz.free 0
    have f1 := hz.free 1
    have f2 := hz.free 2
    have f3 := hz.free 3
    have f4 := hz.free 4
    have f5 := hz.free 5
    have f6 := hz.free 6
    go_wp2
    refine bodyPost_ret (results_op2 rfl _ _ _ k (bl r) ⟨#[]⟩ 0 ⟨#[]⟩ ⟨#[]⟩ (.slice none 0 0) _ rfl rfl (put7o _ _ _ _ _ _ _ _ _ hz rfl)) rfl ?_
    exact ⟨ro_some (q := (⟨k, (bl r), ⟨#[]⟩, 0, ⟨#[]⟩, ⟨#[]⟩, []⟩ : OpD)) hO (OwnR.nil _ _ _), hB.trans (below7o _ w.heap.size _ (Nat.le_refl _) _ _ _ _ _ _ _)⟩
  ·
   have HD : Hid (∀ w, Calls Tryz.prog 54 #[.agg #[.int .i64 3, .string ⟨#[]⟩, .string ⟨#[]⟩, .int .i64 0, .string ⟨#[]⟩, .string ⟨#[]⟩, .slice none 0 0]] w fun e w' => e = .returned (.iface 123 (.agg #[.string ⟨#[]⟩, .string ⟨#[]⟩, .slice none 0 0])) /\ Below w.heap.size w w') := Lib.hid (fun w => by
    have := deedOf_any (o0 3) (.slice none 0 0) w (by dsimp only; omega)
    have e : deV (o0 3) (.slice none 0 0) = .iface 123 (.agg #[.string ⟨#[]⟩, .string ⟨#[]⟩, .slice none 0 0]) := by unfold deV; (rw [if_pos rfl])
    rwa [e] at this)
   clear hkc
   have HR := Lib.hid (fun w h1 h2 h3 => readDeed_3 (bl r) w h1 h2 h3)
   go_wp2_with fail
   refine (HD.out _).mono ?_
   rintro e w3 ⟨rfl, hb⟩
   replace hz := hz.keep hb hz.lt
   replace hB := Below.trans hB (hb.mono hB.size)
   clear hb
   have hw3 : w.heap.size + 1 <= w3.heap.size := hz.lt
   go_wp2_with fail
   refine (HR.out _ (HE.out.below hB (Nat.le_refl _)) (HX.out.below hB (Nat.le_refl _)) (HM.out.below hB (Nat.le_refl _))).mono ?_
   rintro e w4 ⟨⟨fu, ft, v, its, F, rfl, hcs⟩, hb⟩
   replace hz := hz.keep hb hz.lt
   replace hB := Below.trans hB (hb.mono hB.size)
   clear hb
   clear HD HR
   rcases hcs with ⟨rfl, hrf⟩ | ⟨rfl, hrf, hown⟩
   ·have hO : o = none := by
     have h := HC2.out
     unfold dP at h
     rw [if_neg (by omega), if_pos rfl, hrf] at h
     exact h
    clear HC2 hrf
    have z0 := hz.cell 0 _ rfl
    have z1 := hz.cell 1 _ rfl
    have z2 := hz.cell 2 _ rfl
    have z3 := hz.cell 3 _ rfl
    have z4 := hz.cell 4 _ rfl
    have z5 := hz.cell 5 _ rfl
    have z6 := hz.cell 6 _ rfl
    have f0 := hz.free 0
    have f1 := hz.free 1
    have f2 := hz.free 2
    have f3 := hz.free 3
    have f4 := hz.free 4
    have f5 := hz.free 5
    have f6 := hz.free 6
    go_wp2
    refine bodyPost_ret (results_op2 rfl _ _ _ 0 ⟨#[]⟩ ⟨#[]⟩ 0 ⟨#[]⟩ ⟨#[]⟩ (.slice none 0 0) _ rfl rfl (put7o _ _ _ _ _ _ _ _ _ hz rfl)) rfl ?_
    exact ⟨ro_zero hO, hB.trans (below7o _ w.heap.size _ (Nat.le_refl _) _ _ _ _ _ _ _)⟩
   ·
    have HRf := Lib.hid hrf
    have HZs : Hid (fu.size <= maxLen /\ ft.size <= maxLen /\ ∀ x ∈ its, x.id.size <= maxLen /\ x.ti.size <= maxLen) := Lib.hid (by
     obtain ⟨h1, h2, h3⟩ := fdB_parts8 (rdF_some hrf).1
     dsimp only at h1 h2 h3
     refine ⟨by unfold maxLen; omega, by unfold maxLen; omega, fun x hx => ?_⟩
     obtain ⟨a, b, _⟩ := h3 x hx
     unfold maxLen
     exact ⟨by omega, by omega⟩)
    clear hrf
    replace hown := hown.base_mono hw3
    have hgl : w.heap.size < w.heap.size + 1 := Nat.lt_succ_self _
    obtain ⟨va, vc, rfl⟩ := hown.slice
    have HP := Lib.hid (fun w => opT_any 3 fu ft va its.length vc w)
    have hM1 := fun v w => Tryz.mthT v w
    go_wp2_with fail
    clear hM1
    refine (HP.out _).mono ?_
    rintro e w5 ⟨rfl, hb⟩
    replace hz := hz.keep hb hz.lt
    replace hown := hown.keep hb (Nat.le_refl _)
    replace hB := Below.trans hB (hb.mono hB.size)
    clear hb HP
    have hx := Box.new w5 #[.int .i64 3, .string ⟨#[]⟩, .string ⟨#[]⟩, .int .i64 0, .string fu, .string ft, .slice va its.length vc] 35
    have hia : Below w5.heap.size w5 (w5.alloc (.cells #[.int .i64 3, .string ⟨#[]⟩, .string ⟨#[]⟩, .int .i64 0, .string fu, .string ft, .slice va its.length vc] 35)) := (Below.refl _ _).alloc (Nat.le_refl _) _
    have hwl : w.heap.size < w5.heap.size := hz.lt
    replace hz := hz.keep hia hz.lt
    replace hB := hB.trans (hia.mono hB.size)
    replace hown := hown.keep hia (Nat.le_refl _)
    clear hia
    have x0 := hx.cell 0 _ rfl
    have x1 := hx.cell 1 _ rfl
    have x2 := hx.cell 2 _ rfl
    have x3 := hx.cell 3 _ rfl
    have x4 := hx.cell 4 _ rfl
    have x5 := hx.cell 5 _ rfl
    have x6 := hx.cell 6 _ rfl
    go_wp2_with fail
    clear x0 x1 x2 x3 x4 x5 x6
    generalize w5.alloc (.cells #[.int .i64 3, .string ⟨#[]⟩, .string ⟨#[]⟩, .int .i64 0, .string fu, .string ft, .slice va its.length vc] 35) = W6 at hx hz hB hown ⊢
    generalize w5.heap.size = GX at hx hwl ⊢
    refine (implOpOk_any (⟨3, ⟨#[]⟩, ⟨#[]⟩, 0, fu, ft, its⟩ : OpD) (.slice va its.length vc) W6 ⟨hown.at itC_len, HZs.out.2.2⟩ ⟨Nat.zero_le _, Nat.zero_le _, HZs.out.1, HZs.out.2.1⟩).mono ?_
    rintro e w7 ⟨rfl, hb⟩
    replace hz := hz.keep hb hz.lt
    replace hx := hx.keep hb hx.lt
    replace hB := hB.trans (hb.mono hB.size)
    replace hown := hown.keep hb (Nat.le_refl _)
    clear hb
    have HOe : Hid (o = if opB (⟨3, ⟨#[]⟩, ⟨#[]⟩, 0, fu, ft, its⟩ : OpD) = true then some (⟨3, ⟨#[]⟩, ⟨#[]⟩, 0, fu, ft, its⟩ : OpD) else none) := Lib.hid (by have h := HC2.out; unfold dP at h; rw [if_neg (by omega), if_pos rfl, HRf.out, Option.map_some, Option.bind_some] at h; exact h)
    clear HC2
    generalize opB (⟨3, ⟨#[]⟩, ⟨#[]⟩, 0, fu, ft, its⟩ : OpD) = F at HOe ⊢
    cases F with
    | false =>
     have hO : o = none := HOe.out
     clear HOe
     have z0 := hz.cell 0 _ rfl
     have z1 := hz.cell 1 _ rfl
     have z2 := hz.cell 2 _ rfl
     have z3 := hz.cell 3 _ rfl
     have z4 := hz.cell 4 _ rfl
     have z5 := hz.cell 5 _ rfl
     have z6 := hz.cell 6 _ rfl
     have f0 := hz.free 0
     have f1 := hz.free 1
     have f2 := hz.free 2
     have f3 := hz.free 3
     have f4 := hz.free 4
     have f5 := hz.free 5
     have f6 := hz.free 6
     go_wp2
     refine bodyPost_ret (results_op2 rfl _ _ _ 0 ⟨#[]⟩ ⟨#[]⟩ 0 ⟨#[]⟩ ⟨#[]⟩ (.slice none 0 0) _ rfl rfl (put7o _ _ _ _ _ _ _ _ _ hz rfl)) rfl ?_
     exact ⟨ro_zero hO, hB.trans (below7o _ w.heap.size _ (Nat.le_refl _) _ _ _ _ _ _ _)⟩
    | true =>
     have hO : o = some (⟨3, ⟨#[]⟩, ⟨#[]⟩, 0, fu, ft, its⟩ : OpD) := HOe.out
     clear HOe
     have x0 := hx.cell 0 _ rfl
     have x1 := hx.cell 1 _ rfl
     have x2 := hx.cell 2 _ rfl
     have x3 := hx.cell 3 _ rfl
     have x4 := hx.cell 4 _ rfl
     have x5 := hx.cell 5 _ rfl
     have x6 := hx.cell 6 _ rfl
     have z0 := hz.cell 0 _ rfl
     have z1 := hz.cell 1 _ rfl
     have z2 := hz.cell 2 _ rfl
     have z3 := hz.cell 3 _ rfl
     have z4 := hz.cell 4 _ rfl
     have z5 := hz.cell 5 _ rfl
     have z6 := hz.cell 6 _ rfl
     have f0 := hz.free 0
     have f1 := hz.free 1
     have f2 := hz.free 2
     have f3 := hz.free 3
     have f4 := hz.free 4
     have f5 := hz.free 5
     have f6 := hz.free 6
     have hown2 := ((((((hown.other ⟨w.heap.size, 0, none⟩ (.int .i64 3) hgl).other ⟨w.heap.size, 1, none⟩ (.string ⟨#[]⟩) hgl).other ⟨w.heap.size, 2, none⟩ (.string ⟨#[]⟩) hgl).other ⟨w.heap.size, 3, none⟩ (.int .i64 0) hgl).other ⟨w.heap.size, 4, none⟩ (.string fu) hgl).other ⟨w.heap.size, 5, none⟩ (.string ft) hgl).other ⟨w.heap.size, 6, none⟩ (.slice va its.length vc) hgl
     replace hown2 := hown2.base_mono (Nat.le_of_lt hgl)
     go_wp2
     refine bodyPost_ret (results_op2 rfl _ _ _ 3 ⟨#[]⟩ ⟨#[]⟩ 0 fu ft (.slice va its.length vc) _ rfl rfl (put7o _ _ _ _ _ _ _ _ _ hz rfl)) rfl ?_
     exact ⟨ro_some (q := (⟨3, ⟨#[]⟩, ⟨#[]⟩, 0, fu, ft, its⟩ : OpD)) hO (hown2), hB.trans (below7o _ w.heap.size _ (Nat.le_refl _) _ _ _ _ _ _ _)⟩
  ·
   have HD : Hid (∀ w, Calls Tryz.prog 54 #[.agg #[.int .i64 k, .string ⟨#[]⟩, .string ⟨#[]⟩, .int .i64 0, .string ⟨#[]⟩, .string ⟨#[]⟩, .slice none 0 0]] w fun e w' => e = .returned (.iface 125 (.agg #[.string ⟨#[]⟩, .string ⟨#[]⟩])) /\ Below w.heap.size w w') := Lib.hid (fun w => by
    have := deedOf_any (o0 k) (.slice none 0 0) w (by dsimp only; omega)
    have e : deV (o0 k) (.slice none 0 0) = .iface 125 (.agg #[.string ⟨#[]⟩, .string ⟨#[]⟩]) := by unfold deV; (rw [if_neg (by dsimp only; omega), if_neg (by dsimp only; omega), if_neg (by dsimp only; omega)])
    rwa [e] at this)
   clear hkc
   have HR := Lib.hid (fun w h => readDeed_4 (bl r) w hrs h)
   have hcr : Lib.cut (bl r).data.toList [32] = Lib.cut r [32] := rfl
   rw [hcr] at HR
   have HC4 : Hid (o = (if (Lib.cut r [32]).2.2 = true then some (⟨k, bl (Lib.cut r [32]).1, bl (Lib.cut r [32]).2.1, 0, ⟨#[]⟩, ⟨#[]⟩, []⟩ : OpD) else none).bind fun q => if opB q = true then some q else none) := Lib.hid (by have h := HC2.out; unfold dP at h; rw [if_neg (by omega), if_neg (by omega), if_pos hk] at h; exact h)
   have HZc : Hid ((Lib.cut r [32]).2.2 = true -> (bl (Lib.cut r [32]).1).size <= maxLen /\ (bl (Lib.cut r [32]).2.1).size <= maxLen) := Lib.hid (fun h => by
    have e := congrArg List.length (cut_yes h)
    simp only [List.length_append] at e
    rw [bl_size, bl_size]
    unfold maxLen
    exact ⟨by omega, by omega⟩)
   generalize Lib.cut r [32] = c2 at HR HC4 HZc
   obtain ⟨cu, ci, cf⟩ := c2
   dsimp only at HR HC4 HZc
   clear hcr HC2
   go_wp2_with fail
   refine (HD.out _).mono ?_
   rintro e w3 ⟨rfl, hb⟩
   replace hz := hz.keep hb hz.lt
   replace hB := Below.trans hB (hb.mono hB.size)
   clear hb
   go_wp2_with fail
   refine (HR.out _ (HX.out.below hB (Nat.le_refl _))).mono ?_
   rintro e w4 ⟨rfl, hb⟩
   replace hz := hz.keep hb hz.lt
   replace hB := Below.trans hB (hb.mono hB.size)
   clear hb
   clear HD HR
   cases cf with
   | false =>
    have hO : o = none := HC4.out
    clear HC4 HZc
    have z0 := hz.cell 0 _ rfl
    have z1 := hz.cell 1 _ rfl
    have z2 := hz.cell 2 _ rfl
    have z3 := hz.cell 3 _ rfl
    have z4 := hz.cell 4 _ rfl
    have z5 := hz.cell 5 _ rfl
    have z6 := hz.cell 6 _ rfl
    have f0 := hz.free 0
    have f1 := hz.free 1
    have f2 := hz.free 2
    have f3 := hz.free 3
    have f4 := hz.free 4
    have f5 := hz.free 5
    have f6 := hz.free 6
    go_wp2
    refine bodyPost_ret (results_op2 rfl _ _ _ 0 ⟨#[]⟩ ⟨#[]⟩ 0 ⟨#[]⟩ ⟨#[]⟩ (.slice none 0 0) _ rfl rfl (put7o _ _ _ _ _ _ _ _ _ hz rfl)) rfl ?_
    exact ⟨ro_zero hO, hB.trans (below7o _ w.heap.size _ (Nat.le_refl _) _ _ _ _ _ _ _)⟩
   | true =>
    have HZ4 := Lib.hid (HZc.out (by first | rfl | trivial))
    have HC3 : Hid (o = if opB (⟨k, bl cu, bl ci, 0, ⟨#[]⟩, ⟨#[]⟩, []⟩ : OpD) = true then some (⟨k, bl cu, bl ci, 0, ⟨#[]⟩, ⟨#[]⟩, []⟩ : OpD) else none) := Lib.hid HC4.out
    clear HC4 HZc
    have HC2 := HC3
    have HP := Lib.hid (fun w => opE_any k (bl cu) (bl ci) w)
    have hM1 := fun v w => Tryz.mthE v w
    go_wp2_with fail
    clear hM1
    refine (HP.out _).mono ?_
    rintro e w5 ⟨rfl, hb⟩
    replace hz := hz.keep hb hz.lt
    replace hB := Below.trans hB (hb.mono hB.size)
    clear hb
    clear HP
    have hx := Box.new w5 #[.int .i64 k, .string (bl cu), .string (bl ci), .int .i64 0, .string ⟨#[]⟩, .string ⟨#[]⟩, .slice none 0 0] 35
    have hia : Below w5.heap.size w5 (w5.alloc (.cells #[.int .i64 k, .string (bl cu), .string (bl ci), .int .i64 0, .string ⟨#[]⟩, .string ⟨#[]⟩, .slice none 0 0] 35)) := (Below.refl _ _).alloc (Nat.le_refl _) _
    have hwl : w.heap.size < w5.heap.size := hz.lt
    replace hz := hz.keep hia hz.lt
    replace hB := hB.trans (hia.mono hB.size)
    clear hia
    have x0 := hx.cell 0 _ rfl
    have x1 := hx.cell 1 _ rfl
    have x2 := hx.cell 2 _ rfl
    have x3 := hx.cell 3 _ rfl
    have x4 := hx.cell 4 _ rfl
    have x5 := hx.cell 5 _ rfl
    have x6 := hx.cell 6 _ rfl
    go_wp2_with fail
    clear x0 x1 x2 x3 x4 x5 x6
    generalize w5.alloc (.cells #[.int .i64 k, .string (bl cu), .string (bl ci), .int .i64 0, .string ⟨#[]⟩, .string ⟨#[]⟩, .slice none 0 0] 35) = W6 at hx hz hB ⊢
    generalize w5.heap.size = GX at hx hwl ⊢
    refine (implOpOk_any (⟨k, (bl cu), (bl ci), 0, ⟨#[]⟩, ⟨#[]⟩, []⟩ : OpD) (.slice none 0 0) W6 ⟨⟨none, 0, rfl, Nat.le_refl _, Nat.zero_le _, fun h => absurd h (by simp)⟩, fun x hx => by cases hx⟩ ⟨HZ4.out.1, HZ4.out.2, Nat.zero_le _, Nat.zero_le _⟩).mono ?_
    rintro e w7 ⟨rfl, hb⟩
    replace hz := hz.keep hb hz.lt
    replace hx := hx.keep hb hx.lt
    replace hB := hB.trans (hb.mono hB.size)
    clear hb
    have HOe : Hid (o = if opB (⟨k, (bl cu), (bl ci), 0, ⟨#[]⟩, ⟨#[]⟩, []⟩ : OpD) = true then some (⟨k, (bl cu), (bl ci), 0, ⟨#[]⟩, ⟨#[]⟩, []⟩ : OpD) else none) := Lib.hid HC3.out
    clear HC2
    generalize opB (⟨k, (bl cu), (bl ci), 0, ⟨#[]⟩, ⟨#[]⟩, []⟩ : OpD) = F at HOe ⊢
    cases F with
    | false =>
     have hO : o = none := HOe.out
     clear HOe
     have z0 := hz.cell 0 _ rfl
     have z1 := hz.cell 1 _ rfl
     have z2 := hz.cell 2 _ rfl
     have z3 := hz.cell 3 _ rfl
     have z4 := hz.cell 4 _ rfl
     have z5 := hz.cell 5 _ rfl
     have z6 := hz.cell 6 _ rfl
     have f0 := hz.free 0
     have f1 := hz.free 1
     have f2 := hz.free 2
     have f3 := hz.free 3
     have f4 := hz.free 4
     have f5 := hz.free 5
     have f6 := hz.free 6
     go_wp2
     refine bodyPost_ret (results_op2 rfl _ _ _ 0 ⟨#[]⟩ ⟨#[]⟩ 0 ⟨#[]⟩ ⟨#[]⟩ (.slice none 0 0) _ rfl rfl (put7o _ _ _ _ _ _ _ _ _ hz rfl)) rfl ?_
     exact ⟨ro_zero hO, hB.trans (below7o _ w.heap.size _ (Nat.le_refl _) _ _ _ _ _ _ _)⟩
    | true =>
     have hO : o = some (⟨k, (bl cu), (bl ci), 0, ⟨#[]⟩, ⟨#[]⟩, []⟩ : OpD) := HOe.out
     clear HOe
     have x0 := hx.cell 0 _ rfl
     have x1 := hx.cell 1 _ rfl
     have x2 := hx.cell 2 _ rfl
     have x3 := hx.cell 3 _ rfl
     have x4 := hx.cell 4 _ rfl
     have x5 := hx.cell 5 _ rfl
     have x6 := hx.cell 6 _ rfl
     have z0 := hz.cell 0 _ rfl
     have z1 := hz.cell 1 _ rfl
     have z2 := hz.cell 2 _ rfl
     have z3 := hz.cell 3 _ rfl
     have z4 := hz.cell 4 _ rfl
     have z5 := hz.cell 5 _ rfl
     have z6 := hz.cell 6 _ rfl
     have f0 := hz.free 0
     have f1 := hz.free 1
     have f2 := hz.free 2
     have f3 := hz.free 3
     have f4 := hz.free 4
     have f5 := hz.free 5
     have f6 := hz.free 6
     go_wp2
     refine bodyPost_ret (results_op2 rfl _ _ _ k (bl cu) (bl ci) 0 ⟨#[]⟩ ⟨#[]⟩ (.slice none 0 0) _ rfl rfl (put7o _ _ _ _ _ _ _ _ _ hz rfl)) rfl ?_
     exact ⟨ro_some (q := (⟨k, (bl cu), (bl ci), 0, ⟨#[]⟩, ⟨#[]⟩, []⟩ : OpD)) hO (OwnR.nil _ _ _), hB.trans (below7o _ w.heap.size _ (Nat.le_refl _) _ _ _ _ _ _ _)⟩
  ·
   have HD : Hid (∀ w, Calls Tryz.prog 54 #[.agg #[.int .i64 9, .string ⟨#[]⟩, .string ⟨#[]⟩, .int .i64 0, .string ⟨#[]⟩, .string ⟨#[]⟩, .slice none 0 0]] w fun e w' => e = .returned (.iface 127 (.agg #[.int .i64 0])) /\ Below w.heap.size w w') := Lib.hid (fun w => by
    have := deedOf_any (o0 9) (.slice none 0 0) w (by dsimp only; omega)
    have e : deV (o0 9) (.slice none 0 0) = .iface 127 (.agg #[.int .i64 0]) := by unfold deV; (rw [if_neg (by dsimp only; omega), if_pos rfl])
    rwa [e] at this)
   clear hkc
   have HR := Lib.hid (fun w h => readDeed_9 (bl r) w h)
   have HC4 : Hid (o = (if rdOk (bl r) = true then some (⟨9, ⟨#[]⟩, ⟨#[]⟩, dN (rY (bl r)) (rM (bl r)) (rD (bl r)), ⟨#[]⟩, ⟨#[]⟩, []⟩ : OpD) else none).bind fun q => if opB q = true then some q else none) := Lib.hid (by have h := HC2.out; unfold dP at h; rw [if_neg (by omega), if_neg (by omega), if_neg (by omega), if_pos rfl] at h; exact h)
   clear HC2
   generalize dN (rY (bl r)) (rM (bl r)) (rD (bl r)) = dn at HR HC4
   generalize rdOk (bl r) = F9 at HR HC4
   go_wp2_with fail
   refine (HD.out _).mono ?_
   rintro e w3 ⟨rfl, hb⟩
   replace hz := hz.keep hb hz.lt
   replace hB := Below.trans hB (hb.mono hB.size)
   clear hb
   go_wp2_with fail
   refine (HR.out _ (HM.out.below hB (Nat.le_refl _))).mono ?_
   rintro e w4 ⟨⟨n, rfl, hn⟩, hb⟩
   replace hz := hz.keep hb hz.lt
   replace hB := Below.trans hB (hb.mono hB.size)
   clear hb
   clear HD HR
   cases F9 with
   | false =>
    have hO : o = none := HC4.out
    clear HC4 hn
    have z0 := hz.cell 0 _ rfl
    have z1 := hz.cell 1 _ rfl
    have z2 := hz.cell 2 _ rfl
    have z3 := hz.cell 3 _ rfl
    have z4 := hz.cell 4 _ rfl
    have z5 := hz.cell 5 _ rfl
    have z6 := hz.cell 6 _ rfl
    have f0 := hz.free 0
    have f1 := hz.free 1
    have f2 := hz.free 2
    have f3 := hz.free 3
    have f4 := hz.free 4
    have f5 := hz.free 5
    have f6 := hz.free 6
    go_wp2
    refine bodyPost_ret (results_op2 rfl _ _ _ 0 ⟨#[]⟩ ⟨#[]⟩ 0 ⟨#[]⟩ ⟨#[]⟩ (.slice none 0 0) _ rfl rfl (put7o _ _ _ _ _ _ _ _ _ hz rfl)) rfl ?_
    exact ⟨ro_zero hO, hB.trans (below7o _ w.heap.size _ (Nat.le_refl _) _ _ _ _ _ _ _)⟩
   | true =>
    obtain rfl := hn (by first | rfl | trivial)
    have HC3 : Hid (o = if opB (⟨9, ⟨#[]⟩, ⟨#[]⟩, n, ⟨#[]⟩, ⟨#[]⟩, []⟩ : OpD) = true then some (⟨9, ⟨#[]⟩, ⟨#[]⟩, n, ⟨#[]⟩, ⟨#[]⟩, []⟩ : OpD) else none) := Lib.hid HC4.out
    clear HC4 hn
    have HC2 := HC3
    have HP := Lib.hid (fun w => opD_any 9 n w)
    have hM1 := fun v w => Tryz.mthD v w
    go_wp2_with fail
    clear hM1
    refine (HP.out _).mono ?_
    rintro e w5 ⟨rfl, hb⟩
    replace hz := hz.keep hb hz.lt
    replace hB := Below.trans hB (hb.mono hB.size)
    clear hb
    clear HP
    have hx := Box.new w5 #[.int .i64 9, .string ⟨#[]⟩, .string ⟨#[]⟩, .int .i64 n, .string ⟨#[]⟩, .string ⟨#[]⟩, .slice none 0 0] 35
    have hia : Below w5.heap.size w5 (w5.alloc (.cells #[.int .i64 9, .string ⟨#[]⟩, .string ⟨#[]⟩, .int .i64 n, .string ⟨#[]⟩, .string ⟨#[]⟩, .slice none 0 0] 35)) := (Below.refl _ _).alloc (Nat.le_refl _) _
    have hwl : w.heap.size < w5.heap.size := hz.lt
    replace hz := hz.keep hia hz.lt
    replace hB := hB.trans (hia.mono hB.size)
    clear hia
    have x0 := hx.cell 0 _ rfl
    have x1 := hx.cell 1 _ rfl
    have x2 := hx.cell 2 _ rfl
    have x3 := hx.cell 3 _ rfl
    have x4 := hx.cell 4 _ rfl
    have x5 := hx.cell 5 _ rfl
    have x6 := hx.cell 6 _ rfl
    go_wp2_with fail
    clear x0 x1 x2 x3 x4 x5 x6
    generalize w5.alloc (.cells #[.int .i64 9, .string ⟨#[]⟩, .string ⟨#[]⟩, .int .i64 n, .string ⟨#[]⟩, .string ⟨#[]⟩, .slice none 0 0] 35) = W6 at hx hz hB ⊢
    generalize w5.heap.size = GX at hx hwl ⊢
    refine (implOpOk_any (⟨9, ⟨#[]⟩, ⟨#[]⟩, n, ⟨#[]⟩, ⟨#[]⟩, []⟩ : OpD) (.slice none 0 0) W6 ⟨⟨none, 0, rfl, Nat.le_refl _, Nat.zero_le _, fun h => absurd h (by simp)⟩, fun x hx => by cases hx⟩ ⟨Nat.zero_le _, Nat.zero_le _, Nat.zero_le _, Nat.zero_le _⟩).mono ?_
    rintro e w7 ⟨rfl, hb⟩
    replace hz := hz.keep hb hz.lt
    replace hx := hx.keep hb hx.lt
    replace hB := hB.trans (hb.mono hB.size)
    clear hb
    have HOe : Hid (o = if opB (⟨9, ⟨#[]⟩, ⟨#[]⟩, n, ⟨#[]⟩, ⟨#[]⟩, []⟩ : OpD) = true then some (⟨9, ⟨#[]⟩, ⟨#[]⟩, n, ⟨#[]⟩, ⟨#[]⟩, []⟩ : OpD) else none) := Lib.hid HC3.out
    clear HC2
    generalize opB (⟨9, ⟨#[]⟩, ⟨#[]⟩, n, ⟨#[]⟩, ⟨#[]⟩, []⟩ : OpD) = F at HOe ⊢
    cases F with
    | false =>
     have hO : o = none := HOe.out
     clear HOe
     have z0 := hz.cell 0 _ rfl
     have z1 := hz.cell 1 _ rfl
     have z2 := hz.cell 2 _ rfl
     have z3 := hz.cell 3 _ rfl
     have z4 := hz.cell 4 _ rfl
     have z5 := hz.cell 5 _ rfl
     have z6 := hz.cell 6 _ rfl
     have f0 := hz.free 0
     have f1 := hz.free 1
     have f2 := hz.free 2
     have f3 := hz.free 3
     have f4 := hz.free 4
     have f5 := hz.free 5
     have f6 := hz.free 6
     go_wp2
     refine bodyPost_ret (results_op2 rfl _ _ _ 0 ⟨#[]⟩ ⟨#[]⟩ 0 ⟨#[]⟩ ⟨#[]⟩ (.slice none 0 0) _ rfl rfl (put7o _ _ _ _ _ _ _ _ _ hz rfl)) rfl ?_
     exact ⟨ro_zero hO, hB.trans (below7o _ w.heap.size _ (Nat.le_refl _) _ _ _ _ _ _ _)⟩
    | true =>
     have hO : o = some (⟨9, ⟨#[]⟩, ⟨#[]⟩, n, ⟨#[]⟩, ⟨#[]⟩, []⟩ : OpD) := HOe.out
     clear HOe
     have x0 := hx.cell 0 _ rfl
     have x1 := hx.cell 1 _ rfl
     have x2 := hx.cell 2 _ rfl
     have x3 := hx.cell 3 _ rfl
     have x4 := hx.cell 4 _ rfl
     have x5 := hx.cell 5 _ rfl
     have x6 := hx.cell 6 _ rfl
     have z0 := hz.cell 0 _ rfl
     have z1 := hz.cell 1 _ rfl
     have z2 := hz.cell 2 _ rfl
     have z3 := hz.cell 3 _ rfl
     have z4 := hz.cell 4 _ rfl
     have z5 := hz.cell 5 _ rfl
     have z6 := hz.cell 6 _ rfl
     have f0 := hz.free 0
     have f1 := hz.free 1
     have f2 := hz.free 2
     have f3 := hz.free 3
     have f4 := hz.free 4
     have f5 := hz.free 5
     have f6 := hz.free 6
     go_wp2
     refine bodyPost_ret (results_op2 rfl _ _ _ 9 ⟨#[]⟩ ⟨#[]⟩ n ⟨#[]⟩ ⟨#[]⟩ (.slice none 0 0) _ rfl rfl (put7o _ _ _ _ _ _ _ _ _ hz rfl)) rfl ?_
     exact ⟨ro_some (q := (⟨9, ⟨#[]⟩, ⟨#[]⟩, n, ⟨#[]⟩, ⟨#[]⟩, []⟩ : OpD)) hO (OwnR.nil _ _ _), hB.trans (below7o _ w.heap.size _ (Nat.le_refl _) _ _ _ _ _ _ _)⟩
end Go.Proofs.YtffkakpbelknaaaGreatDoor
namespace Go.Proofs.YtffkakpbelknaaaGreatDoor
open Go.ChangeShapes Go.WideShapes Go.ChangeAt Go.RowKit Go.Shelf
set_option linter.unusedVariables false
set_option linter.unusedSimpArgs false
theorem occ1 (l : List UInt8) (c : UInt8) (j : Nat) : Lib.occAt l [c] j = true ↔ l[j]? = some c := by
 unfold Lib.occAt
 constructor
 ·intro h
  obtain ⟨r, hr⟩ := (pre_iff (l.drop j) [c]).1 h
  have : (l.drop j)[0]? = some c := by rw [hr]; rfl
  simpa using this
 ·intro h
  have hj : j < l.length := (List.getElem?_eq_some_iff.1 h).1
  refine (pre_iff (l.drop j) [c]).2 ⟨l.drop (j + 1), ?_⟩
  rw [List.drop_eq_getElem_cons hj]
  have := (List.getElem?_eq_some_iff.1 h).2
  rw [this]
  rfl
theorem byte_32 (s : ByteArray) (k : Nat) (h : k < s.size) : (((s[k].toNat : Nat) : Int) == 32) = Lib.occAt s.data.toList [32] k := by
 have hl : k < s.data.toList.length := by simpa using h
 have e : s.data.toList[k] = s[k] := by simp; rfl
 rw [Bool.eq_iff_iff, beq_iff_eq, occ1, List.getElem?_eq_getElem hl, e]
 constructor
 ·intro h
  have h2 : s[k].toNat = 32 := by omega
  rw [UInt8.toNat_inj.1 (show s[k].toNat = (32 : UInt8).toNat by rw [h2]; rfl)]
 ·intro h
  rw [Option.some.inj h]
  rfl
theorem cut1_none (s : ByteArray) (h : ∀ j, j < s.size -> Lib.occAt s.data.toList [32] j = false) : Lib.cut s.data.toList [32] = (s.data.toList, [], false) := by
 refine cut_nosp _ (fun hm => ?_)
 obtain ⟨j, hj, he⟩ := List.mem_iff_getElem.1 hm
 have hs : j < s.size := by simpa using hj
 have h2 := (occ1 s.data.toList 32 j).2 (by rw [List.getElem?_eq_getElem hj, he])
 rw [h j hs] at h2
 cases h2
theorem cut1_at (s : ByteArray) (k : Nat) (hk : k < s.size) (hn : ∀ j, j < k -> Lib.occAt s.data.toList [32] j = false) (ho : Lib.occAt s.data.toList [32] k = true) : Lib.cut s.data.toList [32] = ((s.extract 0 k).data.toList, (s.extract (k + 1) s.size).data.toList, true) := by
 have hi : Lib.index s.data.toList [32] = (k : Int) := Lib.index_first (by rw [len_list]; omega) ho hn
 have hk0 : (0 : Int) <= (k : Int) := by omega
 unfold Lib.cut
 rw [hi, if_pos hk0, Int.toNat_natCast, ext_list, ext_list, List.drop_zero, List.take_of_length_le (Nat.le_of_eq (len_list s))]
 rfl
theorem l1Cut_any (s : ByteArray) (w : World) (hs : s.size <= 4000000) :
  Calls Tryz.prog 71 #[.string s, .int .u8 32] w fun e w' => e = .returned (.tuple #[.string (bl (Lib.cut s.data.toList [32]).1), .string (bl (Lib.cut s.data.toList [32]).2.1), .bool (Lib.cut s.data.toList [32]).2.2]) /\ Below w.heap.size w w' := by
 obtain ⟨o, ho⟩ : ∃ o, o = Lib.cut s.data.toList [32] := ⟨_, rfl⟩
 rw [<- ho]
 have HN : Hid ((∀ j, j < s.size -> Lib.occAt s.data.toList [32] j = false) -> Ending.returned (.tuple #[.string s, .string ⟨#[]⟩, .bool false]) = Ending.returned (.tuple #[.string (bl o.1), .string (bl o.2.1), .bool o.2.2])) := Lib.hid (fun h => by rw [ho, cut1_none s h])
 have HY : Hid (∀ k, k < s.size -> (∀ j, j < k -> Lib.occAt s.data.toList [32] j = false) -> Lib.occAt s.data.toList [32] k = true -> Ending.returned (.tuple #[.string (s.extract 0 k), .string (s.extract (k + 1) s.size), .bool true]) = Ending.returned (.tuple #[.string (bl o.1), .string (bl o.2.1), .bool o.2.2])) := Lib.hid (fun k hk hn h1 => by
  rw [ho, cut1_at s k hk hn h1, bl_back, bl_back])
 have HC := Lib.hid (byte_32 s)
 clear ho
 go_enter Tryz.func71, Tryz.ntmps71
 go_wp2
 go_loopw [7] (fun i wr => ∃ k : Nat, k <= s.size /\ i = .int .i64 (k : Int) /\ Hid (∀ j, j < k -> Lib.occAt s.data.toList [32] j = false) /\ wr = w) (fun i _ => s.size + 1 - (intOf i).toNat)
 case atStart => exact ⟨0, Nat.zero_le _, rfl, Lib.hid (fun j hj => by omega), rfl⟩
 case round =>
  obtain ⟨k, hk, rfl, HJ, rfl⟩ := hrel
  by_cases hlt : k < s.size
  case neg =>
   have hke : k = s.size := by omega
   have hO := HN.out (by rw [<- hke]; exact HJ.out)
   clear HN HY HC HJ hke
   go_wp2
   go_ret3
   exact ⟨hO, Below.refl _ _⟩
  have hc := HC.out k hlt
  cases hoc : Lib.occAt s.data.toList [32] k with
  | false =>
   rw [hoc] at hc
   have HJ2 : Hid (∀ j, j < k + 1 -> Lib.occAt s.data.toList [32] j = false) := Lib.hid (fun j hj => by
    by_cases h : j < k
    ·exact HJ.out j h
    ·rw [show j = k by omega]; exact hoc)
   clear HN HY HC HJ hoc
   go_wp2
   go_roundw
   case rel => exact ⟨k + 1, by omega, by go_num, HJ2, by first | rfl | trivial⟩
   case measure => simp [intOf]; omega
  | true =>
   rw [hoc] at hc
   have hO := HY.out k hlt HJ.out hoc
   clear HN HY HC HJ hoc
   go_wp2
   have k1 : IntKind.i64.wrap ((k : Int) + 1) = (k : Int) + 1 := IntWalk.i64_in _ (by omega)
   have k2 : (0 : Int) <= (k : Int) + 1 := by omega
   have k3 : (k : Int) + 1 <= (s.size : Int) := by omega
   have k4 : ((k : Int) + 1).toNat = k + 1 := by omega
   have k5 : (k : Int) <= (s.size : Int) := by omega
   refine wp_region_T (fun _ => True) (fun _ => True) 9 (by kernel_rfl) 10 rfl ?_
   refine wA 3 [0, 1, 2, 3, 4, 5, 6] ⟨trivial, fun _ => trivial⟩ ?_
   simp only [pick, List.filterMap_cons, List.filterMap_nil, List.getElem?_cons_zero, List.getElem?_cons_succ]
   refine wpIf_step (.string s) (by kernel_rfl) (fun w _ => by go_simp) ?_
   refine wpIf_step (.int .i64 (k : Int)) (by kernel_rfl) (fun w _ => by go_simp) ?_
   refine wpIf_step (.string (s.extract 0 k)) (by kernel_rfl) (fun w _ => by go_simp) ?_
   refine wpIf_step (.string s) (by kernel_rfl) (fun w _ => by go_simp) ?_
   refine wpIf_step (.int .i64 (k : Int)) (by kernel_rfl) (fun w _ => by go_simp) ?_
   refine wpIf_step (.int .i64 ((k : Int) + 1)) (by kernel_rfl) (fun w _ => by go_simp) ?_
   refine wpIf_step (.string (s.extract (k + 1) s.size)) (by kernel_rfl) (fun w _ => by go_simp) ?_
   refine wpIf_nil (fun hSx => ?_)
   clear hSx
   refine wO 7 2 (fun K hK => ?_)
   go_simp
   refine hK _ _ ⟨trivial, fun _ => trivial⟩ (fun hSx => ?_)
   clear hK K hSx
   refine wO 8 1 (fun K hK => ?_)
   go_simp
   refine hK _ _ ⟨trivial, fun _ => trivial⟩ (fun hSx => ?_)
   clear hK K hSx
   refine wO 9 0 (fun K hK => ?_)
   go_simp
   refine hK _ _ ⟨trivial, fun _ => trivial⟩ (fun hSx => ?_)
   clear hK K hSx
   refine wpAnyT_over (by kernel_rfl) ?_
   go_wp2
   go_ret3
   exact ⟨hO, (Below.refl _ _).drew⟩
theorem kd_eq (wd : List UInt8) (k : Int) (h : k = 1 \/ k = 2 \/ k = 3 \/ k = 4 \/ k = 5 \/ k = 6 \/ k = 7 \/ k = 8 \/ k = 9) : ((wdB k).toList == (bl wd).toList) = decide (kdN wd = k) := by
 rw [ByteArray.toList_eq, ByteArray.toList_eq, bl_list, Bool.eq_iff_iff, beq_iff_eq, decide_eq_true_eq]
 constructor
 ·intro e
  have h1 := (kdN_word h).1
  rw [e] at h1
  exact h1
 ·intro e
  rcases kdN_cases wd with h0 | ⟨_, h1⟩
  ·omega
  ·rw [e] at h1
   exact h1
theorem specReadOp_any (s : ByteArray) (w : World) (hs : s.size <= 2000000) :
  Calls Tryz.prog 26 #[.string s] w fun e w' => RoOut w.heap.size (rdO s) e w' /\ Below w.heap.size w w' := by
 obtain ⟨o, ho⟩ : ∃ o, o = rdO s := ⟨_, rfl⟩
 rw [<- ho]
 have hz := Box.new w #[.int .i64 0, .string ⟨#[]⟩, .string ⟨#[]⟩, .int .i64 0, .string ⟨#[]⟩, .string ⟨#[]⟩, .slice none 0 0] 35
 have hB : Below w.heap.size w (w.alloc (.cells #[.int .i64 0, .string ⟨#[]⟩, .string ⟨#[]⟩, .int .i64 0, .string ⟨#[]⟩, .string ⟨#[]⟩, .slice none 0 0] 35)) := (Below.refl _ _).alloc (Nat.le_refl _) _
 have HT := Lib.hid (fun w => l1Cut_any s w (by omega))
 have hcl : (Lib.cut s.data.toList [32]).2.1.length <= 2000000 := by
  cases h : (Lib.cut s.data.toList [32]).2.2 with
  | true =>
   have e := congrArg List.length (cut_yes h)
   simp only [List.length_append] at e
   have k0 : s.data.toList.length = s.size := by simp
   omega
  | false =>
   unfold Lib.cut at h ⊢
   split at h
   ·cases h
   ·rename_i h0
    rw [if_neg h0]
    exact Nat.zero_le _
 have HC : Hid (o = (dQ (kdN (Lib.cut s.data.toList [32]).1) (Lib.cut s.data.toList [32]).2.1).bind fun q => if opX q = s then some q else none) := Lib.hid (by rw [ho, rdO_ref]; rfl)
 generalize Lib.cut s.data.toList [32] = c at HT HC hcl
 clear ho hs
 obtain ⟨wd, r, fd⟩ := c
 dsimp only at HT HC hcl
 go_enter Tryz.func26, Tryz.ntmps26
 go_wp2_with fail
 generalize w.alloc (.cells #[.int .i64 0, .string ⟨#[]⟩, .string ⟨#[]⟩, .int .i64 0, .string ⟨#[]⟩, .string ⟨#[]⟩, .slice none 0 0] 35) = W0 at hz hB ⊢
 refine (HT.out _).mono ?_
 rintro e w1 ⟨rfl, hb⟩
 replace hz := hz.keep hb hz.lt
 replace hB := hB.trans (hb.mono hB.size)
 clear hb HT
 have hwl : w.heap.size < w1.heap.size := hz.lt
 have hx := Box.new w1 #[.int .i64 0, .string ⟨#[]⟩, .string ⟨#[]⟩, .int .i64 0, .string ⟨#[]⟩, .string ⟨#[]⟩, .slice none 0 0] 35
 have hia : Below w1.heap.size w1 (w1.alloc (.cells #[.int .i64 0, .string ⟨#[]⟩, .string ⟨#[]⟩, .int .i64 0, .string ⟨#[]⟩, .string ⟨#[]⟩, .slice none 0 0] 35)) := (Below.refl _ _).alloc (Nat.le_refl _) _
 replace hz := hz.keep hia hz.lt
 replace hB := hB.trans (hia.mono hB.size)
 clear hia
 have HKE := Lib.hid (kd_eq wd)
 have hkc : kdN wd = 0 \/ kdN wd = 1 \/ kdN wd = 2 \/ kdN wd = 3 \/ kdN wd = 4 \/ kdN wd = 5 \/ kdN wd = 6 \/ kdN wd = 7 \/ kdN wd = 8 \/ kdN wd = 9 := by
  rcases kdN_cases wd with h | h
  ·exact .inl h
  ·exact .inr h.1
 have hrs : (bl r).size <= 2000000 := by rw [bl_size]; exact hcl
 generalize kdN wd = k at HC HKE hkc
 generalize bl wd = WD at HKE ⊢
 go_wp2
 generalize w1.alloc (.cells #[.int .i64 0, .string ⟨#[]⟩, .string ⟨#[]⟩, .int .i64 0, .string ⟨#[]⟩, .string ⟨#[]⟩, .slice none 0 0] 35) = W1 at hx hz hB ⊢
 generalize w1.heap.size = GX at hx hwl ⊢
 go_loopw [8] (fun i wr => ∃ (q : Nat) (z : Int), 1 <= q /\ q <= 10 /\ i = .int .i64 (q : Int) /\ Box wr GX #[.int .i64 z, .string ⟨#[]⟩, .string ⟨#[]⟩, .int .i64 0, .string ⟨#[]⟩, .string ⟨#[]⟩, .slice none 0 0] 35 /\ Hid (z = if k < (q : Int) then k else 0) /\ Box wr w.heap.size #[.int .i64 0, .string ⟨#[]⟩, .string ⟨#[]⟩, .int .i64 0, .string ⟨#[]⟩, .string ⟨#[]⟩, .slice none 0 0] 35 /\ Below w.heap.size w wr) (fun i _ => 10 - (intOf i).toNat)
 case atStart => exact ⟨1, 0, by omega, by omega, rfl, hx, Lib.hid (by split <;> omega), hz, hB⟩
 case round =>
  clear hx hz hB
  obtain ⟨q, z, hq1, hq2, rfl, hx, HZ, hz, hB⟩ := hrel
  by_cases hlt : q < 10
  case pos =>
   have hqc : (q : Int) = 1 \/ (q : Int) = 2 \/ (q : Int) = 3 \/ (q : Int) = 4 \/ (q : Int) = 5 \/ (q : Int) = 6 \/ (q : Int) = 7 \/ (q : Int) = 8 \/ (q : Int) = 9 := by omega
   have HW := Lib.hid (fun w => l11Word_any (q : Int) w hqc)
   have he := HKE.out (q : Int) hqc
   clear hqc
   generalize wdB (q : Int) = Wq at HW he
   go_wp2_with fail
   refine (HW.out _).mono ?_
   rintro e w2 ⟨rfl, hb⟩
   replace hz := hz.keep hb hz.lt
   replace hx := hx.keep hb hx.lt
   replace hB := hB.trans (hb.mono hB.size)
   clear hb HW
   by_cases hkq : k = (q : Int)
   case neg =>
    rw [decide_eq_false hkq] at he
    have HZ2 : Hid (z = if k < ((q + 1 : Nat) : Int) then k else 0) := Lib.hid (by rw [HZ.out]; split <;> split <;> omega)
    clear HZ
    go_wp2
    go_roundw
    case rel => exact ⟨q + 1, z, by omega, by omega, by go_num, hx, HZ2, hz, hB⟩
    case measure => simp [intOf]; omega
   rw [decide_eq_true hkq] at he
   have HZ2 : Hid ((q : Int) = if k < ((q + 1 : Nat) : Int) then k else 0) := Lib.hid (by rw [hkq]; split <;> omega)
   have y0 := hx.cell 0 _ rfl
   have g0 := hx.free 0
   have hx2 : Box (w2.setCell ⟨GX, 0, none⟩ (.int .i64 (q : Int))) GX #[.int .i64 (q : Int), .string ⟨#[]⟩, .string ⟨#[]⟩, .int .i64 0, .string ⟨#[]⟩, .string ⟨#[]⟩, .slice none 0 0] 35 := hx.set 0 (.int .i64 (q : Int))
   have hbe : Below GX w2 (w2.setCell ⟨GX, 0, none⟩ (.int .i64 (q : Int))) := (Below.refl _ _).setCell (p := ⟨GX, 0, none⟩) (Nat.le_refl _) _
   have hz2 := hz.keep hbe hwl
   have hB2 := hB.trans (hbe.mono (Nat.le_of_lt hwl))
   have HQ := Lib.hid hkq
   clear HZ hz hB hbe hkq hx
   go_wp2
   go_roundw
   case rel => exact ⟨q + 1, (q : Int), by omega, by omega, by go_num, hx2, HZ2, hz2, hB2⟩
   case measure => simp [intOf]; omega
  have hz10 : z = k := by
   rw [HZ.out]
   split <;> omega
  subst hz10
  clear HZ HKE
  have hhc := hlt
  rcases (show z = 0 \/ z = 3 \/ z = 9 \/ (¬ z = 0 /\ ¬ z = 3 /\ ¬ z = 9) by omega) with rfl | rfl | rfl | ⟨n0, n3, n9⟩
  ·
   have hO : o = none := HC.out
   clear HC hkc
   have x0 := hx.cell 0 _ rfl
   have x1 := hx.cell 1 _ rfl
   have x2 := hx.cell 2 _ rfl
   have x3 := hx.cell 3 _ rfl
   have x4 := hx.cell 4 _ rfl
   have x5 := hx.cell 5 _ rfl
   have x6 := hx.cell 6 _ rfl
   have z0 := hz.cell 0 _ rfl
   have z1 := hz.cell 1 _ rfl
   have z2 := hz.cell 2 _ rfl
   have z3 := hz.cell 3 _ rfl
   have z4 := hz.cell 4 _ rfl
   have z5 := hz.cell 5 _ rfl
   have z6 := hz.cell 6 _ rfl
   have f0 := hz.free 0
   have f1 := hz.free 1
   have f2 := hz.free 2
   have f3 := hz.free 3
   have f4 := hz.free 4
   have f5 := hz.free 5
   have f6 := hz.free 6
   go_wp2
   refine bodyPost_ret (results_op2 rfl _ _ _ 0 ⟨#[]⟩ ⟨#[]⟩ 0 ⟨#[]⟩ ⟨#[]⟩ (.slice none 0 0) _ rfl rfl (put7o _ _ _ _ _ _ _ _ _ hz rfl)) rfl ?_
   exact ⟨ro_zero hO, hB.trans (below7o _ w.heap.size _ (Nat.le_refl _) _ _ _ _ _ _ _)⟩
  ·
   have HRr := Lib.hid (fun w => specReadFeed_any (bl r) w)
   have x0 := hx.cell 0 _ rfl
   have x1 := hx.cell 1 _ rfl
   have x2 := hx.cell 2 _ rfl
   have x3 := hx.cell 3 _ rfl
   have x4 := hx.cell 4 _ rfl
   have x5 := hx.cell 5 _ rfl
   have x6 := hx.cell 6 _ rfl
   go_wp2_with fail
   clear x0 x1 x2 x3 x4 x5 x6
   have hGl : GX + 1 <= wr.heap.size := hx.lt
   refine (HRr.out _).mono ?_
   rintro e w3 ⟨hrf, hb⟩
   replace hz := hz.keep hb hz.lt
   replace hx := hx.keep hb hx.lt
   replace hB := Below.trans hB (hb.mono hB.size)
   clear hb
   clear HRr
   cases hf : rdF (bl r) with
   | none =>
    rw [hf] at hrf
    obtain rfl : e = .returned (.tuple #[fV ⟨#[]⟩ ⟨#[]⟩ (.slice none 0 0), .bool false]) := hrf
    have hO : o = none := by
     have h := HC.out
     unfold dQ at h
     rw [if_pos rfl, hf] at h
     exact h
    clear HC hf hkc
    have hia : Below w3.heap.size w3 (w3.alloc (fC ⟨#[]⟩ ⟨#[]⟩ (.slice none 0 0))) := (Below.refl _ _).alloc (Nat.le_refl _) _
    replace hz := hz.keep hia hz.lt
    replace hB := hB.trans (hia.mono hB.size)
    clear hia hx
    have z0 := hz.cell 0 _ rfl
    have z1 := hz.cell 1 _ rfl
    have z2 := hz.cell 2 _ rfl
    have z3 := hz.cell 3 _ rfl
    have z4 := hz.cell 4 _ rfl
    have z5 := hz.cell 5 _ rfl
    have z6 := hz.cell 6 _ rfl
    have f0 := hz.free 0
    have f1 := hz.free 1
    have f2 := hz.free 2
    have f3 := hz.free 3
    have f4 := hz.free 4
    have f5 := hz.free 5
    have f6 := hz.free 6
    go_wp2
    refine bodyPost_ret (results_op2 rfl _ _ _ 0 ⟨#[]⟩ ⟨#[]⟩ 0 ⟨#[]⟩ ⟨#[]⟩ (.slice none 0 0) _ rfl rfl (put7o _ _ _ _ _ _ _ _ _ hz rfl)) rfl ?_
    exact ⟨ro_zero hO, hB.trans (below7o _ w.heap.size _ (Nat.le_refl _) _ _ _ _ _ _ _)⟩
   | some f =>
    obtain ⟨fu, ft, its⟩ := f
    rw [hf] at hrf
    obtain ⟨v, rfl, hown⟩ := hrf
    dsimp only at hown
    have HOe : Hid (o = if opX (⟨3, ⟨#[]⟩, ⟨#[]⟩, 0, fu, ft, its⟩ : OpD) = s then some (⟨3, ⟨#[]⟩, ⟨#[]⟩, 0, fu, ft, its⟩ : OpD) else none) := Lib.hid (by
     have h := HC.out
     unfold dQ at h
     rw [if_pos rfl, hf, Option.map_some, Option.bind_some] at h
     exact h)
    have HZs : Hid (fu.size <= maxLen /\ ft.size <= maxLen /\ ∀ x ∈ its, x.id.size <= maxLen /\ x.ti.size <= maxLen) := Lib.hid (by
     obtain ⟨h1, h2, h3⟩ := fdB_parts8 (rdF_some hf).1
     dsimp only at h1 h2 h3
     refine ⟨by unfold maxLen; omega, by unfold maxLen; omega, fun x hx => ?_⟩
     obtain ⟨a, b, _⟩ := h3 x hx
     unfold maxLen
     exact ⟨by omega, by omega⟩)
    clear HC hf hkc
    replace hown := hown.base_mono hGl
    obtain ⟨va, vc, rfl⟩ := hown.slice
    have hia : Below w3.heap.size w3 (w3.alloc (fC fu ft (.slice va its.length vc))) := (Below.refl _ _).alloc (Nat.le_refl _) _
    replace hz := hz.keep hia hz.lt
    replace hx := hx.keep hia hx.lt
    replace hB := hB.trans (hia.mono hB.size)
    replace hown := hown.keep hia (Nat.le_refl _)
    clear hia
    have hgl : w.heap.size < GX + 1 := by omega
    have fb := FAt.new w3 fu ft (.slice va its.length vc)
    have p0 := fb.c0
    have p1 := fb.c1
    have p2 := fb.c2
    have x0 := hx.cell 0 _ rfl
    have x1 := hx.cell 1 _ rfl
    have x2 := hx.cell 2 _ rfl
    have x3 := hx.cell 3 _ rfl
    have x4 := hx.cell 4 _ rfl
    have x5 := hx.cell 5 _ rfl
    have x6 := hx.cell 6 _ rfl
    have g0 := hx.free 0
    have g1 := hx.free 1
    have g2 := hx.free 2
    have g3 := hx.free 3
    have g4 := hx.free 4
    have g5 := hx.free 5
    have g6 := hx.free 6
    have hx2 := (((hx.set 4 (.string fu)).set 5 (.string ft)).set 6 (.slice va its.length vc))
    change Box _ GX #[.int .i64 3, .string ⟨#[]⟩, .string ⟨#[]⟩, .int .i64 0, .string fu, .string ft, .slice va its.length vc] _ at hx2
    have hbe : Below GX (w3.alloc (fC fu ft (.slice va its.length vc))) ((((w3.alloc (fC fu ft (.slice va its.length vc))).setCell ⟨GX, 4, none⟩ (.string fu)).setCell ⟨GX, 5, none⟩ (.string ft)).setCell ⟨GX, 6, none⟩ (.slice va its.length vc)) := (((Below.refl _ _).setCell (p := ⟨GX, 4, none⟩) (Nat.le_refl _) _).setCell (p := ⟨GX, 5, none⟩) (Nat.le_refl _) _).setCell (p := ⟨GX, 6, none⟩) (Nat.le_refl _) _
    have hown3 := ((hown.other ⟨GX, 4, none⟩ (.string fu) (Nat.lt_succ_self GX)).other ⟨GX, 5, none⟩ (.string ft) (Nat.lt_succ_self GX)).other ⟨GX, 6, none⟩ (.slice va its.length vc) (Nat.lt_succ_self GX)
    replace hz := hz.keep hbe hwl
    replace hB := hB.trans (hbe.mono (Nat.le_of_lt hwl))
    clear hown hx hbe
    have hown := hown3
    have hx := hx2
    clear hown3 hx2
    have HPX := Lib.hid (fun w hI => specOpText_any (⟨3, ⟨#[]⟩, ⟨#[]⟩, 0, fu, ft, its⟩ : OpD) (.slice va its.length vc) w hI ⟨Nat.zero_le _, Nat.zero_le _, HZs.out.1, HZs.out.2.1⟩)
    generalize hpx : opX (⟨3, ⟨#[]⟩, ⟨#[]⟩, 0, fu, ft, its⟩ : OpD) = PX at HPX HOe
    clear hpx
    have x0 := hx.cell 0 _ rfl
    have x1 := hx.cell 1 _ rfl
    have x2 := hx.cell 2 _ rfl
    have x3 := hx.cell 3 _ rfl
    have x4 := hx.cell 4 _ rfl
    have x5 := hx.cell 5 _ rfl
    have x6 := hx.cell 6 _ rfl
    go_wp2_with fail
    clear x0 x1 x2 x3 x4 x5 x6
    refine (HPX.out _ ⟨hown.at itC_len, HZs.out.2.2⟩).mono ?_
    rintro e w9 ⟨rfl, hb⟩
    replace hz := hz.keep hb hz.lt
    replace hx := hx.keep hb hx.lt
    replace hB := Below.trans hB (hb.mono hB.size)
    replace hown := hown.keep hb (Nat.le_refl _)
    clear hb HPX
    by_cases hps : PX = s
    case neg =>
     have hO : o = none := by have h := HOe.out; rw [if_neg hps] at h; exact h
     have hne : (PX.toList == s.toList) = false := str_neF (fun h => hps (by rw [<- bl_back PX, h, bl_back]))
     clear HOe hps
     have z0 := hz.cell 0 _ rfl
     have z1 := hz.cell 1 _ rfl
     have z2 := hz.cell 2 _ rfl
     have z3 := hz.cell 3 _ rfl
     have z4 := hz.cell 4 _ rfl
     have z5 := hz.cell 5 _ rfl
     have z6 := hz.cell 6 _ rfl
     have f0 := hz.free 0
     have f1 := hz.free 1
     have f2 := hz.free 2
     have f3 := hz.free 3
     have f4 := hz.free 4
     have f5 := hz.free 5
     have f6 := hz.free 6
     go_wp2
     refine bodyPost_ret (results_op2 rfl _ _ _ 0 ⟨#[]⟩ ⟨#[]⟩ 0 ⟨#[]⟩ ⟨#[]⟩ (.slice none 0 0) _ rfl rfl (put7o _ _ _ _ _ _ _ _ _ hz rfl)) rfl ?_
     exact ⟨ro_zero hO, hB.trans (below7o _ w.heap.size _ (Nat.le_refl _) _ _ _ _ _ _ _)⟩
    have hO : o = some (⟨3, ⟨#[]⟩, ⟨#[]⟩, 0, fu, ft, its⟩ : OpD) := by have h := HOe.out; rw [if_pos hps] at h; exact h
    clear HOe
    subst hps
    have x0 := hx.cell 0 _ rfl
    have x1 := hx.cell 1 _ rfl
    have x2 := hx.cell 2 _ rfl
    have x3 := hx.cell 3 _ rfl
    have x4 := hx.cell 4 _ rfl
    have x5 := hx.cell 5 _ rfl
    have x6 := hx.cell 6 _ rfl
    have z0 := hz.cell 0 _ rfl
    have z1 := hz.cell 1 _ rfl
    have z2 := hz.cell 2 _ rfl
    have z3 := hz.cell 3 _ rfl
    have z4 := hz.cell 4 _ rfl
    have z5 := hz.cell 5 _ rfl
    have z6 := hz.cell 6 _ rfl
    have f0 := hz.free 0
    have f1 := hz.free 1
    have f2 := hz.free 2
    have f3 := hz.free 3
    have f4 := hz.free 4
    have f5 := hz.free 5
    have f6 := hz.free 6
    have hown2 := ((((((hown.other ⟨w.heap.size, 0, none⟩ (.int .i64 3) hgl).other ⟨w.heap.size, 1, none⟩ (.string ⟨#[]⟩) hgl).other ⟨w.heap.size, 2, none⟩ (.string ⟨#[]⟩) hgl).other ⟨w.heap.size, 3, none⟩ (.int .i64 0) hgl).other ⟨w.heap.size, 4, none⟩ (.string fu) hgl).other ⟨w.heap.size, 5, none⟩ (.string ft) hgl).other ⟨w.heap.size, 6, none⟩ (.slice va its.length vc) hgl
    replace hown2 := hown2.base_mono (Nat.le_of_lt hgl)
    go_wp2
    refine bodyPost_ret (results_op2 rfl _ _ _ 3 ⟨#[]⟩ ⟨#[]⟩ 0 fu ft (.slice va its.length vc) _ rfl rfl (put7o _ _ _ _ _ _ _ _ _ hz rfl)) rfl ?_
    exact ⟨ro_some (q := (⟨3, ⟨#[]⟩, ⟨#[]⟩, 0, fu, ft, its⟩ : OpD)) hO (hown2), hB.trans (below7o _ w.heap.size _ (Nat.le_refl _) _ _ _ _ _ _ _)⟩
  ·
   have RD := Lib.hid (fun w => specReadDate_any (bl r) w)
   obtain ⟨dy, dm, dd, hdv, hdr⟩ := rdV_date (bl r)
   rw [hdv] at RD
   have HDN : Hid (rdOk (bl r) = true -> dN (rY (bl r)) (rM (bl r)) (rD (bl r)) = dN dy dm dd /\ 1970 <= dy /\ dy <= 2517 /\ 1 <= dm /\ dm <= 12 /\ 1 <= dd /\ dd <= 31) := Lib.hid (fun h => by
    obtain ⟨e1, e2, e3⟩ := hdr h
    have hk := ((rdOk_iff _).1 h).2.2.2
    rw [<- e1, <- e2, <- e3] at hk ⊢
    obtain ⟨q1, q2, q3, q4, q5, q6, q7⟩ := (dOk_iff _ _ _).1 hk
    have := dIM_bd dy dm
    exact ⟨rfl, q1, q2, q3, q4, q5, by omega⟩)
   clear hdv hdr
   have HC4 : Hid (o = (if rdOk (bl r) = true then some (⟨9, ⟨#[]⟩, ⟨#[]⟩, dN (rY (bl r)) (rM (bl r)) (rD (bl r)), ⟨#[]⟩, ⟨#[]⟩, []⟩ : OpD) else none).bind fun q => if opX q = s then some q else none) := Lib.hid (by have h := HC.out; unfold dQ at h; rw [if_neg (by omega), if_pos rfl] at h; exact h)
   clear HC hkc
   generalize dN (rY (bl r)) (rM (bl r)) (rD (bl r)) = dn at HDN HC4
   generalize rdOk (bl r) = F9 at RD HDN HC4
   have x0 := hx.cell 0 _ rfl
   have x1 := hx.cell 1 _ rfl
   have x2 := hx.cell 2 _ rfl
   have x3 := hx.cell 3 _ rfl
   have x4 := hx.cell 4 _ rfl
   have x5 := hx.cell 5 _ rfl
   have x6 := hx.cell 6 _ rfl
   go_wp2_with fail
   clear x0 x1 x2 x3 x4 x5 x6
   refine (RD.out _).mono ?_
   rintro e w3 ⟨rfl, hb⟩
   replace hz := hz.keep hb hz.lt
   replace hx := hx.keep hb hx.lt
   replace hB := Below.trans hB (hb.mono hB.size)
   clear hb
   clear RD
   have hia : Below w3.heap.size w3 (w3.alloc (dC dy dm dd)) := (Below.refl _ _).alloc (Nat.le_refl _) _
   have hdt := DAt.new w3 dy dm dd
   replace hz := hz.keep hia hz.lt
   replace hx := hx.keep hia hx.lt
   replace hB := hB.trans (hia.mono hB.size)
   clear hia
   cases F9 with
   | false =>
    have hO : o = none := HC4.out
    clear HC4 HDN
    have z0 := hz.cell 0 _ rfl
    have z1 := hz.cell 1 _ rfl
    have z2 := hz.cell 2 _ rfl
    have z3 := hz.cell 3 _ rfl
    have z4 := hz.cell 4 _ rfl
    have z5 := hz.cell 5 _ rfl
    have z6 := hz.cell 6 _ rfl
    have f0 := hz.free 0
    have f1 := hz.free 1
    have f2 := hz.free 2
    have f3 := hz.free 3
    have f4 := hz.free 4
    have f5 := hz.free 5
    have f6 := hz.free 6
    go_wp2
    refine bodyPost_ret (results_op2 rfl _ _ _ 0 ⟨#[]⟩ ⟨#[]⟩ 0 ⟨#[]⟩ ⟨#[]⟩ (.slice none 0 0) _ rfl rfl (put7o _ _ _ _ _ _ _ _ _ hz rfl)) rfl ?_
    exact ⟨ro_zero hO, hB.trans (below7o _ w.heap.size _ (Nat.le_refl _) _ _ _ _ _ _ _)⟩
   | true =>
    obtain ⟨hdn, q1, q2, q3, q4, q5, q6⟩ := HDN.out (by first | rfl | trivial)
    have HOe : Hid (o = if opX (⟨9, ⟨#[]⟩, ⟨#[]⟩, dn, ⟨#[]⟩, ⟨#[]⟩, []⟩ : OpD) = s then some (⟨9, ⟨#[]⟩, ⟨#[]⟩, dn, ⟨#[]⟩, ⟨#[]⟩, []⟩ : OpD) else none) := Lib.hid HC4.out
    clear HC4 HDN
    have HL7 := Lib.hid (fun w => l7Day_any dy dm dd w q1 q2 q3 q4 q5 q6)
    rw [<- hdn] at HL7
    clear hdn q1 q2 q3 q4 q5 q6
    have p0 := hdt.c0
    have p1 := hdt.c1
    have p2 := hdt.c2
    go_wp2_with fail
    clear p0 p1 p2
    generalize w3.alloc (dC dy dm dd) = W3 at hdt hz hx hB ⊢
    refine (HL7.out _).mono ?_
    rintro e w4 ⟨rfl, hb⟩
    replace hz := hz.keep hb hz.lt
    replace hx := hx.keep hb hx.lt
    replace hB := Below.trans hB (hb.mono hB.size)
    clear hb
    clear HL7 hdt
    have x0 := hx.cell 0 _ rfl
    have x1 := hx.cell 1 _ rfl
    have x2 := hx.cell 2 _ rfl
    have x3 := hx.cell 3 _ rfl
    have x4 := hx.cell 4 _ rfl
    have x5 := hx.cell 5 _ rfl
    have x6 := hx.cell 6 _ rfl
    have g0 := hx.free 0
    have g1 := hx.free 1
    have g2 := hx.free 2
    have g3 := hx.free 3
    have g4 := hx.free 4
    have g5 := hx.free 5
    have g6 := hx.free 6
    have hx2 := hx.set 3 (.int .i64 dn)
    change Box _ GX #[.int .i64 9, .string ⟨#[]⟩, .string ⟨#[]⟩, .int .i64 dn, .string ⟨#[]⟩, .string ⟨#[]⟩, .slice none 0 0] _ at hx2
    have hbe : Below GX w4 (w4.setCell ⟨GX, 3, none⟩ (.int .i64 dn)) := (Below.refl _ _).setCell (p := ⟨GX, 3, none⟩) (Nat.le_refl _) _
    replace hz := hz.keep hbe hwl
    replace hB := hB.trans (hbe.mono (Nat.le_of_lt hwl))
    clear hx hbe
    have hx := hx2
    clear hx2
    have HPX := Lib.hid (fun w hI => specOpText_any (⟨9, ⟨#[]⟩, ⟨#[]⟩, dn, ⟨#[]⟩, ⟨#[]⟩, []⟩ : OpD) (.slice none 0 0) w hI ⟨Nat.zero_le _, Nat.zero_le _, Nat.zero_le _, Nat.zero_le _⟩)
    generalize hpx : opX (⟨9, ⟨#[]⟩, ⟨#[]⟩, dn, ⟨#[]⟩, ⟨#[]⟩, []⟩ : OpD) = PX at HPX HOe
    clear hpx
    have x0 := hx.cell 0 _ rfl
    have x1 := hx.cell 1 _ rfl
    have x2 := hx.cell 2 _ rfl
    have x3 := hx.cell 3 _ rfl
    have x4 := hx.cell 4 _ rfl
    have x5 := hx.cell 5 _ rfl
    have x6 := hx.cell 6 _ rfl
    go_wp2_with fail
    clear x0 x1 x2 x3 x4 x5 x6
    refine (HPX.out _ ⟨⟨none, 0, rfl, Nat.le_refl _, Nat.zero_le _, fun h => absurd h (by simp)⟩, fun x hx => by cases hx⟩).mono ?_
    rintro e w9 ⟨rfl, hb⟩
    replace hz := hz.keep hb hz.lt
    replace hx := hx.keep hb hx.lt
    replace hB := Below.trans hB (hb.mono hB.size)
    clear hb HPX
    by_cases hps : PX = s
    case neg =>
     have hO : o = none := by have h := HOe.out; rw [if_neg hps] at h; exact h
     have hne : (PX.toList == s.toList) = false := str_neF (fun h => hps (by rw [<- bl_back PX, h, bl_back]))
     clear HOe hps
     have z0 := hz.cell 0 _ rfl
     have z1 := hz.cell 1 _ rfl
     have z2 := hz.cell 2 _ rfl
     have z3 := hz.cell 3 _ rfl
     have z4 := hz.cell 4 _ rfl
     have z5 := hz.cell 5 _ rfl
     have z6 := hz.cell 6 _ rfl
     have f0 := hz.free 0
     have f1 := hz.free 1
     have f2 := hz.free 2
     have f3 := hz.free 3
     have f4 := hz.free 4
     have f5 := hz.free 5
     have f6 := hz.free 6
     go_wp2
     refine bodyPost_ret (results_op2 rfl _ _ _ 0 ⟨#[]⟩ ⟨#[]⟩ 0 ⟨#[]⟩ ⟨#[]⟩ (.slice none 0 0) _ rfl rfl (put7o _ _ _ _ _ _ _ _ _ hz rfl)) rfl ?_
     exact ⟨ro_zero hO, hB.trans (below7o _ w.heap.size _ (Nat.le_refl _) _ _ _ _ _ _ _)⟩
    have hO : o = some (⟨9, ⟨#[]⟩, ⟨#[]⟩, dn, ⟨#[]⟩, ⟨#[]⟩, []⟩ : OpD) := by have h := HOe.out; rw [if_pos hps] at h; exact h
    clear HOe
    subst hps
    have x0 := hx.cell 0 _ rfl
    have x1 := hx.cell 1 _ rfl
    have x2 := hx.cell 2 _ rfl
    have x3 := hx.cell 3 _ rfl
    have x4 := hx.cell 4 _ rfl
    have x5 := hx.cell 5 _ rfl
    have x6 := hx.cell 6 _ rfl
    have z0 := hz.cell 0 _ rfl
    have z1 := hz.cell 1 _ rfl
    have z2 := hz.cell 2 _ rfl
    have z3 := hz.cell 3 _ rfl
    have z4 := hz.cell 4 _ rfl
    have z5 := hz.cell 5 _ rfl
    have z6 := hz.cell 6 _ rfl
    have f0 := hz.free 0
    have f1 := hz.free 1
    have f2 := hz.free 2
    have f3 := hz.free 3
    have f4 := hz.free 4
    have f5 := hz.free 5
    have f6 := hz.free 6
    go_wp2
    refine bodyPost_ret (results_op2 rfl _ _ _ 9 ⟨#[]⟩ ⟨#[]⟩ dn ⟨#[]⟩ ⟨#[]⟩ (.slice none 0 0) _ rfl rfl (put7o _ _ _ _ _ _ _ _ _ hz rfl)) rfl ?_
    exact ⟨ro_some (q := (⟨9, ⟨#[]⟩, ⟨#[]⟩, dn, ⟨#[]⟩, ⟨#[]⟩, []⟩ : OpD)) hO (OwnR.nil _ _ _), hB.trans (below7o _ w.heap.size _ (Nat.le_refl _) _ _ _ _ _ _ _)⟩
  ·
   have HC2 := Lib.hid (fun w => l1Cut_any (bl r) w (by omega))
   have hcr : Lib.cut (bl r).data.toList [32] = Lib.cut r [32] := rfl
   rw [hcr] at HC2
   have HOe0 : Hid (o = if opX (⟨z, bl (Lib.cut r [32]).1, bl (Lib.cut r [32]).2.1, 0, ⟨#[]⟩, ⟨#[]⟩, []⟩ : OpD) = s then some (⟨z, bl (Lib.cut r [32]).1, bl (Lib.cut r [32]).2.1, 0, ⟨#[]⟩, ⟨#[]⟩, []⟩ : OpD) else none) := Lib.hid (by have h := HC.out; unfold dQ at h; rw [if_neg n3, if_neg n9, if_neg n0, Option.bind_some] at h; exact h)
   have HZ4 : Hid ((bl (Lib.cut r [32]).1).size <= maxLen /\ (bl (Lib.cut r [32]).2.1).size <= maxLen) := Lib.hid (by
    rw [bl_size, bl_size]
    unfold maxLen
    cases h : (Lib.cut r [32]).2.2 with
    | true =>
     have e := congrArg List.length (cut_yes h)
     simp only [List.length_append] at e
     exact ⟨by omega, by omega⟩
    | false =>
     unfold Lib.cut at h ⊢
     split at h
     ·cases h
     ·rename_i h0
      rw [if_neg h0]
      exact ⟨by dsimp only; omega, Nat.zero_le _⟩)
   generalize Lib.cut r [32] = c2 at HC2 HOe0 HZ4
   obtain ⟨cu, ci, cf⟩ := c2
   dsimp only at HC2 HOe0 HZ4
   have HOe := HOe0
   clear hcr HC HOe0 hkc
   have m0 : (z == 0) = false := by simpa using n0
   have m3 : (z == 3) = false := by simpa using n3
   have m9 : (z == 9) = false := by simpa using n9
   clear n0 n3 n9
   have x0 := hx.cell 0 _ rfl
   have x1 := hx.cell 1 _ rfl
   have x2 := hx.cell 2 _ rfl
   have x3 := hx.cell 3 _ rfl
   have x4 := hx.cell 4 _ rfl
   have x5 := hx.cell 5 _ rfl
   have x6 := hx.cell 6 _ rfl
   go_wp2_with fail
   clear x0 x1 x2 x3 x4 x5 x6
   refine (HC2.out _).mono ?_
   rintro e w3 ⟨rfl, hb⟩
   replace hz := hz.keep hb hz.lt
   replace hx := hx.keep hb hx.lt
   replace hB := Below.trans hB (hb.mono hB.size)
   clear hb
   clear HC2
   generalize bl cu = CU at HZ4 HOe ⊢
   generalize bl ci = CI at HZ4 HOe ⊢
   have x0 := hx.cell 0 _ rfl
   have x1 := hx.cell 1 _ rfl
   have x2 := hx.cell 2 _ rfl
   have x3 := hx.cell 3 _ rfl
   have x4 := hx.cell 4 _ rfl
   have x5 := hx.cell 5 _ rfl
   have x6 := hx.cell 6 _ rfl
   have g0 := hx.free 0
   have g1 := hx.free 1
   have g2 := hx.free 2
   have g3 := hx.free 3
   have g4 := hx.free 4
   have g5 := hx.free 5
   have g6 := hx.free 6
   have hx2 := (hx.set 1 (.string CU)).set 2 (.string CI)
   change Box _ GX #[.int .i64 z, .string CU, .string CI, .int .i64 0, .string ⟨#[]⟩, .string ⟨#[]⟩, .slice none 0 0] _ at hx2
   have hbe : Below GX w3 ((w3.setCell ⟨GX, 1, none⟩ (.string CU)).setCell ⟨GX, 2, none⟩ (.string CI)) := ((Below.refl _ _).setCell (p := ⟨GX, 1, none⟩) (Nat.le_refl _) _).setCell (p := ⟨GX, 2, none⟩) (Nat.le_refl _) _
   replace hz := hz.keep hbe hwl
   replace hB := hB.trans (hbe.mono (Nat.le_of_lt hwl))
   clear hx hbe
   have hx := hx2
   clear hx2
   have HPX := Lib.hid (fun w hI => specOpText_any (⟨z, CU, CI, 0, ⟨#[]⟩, ⟨#[]⟩, []⟩ : OpD) (.slice none 0 0) w hI ⟨HZ4.out.1, HZ4.out.2, Nat.zero_le _, Nat.zero_le _⟩)
   generalize hpx : opX (⟨z, CU, CI, 0, ⟨#[]⟩, ⟨#[]⟩, []⟩ : OpD) = PX at HPX HOe
   clear hpx
   have x0 := hx.cell 0 _ rfl
   have x1 := hx.cell 1 _ rfl
   have x2 := hx.cell 2 _ rfl
   have x3 := hx.cell 3 _ rfl
   have x4 := hx.cell 4 _ rfl
   have x5 := hx.cell 5 _ rfl
   have x6 := hx.cell 6 _ rfl
   go_wp2_with fail
   clear x0 x1 x2 x3 x4 x5 x6
   refine (HPX.out _ ⟨⟨none, 0, rfl, Nat.le_refl _, Nat.zero_le _, fun h => absurd h (by simp)⟩, fun x hx => by cases hx⟩).mono ?_
   rintro e w9 ⟨rfl, hb⟩
   replace hz := hz.keep hb hz.lt
   replace hx := hx.keep hb hx.lt
   replace hB := Below.trans hB (hb.mono hB.size)
   clear hb HPX
   by_cases hps : PX = s
   case neg =>
    have hO : o = none := by have h := HOe.out; rw [if_neg hps] at h; exact h
    have hne : (PX.toList == s.toList) = false := str_neF (fun h => hps (by rw [<- bl_back PX, h, bl_back]))
    clear HOe hps
    have z0 := hz.cell 0 _ rfl
    have z1 := hz.cell 1 _ rfl
    have z2 := hz.cell 2 _ rfl
    have z3 := hz.cell 3 _ rfl
    have z4 := hz.cell 4 _ rfl
    have z5 := hz.cell 5 _ rfl
    have z6 := hz.cell 6 _ rfl
    have f0 := hz.free 0
    have f1 := hz.free 1
    have f2 := hz.free 2
    have f3 := hz.free 3
    have f4 := hz.free 4
    have f5 := hz.free 5
    have f6 := hz.free 6
    go_wp2
    refine bodyPost_ret (results_op2 rfl _ _ _ 0 ⟨#[]⟩ ⟨#[]⟩ 0 ⟨#[]⟩ ⟨#[]⟩ (.slice none 0 0) _ rfl rfl (put7o _ _ _ _ _ _ _ _ _ hz rfl)) rfl ?_
    exact ⟨ro_zero hO, hB.trans (below7o _ w.heap.size _ (Nat.le_refl _) _ _ _ _ _ _ _)⟩
   have hO : o = some (⟨z, CU, CI, 0, ⟨#[]⟩, ⟨#[]⟩, []⟩ : OpD) := by have h := HOe.out; rw [if_pos hps] at h; exact h
   clear HOe
   subst hps
   have x0 := hx.cell 0 _ rfl
   have x1 := hx.cell 1 _ rfl
   have x2 := hx.cell 2 _ rfl
   have x3 := hx.cell 3 _ rfl
   have x4 := hx.cell 4 _ rfl
   have x5 := hx.cell 5 _ rfl
   have x6 := hx.cell 6 _ rfl
   have z0 := hz.cell 0 _ rfl
   have z1 := hz.cell 1 _ rfl
   have z2 := hz.cell 2 _ rfl
   have z3 := hz.cell 3 _ rfl
   have z4 := hz.cell 4 _ rfl
   have z5 := hz.cell 5 _ rfl
   have z6 := hz.cell 6 _ rfl
   have f0 := hz.free 0
   have f1 := hz.free 1
   have f2 := hz.free 2
   have f3 := hz.free 3
   have f4 := hz.free 4
   have f5 := hz.free 5
   have f6 := hz.free 6
   go_wp2
   refine bodyPost_ret (results_op2 rfl _ _ _ z CU CI 0 ⟨#[]⟩ ⟨#[]⟩ (.slice none 0 0) _ rfl rfl (put7o _ _ _ _ _ _ _ _ _ hz rfl)) rfl ?_
   exact ⟨ro_some (q := (⟨z, CU, CI, 0, ⟨#[]⟩, ⟨#[]⟩, []⟩ : OpD)) hO (OwnR.nil _ _ _), hB.trans (below7o _ w.heap.size _ (Nat.le_refl _) _ _ _ _ _ _ _)⟩
end Go.Proofs.YtffkakpbelknaaaGreatDoor
