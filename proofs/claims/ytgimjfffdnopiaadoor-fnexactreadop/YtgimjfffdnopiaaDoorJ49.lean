/- Joined: W11d. -/
import Derived.Test.YtgimjfffdnopiaaDoorJ34
import Derived.Test.YtgimjfffdnopiaaDoorJ42
import Derived.Test.YtgimjfffdnopiaaDoorJ46
import Derived.Test.YtgimjfffdnopiaaDoorJ48
/- W11d -/
namespace Go.Proofs.YtgimjfffdnopiaaDoor
open Go.ChangeShapes Go.WideShapes Go.ChangeAt Go.RowKit Go.Shelf
set_option linter.unusedVariables false
set_option linter.unusedSimpArgs false

theorem cloneO_any (s : ByteArray) (w : World) (hs : s.size ≤ 1000000000) : Calls Tryd.prog 104 #[.string s] w fun e w' => e = .returned (.string s) ∧ Below w.heap.size w w' := by
  have H := Lib.hid (fun w => Tryd.stringslite_Clone s w (by omega))
  go_enter Tryd.func104, Tryd.ntmps104
  go_wp2_with fail
  refine (H.out _).mono ?_
  rintro e w1 ⟨rfl, hb1⟩
  go_wp2
  go_ret
  exact ⟨rfl, hb1⟩

theorem cutm2_any (R M : ByteArray) (w : World) (hs : R.size ≤ 4000000) (h : XTab w) : Calls Tryd.prog 68 #[.string R, .string M] w fun e w' => e = .returned (.tuple #[.string (bl (Lib.cut R.data.toList M.data.toList).1), .string (bl (Lib.cut R.data.toList M.data.toList).2.1), .bool (Lib.cut R.data.toList M.data.toList).2.2]) ∧ Below w.heap.size w w' := by
  obtain ⟨m, hm⟩ := h
  refine (Tryd.strings_Cut R M m w (by omega) hm).mono ?_
  rintro e w' ⟨rfl, n, rfl⟩
  exact ⟨rfl, below_drewN (Below.refl _ _) n⟩

theorem OTab.cells {w : World} (h : OTab w) : w.cell? ⟨1, 0, none⟩ = some (.string ⟨#[]⟩) ∧ w.cell? ⟨1, 1, none⟩ = some (.string ⟨#[97, 100, 100]⟩) ∧ w.cell? ⟨1, 2, none⟩ = some (.string ⟨#[100, 114, 111, 112]⟩) ∧ w.cell? ⟨1, 3, none⟩ = some (.string ⟨#[102, 101, 116, 99, 104]⟩) ∧ w.cell? ⟨1, 4, none⟩ = some (.string ⟨#[114, 101, 97, 100]⟩) ∧ w.cell? ⟨1, 5, none⟩ = some (.string ⟨#[117, 110, 114, 101, 97, 100]⟩) ∧ w.cell? ⟨1, 6, none⟩ = some (.string ⟨#[115, 116, 97, 114]⟩) ∧ w.cell? ⟨1, 7, none⟩ = some (.string ⟨#[117, 110, 115, 116, 97, 114]⟩) ∧ w.cell? ⟨1, 8, none⟩ = some (.string ⟨#[97, 108, 108]⟩) ∧ w.cell? ⟨1, 9, none⟩ = some (.string ⟨#[112, 117, 114, 103, 101]⟩) := by
  obtain ⟨t, h⟩ := h
  refine ⟨?_, ?_, ?_, ?_, ?_, ?_, ?_, ?_, ?_, ?_⟩ <;> simp [World.cell?, h]
theorem kd_none (l : List UInt8) (h1 : l ≠ [97, 100, 100]) (h2 : l ≠ [100, 114, 111, 112]) (h3 : l ≠ [102, 101, 116, 99, 104]) (h4 : l ≠ [114, 101, 97, 100]) (h5 : l ≠ [117, 110, 114, 101, 97, 100]) (h6 : l ≠ [115, 116, 97, 114]) (h7 : l ≠ [117, 110, 115, 116, 97, 114]) (h8 : l ≠ [97, 108, 108]) (h9 : l ≠ [112, 117, 114, 103, 101]) : kdN l = 0 := by
  unfold kdN
  rw [if_neg h1, if_neg h2, if_neg h3, if_neg h4, if_neg h5, if_neg h6, if_neg h7, if_neg h8, if_neg h9]

set_option maxRecDepth 100000 in
set_option maxHeartbeats 4000000 in
theorem kindOf_any (wd : ByteArray) (w : World) (hO : OTab w) :
    Calls Tryd.prog 69 #[.string wd] w fun e w' => e = .returned (.int .i64 (kdN wd.data.toList)) ∧ w = w' := by
  obtain ⟨c0, c1, c2, c3, c4, c5, c6, c7, c8, c9⟩ := hO.cells
  clear hO
  have HI : ∀ k : Nat, k < 10 → True := fun _ _ => trivial
  clear HI
  have hix0 : ∀ w, Sem.run Tryd.prog (Instr.index 115 (.agg #[.string ⟨#[]⟩, .string ⟨#[97, 100, 100]⟩, .string ⟨#[100, 114, 111, 112]⟩, .string ⟨#[102, 101, 116, 99, 104]⟩, .string ⟨#[114, 101, 97, 100]⟩, .string ⟨#[117, 110, 114, 101, 97, 100]⟩, .string ⟨#[115, 116, 97, 114]⟩, .string ⟨#[117, 110, 115, 116, 97, 114]⟩, .string ⟨#[97, 108, 108]⟩, .string ⟨#[112, 117, 114, 103, 101]⟩]) (.int .i64 0)) w = .ok (.string ⟨#[]⟩) w := fun w => by simp [Instr.index, run_underlying Tryd.underlying115, asIntOf, part]
  have HX0 := Lib.hid hix0
  clear hix0
  have hix1 : ∀ w, Sem.run Tryd.prog (Instr.index 115 (.agg #[.string ⟨#[]⟩, .string ⟨#[97, 100, 100]⟩, .string ⟨#[100, 114, 111, 112]⟩, .string ⟨#[102, 101, 116, 99, 104]⟩, .string ⟨#[114, 101, 97, 100]⟩, .string ⟨#[117, 110, 114, 101, 97, 100]⟩, .string ⟨#[115, 116, 97, 114]⟩, .string ⟨#[117, 110, 115, 116, 97, 114]⟩, .string ⟨#[97, 108, 108]⟩, .string ⟨#[112, 117, 114, 103, 101]⟩]) (.int .i64 1)) w = .ok (.string ⟨#[97, 100, 100]⟩) w := fun w => by simp [Instr.index, run_underlying Tryd.underlying115, asIntOf, part]
  have HX1 := Lib.hid hix1
  clear hix1
  have hix2 : ∀ w, Sem.run Tryd.prog (Instr.index 115 (.agg #[.string ⟨#[]⟩, .string ⟨#[97, 100, 100]⟩, .string ⟨#[100, 114, 111, 112]⟩, .string ⟨#[102, 101, 116, 99, 104]⟩, .string ⟨#[114, 101, 97, 100]⟩, .string ⟨#[117, 110, 114, 101, 97, 100]⟩, .string ⟨#[115, 116, 97, 114]⟩, .string ⟨#[117, 110, 115, 116, 97, 114]⟩, .string ⟨#[97, 108, 108]⟩, .string ⟨#[112, 117, 114, 103, 101]⟩]) (.int .i64 2)) w = .ok (.string ⟨#[100, 114, 111, 112]⟩) w := fun w => by simp [Instr.index, run_underlying Tryd.underlying115, asIntOf, part]
  have HX2 := Lib.hid hix2
  clear hix2
  have hix3 : ∀ w, Sem.run Tryd.prog (Instr.index 115 (.agg #[.string ⟨#[]⟩, .string ⟨#[97, 100, 100]⟩, .string ⟨#[100, 114, 111, 112]⟩, .string ⟨#[102, 101, 116, 99, 104]⟩, .string ⟨#[114, 101, 97, 100]⟩, .string ⟨#[117, 110, 114, 101, 97, 100]⟩, .string ⟨#[115, 116, 97, 114]⟩, .string ⟨#[117, 110, 115, 116, 97, 114]⟩, .string ⟨#[97, 108, 108]⟩, .string ⟨#[112, 117, 114, 103, 101]⟩]) (.int .i64 3)) w = .ok (.string ⟨#[102, 101, 116, 99, 104]⟩) w := fun w => by simp [Instr.index, run_underlying Tryd.underlying115, asIntOf, part]
  have HX3 := Lib.hid hix3
  clear hix3
  have hix4 : ∀ w, Sem.run Tryd.prog (Instr.index 115 (.agg #[.string ⟨#[]⟩, .string ⟨#[97, 100, 100]⟩, .string ⟨#[100, 114, 111, 112]⟩, .string ⟨#[102, 101, 116, 99, 104]⟩, .string ⟨#[114, 101, 97, 100]⟩, .string ⟨#[117, 110, 114, 101, 97, 100]⟩, .string ⟨#[115, 116, 97, 114]⟩, .string ⟨#[117, 110, 115, 116, 97, 114]⟩, .string ⟨#[97, 108, 108]⟩, .string ⟨#[112, 117, 114, 103, 101]⟩]) (.int .i64 4)) w = .ok (.string ⟨#[114, 101, 97, 100]⟩) w := fun w => by simp [Instr.index, run_underlying Tryd.underlying115, asIntOf, part]
  have HX4 := Lib.hid hix4
  clear hix4
  have hix5 : ∀ w, Sem.run Tryd.prog (Instr.index 115 (.agg #[.string ⟨#[]⟩, .string ⟨#[97, 100, 100]⟩, .string ⟨#[100, 114, 111, 112]⟩, .string ⟨#[102, 101, 116, 99, 104]⟩, .string ⟨#[114, 101, 97, 100]⟩, .string ⟨#[117, 110, 114, 101, 97, 100]⟩, .string ⟨#[115, 116, 97, 114]⟩, .string ⟨#[117, 110, 115, 116, 97, 114]⟩, .string ⟨#[97, 108, 108]⟩, .string ⟨#[112, 117, 114, 103, 101]⟩]) (.int .i64 5)) w = .ok (.string ⟨#[117, 110, 114, 101, 97, 100]⟩) w := fun w => by simp [Instr.index, run_underlying Tryd.underlying115, asIntOf, part]
  have HX5 := Lib.hid hix5
  clear hix5
  have hix6 : ∀ w, Sem.run Tryd.prog (Instr.index 115 (.agg #[.string ⟨#[]⟩, .string ⟨#[97, 100, 100]⟩, .string ⟨#[100, 114, 111, 112]⟩, .string ⟨#[102, 101, 116, 99, 104]⟩, .string ⟨#[114, 101, 97, 100]⟩, .string ⟨#[117, 110, 114, 101, 97, 100]⟩, .string ⟨#[115, 116, 97, 114]⟩, .string ⟨#[117, 110, 115, 116, 97, 114]⟩, .string ⟨#[97, 108, 108]⟩, .string ⟨#[112, 117, 114, 103, 101]⟩]) (.int .i64 6)) w = .ok (.string ⟨#[115, 116, 97, 114]⟩) w := fun w => by simp [Instr.index, run_underlying Tryd.underlying115, asIntOf, part]
  have HX6 := Lib.hid hix6
  clear hix6
  have hix7 : ∀ w, Sem.run Tryd.prog (Instr.index 115 (.agg #[.string ⟨#[]⟩, .string ⟨#[97, 100, 100]⟩, .string ⟨#[100, 114, 111, 112]⟩, .string ⟨#[102, 101, 116, 99, 104]⟩, .string ⟨#[114, 101, 97, 100]⟩, .string ⟨#[117, 110, 114, 101, 97, 100]⟩, .string ⟨#[115, 116, 97, 114]⟩, .string ⟨#[117, 110, 115, 116, 97, 114]⟩, .string ⟨#[97, 108, 108]⟩, .string ⟨#[112, 117, 114, 103, 101]⟩]) (.int .i64 7)) w = .ok (.string ⟨#[117, 110, 115, 116, 97, 114]⟩) w := fun w => by simp [Instr.index, run_underlying Tryd.underlying115, asIntOf, part]
  have HX7 := Lib.hid hix7
  clear hix7
  have hix8 : ∀ w, Sem.run Tryd.prog (Instr.index 115 (.agg #[.string ⟨#[]⟩, .string ⟨#[97, 100, 100]⟩, .string ⟨#[100, 114, 111, 112]⟩, .string ⟨#[102, 101, 116, 99, 104]⟩, .string ⟨#[114, 101, 97, 100]⟩, .string ⟨#[117, 110, 114, 101, 97, 100]⟩, .string ⟨#[115, 116, 97, 114]⟩, .string ⟨#[117, 110, 115, 116, 97, 114]⟩, .string ⟨#[97, 108, 108]⟩, .string ⟨#[112, 117, 114, 103, 101]⟩]) (.int .i64 8)) w = .ok (.string ⟨#[97, 108, 108]⟩) w := fun w => by simp [Instr.index, run_underlying Tryd.underlying115, asIntOf, part]
  have HX8 := Lib.hid hix8
  clear hix8
  have hix9 : ∀ w, Sem.run Tryd.prog (Instr.index 115 (.agg #[.string ⟨#[]⟩, .string ⟨#[97, 100, 100]⟩, .string ⟨#[100, 114, 111, 112]⟩, .string ⟨#[102, 101, 116, 99, 104]⟩, .string ⟨#[114, 101, 97, 100]⟩, .string ⟨#[117, 110, 114, 101, 97, 100]⟩, .string ⟨#[115, 116, 97, 114]⟩, .string ⟨#[117, 110, 115, 116, 97, 114]⟩, .string ⟨#[97, 108, 108]⟩, .string ⟨#[112, 117, 114, 103, 101]⟩]) (.int .i64 9)) w = .ok (.string ⟨#[112, 117, 114, 103, 101]⟩) w := fun w => by simp [Instr.index, run_underlying Tryd.underlying115, asIntOf, part]
  have HX9 := Lib.hid hix9
  clear hix9
  obtain ⟨z, hz0⟩ : ∃ z, z = kdN wd.data.toList := ⟨_, rfl⟩
  rw [← hz0]
  have HZ := Lib.hid hz0
  clear hz0
  go_enter Tryd.func69, Tryd.ntmps69
  go_wp2
  clear c0 c1 c2 c3 c4 c5 c6 c7 c8 c9
  go_loopw [6] (fun i wr => ∃ k : Nat, k ≤ 10 ∧ i = .int .i64 (k : Int) ∧ wr = w ∧ Hid (∀ j, j < k → ∀ l, ([[], [97, 100, 100], [100, 114, 111, 112], [102, 101, 116, 99, 104], [114, 101, 97, 100], [117, 110, 114, 101, 97, 100], [115, 116, 97, 114], [117, 110, 115, 116, 97, 114], [97, 108, 108], [112, 117, 114, 103, 101]] : List (List UInt8))[j]? = some l → wd.data.toList ≠ l)) (fun i _ => 10 - (intOf i).toNat)
  case atStart => exact ⟨0, Nat.zero_le _, rfl, rfl, Lib.hid (fun j hj => by omega)⟩
  case round =>
    obtain ⟨k, hk, rfl, rfl, HJ⟩ := hrel
    by_cases h10 : k = 10
    case pos =>
      subst h10
      have hz : kdN wd.data.toList = 0 := kd_none _ (HJ.out 1 (by omega) _ rfl) (HJ.out 2 (by omega) _ rfl) (HJ.out 3 (by omega) _ rfl) (HJ.out 4 (by omega) _ rfl) (HJ.out 5 (by omega) _ rfl) (HJ.out 6 (by omega) _ rfl) (HJ.out 7 (by omega) _ rfl) (HJ.out 8 (by omega) _ rfl) (HJ.out 9 (by omega) _ rfl)
      clear HJ
      have hz2 := HZ.out.trans hz
      clear hz HZ
      subst hz2
      go_wp2
      go_ret
      exact ⟨rfl, rfl⟩
    rcases (show k = 0 ∨ k = 1 ∨ k = 2 ∨ k = 3 ∨ k = 4 ∨ k = 5 ∨ k = 6 ∨ k = 7 ∨ k = 8 ∨ k = 9 by omega) with rfl | rfl | rfl | rfl | rfl | rfl | rfl | rfl | rfl | rfl
    · by_cases hq : wd.data.toList = []
      · obtain rfl : wd = ⟨#[]⟩ := by rw [← bl_back wd, hq]
        have hz : kdN (⟨#[]⟩ : ByteArray).data.toList = 0 := by decide
        have hz2 := HZ.out.trans hz
        clear hz HZ hq HJ
        subst hz2
        have hix := HX0.out wr
        go_wp2
        go_ret
        exact ⟨rfl, rfl⟩
      · have hne : ([] == wd.toList) = false := by rw [ByteArray.toList_eq]; exact beq_eq_false_iff_ne.2 (fun h => hq h.symm)
        have HJ2 : Hid (∀ j, j < 1 → ∀ l, ([[], [97, 100, 100], [100, 114, 111, 112], [102, 101, 116, 99, 104], [114, 101, 97, 100], [117, 110, 114, 101, 97, 100], [115, 116, 97, 114], [117, 110, 115, 116, 97, 114], [97, 108, 108], [112, 117, 114, 103, 101]] : List (List UInt8))[j]? = some l → wd.data.toList ≠ l) := Lib.hid (fun j hj l hl => by
          by_cases h : j < 0
          · exact HJ.out j h l hl
          · obtain rfl : j = 0 := by omega
            cases hl
            exact hq)
        have hix := HX0.out wr
        clear HJ hq
        go_wp2
        go_roundw
        case rel => exact ⟨1, by omega, by go_num, by first | rfl | trivial, HJ2⟩
        case measure => simp [intOf]
    · by_cases hq : wd.data.toList = [97, 100, 100]
      · obtain rfl : wd = ⟨#[97, 100, 100]⟩ := by rw [← bl_back wd, hq]
        have hz : kdN (⟨#[97, 100, 100]⟩ : ByteArray).data.toList = 1 := by decide
        have hz2 := HZ.out.trans hz
        clear hz HZ hq HJ
        subst hz2
        have hix := HX1.out wr
        go_wp2
        go_ret
        exact ⟨rfl, rfl⟩
      · have hne : ([97, 100, 100] == wd.toList) = false := by rw [ByteArray.toList_eq]; exact beq_eq_false_iff_ne.2 (fun h => hq h.symm)
        have HJ2 : Hid (∀ j, j < 2 → ∀ l, ([[], [97, 100, 100], [100, 114, 111, 112], [102, 101, 116, 99, 104], [114, 101, 97, 100], [117, 110, 114, 101, 97, 100], [115, 116, 97, 114], [117, 110, 115, 116, 97, 114], [97, 108, 108], [112, 117, 114, 103, 101]] : List (List UInt8))[j]? = some l → wd.data.toList ≠ l) := Lib.hid (fun j hj l hl => by
          by_cases h : j < 1
          · exact HJ.out j h l hl
          · obtain rfl : j = 1 := by omega
            cases hl
            exact hq)
        have hix := HX1.out wr
        clear HJ hq
        go_wp2
        go_roundw
        case rel => exact ⟨2, by omega, by go_num, by first | rfl | trivial, HJ2⟩
        case measure => simp [intOf]
    · by_cases hq : wd.data.toList = [100, 114, 111, 112]
      · obtain rfl : wd = ⟨#[100, 114, 111, 112]⟩ := by rw [← bl_back wd, hq]
        have hz : kdN (⟨#[100, 114, 111, 112]⟩ : ByteArray).data.toList = 2 := by decide
        have hz2 := HZ.out.trans hz
        clear hz HZ hq HJ
        subst hz2
        have hix := HX2.out wr
        go_wp2
        go_ret
        exact ⟨rfl, rfl⟩
      · have hne : ([100, 114, 111, 112] == wd.toList) = false := by rw [ByteArray.toList_eq]; exact beq_eq_false_iff_ne.2 (fun h => hq h.symm)
        have HJ2 : Hid (∀ j, j < 3 → ∀ l, ([[], [97, 100, 100], [100, 114, 111, 112], [102, 101, 116, 99, 104], [114, 101, 97, 100], [117, 110, 114, 101, 97, 100], [115, 116, 97, 114], [117, 110, 115, 116, 97, 114], [97, 108, 108], [112, 117, 114, 103, 101]] : List (List UInt8))[j]? = some l → wd.data.toList ≠ l) := Lib.hid (fun j hj l hl => by
          by_cases h : j < 2
          · exact HJ.out j h l hl
          · obtain rfl : j = 2 := by omega
            cases hl
            exact hq)
        have hix := HX2.out wr
        clear HJ hq
        go_wp2
        go_roundw
        case rel => exact ⟨3, by omega, by go_num, by first | rfl | trivial, HJ2⟩
        case measure => simp [intOf]
    · by_cases hq : wd.data.toList = [102, 101, 116, 99, 104]
      · obtain rfl : wd = ⟨#[102, 101, 116, 99, 104]⟩ := by rw [← bl_back wd, hq]
        have hz : kdN (⟨#[102, 101, 116, 99, 104]⟩ : ByteArray).data.toList = 3 := by decide
        have hz2 := HZ.out.trans hz
        clear hz HZ hq HJ
        subst hz2
        have hix := HX3.out wr
        go_wp2
        go_ret
        exact ⟨rfl, rfl⟩
      · have hne : ([102, 101, 116, 99, 104] == wd.toList) = false := by rw [ByteArray.toList_eq]; exact beq_eq_false_iff_ne.2 (fun h => hq h.symm)
        have HJ2 : Hid (∀ j, j < 4 → ∀ l, ([[], [97, 100, 100], [100, 114, 111, 112], [102, 101, 116, 99, 104], [114, 101, 97, 100], [117, 110, 114, 101, 97, 100], [115, 116, 97, 114], [117, 110, 115, 116, 97, 114], [97, 108, 108], [112, 117, 114, 103, 101]] : List (List UInt8))[j]? = some l → wd.data.toList ≠ l) := Lib.hid (fun j hj l hl => by
          by_cases h : j < 3
          · exact HJ.out j h l hl
          · obtain rfl : j = 3 := by omega
            cases hl
            exact hq)
        have hix := HX3.out wr
        clear HJ hq
        go_wp2
        go_roundw
        case rel => exact ⟨4, by omega, by go_num, by first | rfl | trivial, HJ2⟩
        case measure => simp [intOf]
    · by_cases hq : wd.data.toList = [114, 101, 97, 100]
      · obtain rfl : wd = ⟨#[114, 101, 97, 100]⟩ := by rw [← bl_back wd, hq]
        have hz : kdN (⟨#[114, 101, 97, 100]⟩ : ByteArray).data.toList = 4 := by decide
        have hz2 := HZ.out.trans hz
        clear hz HZ hq HJ
        subst hz2
        have hix := HX4.out wr
        go_wp2
        go_ret
        exact ⟨rfl, rfl⟩
      · have hne : ([114, 101, 97, 100] == wd.toList) = false := by rw [ByteArray.toList_eq]; exact beq_eq_false_iff_ne.2 (fun h => hq h.symm)
        have HJ2 : Hid (∀ j, j < 5 → ∀ l, ([[], [97, 100, 100], [100, 114, 111, 112], [102, 101, 116, 99, 104], [114, 101, 97, 100], [117, 110, 114, 101, 97, 100], [115, 116, 97, 114], [117, 110, 115, 116, 97, 114], [97, 108, 108], [112, 117, 114, 103, 101]] : List (List UInt8))[j]? = some l → wd.data.toList ≠ l) := Lib.hid (fun j hj l hl => by
          by_cases h : j < 4
          · exact HJ.out j h l hl
          · obtain rfl : j = 4 := by omega
            cases hl
            exact hq)
        have hix := HX4.out wr
        clear HJ hq
        go_wp2
        go_roundw
        case rel => exact ⟨5, by omega, by go_num, by first | rfl | trivial, HJ2⟩
        case measure => simp [intOf]
    · by_cases hq : wd.data.toList = [117, 110, 114, 101, 97, 100]
      · obtain rfl : wd = ⟨#[117, 110, 114, 101, 97, 100]⟩ := by rw [← bl_back wd, hq]
        have hz : kdN (⟨#[117, 110, 114, 101, 97, 100]⟩ : ByteArray).data.toList = 5 := by decide
        have hz2 := HZ.out.trans hz
        clear hz HZ hq HJ
        subst hz2
        have hix := HX5.out wr
        go_wp2
        go_ret
        exact ⟨rfl, rfl⟩
      · have hne : ([117, 110, 114, 101, 97, 100] == wd.toList) = false := by rw [ByteArray.toList_eq]; exact beq_eq_false_iff_ne.2 (fun h => hq h.symm)
        have HJ2 : Hid (∀ j, j < 6 → ∀ l, ([[], [97, 100, 100], [100, 114, 111, 112], [102, 101, 116, 99, 104], [114, 101, 97, 100], [117, 110, 114, 101, 97, 100], [115, 116, 97, 114], [117, 110, 115, 116, 97, 114], [97, 108, 108], [112, 117, 114, 103, 101]] : List (List UInt8))[j]? = some l → wd.data.toList ≠ l) := Lib.hid (fun j hj l hl => by
          by_cases h : j < 5
          · exact HJ.out j h l hl
          · obtain rfl : j = 5 := by omega
            cases hl
            exact hq)
        have hix := HX5.out wr
        clear HJ hq
        go_wp2
        go_roundw
        case rel => exact ⟨6, by omega, by go_num, by first | rfl | trivial, HJ2⟩
        case measure => simp [intOf]
    · by_cases hq : wd.data.toList = [115, 116, 97, 114]
      · obtain rfl : wd = ⟨#[115, 116, 97, 114]⟩ := by rw [← bl_back wd, hq]
        have hz : kdN (⟨#[115, 116, 97, 114]⟩ : ByteArray).data.toList = 6 := by decide
        have hz2 := HZ.out.trans hz
        clear hz HZ hq HJ
        subst hz2
        have hix := HX6.out wr
        go_wp2
        go_ret
        exact ⟨rfl, rfl⟩
      · have hne : ([115, 116, 97, 114] == wd.toList) = false := by rw [ByteArray.toList_eq]; exact beq_eq_false_iff_ne.2 (fun h => hq h.symm)
        have HJ2 : Hid (∀ j, j < 7 → ∀ l, ([[], [97, 100, 100], [100, 114, 111, 112], [102, 101, 116, 99, 104], [114, 101, 97, 100], [117, 110, 114, 101, 97, 100], [115, 116, 97, 114], [117, 110, 115, 116, 97, 114], [97, 108, 108], [112, 117, 114, 103, 101]] : List (List UInt8))[j]? = some l → wd.data.toList ≠ l) := Lib.hid (fun j hj l hl => by
          by_cases h : j < 6
          · exact HJ.out j h l hl
          · obtain rfl : j = 6 := by omega
            cases hl
            exact hq)
        have hix := HX6.out wr
        clear HJ hq
        go_wp2
        go_roundw
        case rel => exact ⟨7, by omega, by go_num, by first | rfl | trivial, HJ2⟩
        case measure => simp [intOf]
    · by_cases hq : wd.data.toList = [117, 110, 115, 116, 97, 114]
      · obtain rfl : wd = ⟨#[117, 110, 115, 116, 97, 114]⟩ := by rw [← bl_back wd, hq]
        have hz : kdN (⟨#[117, 110, 115, 116, 97, 114]⟩ : ByteArray).data.toList = 7 := by decide
        have hz2 := HZ.out.trans hz
        clear hz HZ hq HJ
        subst hz2
        have hix := HX7.out wr
        go_wp2
        go_ret
        exact ⟨rfl, rfl⟩
      · have hne : ([117, 110, 115, 116, 97, 114] == wd.toList) = false := by rw [ByteArray.toList_eq]; exact beq_eq_false_iff_ne.2 (fun h => hq h.symm)
        have HJ2 : Hid (∀ j, j < 8 → ∀ l, ([[], [97, 100, 100], [100, 114, 111, 112], [102, 101, 116, 99, 104], [114, 101, 97, 100], [117, 110, 114, 101, 97, 100], [115, 116, 97, 114], [117, 110, 115, 116, 97, 114], [97, 108, 108], [112, 117, 114, 103, 101]] : List (List UInt8))[j]? = some l → wd.data.toList ≠ l) := Lib.hid (fun j hj l hl => by
          by_cases h : j < 7
          · exact HJ.out j h l hl
          · obtain rfl : j = 7 := by omega
            cases hl
            exact hq)
        have hix := HX7.out wr
        clear HJ hq
        go_wp2
        go_roundw
        case rel => exact ⟨8, by omega, by go_num, by first | rfl | trivial, HJ2⟩
        case measure => simp [intOf]
    · by_cases hq : wd.data.toList = [97, 108, 108]
      · obtain rfl : wd = ⟨#[97, 108, 108]⟩ := by rw [← bl_back wd, hq]
        have hz : kdN (⟨#[97, 108, 108]⟩ : ByteArray).data.toList = 8 := by decide
        have hz2 := HZ.out.trans hz
        clear hz HZ hq HJ
        subst hz2
        have hix := HX8.out wr
        go_wp2
        go_ret
        exact ⟨rfl, rfl⟩
      · have hne : ([97, 108, 108] == wd.toList) = false := by rw [ByteArray.toList_eq]; exact beq_eq_false_iff_ne.2 (fun h => hq h.symm)
        have HJ2 : Hid (∀ j, j < 9 → ∀ l, ([[], [97, 100, 100], [100, 114, 111, 112], [102, 101, 116, 99, 104], [114, 101, 97, 100], [117, 110, 114, 101, 97, 100], [115, 116, 97, 114], [117, 110, 115, 116, 97, 114], [97, 108, 108], [112, 117, 114, 103, 101]] : List (List UInt8))[j]? = some l → wd.data.toList ≠ l) := Lib.hid (fun j hj l hl => by
          by_cases h : j < 8
          · exact HJ.out j h l hl
          · obtain rfl : j = 8 := by omega
            cases hl
            exact hq)
        have hix := HX8.out wr
        clear HJ hq
        go_wp2
        go_roundw
        case rel => exact ⟨9, by omega, by go_num, by first | rfl | trivial, HJ2⟩
        case measure => simp [intOf]
    · by_cases hq : wd.data.toList = [112, 117, 114, 103, 101]
      · obtain rfl : wd = ⟨#[112, 117, 114, 103, 101]⟩ := by rw [← bl_back wd, hq]
        have hz : kdN (⟨#[112, 117, 114, 103, 101]⟩ : ByteArray).data.toList = 9 := by decide
        have hz2 := HZ.out.trans hz
        clear hz HZ hq HJ
        subst hz2
        have hix := HX9.out wr
        go_wp2
        go_ret
        exact ⟨rfl, rfl⟩
      · have hne : ([112, 117, 114, 103, 101] == wd.toList) = false := by rw [ByteArray.toList_eq]; exact beq_eq_false_iff_ne.2 (fun h => hq h.symm)
        have HJ2 : Hid (∀ j, j < 10 → ∀ l, ([[], [97, 100, 100], [100, 114, 111, 112], [102, 101, 116, 99, 104], [114, 101, 97, 100], [117, 110, 114, 101, 97, 100], [115, 116, 97, 114], [117, 110, 115, 116, 97, 114], [97, 108, 108], [112, 117, 114, 103, 101]] : List (List UInt8))[j]? = some l → wd.data.toList ≠ l) := Lib.hid (fun j hj l hl => by
          by_cases h : j < 9
          · exact HJ.out j h l hl
          · obtain rfl : j = 9 := by omega
            cases hl
            exact hq)
        have hix := HX9.out wr
        clear HJ hq
        go_wp2
        go_roundw
        case rel => exact ⟨10, by omega, by go_num, by first | rfl | trivial, HJ2⟩
        case measure => simp [intOf]

set_option maxRecDepth 100000 in
set_option maxHeartbeats 1600000 in
theorem readDeed_1 (s : ByteArray) (w : World) (hs : s.size ≤ 2000000) :
    Calls Tryd.prog 70 #[.iface 117 (.agg #[.string ⟨#[]⟩]), .string s] w fun e w' => e = .returned (.tuple #[.iface 117 (.agg #[.string s]), .bool true]) ∧ Below w.heap.size w w' := by
  have e1 := Tryd.asFF (.agg #[.string ⟨#[]⟩])
  have HC := Lib.hid (fun w => cloneO_any s w (by omega))
  go_enter Tryd.func70, Tryd.ntmps70
  go_wp2_with fail
  refine (HC.out _).mono ?_
  rintro e w1 ⟨rfl, hb⟩
  go_wp2
  go_ret2
  exact ⟨rfl, hb⟩

set_option maxRecDepth 100000 in
set_option maxHeartbeats 1600000 in
theorem readDeed_3 (s : ByteArray) (w : World) (hE : ETab w) (hX : XTab w) (hM : MTab w) :
    Calls Tryd.prog 70 #[.iface 119 (.agg #[.string ⟨#[]⟩, .string ⟨#[]⟩, .slice none 0 0]), .string s] w fun e w' => (∃ (u t : ByteArray) (v : Value) (its : List It) (b : Bool), e = .returned (.tuple #[.iface 119 (.agg #[.string u, .string t, v]), .bool b]) ∧ ((b = false ∧ rdF s = none) ∨ (b = true ∧ rdF s = some ⟨u, t, its⟩ ∧ OwnR 71 3 itC w' w.heap.size v its))) ∧ Below w.heap.size w w' := by
  have e1 := Tryd.asTF (.agg #[.string ⟨#[]⟩, .string ⟨#[]⟩, .slice none 0 0])
  have e2 := Tryd.asTT (.agg #[.string ⟨#[]⟩, .string ⟨#[]⟩, .slice none 0 0])
  have HR := Lib.hid (implReadFeed_any s w hE hX hM)
  clear hE hX hM
  go_enter Tryd.func70, Tryd.ntmps70
  go_wp2_with fail
  refine HR.out.mono ?_
  rintro e w1 ⟨hr, hb⟩
  cases hf : rdF s with
  | none =>
    rw [hf] at hr
    obtain rfl : e = .returned (.tuple #[fV ⟨#[]⟩ ⟨#[]⟩ (.slice none 0 0), .bool false]) := hr
    have hB := hb.alloc hb.size (fC ⟨#[]⟩ ⟨#[]⟩ (.slice none 0 0))
    go_wp2
    go_ret2
    exact ⟨⟨⟨#[]⟩, ⟨#[]⟩, .slice none 0 0, [], false, rfl, .inl ⟨rfl, hf⟩⟩, hB⟩
  | some f =>
    rw [hf] at hr
    obtain ⟨v, rfl, hown⟩ := hr
    obtain ⟨fu, ft, its⟩ := f
    obtain ⟨va, vc, rfl⟩ := hown.slice
    have hB := hb.alloc hb.size (fC fu ft (.slice va its.length vc))
    have hO := hown.alloc (fC fu ft (.slice va its.length vc))
    dsimp only at hO hown
    clear hown
    go_wp2
    go_ret2
    exact ⟨⟨fu, ft, .slice va its.length vc, its, true, rfl, .inr ⟨rfl, hf, hO⟩⟩, hB⟩

set_option maxRecDepth 100000 in
set_option maxHeartbeats 1600000 in
theorem readDeed_4 (s : ByteArray) (w : World) (hs : s.size ≤ 2000000) (hX : XTab w) :
    Calls Tryd.prog 70 #[.iface 121 (.agg #[.string ⟨#[]⟩, .string ⟨#[]⟩]), .string s] w fun e w' => e = .returned (.tuple #[.iface 121 (.agg #[.string (bl (Lib.cut s.data.toList [32]).1), .string (bl (Lib.cut s.data.toList [32]).2.1)]), .bool (Lib.cut s.data.toList [32]).2.2]) ∧ Below w.heap.size w w' := by
  have e1 := Tryd.asEF (.agg #[.string ⟨#[]⟩, .string ⟨#[]⟩])
  have e2 := Tryd.asET (.agg #[.string ⟨#[]⟩, .string ⟨#[]⟩])
  have e3 := Tryd.asEE (.agg #[.string ⟨#[]⟩, .string ⟨#[]⟩])
  have HC := Lib.hid (fun w => cloneO_any s w (by omega))
  have HX := Lib.hid hX
  have HT := Lib.hid (fun w h => cutm2_any s ⟨#[32]⟩ w (by omega) h)
  generalize hc : Lib.cut s.data.toList (⟨#[32]⟩ : ByteArray).data.toList = c at HT
  have hc2 : Lib.cut s.data.toList [32] = c := hc
  try rw [hc2]
  clear hc hc2 hX hs
  obtain ⟨ca, cb, cc⟩ := c
  dsimp only at HT ⊢
  go_enter Tryd.func70, Tryd.ntmps70
  go_wp2_with fail
  refine (HC.out _).mono ?_
  rintro e w1 ⟨rfl, hb⟩
  have hx := HX.out.below hb (Nat.le_refl _)
  go_wp2_with fail
  refine (HT.out _ hx).mono ?_
  rintro e w2 ⟨rfl, hb2⟩
  have hB := hb.trans (hb2.mono hb.size)
  clear hb hb2 hx
  go_wp2
  go_ret2
  exact ⟨rfl, hB⟩

set_option maxRecDepth 100000 in
set_option maxHeartbeats 1600000 in
theorem readDeed_9 (s : ByteArray) (w : World) (hM : MTab w) :
    Calls Tryd.prog 70 #[.iface 123 (.agg #[.int .i64 0]), .string s] w fun e w' => (∃ n : Int, e = .returned (.tuple #[.iface 123 (.agg #[.int .i64 n]), .bool (rdOk s)]) ∧ (rdOk s = true → n = dN (rY s) (rM s) (rD s))) ∧ Below w.heap.size w w' := by
  have e1 := Tryd.asDF (.agg #[.int .i64 0])
  have e2 := Tryd.asDT (.agg #[.int .i64 0])
  have e3 := Tryd.asDE (.agg #[.int .i64 0])
  have e4 := Tryd.asDD (.agg #[.int .i64 0])
  have HM := Lib.hid hM
  have HR := Lib.hid (fun w h => implReadDate_any s w h)
  obtain ⟨n, hn⟩ : ∃ n : Int, (∀ w, MTab w → ∃ y m d : Int, rdV s = .tuple #[dV y m d, .bool (rdOk s)] ∧ Calls Tryd.prog 10 #[dV y m d] w fun e w' => e = .returned (.int .i64 n) ∧ Below w.heap.size w w') ∧ (rdOk s = true → n = dN (rY s) (rM s) (rD s)) := by
    cases h : rdOk s with
    | true =>
      have hk := ((rdOk_iff s).1 h).2.2.2
      exact ⟨_, fun w hM => ⟨_, _, _, rdV_yes ((rdOk_iff s).1 h), implDayOf_any _ _ _ w hM⟩, fun _ => by unfold dayR; rw [if_pos hk]⟩
    | false => exact ⟨_, fun w hM => ⟨0, 0, 0, rdV_not (fun hx => by rw [(rdOk_iff s).2 hx] at h; cases h), implDayOf_any _ _ _ w hM⟩, fun hx => by cases hx⟩
  have HN := Lib.hid hn
  clear hn hM
  generalize rdOk s = F at HN ⊢
  go_enter Tryd.func70, Tryd.ntmps70
  go_wp2_with fail
  refine (HR.out _ HM.out).mono ?_
  rintro e w1 ⟨rfl, hb⟩
  have hm := HM.out.below hb (Nat.le_refl _)
  obtain ⟨y0, m0, d0, hv, _⟩ := HN.out.1 _ hm
  have hB := hb.alloc hb.size (dC y0 m0 d0)
  have hm2 := hm.below ((Below.refl _ _).alloc (Nat.le_refl _) (dC y0 m0 d0)) (Nat.le_refl _)
  obtain ⟨y1, m1, d1, hv2, HD⟩ := HN.out.1 _ hm2
  rw [hv] at hv2 ⊢
  cases hv2
  have HDh := Lib.hid HD
  clear HD
  go_wp2_with fail
  refine HDh.out.mono ?_
  rintro e w2 ⟨rfl, hb2⟩
  have hB2 := hB.trans (hb2.mono hB.size)
  clear hb hb2 hm hm2 hB
  go_wp2
  go_ret2
  exact ⟨⟨n, rfl, HN.out.2⟩, hB2⟩
end Go.Proofs.YtgimjfffdnopiaaDoor
