/- Contract: the text of a state of the program (chapter 5). -/
import Derived.Test.YtfjaincogbdeiaaGreatDoorW5f
namespace Go.Proofs.YtfjaincogbdeiaaGreatDoor
open Go.ChangeShapes Go.WideShapes Go.ChangeAt Go.RowKit Go.Shelf
set_option linter.unusedVariables false

theorem szU4 (w : World) : (sizeOf 89).run Tryz.prog w = .ok 1 w := by kernel_rfl
theorem agU4 (w : World) : (isAgg 89).run Tryz.prog w = .ok false w := by kernel_rfl
theorem idxArr {t : TypeId} {n : Nat} (zs : List Int) (hz : zs.length = n) (hu : Tryz.prog.underlying t = some (.array n 89)) (j : Nat) (hj : j < n) (w : World) :
    Sem.run Tryz.prog (Instr.index t (.agg (stK .u32 zs)) (.int .i64 (j : Int))) w = .ok (.int .u32 (zs.getD j 0)) w := by
  have hc : (0 : Int) ≤ (j : Int) ∧ (j : Int) < (n : Int) := by omega
  have hg : (stK .u32 zs)[j]? = some (.int .u32 (zs.getD j 0)) := by rw [getD_get (by omega)]; exact stK_get _ _ _ (by omega)
  simp [Instr.index, run_underlying hu, asIntOf, hc, part, hg, hj]

set_option maxRecDepth 100000 in
set_option maxHeartbeats 2000000 in
theorem stateText_any (st : List Int) (w : World) (hst : st.length = 8) (hw : ∀ n ∈ st, 0 ≤ n ∧ n ≤ 4294967295) :
    Calls Tryz.prog 79 #[.agg (stK .u32 st)] w fun e w' => e = .returned (.string ⟨(stoB st).toArray⟩) ∧ Below w.heap.size w w' := by
  have HI := Lib.hid (show (Tryz.prog.info? 104).map (·.size) = some (stK .u32 st).size by rw [stK_size, hst]; exact Tryz.infS5)
  have HX := Lib.hid (fun j hj w => idxArr st hst Tryz.undS5 j hj w)
  have hA1 := Arr.new w 104 .u32 st
  have hB1 : Below w.heap.size w (w.alloc (.cells (stK .u32 st) 104)) := (Below.refl _ _).alloc (Nat.le_refl _) _
  have hs1 : (w.alloc (.cells (stK .u32 st) 104)).heap.size = w.heap.size + 1 := by simp
  have HA1 := Lib.hid hA1
  have HW := Lib.hid hw
  have HL := Lib.hid hst
  clear hw hst hA1
  go_enter Tryz.func79, Tryz.ntmps79
  go_wp2_with (first | (at_make; refine wpList_makeB rfl _ _ rfl (w.heap.size + 1) .i64 .i64 _ rfl rfl (by omega) (by omega) (by simp) ?_; intro v0 w3 hown0 hb3; have hA3 := HA1.out.below hb3 (by omega); have HA3 := Lib.hid hA3; clear hA3 HA1) | (refine wpList_load_row rfl _ (.tmp 1) rfl w.heap.size rfl _ _ _ _ HA3.out Tryz.undS5 rfl HI.out ?_))
  have hB3 := hB1.trans (hb3.mono (by omega))
  have hs3 : w.heap.size + 1 ≤ w3.heap.size := by have := hb3.size; rw [hs1] at this; exact this
  have hO0 : OwnB w3 (w.heap.size + 1) v0 (stoB (st.take 0)) := hown0
  clear HA3 hown0 hb3 hB1 hs1 HI
  go_loopw [3, 8] (fun v i wr => ∃ n : Nat, n ≤ 8 ∧ i = .int .i64 n ∧ OwnB wr (w.heap.size + 1) v (stoB (st.take n)) ∧ w.heap.size + 1 ≤ wr.heap.size ∧ Below w.heap.size w wr) (fun _ i _ => 8 - (intOf i).toNat)
  case atStart => exact ⟨0, Nat.zero_le _, rfl, hO0, hs3, hB3⟩
  case round =>
    obtain ⟨n, hn, rfl, hO, hs, hB⟩ := hrel
    clear hO0 hs3 hB3
    by_cases hlt : n < 8
    · have hix := HX.out n hlt wr
      have hnl : n < st.length := by rw [HL.out]; exact hlt
      have hsn := stoB_snoc st n hnl
      have hab := HW.out st[n] (List.getElem_mem hnl)
      rw [getD_get hnl] at hix
      obtain ⟨a, ha⟩ : ∃ a, a = st[n] := ⟨_, rfl⟩
      rw [← ha] at hix hsn hab
      have hll : (stoB (st.take n)).length ≤ 100000000 := by rw [stoB_len]; simp; omega
      have HSN := Lib.hid hsn
      have HO := Lib.hid hO
      have HLL := Lib.hid hll
      clear hsn ha hO hll hnl
      go_wp2_with fail
      refine (appendBe_any _ _ a (w.heap.size + 1) _ HO.out hab.1 hab.2 HLL.out hs).mono ?_
      rintro e w5 ⟨v5, rfl, hO5, hb5⟩
      rw [← HSN.out] at hO5
      have hB5 := hB.trans (hb5.mono (by omega))
      have hs5 : w.heap.size + 1 ≤ w5.heap.size := Nat.le_trans hs hb5.size
      clear hB hb5 HO hs hix
      go_wp2
      go_roundw
      case rel => exact ⟨n + 1, by omega, by go_num, hO5, hs5, hB5⟩
      case measure => simp [intOf]; omega
    · have hn8 : n = 8 := by omega
      rw [hn8, List.take_of_length_le (by rw [HL.out]; exact Nat.le_refl _)] at hO
      have hcv := conv_ownB hO
      clear hn8
      go_wp2
      go_ret
      exact ⟨rfl, hB⟩
end Go.Proofs.YtfjaincogbdeiaaGreatDoor
