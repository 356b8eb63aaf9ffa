/- Walk of the law FnExactDateText. -/
import Derived.Test.YtbbfcpkmfaophaaDoorW7i
import Derived.Test.YtbbfcpkmfaophaaDoorV7a
namespace Go.Proofs.YtbbfcpkmfaophaaDoor
open Go.ChangeShapes Go.WideShapes Go.ChangeAt Go.RowKit
set_option linter.unusedVariables false

set_option maxRecDepth 100000 in
set_option maxHeartbeats 1600000 in
theorem walk_FnExactDateText (y m d : Int) (w : World) (hy : (Lit.int .i64 y).wf = true) (hm : (Lit.int .i64 m).wf = true) (hd : (Lit.int .i64 d).wf = true) (hk : MTab w ∧ PTab w) :
    Calls Tryd.prog 6 #[dV y m d] w fun e w' => e = .returned (.bool true) ∧ Below w.heap.size w w' := by
  have HT := Lib.hid (fun w => toDate_any y m d w)
  have HS := Lib.hid (fun w => specDateText_any y m d w)
  have HI := Lib.hid (fun w hM hP => implDateText_any y m d w hM hP)
  generalize dateT y m d = O at HS HI
  have HM := Lib.hid hk
  have HA := Lib.hid (Arr.new w 23 .i64 [y, m, d])
  have HB0 := Lib.hid ((Below.refl w.heap.size w).alloc (Nat.le_refl _) (.cells #[.int .i64 y, .int .i64 m, .int .i64 d] 23))
  clear hk hy hm hd
  go_enter Tryd.func6, Tryd.ntmps6
  go_wp2_with fail
  refine (HT.out _).mono ?_
  rintro e w1 ⟨rfl, hb1⟩
  have hA1 := HA.out.below hb1 (by simp)
  have hB1 := HB0.out.trans (hb1.mono (by simp))
  clear hb1
  go_wp2_with fail
  refine (HS.out _).mono ?_
  rintro e w2 ⟨rfl, hb2⟩
  have hA2 := hA1.below hb2 hA1.lt
  have hB2 := hB1.trans (hb2.mono hB1.size)
  have k0 : w2.cell? ⟨w.heap.size, 0, none⟩ = some (.int .i64 y) := hA2.cell 0 (by simp)
  have k1 : w2.cell? ⟨w.heap.size, 1, none⟩ = some (.int .i64 m) := hA2.cell 1 (by simp)
  have k2 : w2.cell? ⟨w.heap.size, 2, none⟩ = some (.int .i64 d) := hA2.cell 2 (by simp)
  clear hb2 hA1 hA2 hB1
  go_wp2_with fail
  refine (HT.out _).mono ?_
  rintro e w3 ⟨rfl, hb3⟩
  have hB3 := hB2.trans (hb3.mono hB2.size)
  clear hb3 hB2
  go_wp2_with fail
  refine (HI.out _ (HM.out.1.below hB3 (Nat.le_refl _)) (HM.out.2.below hB3 (Nat.le_refl _))).mono ?_
  rintro e w4 ⟨rfl, hb4⟩
  have hB4 := hB3.trans (hb4.mono hB3.size)
  clear hb4 hB3
  go_wp2
  go_ret
  exact ⟨rfl, hB4⟩
end Go.Proofs.YtbbfcpkmfaophaaDoor
