/- Walks of the laws FnExactDateOk, FnExactDayOf, FnExactDateOf. -/
import Derived.Test.YtbbfcpkmfaophaaDoorW7g
namespace Go.Proofs.YtbbfcpkmfaophaaDoor
open Go.ChangeShapes Go.WideShapes Go.ChangeAt Go.RowKit
set_option linter.unusedVariables false

set_option maxRecDepth 100000 in
set_option maxHeartbeats 1600000 in
theorem toDate_any (y m d : Int) (w : World) :
    Calls Tryd.prog 14 #[dV y m d] w fun e w' => e = .returned (dV y m d) ∧ Below w.heap.size w w' := by
  go_enter Tryd.func14, Tryd.ntmps14
  go_wp2
  have hF := (DAt.new (w.alloc (.cells #[.int .i64 y, .int .i64 m, .int .i64 d] 23)) y m d).alloc (dC y m d)
  rw [World.size_alloc] at hF
  refine bodyPost_ret (results_date rfl _ _ _ _ _ _ rfl hF) rfl ?_
  exact ⟨rfl, (((Below.refl _ _).alloc (Nat.le_refl _) _).alloc (by simp) _).alloc (by simp; omega) _⟩

set_option maxRecDepth 100000 in
set_option maxHeartbeats 1600000 in
theorem eqDate_same (y m d : Int) (w : World) :
    Calls Tryd.prog 20 #[dV y m d, dV y m d] w fun e w' => e = .returned (.bool true) ∧ Below w.heap.size w w' := by
  have HB := Lib.hid (((Below.refl w.heap.size w).alloc (Nat.le_refl _) (dC y m d)).alloc (by simp) (dC y m d))
  go_enter Tryd.func20, Tryd.ntmps20
  go_wp2
  go_ret
  exact ⟨rfl, HB.out⟩

set_option maxRecDepth 100000 in
set_option maxHeartbeats 1600000 in
theorem walk_FnExactDateOk (y m d : Int) (w : World) (hy : (Lit.int .i64 y).wf = true) (hm : (Lit.int .i64 m).wf = true) (hd : (Lit.int .i64 d).wf = true) (hk : MTab w) :
    Calls Tryd.prog 3 #[dV y m d] w fun e w' => e = .returned (.bool true) ∧ Below w.heap.size w w' := by
  have HT := Lib.hid (fun w => toDate_any y m d w)
  have HS := Lib.hid (fun w => specDateOk_any y m d w)
  have HI := Lib.hid (fun w hM => implDateOk_any y m d w hM)
  generalize dOk y m d = O at HS HI
  have HM := Lib.hid hk
  have HA := Lib.hid (Arr.new w 23 .i64 [y, m, d])
  have HB0 := Lib.hid ((Below.refl w.heap.size w).alloc (Nat.le_refl _) (.cells #[.int .i64 y, .int .i64 m, .int .i64 d] 23))
  clear hk hy hm hd
  go_enter Tryd.func3, Tryd.ntmps3
  go_wp2_with fail
  refine (HT.out _).mono ?_
  rintro e w1 ⟨rfl, hb1⟩
  have hA1 := HA.out.below hb1 (by simp)
  have hB1 := HB0.out.trans (hb1.mono (by simp))
  clear hb1
  go_wp2_with fail
  refine (HS.out _).mono ?_
  rintro e w2 ⟨rfl, hb2⟩
  have hA2 := hA1.below hb2 hA1.lt
  have hB2 := hB1.trans (hb2.mono hB1.size)
  have k0 : w2.cell? ⟨w.heap.size, 0, none⟩ = some (.int .i64 y) := hA2.cell 0 (by simp)
  have k1 : w2.cell? ⟨w.heap.size, 1, none⟩ = some (.int .i64 m) := hA2.cell 1 (by simp)
  have k2 : w2.cell? ⟨w.heap.size, 2, none⟩ = some (.int .i64 d) := hA2.cell 2 (by simp)
  clear hb2 hA1 hA2 hB1
  go_wp2_with fail
  refine (HT.out _).mono ?_
  rintro e w3 ⟨rfl, hb3⟩
  have hB3 := hB2.trans (hb3.mono hB2.size)
  clear hb3 hB2
  go_wp2_with fail
  refine (HI.out _ (HM.out.below hB3 (Nat.le_refl _))).mono ?_
  rintro e w4 ⟨rfl, hb4⟩
  have hB4 := hB3.trans (hb4.mono hB3.size)
  clear hb4 hB3
  go_wp2
  go_ret
  exact ⟨rfl, hB4⟩

set_option maxRecDepth 100000 in
set_option maxHeartbeats 1600000 in
theorem walk_FnExactDayOf (y m d : Int) (w : World) (hy : (Lit.int .i64 y).wf = true) (hm : (Lit.int .i64 m).wf = true) (hd : (Lit.int .i64 d).wf = true) (hk : MTab w) :
    Calls Tryd.prog 4 #[dV y m d] w fun e w' => e = .returned (.bool true) ∧ Below w.heap.size w w' := by
  have HT := Lib.hid (fun w => toDate_any y m d w)
  have HS := Lib.hid (fun w => specDayOf_any y m d w)
  have HI := Lib.hid (fun w hM => implDayOf_any y m d w hM)
  generalize dayR y m d = O at HS HI
  have HM := Lib.hid hk
  have HA := Lib.hid (Arr.new w 23 .i64 [y, m, d])
  have HB0 := Lib.hid ((Below.refl w.heap.size w).alloc (Nat.le_refl _) (.cells #[.int .i64 y, .int .i64 m, .int .i64 d] 23))
  clear hk hy hm hd
  go_enter Tryd.func4, Tryd.ntmps4
  go_wp2_with fail
  refine (HT.out _).mono ?_
  rintro e w1 ⟨rfl, hb1⟩
  have hA1 := HA.out.below hb1 (by simp)
  have hB1 := HB0.out.trans (hb1.mono (by simp))
  clear hb1
  go_wp2_with fail
  refine (HS.out _).mono ?_
  rintro e w2 ⟨rfl, hb2⟩
  have hA2 := hA1.below hb2 hA1.lt
  have hB2 := hB1.trans (hb2.mono hB1.size)
  have k0 : w2.cell? ⟨w.heap.size, 0, none⟩ = some (.int .i64 y) := hA2.cell 0 (by simp)
  have k1 : w2.cell? ⟨w.heap.size, 1, none⟩ = some (.int .i64 m) := hA2.cell 1 (by simp)
  have k2 : w2.cell? ⟨w.heap.size, 2, none⟩ = some (.int .i64 d) := hA2.cell 2 (by simp)
  clear hb2 hA1 hA2 hB1
  go_wp2_with fail
  refine (HT.out _).mono ?_
  rintro e w3 ⟨rfl, hb3⟩
  have hB3 := hB2.trans (hb3.mono hB2.size)
  clear hb3 hB2
  go_wp2_with fail
  refine (HI.out _ (HM.out.below hB3 (Nat.le_refl _))).mono ?_
  rintro e w4 ⟨rfl, hb4⟩
  have hB4 := hB3.trans (hb4.mono hB3.size)
  clear hb4 hB3
  go_wp2
  go_ret
  exact ⟨rfl, hB4⟩

set_option maxRecDepth 100000 in
set_option maxHeartbeats 1600000 in
theorem walk_FnExactDateOf (n : Int) (w : World) (hn : (Lit.int .i64 n).wf = true) (hk : MTab w) :
    Calls Tryd.prog 5 #[.int .i64 n] w fun e w' => e = .returned (.bool true) ∧ Below w.heap.size w w' := by
  have HS := Lib.hid (fun w => specDateOf_any n w)
  have HI := Lib.hid (fun w hM => implDateOf_any n w hM)
  have HM := Lib.hid hk
  unfold dateV at HS HI
  generalize (dateR n).1 = y at HS HI
  generalize (dateR n).2.1 = m at HS HI
  generalize (dateR n).2.2 = d at HS HI
  have HQ := Lib.hid (fun w => eqDate_same y m d w)
  clear hk hn
  go_enter Tryd.func5, Tryd.ntmps5
  go_wp2_with fail
  refine (HS.out _).mono ?_
  rintro e w1 ⟨rfl, hb1⟩
  have HA1 := Lib.hid (DAt.new w1 y m d)
  have HB1 := Lib.hid (hb1.alloc hb1.size (dC y m d))
  clear hb1
  go_wp2_with fail
  refine (HI.out _ (HM.out.below HB1.out (Nat.le_refl _))).mono ?_
  rintro e w2 ⟨rfl, hb2⟩
  have hA2 := HA1.out.keep hb2 (Nat.le_refl _)
  have hB2 := HB1.out.trans (hb2.mono HB1.out.size)
  have hs2 := hB2.size
  have k0 := hA2.c0
  have k1 := hA2.c1
  have k2 := hA2.c2
  have hne := Arr.lt hA2
  have hB3 := hB2.alloc hs2 (dC y m d)
  clear hb2 hA2 hB2
  go_wp2_with fail
  refine (HQ.out _).mono ?_
  rintro e w3 ⟨rfl, hb3⟩
  have hB4 := hB3.trans (hb3.mono hB3.size)
  clear hb3 hB3
  go_wp2
  go_ret
  exact ⟨rfl, hB4⟩
end Go.Proofs.YtbbfcpkmfaophaaDoor
