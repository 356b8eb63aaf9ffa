/- Joined: V17a. -/
import Derived.Test.YtlipgmaiooljkaaGreatDoorH45
import Derived.Test.YtlipgmaiooljkaaGreatDoorH49
/- V17a -/
namespace Go.Proofs.YtlipgmaiooljkaaGreatDoor
open Go.ChangeShapes Go.WideShapes Go.ChangeAt Go.RowKit
set_option linter.unusedVariables false
set_option linter.unusedSimpArgs false

set_option maxRecDepth 100000 in
set_option maxHeartbeats 3000000 in
theorem walk_FnExactSlotOf (pass sa : ByteArray) (ro : Int) (no key : ByteArray) (w : World) (z0 : pass.size ≤ maxLen) (z1 : sa.size ≤ maxLen) (hro : (Lit.int .i64 ro).wf = true) (z2 : no.size ≤ maxLen) (z3 : key.size ≤ maxLen) (hT : FTab w ∧ KTab w) :
    Calls Tryz.prog 3 #[.string pass, .string sa, .int .i64 ro, .string no, .string key] w fun e w' => e = .returned (.bool true) ∧ Below w.heap.size w w' := by
  have HF := Lib.hid hT.1
  have HK := Lib.hid hT.2
  unfold maxLen at z0 z1 z2 z3
  clear hT
  by_cases c0 : pass.size ≤ 1048576
  case neg =>
    go_enter Tryz.func3, Tryz.ntmps3
    go_wp2
    go_ret
    exact ⟨rfl, Below.refl _ _⟩
  by_cases c1 : sa.size ≤ 1048576
  case neg =>
    go_enter Tryz.func3, Tryz.ntmps3
    go_wp2
    go_ret
    exact ⟨rfl, Below.refl _ _⟩
  by_cases c2 : no.size ≤ 1048576
  case neg =>
    go_enter Tryz.func3, Tryz.ntmps3
    go_wp2
    go_ret
    exact ⟨rfl, Below.refl _ _⟩
  by_cases c3 : key.size ≤ 1048576
  case neg =>
    go_enter Tryz.func3, Tryz.ntmps3
    go_wp2
    go_ret
    exact ⟨rfl, Below.refl _ _⟩
  have HS := Lib.hid (fun w => specSlotOf_any pass sa ro no key w c0 c1 c2 c3 hro)
  have HI := Lib.hid (fun w h1 h2 => implSlotOf_any pass sa ro no key w c0 c1 c2 c3 hro h1 h2)
  generalize soV pass sa ro no key = q at HS HI
  generalize soO pass sa ro no key = O at HS HI
  obtain ⟨qa, qr, qn, qb⟩ := q
  have hOO : (O != O) = false := by cases O <;> rfl
  have HQ := Lib.hid (fun w => eqSlot_same ⟨qa, qr, qn, qb⟩ w)
  clear hro
  go_enter Tryz.func3, Tryz.ntmps3
  go_wp2_with fail
  refine (HS.out _).mono ?_
  rintro e wa ⟨rfl, hba⟩
  have hx := Box.new wa #[.string qa, .int .i64 qr, .string qn, .string qb] 23
  have hB := hba.alloc hba.size (.cells #[.string qa, .int .i64 qr, .string qn, .string qb] 23)
  clear hba
  go_wp2_with fail
  obtain ⟨W1, hW1⟩ : ∃ W1, W1 = wa.alloc (.cells #[.string qa, .int .i64 qr, .string qn, .string qb] 23) := ⟨_, rfl⟩
  rw [← hW1] at hx hB ⊢
  clear hW1
  refine (HI.out _ (HF.out.below hB (Nat.le_refl _)) (HK.out.below hB (Nat.le_refl _))).mono ?_
  rintro e w2 ⟨rfl, hb2⟩
  replace hx := hx.keep hb2 hx.lt
  replace hB := hB.trans (hb2.mono hB.size)
  have hy := hx.alloc (.cells #[.string qa, .int .i64 qr, .string qn, .string qb] 23)
  have hB2 := hB.alloc hB.size (.cells #[.string qa, .int .i64 qr, .string qn, .string qb] 23)
  have x0 := hy.cell 0 _ rfl
  have x1 := hy.cell 1 _ rfl
  have x2 := hy.cell 2 _ rfl
  have x3 := hy.cell 3 _ rfl
  clear hb2 hx hB hy
  go_wp2_with fail
  refine (HQ.out _).mono ?_
  rintro e w3 ⟨rfl, hb3⟩
  have hB3 := hB2.trans (hb3.mono hB2.size)
  clear x0 x1 x2 x3 hb3 hB2
  go_wp2
  go_ret
  exact ⟨rfl, hB3⟩

set_option maxRecDepth 100000 in
set_option maxHeartbeats 3000000 in
theorem walk_FnExactKeyIn (v : Value) (z : SlotD) (pass : ByteArray) (w : World) (h : SlotIn v z) (z0 : pass.size ≤ maxLen) (hT : FTab w ∧ KTab w ∧ ∃ t x, Gives w t x) :
    Calls Tryz.prog 4 #[v, .string pass] w fun e w' => e = .returned (.bool true) ∧ Below w.heap.size w w' := by
  obtain ⟨hf, hk, gt, gx, hg⟩ := hT
  have HF := Lib.hid hf
  have HK := Lib.hid hk
  have HG := Lib.hid hg
  obtain ⟨rfl, y1, y2, y3, hro⟩ := h
  unfold maxLen at z0
  clear hf hk hg
  have HZ := Lib.hid (fun w => szSlot_any z w y1 y2 y3)
  have HTo := Lib.hid (fun w => toSlot_any z w)
  have HS := Lib.hid (fun w hz h0 => specKeyIn_any z pass w hz h0)
  have HI := Lib.hid (fun w hz h0 h1 h2 h3 => implKeyIn_any z pass w gt gx hz h0 h1 h2 h3)
  generalize kiT z pass = T at HS HI
  generalize kiO z pass = O at HS HI
  have hOO : (O != O) = false := by cases O <;> rfl
  have HSZ : Hid (z.sa.size ≤ 1048576 ∧ z.no.size ≤ 1048576 ∧ z.bx.size ≤ 1048576 → SlSz z) := Lib.hid (fun h => ⟨h.1, h.2.1, h.2.2, hro⟩)
  generalize SlSz z = SS at HS HI HSZ
  obtain ⟨sa, ro, no, bx⟩ := z
  dsimp only at HSZ HZ
  clear y1 y2 y3 hro
  have hx := Box.new w #[.string sa, .int .i64 ro, .string no, .string bx] 28
  have hB := (Below.refl w.heap.size w).alloc (Nat.le_refl _) (.cells #[.string sa, .int .i64 ro, .string no, .string bx] 28)
  by_cases c0 : pass.size ≤ 1048576
  case neg =>
    go_enter Tryz.func4, Tryz.ntmps4
    go_wp2
    go_ret
    exact ⟨rfl, hB⟩
  go_enter Tryz.func4, Tryz.ntmps4
  go_wp2_with fail
  generalize w.alloc (.cells #[.string sa, .int .i64 ro, .string no, .string bx] 28) = W0 at hx hB ⊢
  refine (HZ.out _).mono ?_
  rintro e w1 ⟨r, rfl, hr0, hr1, hb1⟩
  replace hx := hx.keep hb1 hx.lt
  replace hB := hB.trans (hb1.mono hB.size)
  clear hb1 HZ
  by_cases hr : r < 0
  case pos =>
    clear hr1
    go_wp2
    go_ret
    exact ⟨rfl, hB⟩
  have hSS := HSZ.out (hr1 (by omega))
  clear hr1 HSZ
  have x0 := hx.cell 0 _ rfl
  have x1 := hx.cell 1 _ rfl
  have x2 := hx.cell 2 _ rfl
  have x3 := hx.cell 3 _ rfl
  go_wp2_with fail
  refine (HTo.out _).mono ?_
  rintro e w2 ⟨rfl, hb2⟩
  replace hx := hx.keep hb2 hx.lt
  replace hB := hB.trans (hb2.mono hB.size)
  clear hb2 x0 x1 x2 x3
  go_wp2_with fail
  refine (HS.out _ hSS c0).mono ?_
  rintro e w3 ⟨rfl, hb3⟩
  replace hx := hx.keep hb3 hx.lt
  replace hB := hB.trans (hb3.mono hB.size)
  clear hb3
  have x0 := hx.cell 0 _ rfl
  have x1 := hx.cell 1 _ rfl
  have x2 := hx.cell 2 _ rfl
  have x3 := hx.cell 3 _ rfl
  go_wp2_with fail
  refine (HTo.out _).mono ?_
  rintro e w2 ⟨rfl, hb2⟩
  replace hx := hx.keep hb2 hx.lt
  replace hB := hB.trans (hb2.mono hB.size)
  clear hb2 x0 x1 x2 x3
  go_wp2_with fail
  refine (HI.out _ hSS c0 (HF.out.below hB (Nat.le_refl _)) (HK.out.below hB (Nat.le_refl _)) (HG.out.below hB (Nat.le_refl _))).mono ?_
  rintro e w4 ⟨rfl, hb4⟩
  replace hB := hB.trans (hb4.mono hB.size)
  clear hb4 hx HTo HS HI
  go_wp2
  go_ret
  exact ⟨rfl, hB⟩

set_option maxRecDepth 100000 in
set_option maxHeartbeats 3000000 in
theorem walk_FnExactRewrapped (v : Value) (z : SlotD) (old pass sa' no' : ByteArray) (w : World) (h : SlotIn v z) (z0 : old.size ≤ maxLen) (z1 : pass.size ≤ maxLen) (z2 : sa'.size ≤ maxLen) (z3 : no'.size ≤ maxLen) (hT : FTab w ∧ KTab w ∧ ∃ t x, Gives w t x) :
    Calls Tryz.prog 5 #[v, .string old, .string pass, .string sa', .string no'] w fun e w' => e = .returned (.bool true) ∧ Below w.heap.size w w' := by
  obtain ⟨hf, hk, gt, gx, hg⟩ := hT
  have HF := Lib.hid hf
  have HK := Lib.hid hk
  have HG := Lib.hid hg
  obtain ⟨rfl, y1, y2, y3, hro⟩ := h
  unfold maxLen at z0 z1 z2 z3
  clear hf hk hg
  have HZ := Lib.hid (fun w => szSlot_any z w y1 y2 y3)
  have HTo := Lib.hid (fun w => toSlot_any z w)
  have HS := Lib.hid (fun w hz h0 h1 h2 h3 => specRewrapped_any z old pass sa' no' w hz h0 h1 h2 h3)
  have HI := Lib.hid (fun w hz h0 h1 h2 h3 h4 h5 h6 => implRewrapped_any z old pass sa' no' w gt gx hz h0 h1 h2 h3 h4 h5 h6)
  generalize rwV z old pass sa' no' = q at HS HI
  generalize rwO z old pass sa' no' = O at HS HI
  have HSZ : Hid (z.sa.size ≤ 1048576 ∧ z.no.size ≤ 1048576 ∧ z.bx.size ≤ 1048576 → SlSz z) := Lib.hid (fun h => ⟨h.1, h.2.1, h.2.2, hro⟩)
  generalize SlSz z = SS at HS HI HSZ
  obtain ⟨sa, ro, no, bx⟩ := z
  dsimp only at HSZ HZ
  clear y1 y2 y3 hro
  have hx := Box.new w #[.string sa, .int .i64 ro, .string no, .string bx] 28
  have hB := (Below.refl w.heap.size w).alloc (Nat.le_refl _) (.cells #[.string sa, .int .i64 ro, .string no, .string bx] 28)
  obtain ⟨qa, qr, qn, qb⟩ := q
  have hOO : (O != O) = false := by cases O <;> rfl
  have HQ := Lib.hid (fun w => eqSlot_same ⟨qa, qr, qn, qb⟩ w)
  by_cases c0 : old.size ≤ 1048576
  case neg =>
    go_enter Tryz.func5, Tryz.ntmps5
    go_wp2
    go_ret
    exact ⟨rfl, hB⟩
  by_cases c1 : pass.size ≤ 1048576
  case neg =>
    go_enter Tryz.func5, Tryz.ntmps5
    go_wp2
    go_ret
    exact ⟨rfl, hB⟩
  by_cases c2 : sa'.size ≤ 1048576
  case neg =>
    go_enter Tryz.func5, Tryz.ntmps5
    go_wp2
    go_ret
    exact ⟨rfl, hB⟩
  by_cases c3 : no'.size ≤ 1048576
  case neg =>
    go_enter Tryz.func5, Tryz.ntmps5
    go_wp2
    go_ret
    exact ⟨rfl, hB⟩
  go_enter Tryz.func5, Tryz.ntmps5
  go_wp2_with fail
  generalize w.alloc (.cells #[.string sa, .int .i64 ro, .string no, .string bx] 28) = W0 at hx hB ⊢
  refine (HZ.out _).mono ?_
  rintro e w1 ⟨r, rfl, hr0, hr1, hb1⟩
  replace hx := hx.keep hb1 hx.lt
  replace hB := hB.trans (hb1.mono hB.size)
  clear hb1 HZ
  by_cases hr : r < 0
  case pos =>
    clear hr1
    go_wp2
    go_ret
    exact ⟨rfl, hB⟩
  have hSS := HSZ.out (hr1 (by omega))
  clear hr1 HSZ
  have x0 := hx.cell 0 _ rfl
  have x1 := hx.cell 1 _ rfl
  have x2 := hx.cell 2 _ rfl
  have x3 := hx.cell 3 _ rfl
  go_wp2_with fail
  refine (HTo.out _).mono ?_
  rintro e w2 ⟨rfl, hb2⟩
  replace hx := hx.keep hb2 hx.lt
  replace hB := hB.trans (hb2.mono hB.size)
  clear hb2 x0 x1 x2 x3
  go_wp2_with fail
  refine (HS.out _ hSS c0 c1 c2 c3).mono ?_
  rintro e wa ⟨rfl, hba⟩
  replace hx := hx.keep hba hx.lt
  replace hB := hB.trans (hba.mono hB.size)
  clear hba
  have hy := Box.new wa #[.string qa, .int .i64 qr, .string qn, .string qb] 23
  replace hx := hx.alloc (.cells #[.string qa, .int .i64 qr, .string qn, .string qb] 23)
  replace hB := hB.alloc hB.size (.cells #[.string qa, .int .i64 qr, .string qn, .string qb] 23)
  have x0 := hx.cell 0 _ rfl
  have x1 := hx.cell 1 _ rfl
  have x2 := hx.cell 2 _ rfl
  have x3 := hx.cell 3 _ rfl
  go_wp2_with fail
  obtain ⟨g, hg⟩ : ∃ g, g = wa.heap.size := ⟨_, rfl⟩
  rw [← hg] at hy ⊢
  clear hg
  generalize wa.alloc (.cells #[.string qa, .int .i64 qr, .string qn, .string qb] 23) = W1 at hx hy hB ⊢
  refine (HTo.out _).mono ?_
  rintro e w2 ⟨rfl, hb2⟩
  replace hy := hy.keep hb2 hy.lt
  replace hB := hB.trans (hb2.mono hB.size)
  clear hb2 x0 x1 x2 x3 hx
  go_wp2_with fail
  refine (HI.out _ hSS c0 c1 c2 c3 (HF.out.below hB (Nat.le_refl _)) (HK.out.below hB (Nat.le_refl _)) (HG.out.below hB (Nat.le_refl _))).mono ?_
  rintro e w4 ⟨rfl, hb4⟩
  replace hy := hy.keep hb4 hy.lt
  replace hB := hB.trans (hb4.mono hB.size)
  clear hb4 HTo HS HI
  have hz := hy.alloc (.cells #[.string qa, .int .i64 qr, .string qn, .string qb] 23)
  have hB2 := hB.alloc hB.size (.cells #[.string qa, .int .i64 qr, .string qn, .string qb] 23)
  have x0 := hz.cell 0 _ rfl
  have x1 := hz.cell 1 _ rfl
  have x2 := hz.cell 2 _ rfl
  have x3 := hz.cell 3 _ rfl
  go_wp2_with fail
  refine (HQ.out _).mono ?_
  rintro e w5 ⟨rfl, hb5⟩
  have hB3 := hB2.trans (hb5.mono hB2.size)
  clear x0 x1 x2 x3
  go_wp2
  go_ret
  exact ⟨rfl, hB3⟩
end Go.Proofs.YtlipgmaiooljkaaGreatDoor
