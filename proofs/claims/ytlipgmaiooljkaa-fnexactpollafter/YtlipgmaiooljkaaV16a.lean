/- Walks of the laws FnExactPollNew and FnExactPollOk. -/
import Derived.Test.YtlipgmaiooljkaaW16g
namespace Go.Proofs.Ytlipgmaiooljkaa
open Go.ChangeShapes Go.WideShapes Go.ChangeAt Go.RowKit
set_option linter.unusedVariables false

theorem pnV_sz (u : ByteArray) (n : Int) (h : u.size ≤ maxLen) : PkSz (pnV u n) := by
  unfold pnV
  split
  · exact ⟨h, Nat.zero_le _⟩
  · exact ⟨Nat.zero_le _, Nat.zero_le _⟩

set_option maxRecDepth 100000 in
set_option maxHeartbeats 1600000 in
theorem walk_FnExactPollNew (u : ByteArray) (n : Int) (w : World) (hu : u.size ≤ maxLen) (hn : (Lit.int .i64 n).wf = true) :
    Calls Try.prog 3 #[.string u, .int .i64 n] w fun e w' => e = .returned (.bool true) ∧ Below w.heap.size w w' := by
  have HS := Lib.hid (fun w => specPollNew_any u n w hu)
  have HI := Lib.hid (fun w => implPollNew_any u n w hu)
  generalize pnV u n = q at HS HI
  generalize pnO u n = O at HS HI
  obtain ⟨pu, pm, pn, pw, pf, pg⟩ := q
  have HQ := Lib.hid (fun w => eqPoll_same ⟨pu, pm, pn, pw, pf, pg⟩ w)
  have hOO : (O != O) = false := by cases O <;> rfl
  unfold maxLen at hu
  clear hn
  by_cases h1 : u.size ≤ 1048576
  · go_enter Try.func3, Try.ntmps3
    go_wp2_with fail
    refine (HS.out _).mono ?_
    rintro e w1 ⟨rfl, hb1⟩
    have hx := Box.new w1 #[.string pu, .string pm, .int .i64 pn, .int .i64 pw, .int .i64 pf, .bool pg] 23
    have hB := hb1.alloc hb1.size (.cells #[.string pu, .string pm, .int .i64 pn, .int .i64 pw, .int .i64 pf, .bool pg] 23)
    clear hb1
    go_wp2_with fail
    obtain ⟨W1, hW1⟩ : ∃ W1, W1 = w1.alloc (.cells #[.string pu, .string pm, .int .i64 pn, .int .i64 pw, .int .i64 pf, .bool pg] 23) := ⟨_, rfl⟩
    rw [← hW1] at hx hB ⊢
    clear hW1
    refine (HI.out _).mono ?_
    rintro e w2 ⟨rfl, hb2⟩
    replace hx := hx.keep hb2 hx.lt
    replace hB := hB.trans (hb2.mono hB.size)
    have hy := hx.alloc (.cells #[.string pu, .string pm, .int .i64 pn, .int .i64 pw, .int .i64 pf, .bool pg] 23)
    have hB2 := hB.alloc hB.size (.cells #[.string pu, .string pm, .int .i64 pn, .int .i64 pw, .int .i64 pf, .bool pg] 23)
    have x0 := hy.cell 0 _ rfl
    have x1 := hy.cell 1 _ rfl
    have x2 := hy.cell 2 _ rfl
    have x3 := hy.cell 3 _ rfl
    have x4 := hy.cell 4 _ rfl
    have x5 := hy.cell 5 _ rfl
    clear hb2 hx hB hy
    go_wp2_with fail
    refine (HQ.out _).mono ?_
    rintro e w3 ⟨rfl, hb3⟩
    have hB3 := hB2.trans (hb3.mono hB2.size)
    clear x0 x1 x2 x3 x4 x5 hb3 hB2
    go_wp2
    go_ret
    exact ⟨rfl, hB3⟩
  · go_enter Try.func3, Try.ntmps3
    go_wp2
    go_ret
    exact ⟨rfl, Below.refl _ _⟩

set_option maxRecDepth 100000 in
set_option maxHeartbeats 1600000 in
theorem walk_FnExactPollOk (v : Value) (p : PollD) (w : World) (h : v = pkV p ∧ PkSz p) :
    Calls Try.prog 4 #[v] w fun e w' => e = .returned (.bool true) ∧ Below w.heap.size w w' := by
  obtain ⟨rfl, hz⟩ := h
  have HZ := Lib.hid (fun w => szPoll_any p 1048576 w hz (by decide) (by decide))
  have HT := Lib.hid (fun w => toPoll_any p w)
  have HS := Lib.hid (fun w => specPollOk_any p w hz)
  have HI := Lib.hid (fun w => implPollOk_any p w hz)
  generalize pkB p = O at HS HI
  have hOO : (O != O) = false := by cases O <;> rfl
  clear hz
  obtain ⟨u, m, n, wt, f, g⟩ := p
  have hx := Box.new w #[.string u, .string m, .int .i64 n, .int .i64 wt, .int .i64 f, .bool g] 28
  have hB := (Below.refl w.heap.size w).alloc (Nat.le_refl _) (.cells #[.string u, .string m, .int .i64 n, .int .i64 wt, .int .i64 f, .bool g] 28)
  go_enter Try.func4, Try.ntmps4
  go_wp2_with fail
  generalize w.alloc (.cells #[.string u, .string m, .int .i64 n, .int .i64 wt, .int .i64 f, .bool g] 28) = W0 at hx hB ⊢
  refine (HZ.out _).mono ?_
  rintro e w1 ⟨r, rfl, hr0, hr1, hb1⟩
  replace hx := hx.keep hb1 hx.lt
  replace hB := hB.trans (hb1.mono hB.size)
  clear hb1
  by_cases hr : r < 0
  · go_wp2
    go_ret
    exact ⟨rfl, hB⟩
  have x0 := hx.cell 0 _ rfl
  have x1 := hx.cell 1 _ rfl
  have x2 := hx.cell 2 _ rfl
  have x3 := hx.cell 3 _ rfl
  have x4 := hx.cell 4 _ rfl
  have x5 := hx.cell 5 _ rfl
  go_wp2_with fail
  refine (HT.out _).mono ?_
  rintro e w2 ⟨rfl, hb2⟩
  replace hx := hx.keep hb2 hx.lt
  replace hB := hB.trans (hb2.mono hB.size)
  clear hb2 x0 x1 x2 x3 x4 x5
  have x0 := hx.cell 0 _ rfl
  have x1 := hx.cell 1 _ rfl
  have x2 := hx.cell 2 _ rfl
  have x3 := hx.cell 3 _ rfl
  have x4 := hx.cell 4 _ rfl
  have x5 := hx.cell 5 _ rfl
  go_wp2_with fail
  refine (HS.out _).mono ?_
  rintro e w3 ⟨rfl, hb3⟩
  replace hx := hx.keep hb3 hx.lt
  replace hB := hB.trans (hb3.mono hB.size)
  clear hb3 x0 x1 x2 x3 x4 x5
  have x0 := hx.cell 0 _ rfl
  have x1 := hx.cell 1 _ rfl
  have x2 := hx.cell 2 _ rfl
  have x3 := hx.cell 3 _ rfl
  have x4 := hx.cell 4 _ rfl
  have x5 := hx.cell 5 _ rfl
  go_wp2_with fail
  refine (HT.out _).mono ?_
  rintro e w4 ⟨rfl, hb4⟩
  replace hx := hx.keep hb4 hx.lt
  replace hB := hB.trans (hb4.mono hB.size)
  clear hb4 x0 x1 x2 x3 x4 x5
  go_wp2_with fail
  refine (HI.out _).mono ?_
  rintro e w5 ⟨rfl, hb5⟩
  replace hB := hB.trans (hb5.mono hB.size)
  clear hb5 hx
  go_wp2
  go_ret
  exact ⟨rfl, hB⟩
end Go.Proofs.Ytlipgmaiooljkaa
