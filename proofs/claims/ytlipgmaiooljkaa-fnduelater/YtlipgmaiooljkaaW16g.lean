/- PollAfter of the reference; the laws' copies, sizes and comparisons of polls and answers. -/
import Derived.Test.YtlipgmaiooljkaaW16f
namespace Go.Proofs.Ytlipgmaiooljkaa
open Go.ChangeShapes Go.WideShapes Go.ChangeAt Go.RowKit
set_option linter.unusedVariables false
set_option linter.unusedSimpArgs false

set_option maxRecDepth 100000 in
set_option maxHeartbeats 3000000 in
theorem specPollAfter_any (p : PollD) (now : Int) (a : AnsD) (w : World) (hz : PkSz p) (ha : AnSz a) :
    Calls Try.prog 20 #[pkV p, .int .i64 now, anV a] w fun e w' => e = .returned (.tuple #[pkV (paV p now a), .bool (paO p now a)]) ∧ Below w.heap.size w w' := by
  have HP := Lib.hid (fun w => specPollOk_any p w hz)
  have HA := Lib.hid (fun w => l16Answer_any a w ha)
  have HN := Lib.hid (fun w => l1In_any now p.n 900000000 w)
  have HF := Lib.hid (fun h => paV_false (p := p) (now := now) (a := a) h)
  have HT := Lib.hid (fun h => paV_true (p := p) (now := now) (a := a) h)
  have HE : Hid (paO p now a = (pkB p && anB a && !p.g && (decide (p.n ≤ now) && decide (now ≤ 900000000)))) := Lib.hid (by rw [paO_eq, Bool.and_assoc (pkB p && anB a && !p.g)])
  have HL := Lib.hid (fun w h1 h2 h3 h4 => l16After_any p now a w h1 h2 h3 h4)
  have HI := Lib.hid (fun h => pkB_inv (p := p) h)
  have HI2 : Hid ((decide (p.n ≤ now) && decide (now ≤ 900000000)) = true → p.n ≤ now ∧ now ≤ 900000000) := Lib.hid (by simp)
  generalize paV p now a = V at HF HT ⊢
  generalize paD p now a = D at HT HL
  generalize paO p now a = O at HF HT HE ⊢
  generalize pkB p = A at HP HE HI HL
  generalize anB a = B at HA HE HL
  generalize (decide (p.n ≤ now) && decide (now ≤ 900000000)) = N at HN HE HI2
  obtain ⟨u, m, n, wt, f, g⟩ := p
  obtain ⟨c, am, au, af⟩ := a
  dsimp only at HE HI HN HI2
  clear hz ha
  obtain ⟨W0, hW0⟩ : ∃ W0, W0 = ((w.alloc (.cells #[.string u, .string m, .int .i64 n, .int .i64 wt, .int .i64 f, .bool g] 23)).alloc (.cells #[.int .i64 c, .string am, .string au, .int .i64 af] 37)).alloc (.cells pk0C 23) := ⟨_, rfl⟩
  have hB0 : Below w.heap.size w W0 := by rw [hW0]; exact below3a _ _ _ _
  have hx : Box W0 w.heap.size #[.string u, .string m, .int .i64 n, .int .i64 wt, .int .i64 f, .bool g] 23 := by rw [hW0]; exact ((Box.new w _ _).alloc _).alloc _
  have hy : Box W0 (w.heap.size + 1) #[.int .i64 c, .string am, .string au, .int .i64 af] 37 := by
    rw [hW0]
    have := (Box.new (w.alloc (.cells #[.string u, .string m, .int .i64 n, .int .i64 wt, .int .i64 f, .bool g] 23)) #[.int .i64 c, .string am, .string au, .int .i64 af] 37).alloc (.cells pk0C 23)
    simpa using this
  have hr : Box W0 (w.heap.size + 1 + 1) pk0C 23 := by rw [hW0]; exact Box.third _ _ _ _ _
  go_enter Try.func20, Try.ntmps20
  go_wp2_with fail
  rw [← hW0]
  clear hW0
  refine (HP.out _).mono ?_
  rintro e W1 ⟨rfl, hb1⟩
  replace hx := hx.keep hb1 hx.lt
  replace hy := hy.keep hb1 hy.lt
  replace hr := hr.keep hb1 hr.lt
  replace hB0 := hB0.trans (hb1.mono hB0.size)
  clear hb1 HP
  have r0 := hr.cell 0 _ rfl
  have r1 := hr.cell 1 _ rfl
  have r2 := hr.cell 2 _ rfl
  have r3 := hr.cell 3 _ rfl
  have r4 := hr.cell 4 _ rfl
  have r5 := hr.cell 5 _ rfl
  have f0 := hr.free 0
  have f1 := hr.free 1
  have f2 := hr.free 2
  have f3 := hr.free 3
  have f4 := hr.free 4
  have f5 := hr.free 5
  have y0 := hy.cell 0 _ rfl
  have y1 := hy.cell 1 _ rfl
  have y2 := hy.cell 2 _ rfl
  have y3 := hy.cell 3 _ rfl
  have x0 := hx.cell 0 _ rfl
  have x1 := hx.cell 1 _ rfl
  have x2 := hx.cell 2 _ rfl
  have x3 := hx.cell 3 _ rfl
  have x4 := hx.cell 4 _ rfl
  have x5 := hx.cell 5 _ rfl
  cases A with
  | false =>
    have hO := Lib.hid (by rw [HE.out]; rfl : O = false)
    go_wp2
    exact out_pk0 rfl _ _ _ _ _ rfl rfl rfl hr hB0 (by omega) _ _ (HF.out hO.out) hO.out
  | true =>
    have HIv := Lib.hid (HI.out rfl)
    cases g with
    | true =>
      have hO := Lib.hid (by rw [HE.out]; simp : O = false)
      go_wp2
      exact out_pk0 rfl _ _ _ _ _ rfl rfl rfl hr hB0 (by omega) _ _ (HF.out hO.out) hO.out
    | false =>
      go_wp2_with fail
      refine (HN.out _).mono ?_
      rintro e W2 ⟨rfl, rfl⟩
      cases N with
      | false =>
        have hO := Lib.hid (by rw [HE.out]; simp : O = false)
        go_wp2
        exact out_pk0 rfl _ _ _ _ _ rfl rfl rfl hr hB0 (by omega) _ _ (HF.out hO.out) hO.out
      | true =>
        have HNv := Lib.hid (HI2.out rfl)
        go_wp2_with fail
        refine (HA.out _).mono ?_
        rintro e W2 ⟨rfl, hb2⟩
        replace hx := hx.keep hb2 hx.lt
        replace hy := hy.keep hb2 hy.lt
        replace hr := hr.keep hb2 hr.lt
        replace hB0 := hB0.trans (hb2.mono hB0.size)
        clear hb2 HA r0 r1 r2 r3 r4 r5 f0 f1 f2 f3 f4 f5 y0 y1 y2 y3 x0 x1 x2 x3 x4 x5
        have r0 := hr.cell 0 _ rfl
        have r1 := hr.cell 1 _ rfl
        have r2 := hr.cell 2 _ rfl
        have r3 := hr.cell 3 _ rfl
        have r4 := hr.cell 4 _ rfl
        have r5 := hr.cell 5 _ rfl
        have f0 := hr.free 0
        have f1 := hr.free 1
        have f2 := hr.free 2
        have f3 := hr.free 3
        have f4 := hr.free 4
        have f5 := hr.free 5
        have y0 := hy.cell 0 _ rfl
        have y1 := hy.cell 1 _ rfl
        have y2 := hy.cell 2 _ rfl
        have y3 := hy.cell 3 _ rfl
        have x0 := hx.cell 0 _ rfl
        have x1 := hx.cell 1 _ rfl
        have x2 := hx.cell 2 _ rfl
        have x3 := hx.cell 3 _ rfl
        have x4 := hx.cell 4 _ rfl
        have x5 := hx.cell 5 _ rfl
        cases B with
        | false =>
          have hO := Lib.hid (by rw [HE.out]; rfl : O = false)
          go_wp2
          exact out_pk0 rfl _ _ _ _ _ rfl rfl rfl hr hB0 (by omega) _ _ (HF.out hO.out) hO.out
        | true =>
          have hO := Lib.hid (by rw [HE.out]; rfl : O = true)
          have hD := Lib.hid (HT.out hO.out)
          have HLv := Lib.hid (fun w => HL.out w (by first | rfl | trivial) (by first | rfl | trivial) (by have := HIv.out; have := HNv.out; omega) (HNv.out).2)
          clear HL HT HF HE HI HI2 HIv HNv HN
          go_wp2_with fail
          refine (HLv.out _).mono ?_
          rintro e W3 ⟨rfl, hb3⟩
          replace hr := hr.keep hb3 hr.lt
          replace hB0 := hB0.trans (hb3.mono hB0.size)
          clear hb3 HLv hx hy r0 r1 r2 r3 r4 r5 f0 f1 f2 f3 f4 f5 y0 y1 y2 y3 x0 x1 x2 x3 x4 x5
          have r0 := hr.cell 0 _ rfl
          have r1 := hr.cell 1 _ rfl
          have r2 := hr.cell 2 _ rfl
          have r3 := hr.cell 3 _ rfl
          have r4 := hr.cell 4 _ rfl
          have r5 := hr.cell 5 _ rfl
          have f0 := hr.free 0
          have f1 := hr.free 1
          have f2 := hr.free 2
          have f3 := hr.free 3
          have f4 := hr.free 4
          have f5 := hr.free 5
          go_wp2
          refine bodyPost_ret (results_pk2 rfl _ _ _ _ _ rfl rfl rfl (hr.put6 rfl _ _ _ _ _ _)) rfl ?_
          exact ⟨by rw [hD.out, hO.out]; rfl, hB0.trans (below6 _ _ _ (by omega) _ _ _ _ _ _)⟩

set_option maxRecDepth 100000 in
set_option maxHeartbeats 1600000 in
theorem toPoll_any (p : PollD) (w : World) : Calls Try.prog 17 #[pkV p] w fun e w' => e = .returned (pkV p) ∧ Below w.heap.size w w' := by
  obtain ⟨u, m, n, wt, f, g⟩ := p
  go_enter Try.func17, Try.ntmps17
  go_wp2
  have hA := (Box.new (w.alloc (.cells #[.string u, .string m, .int .i64 n, .int .i64 wt, .int .i64 f, .bool g] 28)) #[.string u, .string m, .int .i64 n, .int .i64 wt, .int .i64 f, .bool g] 23).alloc (.cells #[.string u, .string m, .int .i64 n, .int .i64 wt, .int .i64 f, .bool g] 23)
  rw [World.size_alloc] at hA
  exact bodyPost_ret (results_pk rfl _ _ _ _ rfl rfl hA) rfl ⟨rfl, below3a _ _ _ _⟩

theorem Try.infAn : (Try.prog.info? 37).map (·.size) = some 4 := by kernel_rfl
theorem results_an {fn : Func} {p : Tmp} (h : fn.results = #[.cell p 37]) (tmps : Array Value) (w : World) (g : Nat) (cs : Array Value) (hz : cs.size = 4)
    (hp : tmps.getD p undef = .pointer (some ⟨g, 0, none⟩)) (hA : Box w g cs 37) : (results fn tmps).run Try.prog w = .ok (.agg cs) w :=
  results_cell_row h tmps w g _ _ _ _ hp hA Try.underlying37 rfl (by rw [hz]; exact Try.infAn)

set_option maxRecDepth 100000 in
set_option maxHeartbeats 1600000 in
theorem toAnswer_any (a : AnsD) (w : World) : Calls Try.prog 21 #[anV a] w fun e w' => e = .returned (anV a) ∧ Below w.heap.size w w' := by
  obtain ⟨c, am, au, af⟩ := a
  go_enter Try.func21, Try.ntmps21
  go_wp2
  have hA := (Box.new (w.alloc (.cells #[.int .i64 c, .string am, .string au, .int .i64 af] 34)) #[.int .i64 c, .string am, .string au, .int .i64 af] 37).alloc (.cells #[.int .i64 c, .string am, .string au, .int .i64 af] 37)
  rw [World.size_alloc] at hA
  exact bodyPost_ret (results_an rfl _ _ _ _ rfl rfl hA) rfl ⟨rfl, below3a _ _ _ _⟩

set_option maxRecDepth 100000 in
set_option maxHeartbeats 1600000 in
theorem szPoll_any (p : PollD) (k : Int) (w : World) (hz : PkSz p) (h0 : 0 ≤ k) (h1 : k ≤ 1048576) :
    Calls Try.prog 15 #[pkV p, .int .i64 k] w fun e w' => ∃ r : Int, e = .returned (.int .i64 r) ∧ -1 ≤ r ∧ r ≤ k ∧ Below w.heap.size w w' := by
  obtain ⟨u, m, n, wt, f, g⟩ := p
  obtain ⟨hu, hm⟩ := hz
  unfold maxLen at hu hm
  dsimp only at hu hm
  have hB := (Below.refl w.heap.size w).alloc (Nat.le_refl _) (.cells #[.string u, .string m, .int .i64 n, .int .i64 wt, .int .i64 f, .bool g] 28)
  by_cases c1 : k - u.size < 0
  · go_enter Try.func15, Try.ntmps15
    go_wp2
    go_ret
    exact ⟨-1, rfl, by omega, by omega, hB⟩
  · by_cases c2 : k - u.size - m.size < 0
    · go_enter Try.func15, Try.ntmps15
      go_wp2
      go_ret
      exact ⟨-1, rfl, by omega, by omega, hB⟩
    · go_enter Try.func15, Try.ntmps15
      go_wp2
      go_ret
      exact ⟨_, rfl, by omega, by omega, hB⟩

set_option maxRecDepth 100000 in
set_option maxHeartbeats 1600000 in
theorem szAnswer_any (a : AnsD) (k : Int) (w : World) (hz : AnSz a) (h0 : 0 ≤ k) (h1 : k ≤ 1048576) :
    Calls Try.prog 19 #[anV a, .int .i64 k] w fun e w' => ∃ r : Int, e = .returned (.int .i64 r) ∧ -1 ≤ r ∧ r ≤ k ∧ Below w.heap.size w w' := by
  obtain ⟨c, am, au, af⟩ := a
  obtain ⟨hu, hm⟩ := hz
  unfold maxLen at hu hm
  dsimp only at hu hm
  have hB := (Below.refl w.heap.size w).alloc (Nat.le_refl _) (.cells #[.int .i64 c, .string am, .string au, .int .i64 af] 34)
  by_cases c1 : k - am.size < 0
  · go_enter Try.func19, Try.ntmps19
    go_wp2
    go_ret
    exact ⟨-1, rfl, by omega, by omega, hB⟩
  · by_cases c2 : k - am.size - au.size < 0
    · go_enter Try.func19, Try.ntmps19
      go_wp2
      go_ret
      exact ⟨-1, rfl, by omega, by omega, hB⟩
    · go_enter Try.func19, Try.ntmps19
      go_wp2
      go_ret
      exact ⟨_, rfl, by omega, by omega, hB⟩

set_option maxRecDepth 100000 in
set_option maxHeartbeats 1600000 in
theorem eqPoll_same (p : PollD) (w : World) : Calls Try.prog 14 #[pkV p, pkV p] w fun e w' => e = .returned (.bool true) ∧ Below w.heap.size w w' := by
  obtain ⟨u, m, n, wt, f, g⟩ := p
  have HB := Lib.hid (((Below.refl w.heap.size w).alloc (Nat.le_refl _) (.cells #[.string u, .string m, .int .i64 n, .int .i64 wt, .int .i64 f, .bool g] 23)).alloc (by simp) (.cells #[.string u, .string m, .int .i64 n, .int .i64 wt, .int .i64 f, .bool g] 23))
  have hgg : (g != g) = false := by cases g <;> rfl
  go_enter Try.func14, Try.ntmps14
  go_wp2
  go_ret
  exact ⟨rfl, HB.out⟩
end Go.Proofs.Ytlipgmaiooljkaa
