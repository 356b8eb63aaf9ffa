/- What a poll is behind an answer: both sides. -/
import Derived.Test.YtlipgmaiooljkaaW16d
namespace Go.Proofs.Ytlipgmaiooljkaa
open Go.ChangeShapes Go.WideShapes Go.ChangeAt Go.RowKit
set_option linter.unusedVariables false
set_option linter.unusedSimpArgs false

theorem paV_false {p : PollD} {now : Int} {a : AnsD} (h : paO p now a = false) : paV p now a = pk0 := if_neg (by rw [h]; simp)
theorem paV_true {p : PollD} {now : Int} {a : AnsD} (h : paO p now a = true) : paV p now a = paD p now a := if_pos h
theorem paO_eq (p : PollD) (now : Int) (a : AnsD) : paO p now a = (pkB p && anB a && !p.g && decide (p.n ≤ now) && decide (now ≤ 900000000)) := rfl
set_option maxRecDepth 100000 in
theorem ch_enter (c : Int) (args : Array Value) (w : World) : (callFunc (chF c) args).run Try.prog w = .ok (.enter (chF c) args) w := by
  have h1 : (callFunc 71 args).run Try.prog w = .ok (.enter 71 args) w := by kernel_rfl
  have h2 : (callFunc 72 args).run Try.prog w = .ok (.enter 72 args) w := by kernel_rfl
  have h3 : (callFunc 73 args).run Try.prog w = .ok (.enter 73 args) w := by kernel_rfl
  have h4 : (callFunc 74 args).run Try.prog w = .ok (.enter 74 args) w := by kernel_rfl
  have h5 : (callFunc 75 args).run Try.prog w = .ok (.enter 75 args) w := by kernel_rfl
  unfold chF
  by_cases c1 : c = 200
  · rw [if_pos c1]; exact h1
  · rw [if_neg c1]
    by_cases c2 : c = 304
    · rw [if_pos c2]; exact h2
    · rw [if_neg c2]
      by_cases c3 : c = 301 ∨ c = 308
      · rw [if_pos c3]; exact h3
      · rw [if_neg c3]
        by_cases c4 : c = 410
        · rw [if_pos c4]; exact h4
        · rw [if_neg c4]; exact h5
/-- The end of a refusal: the result's box is emptied. -/
theorem out_pk0 {fn : Func} {p u : Tmp} (h : fn.results = #[.cell p 23, .tmp u]) (tmps : Array Value) (w W : World) (g : Nat) (cs : Array Value) (hz : cs.size = 6)
    (hp : tmps.getD p undef = .pointer (some ⟨g, 0, none⟩)) (hu : tmps.getD u undef = .bool false) (hA : Box W g cs 23) (hB : Below w.heap.size w W) (hg : w.heap.size ≤ g) (q : PollD) (b : Bool) (hq : q = pk0) (hb : b = false) :
    bodyPost Try.prog fn (fun e w'' => e = .returned (.tuple #[pkV q, .bool b]) ∧ Below w.heap.size w w'') Exit.ret ⟨tmps, []⟩ ((((((W.setCell ⟨g, 0, none⟩ (.string ⟨#[]⟩)).setCell ⟨g, 1, none⟩ (.string ⟨#[]⟩)).setCell ⟨g, 2, none⟩ (.int .i64 0)).setCell ⟨g, 3, none⟩ (.int .i64 0)).setCell ⟨g, 4, none⟩ (.int .i64 0)).setCell ⟨g, 5, none⟩ (.bool false)) := by
  subst hq hb
  exact bodyPost_ret (results_pk2 h _ _ _ _ _ rfl hp hu (hA.put6 hz _ _ _ _ _ _)) rfl ⟨rfl, hB.trans (below6 _ _ _ hg _ _ _ _ _ _)⟩

set_option maxRecDepth 100000 in
set_option maxHeartbeats 3000000 in
theorem implPollAfter_any (p : PollD) (now : Int) (a : AnsD) (w : World) (hz : PkSz p) (ha : AnSz a) :
    Calls Try.prog 22 #[pkV p, .int .i64 now, anV a] w fun e w' => e = .returned (.tuple #[pkV (paV p now a), .bool (paO p now a)]) ∧ Below w.heap.size w w' := by
  have HP := Lib.hid (fun w => implPollOk_any p w hz)
  have HA := Lib.hid (fun w => answerOk_any a w ha)
  have HF := Lib.hid (fun h => paV_false (p := p) (now := now) (a := a) h)
  have HT := Lib.hid (fun h => paV_true (p := p) (now := now) (a := a) h)
  have HI := Lib.hid (fun h => pkB_inv (p := p) h)
  have HJ := Lib.hid (fun h => anB_inv (a := a) h)
  have HE := Lib.hid (paO_eq p now a)
  have HX := Lib.hid (fun w h0 h1 h2 h3 => change_any p a w h0 h1 h2 h3)
  have HXw := Lib.hid (fun h0 h1 => pkX_wt (p := p) (a := a) h0 h1)
  have HPB := Lib.hid (fun q w => pauseBehind_any q a w)
  have HPD : Hid (paD p now a = ⟨(pkX p a).u, (pkX p a).m, now + (if a.c = 429 ∨ a.c = 503 then max (min (pkX p a).wt 1000) a.af else min (pkX p a).wt 1000), min (pkX p a).wt 1000, (pkX p a).f, (pkX p a).g⟩) := Lib.hid rfl
  generalize paV p now a = V at HF HT ⊢
  generalize paD p now a = D at HT HPD
  generalize paO p now a = O at HF HT HE ⊢
  generalize pkB p = A at HP HE HI
  generalize anB a = B at HA HE HJ
  generalize pkX p a = q at HX HXw HPD
  obtain ⟨u, m, n, wt, f, g⟩ := p
  obtain ⟨c, am, au, af⟩ := a
  dsimp only at HE HI HJ HX HXw HPB HPD
  clear hz ha
  obtain ⟨W0, hW0⟩ : ∃ W0, W0 = ((w.alloc (.cells #[.string u, .string m, .int .i64 n, .int .i64 wt, .int .i64 f, .bool g] 23)).alloc (.cells #[.int .i64 c, .string am, .string au, .int .i64 af] 37)).alloc (.cells pk0C 23) := ⟨_, rfl⟩
  have hB0 : Below w.heap.size w W0 := by rw [hW0]; exact below3a _ _ _ _
  have hx : Box W0 w.heap.size #[.string u, .string m, .int .i64 n, .int .i64 wt, .int .i64 f, .bool g] 23 := by rw [hW0]; exact ((Box.new w _ _).alloc _).alloc _
  have hy : Box W0 (w.heap.size + 1) #[.int .i64 c, .string am, .string au, .int .i64 af] 37 := by
    rw [hW0]
    have := (Box.new (w.alloc (.cells #[.string u, .string m, .int .i64 n, .int .i64 wt, .int .i64 f, .bool g] 23)) #[.int .i64 c, .string am, .string au, .int .i64 af] 37).alloc (.cells pk0C 23)
    simpa using this
  have hr : Box W0 (w.heap.size + 1 + 1) pk0C 23 := by rw [hW0]; exact Box.third _ _ _ _ _
  go_enter Try.func22, Try.ntmps22
  go_wp2_with fail
  rw [← hW0]
  clear hW0
  refine (HP.out _).mono ?_
  rintro e W1 ⟨rfl, hb1⟩
  replace hx := hx.keep hb1 hx.lt
  replace hy := hy.keep hb1 hy.lt
  replace hr := hr.keep hb1 hr.lt
  replace hB0 := hB0.trans (hb1.mono hB0.size)
  clear hb1 HP
  have r0 := hr.cell 0 _ rfl
  have r1 := hr.cell 1 _ rfl
  have r2 := hr.cell 2 _ rfl
  have r3 := hr.cell 3 _ rfl
  have r4 := hr.cell 4 _ rfl
  have r5 := hr.cell 5 _ rfl
  have f0 := hr.free 0
  have f1 := hr.free 1
  have f2 := hr.free 2
  have f3 := hr.free 3
  have f4 := hr.free 4
  have f5 := hr.free 5
  have y0 := hy.cell 0 _ rfl
  have y1 := hy.cell 1 _ rfl
  have y2 := hy.cell 2 _ rfl
  have y3 := hy.cell 3 _ rfl
  have x0 := hx.cell 0 _ rfl
  have x1 := hx.cell 1 _ rfl
  have x2 := hx.cell 2 _ rfl
  have x3 := hx.cell 3 _ rfl
  have x4 := hx.cell 4 _ rfl
  have x5 := hx.cell 5 _ rfl
  cases A with
  | false =>
    have hO := Lib.hid (by rw [HE.out]; rfl : O = false)
    go_wp2
    exact out_pk0 rfl _ _ _ _ _ rfl rfl rfl hr hB0 (by omega) _ _ (HF.out hO.out) hO.out
  | true =>
    have HIv := Lib.hid (HI.out rfl)
    go_wp2_with fail
    refine (HA.out _).mono ?_
    rintro e W2 ⟨rfl, hb2⟩
    replace hx := hx.keep hb2 hx.lt
    replace hy := hy.keep hb2 hy.lt
    replace hr := hr.keep hb2 hr.lt
    replace hB0 := hB0.trans (hb2.mono hB0.size)
    clear hb2 HA r0 r1 r2 r3 r4 r5 f0 f1 f2 f3 f4 f5 y0 y1 y2 y3 x0 x1 x2 x3 x4 x5
    have r0 := hr.cell 0 _ rfl
    have r1 := hr.cell 1 _ rfl
    have r2 := hr.cell 2 _ rfl
    have r3 := hr.cell 3 _ rfl
    have r4 := hr.cell 4 _ rfl
    have r5 := hr.cell 5 _ rfl
    have f0 := hr.free 0
    have f1 := hr.free 1
    have f2 := hr.free 2
    have f3 := hr.free 3
    have f4 := hr.free 4
    have f5 := hr.free 5
    have y0 := hy.cell 0 _ rfl
    have y1 := hy.cell 1 _ rfl
    have y2 := hy.cell 2 _ rfl
    have y3 := hy.cell 3 _ rfl
    have x0 := hx.cell 0 _ rfl
    have x1 := hx.cell 1 _ rfl
    have x2 := hx.cell 2 _ rfl
    have x3 := hx.cell 3 _ rfl
    have x4 := hx.cell 4 _ rfl
    have x5 := hx.cell 5 _ rfl
    cases B with
    | false =>
      have hO := Lib.hid (by rw [HE.out]; rfl : O = false)
      go_wp2
      exact out_pk0 rfl _ _ _ _ _ rfl rfl rfl hr hB0 (by omega) _ _ (HF.out hO.out) hO.out
    | true =>
      have HJv := Lib.hid (HJ.out rfl)
      cases g with
      | true =>
        have hO := Lib.hid (by rw [HE.out]; rfl : O = false)
        go_wp2
        exact out_pk0 rfl _ _ _ _ _ rfl rfl rfl hr hB0 (by omega) _ _ (HF.out hO.out) hO.out
      | false =>
        by_cases h1 : n ≤ now
        case neg =>
          have hO := Lib.hid (by rw [HE.out, decide_eq_false h1]; rfl : O = false)
          have hlt : now < n := by omega
          go_wp2
          exact out_pk0 rfl _ _ _ _ _ rfl rfl rfl hr hB0 (by omega) _ _ (HF.out hO.out) hO.out
        by_cases h2 : now ≤ 900000000
        case neg =>
          have hO := Lib.hid (by rw [HE.out, decide_eq_false h2]; simp : O = false)
          have hlt : ¬ now < n := by omega
          have hgt : 900000000 < now := by omega
          go_wp2
          exact out_pk0 rfl _ _ _ _ _ rfl rfl rfl hr hB0 (by omega) _ _ (HF.out hO.out) hO.out
        have hO := Lib.hid (by rw [HE.out, decide_eq_true h1, decide_eq_true h2]; rfl : O = true)
        have hD := Lib.hid (HT.out hO.out)
        have hlt : ¬ now < n := by omega
        have hgt : ¬ 900000000 < now := by omega
        go_wp2
        clear HI HJ HE HF HT r0 r1 r2 r3 r4 r5 f0 f1 f2 f3 f4 f5 y0 y1 y2 y3 x0 x1 x2 x3 x4 x5
        obtain ⟨i1, i2, i3, i4, i5, i6⟩ := HIv.out
        obtain ⟨j1, j2, j3, j4⟩ := HJv.out
        have HC := Lib.hid (fun w => changeBy_any c w (by simp [Lit.wf, IntKind.min, IntKind.max, IntKind.signed, IntKind.bits]; omega))
        have HX2 := Lib.hid (fun w => HX.out w i3 i4 i5 i6)
        obtain ⟨q1, q2⟩ := HXw.out i3 i4
        clear HX HXw HIv HJv
        have HCF := Lib.hid (fun args w => ch_enter c args w)
        generalize chF c = F at HC HX2 HCF
        have hrl := hr.lt
        refine wp_region_T (fun _ => True) (fun _ => True) 7 (by kernel_rfl) 8 rfl ?_
        refine wpAnyT_flo (fun i => decide (i < 7)) (by kernel_rfl) (by kernel_rfl) 1 (fun L a wr => ∃ (cQ : Nat → Bool) (sQ : Nat → Value), L = #[cQ 0, cQ 1, cQ 2, cQ 3, cQ 4, cQ 5, cQ 6, false] ∧ a = { tmps := #[pkV { u := u, m := m, n := n, wt := wt, f := f, g := false }, Value.int IntKind.i64 now, anV { c := c, m := am, u := au, af := af }, Value.pointer (some { block := w.heap.size, off := 0 }), undef, Value.pointer (some { block := w.heap.size + 1, off := 0 }), Value.pointer (some { block := w.heap.size + 1 + 1, off := 0 }), Value.bool false, sl cQ sQ 6, Value.agg #[Value.string u, Value.string m, Value.int IntKind.i64 n, Value.int IntKind.i64 wt, Value.int IntKind.i64 f, Value.bool false], Value.bool true, Value.bool false, Value.bool false, Value.agg #[Value.int IntKind.i64 c, Value.string am, Value.string au, Value.int IntKind.i64 af], Value.bool true, Value.bool false, Value.bool false, Value.bool false, Value.pointer (some { block := w.heap.size, off := 5 }), Value.bool false, Value.bool false, Value.bool false, Value.int IntKind.i64 now, Value.pointer (some { block := w.heap.size, off := 2 }), Value.int IntKind.i64 n, Value.bool (decide (now < n)), Value.bool (decide (now < n)), Value.bool (decide (now < n)), Value.int IntKind.i64 now, Value.bool (decide (900000000 < now)), Value.bool (decide (now < n) || decide (900000000 < now)), undef, sl cQ sQ 0, sl cQ sQ 1, sl cQ sQ 2, sl cQ sQ 3, sl cQ sQ 4, sl cQ sQ 5, undef, undef, undef, undef, undef, undef, undef, undef, undef, undef, undef], defers := [] } ∧ FloS (FixP W2.heap.size (fun i => ([.pointer (some ⟨w.heap.size + 1, 0, none⟩), .int .i64 c, .func (.func F) #[] #[], pkV ⟨u, m, n, wt, f, false⟩, anV ⟨c, am, au, af⟩, pkV q, undef, undef] : List Value).getD i undef) (fun i => ([none, none, none, none, none, none, some (pk0C, 23), none] : List (Option (Array Value × TypeId))).getD i none)) (fun wr => Below W2.heap.size W2 wr) cQ sQ wr) ?_ ?_ ?_ 7 _ _ _ ?_ ?_
        · rintro L a wr ⟨cQ, sQ, rfl, _, _⟩
          rfl
        · rintro L a wr i o ⟨cQ, sQ, rfl, rfl, hF⟩ ho hfl hL hdep
          have hB := hF.fr
          have hi : i < 7 := of_decide_eq_true hfl
          rcases (show i = 0 ∨ i = 1 ∨ i = 2 ∨ i = 3 ∨ i = 4 ∨ i = 5 ∨ i = 6 by omega) with rfl | rfl | rfl | rfl | rfl | rfl | rfl
          · have ho' := Option.some.inj ho
            subst ho'
            refine ⟨by kernel_rfl, ?_⟩
            go_simp
            exact ⟨up cQ 0 true, by simp [up], up sQ 0 (.pointer (some ⟨w.heap.size + 1, 0, none⟩)), by simp [up, sl], hF.step 0 (.pointer (some ⟨w.heap.size + 1, 0, none⟩)) _ hB (fun j u h => h) rfl⟩
          · have ho' := Option.some.inj ho
            subst ho'
            have h0 : cQ 0 = true := hdep ⟨0, .data⟩ (by simp) rfl
            have e0 : sQ 0 = .pointer (some ⟨w.heap.size + 1, 0, none⟩) := hF.k 0 h0
            refine ⟨by kernel_rfl, ?_⟩
            rw [sl_on h0, e0]
            have y0 := (hy.keep hB hy.lt).cell 0 _ rfl
            go_simp
            exact ⟨up cQ 1 true, by simp [up, h0, e0], up sQ 1 (.int .i64 c), by simp [up, sl, h0, e0], hF.step 1 (.int .i64 c) _ hB (fun j u h => h) rfl⟩
          · have ho' := Option.some.inj ho
            subst ho'
            have h1 : cQ 1 = true := hdep ⟨1, .data⟩ (by simp) rfl
            have e1 : sQ 1 = .int .i64 c := hF.k 1 h1
            refine ⟨by kernel_rfl, ?_⟩
            rw [sl_on h1, e1]
            go_simp
            refine (HC.out _).mono ?_
            rintro e w2 ⟨rfl, hb⟩
            go_simp
            exact ⟨up cQ 2 true, by simp [up, h1, e1], up sQ 2 (.func (.func F) #[] #[]), by simp [up, sl, h1, e1], hF.step 2 (.func (.func F) #[] #[]) _ (hB.trans (hb.mono hB.size)) (FixP.keep hb) rfl⟩
          · have ho' := Option.some.inj ho
            subst ho'
            refine ⟨by kernel_rfl, ?_⟩
            have hxx := hx.keep hB hx.lt
            have x0 := hxx.cell 0 _ rfl
            have x1 := hxx.cell 1 _ rfl
            have x2 := hxx.cell 2 _ rfl
            have x3 := hxx.cell 3 _ rfl
            have x4 := hxx.cell 4 _ rfl
            have x5 := hxx.cell 5 _ rfl
            go_simp
            exact ⟨up cQ 3 true, by simp [up], up sQ 3 (pkV ⟨u, m, n, wt, f, false⟩), by simp [up, sl], hF.step 3 (pkV ⟨u, m, n, wt, f, false⟩) _ hB (fun j u h => h) rfl⟩
          · have ho' := Option.some.inj ho
            subst ho'
            refine ⟨by kernel_rfl, ?_⟩
            have hyy := hy.keep hB hy.lt
            have y0 := hyy.cell 0 _ rfl
            have y1 := hyy.cell 1 _ rfl
            have y2 := hyy.cell 2 _ rfl
            have y3 := hyy.cell 3 _ rfl
            go_simp
            exact ⟨up cQ 4 true, by simp [up], up sQ 4 (anV ⟨c, am, au, af⟩), by simp [up, sl], hF.step 4 (anV ⟨c, am, au, af⟩) _ hB (fun j u h => h) rfl⟩
          · have ho' := Option.some.inj ho
            subst ho'
            have h2 : cQ 2 = true := hdep ⟨2, .data⟩ (by simp) rfl
            have e2 : sQ 2 = .func (.func F) #[] #[] := hF.k 2 h2
            have h3 : cQ 3 = true := hdep ⟨3, .data⟩ (by simp) rfl
            have e3 : sQ 3 = pkV ⟨u, m, n, wt, f, false⟩ := hF.k 3 h3
            have h4 : cQ 4 = true := hdep ⟨4, .data⟩ (by simp) rfl
            have e4 : sQ 4 = anV ⟨c, am, au, af⟩ := hF.k 4 h4
            refine ⟨by kernel_rfl, ?_⟩
            rw [sl_on h2, sl_on h3, sl_on h4, e2, e3, e4]
            go_simp
            rw [HCF.out]
            show Calls _ _ _ _ _
            refine (HX2.out _).mono ?_
            rintro e w2 ⟨rfl, hb⟩
            go_simp
            exact ⟨up cQ 5 true, by simp [up, h2, h3, h4, e2, e3, e4], up sQ 5 (pkV q), by simp [up, sl, h2, h3, h4, e2, e3, e4], hF.step 5 (pkV q) _ (hB.trans (hb.mono hB.size)) (FixP.keep hb) rfl⟩
          · have ho' := Option.some.inj ho
            subst ho'
            refine ⟨by kernel_rfl, ?_⟩
            go_simp
            exact ⟨up cQ 6 true, by simp [up], up sQ 6 (.pointer (some ⟨wr.heap.size, 0, none⟩)), by simp [up, sl], hF.step 6 (.pointer (some ⟨wr.heap.size, 0, none⟩)) _ (hB.alloc hB.size _) (FixP.keep ((Below.refl _ _).alloc (Nat.le_refl _) _)) ⟨_, rfl, hB.size, Box.new wr _ _⟩⟩
        · rintro L a wr ⟨cQ, sQ, rfl, rfl, hF⟩ hall
          have hB := hF.fr
          have h0 : cQ 0 = true := hall 0 (by decide) rfl
          have h1 : cQ 1 = true := hall 1 (by decide) rfl
          have h2 : cQ 2 = true := hall 2 (by decide) rfl
          have h3 : cQ 3 = true := hall 3 (by decide) rfl
          have h4 : cQ 4 = true := hall 4 (by decide) rfl
          have h5 : cQ 5 = true := hall 5 (by decide) rfl
          have h6 : cQ 6 = true := hall 6 (by decide) rfl
          have e5 : sQ 5 = pkV q := hF.k 5 h5
          obtain ⟨g6, e6, hg6, hx6⟩ := hF.k 6 h6
          rw [h0, h1, h2, h3, h4, h5, h6, sl_on h5, sl_on h6, e5, e6]
          clear hall hF h0 h1 h2 h3 h4 h5 h6 e5 e6
          generalize sl cQ sQ 0 = s0
          generalize sl cQ sQ 1 = s1
          generalize sl cQ sQ 2 = s2
          generalize sl cQ sQ 3 = s3
          generalize sl cQ sQ 4 = s4
          obtain ⟨qu, qm, qn, qw, qf, qg⟩ := q
          dsimp only at HPD q1 q2
          have hB9 := hB0.trans (hB.mono hB0.size)
          replace hx := hx.keep hB hx.lt
          replace hy := hy.keep hB hy.lt
          replace hr := hr.keep hB hr.lt
          have hgn : w.heap.size ≤ g6 := Nat.le_trans hB0.size hg6
          have hrlt : w.heap.size + 1 + 1 < g6 := Nat.lt_of_lt_of_le hrl hg6
          have k0 := hx6.cell 0 _ rfl
          have k1 := hx6.cell 1 _ rfl
          have k2 := hx6.cell 2 _ rfl
          have k3 := hx6.cell 3 _ rfl
          have k4 := hx6.cell 4 _ rfl
          have k5 := hx6.cell 5 _ rfl
          have l0 := hx6.free 0
          have l1 := hx6.free 1
          have l2 := hx6.free 2
          have l3 := hx6.free 3
          have l4 := hx6.free 4
          have l5 := hx6.free 5
          refine wpAnyT_one 7 0 (by kernel_rfl) rfl (by kernel_rfl) ?_
          intro K hK
          go_simp
          have b6 := hx6.put6 rfl (.string qu) (.string qm) (.int .i64 qn) (.int .i64 qw) (.int .i64 qf) (.bool qg)
          have hb6 := below6 wr (w.heap.size + 1 + 1 + 1) g6 hrlt (.string qu) (.string qm) (.int .i64 qn) (.int .i64 qw) (.int .i64 qf) (.bool qg)
          replace hy := hy.keep hb6 (by omega)
          replace hr := hr.keep hb6 (by omega)
          replace hB9 := hB9.trans (hb6.mono (by omega))
          clear k0 l0 k1 l1 k2 l2 k3 l3 k4 l4 k5 l5
          generalize (((((wr.setCell ⟨g6, 0, none⟩ (.string qu)).setCell ⟨g6, 1, none⟩ (.string qm)).setCell ⟨g6, 2, none⟩ (.int .i64 qn)).setCell ⟨g6, 3, none⟩ (.int .i64 qw)).setCell ⟨g6, 4, none⟩ (.int .i64 qf)).setCell ⟨g6, 5, none⟩ (.bool qg) = W3 at b6 hb6 hy hr hB9 ⊢
          refine hK _ _ ⟨trivial, fun _ => trivial⟩ (fun hS => ?_)
          clear hK K hS hx6 hB hb6
          refine wpAnyT_over (by kernel_rfl) ?_
          have k3 := b6.cell 3 _ rfl
          have l3 := b6.free 3
          by_cases hq1 : qw ≤ 1000
          · have hmn : min qw 1000 = qw := by omega
            rw [hmn] at HPD
            have HPB2 := Lib.hid (fun w => HPB.out ⟨qu, qm, qn, qw, qf, qg⟩ w)
            dsimp only at HPB2
            have hT : 0 ≤ (if c = 429 ∨ c = 503 then max qw af else qw) ∧ (if c = 429 ∨ c = 503 then max qw af else qw) ≤ 100000 := by split <;> omega
            generalize (if c = 429 ∨ c = 503 then max qw af else qw) = T at hT HPD HPB2
            obtain ⟨t0, t1⟩ := hT
            clear hmn HPB
            have hk := b6.set 3 (.int .i64 qw)
            change Box _ g6 #[.string qu, .string qm, .int .i64 qn, .int .i64 qw, .int .i64 qf, .bool qg] _ at hk
            have hbk : Below (w.heap.size + 1 + 1 + 1) W3 (W3.setCell ⟨g6, 3, none⟩ (.int .i64 qw)) := (Below.refl _ W3).setCell (p := ⟨g6, 3, none⟩) hrlt _
            have hy4 := hy.keep hbk (by omega)
            have hr4 := hr.keep hbk (by omega)
            have hB4 := hB9.trans (hbk.mono (by omega))
            have z0 := hk.cell 0 _ rfl
            have z1 := hk.cell 1 _ rfl
            have z2 := hk.cell 2 _ rfl
            have z3 := hk.cell 3 _ rfl
            have z4 := hk.cell 4 _ rfl
            have z5 := hk.cell 5 _ rfl
            have y0 := hy4.cell 0 _ rfl
            have y1 := hy4.cell 1 _ rfl
            have y2 := hy4.cell 2 _ rfl
            have y3 := hy4.cell 3 _ rfl
            go_wp2_with fail
            generalize W3.setCell ⟨g6, 3, none⟩ (.int .i64 qw) = W4 at hk hy4 hr4 hB4 ⊢
            clear hbk
            refine (HPB2.out _).mono ?_
            rintro e W5 ⟨rfl, hb5⟩
            have hk5 := hk.keep hb5 hk.lt
            have hr5 := hr4.keep hb5 hr4.lt
            have hB5 := hB4.trans (hb5.mono hB4.size)
            have m2 := hk5.free 2
            have n2 := hk5.cell 2 _ rfl
            have hk6 := hk5.set 2 (.int .i64 (now + T))
            change Box _ g6 #[.string qu, .string qm, .int .i64 (now + T), .int .i64 qw, .int .i64 qf, .bool qg] _ at hk6
            have hbk6 : Below (w.heap.size + 1 + 1 + 1) W5 (W5.setCell ⟨g6, 2, none⟩ (.int .i64 (now + T))) := (Below.refl _ W5).setCell (p := ⟨g6, 2, none⟩) hrlt _
            have hr6 := hr5.keep hbk6 (by omega)
            have hB6 := hB5.trans (hbk6.mono (by omega))
            have z0 := hk6.cell 0 _ rfl
            have z1 := hk6.cell 1 _ rfl
            have z2 := hk6.cell 2 _ rfl
            have z3 := hk6.cell 3 _ rfl
            have z4 := hk6.cell 4 _ rfl
            have z5 := hk6.cell 5 _ rfl
            have r0 := hr6.cell 0 _ rfl
            have r1 := hr6.cell 1 _ rfl
            have r2 := hr6.cell 2 _ rfl
            have r3 := hr6.cell 3 _ rfl
            have r4 := hr6.cell 4 _ rfl
            have r5 := hr6.cell 5 _ rfl
            have f0 := hr6.free 0
            have f1 := hr6.free 1
            have f2 := hr6.free 2
            have f3 := hr6.free 3
            have f4 := hr6.free 4
            have f5 := hr6.free 5
            go_wp2
            generalize W5.setCell ⟨g6, 2, none⟩ (.int .i64 (now + T)) = W6 at hr6 hB6 ⊢
            refine bodyPost_ret (results_pk2 rfl _ _ _ _ _ rfl rfl rfl (hr6.put6 rfl _ _ _ _ _ _)) rfl ?_
            exact ⟨by rw [hD.out, hO.out, HPD.out]; rfl, hB6.trans (below6 _ _ _ (by omega) _ _ _ _ _ _)⟩
          · have hmn : min qw 1000 = 1000 := by omega
            rw [hmn] at HPD
            have HPB2 := Lib.hid (fun w => HPB.out ⟨qu, qm, qn, 1000, qf, qg⟩ w)
            dsimp only at HPB2
            have hT : 0 ≤ (if c = 429 ∨ c = 503 then max 1000 af else 1000) ∧ (if c = 429 ∨ c = 503 then max 1000 af else 1000) ≤ 100000 := by split <;> omega
            generalize (if c = 429 ∨ c = 503 then max 1000 af else 1000) = T at hT HPD HPB2
            obtain ⟨t0, t1⟩ := hT
            clear hmn HPB
            have hk := b6.set 3 (.int .i64 1000)
            change Box _ g6 #[.string qu, .string qm, .int .i64 qn, .int .i64 1000, .int .i64 qf, .bool qg] _ at hk
            have hbk : Below (w.heap.size + 1 + 1 + 1) W3 (W3.setCell ⟨g6, 3, none⟩ (.int .i64 1000)) := (Below.refl _ W3).setCell (p := ⟨g6, 3, none⟩) hrlt _
            have hy4 := hy.keep hbk (by omega)
            have hr4 := hr.keep hbk (by omega)
            have hB4 := hB9.trans (hbk.mono (by omega))
            have z0 := hk.cell 0 _ rfl
            have z1 := hk.cell 1 _ rfl
            have z2 := hk.cell 2 _ rfl
            have z3 := hk.cell 3 _ rfl
            have z4 := hk.cell 4 _ rfl
            have z5 := hk.cell 5 _ rfl
            have y0 := hy4.cell 0 _ rfl
            have y1 := hy4.cell 1 _ rfl
            have y2 := hy4.cell 2 _ rfl
            have y3 := hy4.cell 3 _ rfl
            go_wp2_with fail
            generalize W3.setCell ⟨g6, 3, none⟩ (.int .i64 1000) = W4 at hk hy4 hr4 hB4 ⊢
            clear hbk
            refine (HPB2.out _).mono ?_
            rintro e W5 ⟨rfl, hb5⟩
            have hk5 := hk.keep hb5 hk.lt
            have hr5 := hr4.keep hb5 hr4.lt
            have hB5 := hB4.trans (hb5.mono hB4.size)
            have m2 := hk5.free 2
            have n2 := hk5.cell 2 _ rfl
            have hk6 := hk5.set 2 (.int .i64 (now + T))
            change Box _ g6 #[.string qu, .string qm, .int .i64 (now + T), .int .i64 1000, .int .i64 qf, .bool qg] _ at hk6
            have hbk6 : Below (w.heap.size + 1 + 1 + 1) W5 (W5.setCell ⟨g6, 2, none⟩ (.int .i64 (now + T))) := (Below.refl _ W5).setCell (p := ⟨g6, 2, none⟩) hrlt _
            have hr6 := hr5.keep hbk6 (by omega)
            have hB6 := hB5.trans (hbk6.mono (by omega))
            have z0 := hk6.cell 0 _ rfl
            have z1 := hk6.cell 1 _ rfl
            have z2 := hk6.cell 2 _ rfl
            have z3 := hk6.cell 3 _ rfl
            have z4 := hk6.cell 4 _ rfl
            have z5 := hk6.cell 5 _ rfl
            have r0 := hr6.cell 0 _ rfl
            have r1 := hr6.cell 1 _ rfl
            have r2 := hr6.cell 2 _ rfl
            have r3 := hr6.cell 3 _ rfl
            have r4 := hr6.cell 4 _ rfl
            have r5 := hr6.cell 5 _ rfl
            have f0 := hr6.free 0
            have f1 := hr6.free 1
            have f2 := hr6.free 2
            have f3 := hr6.free 3
            have f4 := hr6.free 4
            have f5 := hr6.free 5
            go_wp2
            generalize W5.setCell ⟨g6, 2, none⟩ (.int .i64 (now + T)) = W6 at hr6 hB6 ⊢
            refine bodyPost_ret (results_pk2 rfl _ _ _ _ _ rfl rfl rfl (hr6.put6 rfl _ _ _ _ _ _)) rfl ?_
            exact ⟨by rw [hD.out, hO.out, HPD.out]; rfl, hB6.trans (below6 _ _ _ (by omega) _ _ _ _ _ _)⟩
        · exact ⟨fun _ => false, fun _ => undef, rfl, rfl, below_drewN (Below.refl _ _) 1, fun i hi => by cases hi⟩
        · decide
end Go.Proofs.Ytlipgmaiooljkaa
