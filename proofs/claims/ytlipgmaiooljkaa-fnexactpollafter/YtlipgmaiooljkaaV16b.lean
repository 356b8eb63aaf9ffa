/- Walk of the law FnExactPollAfter. -/
import Derived.Test.YtlipgmaiooljkaaV16a
namespace Go.Proofs.Ytlipgmaiooljkaa
open Go.ChangeShapes Go.WideShapes Go.ChangeAt Go.RowKit
set_option linter.unusedVariables false
set_option linter.unusedSimpArgs false

set_option maxRecDepth 100000 in
set_option maxHeartbeats 4000000 in
theorem walk_FnExactPollAfter (v0 : Value) (p : PollD) (now : Int) (v2 : Value) (a : AnsD) (w : World) (hp : v0 = pkV p ∧ PkSz p) (hn : (Lit.int .i64 now).wf = true) (ha : v2 = anV a ∧ AnSz a) :
    Calls Try.prog 5 #[v0, .int .i64 now, v2] w fun e w' => e = .returned (.bool true) ∧ Below w.heap.size w w' := by
  obtain ⟨rfl, hz⟩ := hp
  obtain ⟨rfl, hy⟩ := ha
  have HZ := Lib.hid (fun k w h0 h1 => szPoll_any p k w hz h0 h1)
  have HZA := Lib.hid (fun k w h0 h1 => szAnswer_any a k w hy h0 h1)
  have HT := Lib.hid (fun w => toPoll_any p w)
  have HTA := Lib.hid (fun w => toAnswer_any a w)
  have HS := Lib.hid (fun w => specPollAfter_any p now a w hz hy)
  have HI := Lib.hid (fun w => implPollAfter_any p now a w hz hy)
  generalize paV p now a = q at HS HI
  generalize paO p now a = O at HS HI
  have hOO : (O != O) = false := by cases O <;> rfl
  clear hz hy hn
  obtain ⟨u, m, n, wt, f, g⟩ := p
  obtain ⟨c, am, au, af⟩ := a
  obtain ⟨qu, qm, qn, qw, qf, qg⟩ := q
  have HQ := Lib.hid (fun w => eqPoll_same ⟨qu, qm, qn, qw, qf, qg⟩ w)
  have hx : Box ((w.alloc (.cells #[.string u, .string m, .int .i64 n, .int .i64 wt, .int .i64 f, .bool g] 28)).alloc (.cells #[.int .i64 c, .string am, .string au, .int .i64 af] 34)) w.heap.size #[.string u, .string m, .int .i64 n, .int .i64 wt, .int .i64 f, .bool g] 28 := (Box.new w _ _).alloc _
  have hy : Box ((w.alloc (.cells #[.string u, .string m, .int .i64 n, .int .i64 wt, .int .i64 f, .bool g] 28)).alloc (.cells #[.int .i64 c, .string am, .string au, .int .i64 af] 34)) (w.heap.size + 1) #[.int .i64 c, .string am, .string au, .int .i64 af] 34 := by
    have := Box.new (w.alloc (.cells #[.string u, .string m, .int .i64 n, .int .i64 wt, .int .i64 f, .bool g] 28)) #[.int .i64 c, .string am, .string au, .int .i64 af] 34
    simpa using this
  have hB : Below w.heap.size w ((w.alloc (.cells #[.string u, .string m, .int .i64 n, .int .i64 wt, .int .i64 f, .bool g] 28)).alloc (.cells #[.int .i64 c, .string am, .string au, .int .i64 af] 34)) := ((Below.refl _ _).alloc (Nat.le_refl _) _).alloc (by simp) _
  go_enter Try.func5, Try.ntmps5
  go_wp2_with fail
  generalize (w.alloc (.cells #[.string u, .string m, .int .i64 n, .int .i64 wt, .int .i64 f, .bool g] 28)).alloc (.cells #[.int .i64 c, .string am, .string au, .int .i64 af] 34) = W0 at hx hy hB ⊢
  refine (HZ.out _ _ (by decide) (by decide)).mono ?_
  rintro e w1 ⟨r, rfl, hr0, hr1, hb1⟩
  replace hx := hx.keep hb1 hx.lt
  replace hy := hy.keep hb1 hy.lt
  replace hB := hB.trans (hb1.mono hB.size)
  clear hb1
  by_cases hr : r < 0
  · go_wp2
    go_ret
    exact ⟨rfl, hB⟩
  have y0 := hy.cell 0 _ rfl
  have y1 := hy.cell 1 _ rfl
  have y2 := hy.cell 2 _ rfl
  have y3 := hy.cell 3 _ rfl
  go_wp2_with fail
  refine (HZA.out _ _ (by omega) (by omega)).mono ?_
  rintro e w2 ⟨r2, rfl, hr3, hr4, hb2⟩
  replace hx := hx.keep hb2 hx.lt
  replace hy := hy.keep hb2 hy.lt
  replace hB := hB.trans (hb2.mono hB.size)
  clear hb2 y0 y1 y2 y3
  by_cases hr5 : r2 < 0
  · go_wp2
    go_ret
    exact ⟨rfl, hB⟩
  have hxl := hx.lt
  have hyl := hy.lt
  have hBw := hB
  clear hB
  go_wp2
  refine wp_region_T (fun _ => True) (fun _ => True) 11 (by kernel_rfl) 12 rfl ?_
  refine wpAnyT_flo2 (fun i => decide (i < 11)) (by kernel_rfl) (by kernel_rfl) 1 (fun L a wr => ∃ (cQ : Nat → Bool) (sQ : Nat → Value), L = #[cQ 0, cQ 1, cQ 2, cQ 3, cQ 4, cQ 5, cQ 6, cQ 7, cQ 8, cQ 9, cQ 10, false] ∧ a = { tmps := #[pkV { u := u, m := m, n := n, wt := wt, f := f, g := g }, Value.int IntKind.i64 now, anV { c := c, m := am, u := au, af := af }, Value.pointer (some { block := w.heap.size, off := 0 }), undef, Value.pointer (some { block := w.heap.size + 1, off := 0 }), Value.bool false, Value.int IntKind.i64 r2, sl cQ sQ 9, undef, undef, undef, Value.agg #[Value.string u, Value.string m, Value.int IntKind.i64 n, Value.int IntKind.i64 wt, Value.int IntKind.i64 f, Value.bool g], Value.int IntKind.i64 1048576, Value.int IntKind.i64 r, Value.int IntKind.i64 r, Value.bool (decide (r < 0)), Value.agg #[Value.int IntKind.i64 c, Value.string am, Value.string au, Value.int IntKind.i64 af], Value.int IntKind.i64 r, Value.int IntKind.i64 r2, Value.int IntKind.i64 r2, Value.bool (decide (r2 < 0)), sl cQ sQ 6, sl cQ sQ 0, sl cQ sQ 1, sl cQ sQ 2, sl cQ sQ 3, sl cQ sQ 4, sl cQ sQ 5, sl cQ sQ 7, sl cQ sQ 8, undef, undef, undef, undef, undef, undef, undef, undef, undef, undef, undef, undef, undef, undef, undef, undef, undef, undef], defers := [] } ∧ FloS (FixQ w2.heap.size (fun i => ([.val (pkV ⟨u, m, n, wt, f, g⟩), .val (pkV ⟨u, m, n, wt, f, g⟩), .val (.int .i64 now), .val (anV ⟨c, am, au, af⟩), .val (anV ⟨c, am, au, af⟩), .val (.tuple #[pkV ⟨qu, qm, qn, qw, qf, qg⟩, .bool O]), .val (.tuple #[pkV ⟨qu, qm, qn, qw, qf, qg⟩, .bool O]), .val (pkV ⟨qu, qm, qn, qw, qf, qg⟩), .val (.bool O), .box 6 (23), .put #[.string qu, .string qm, .int .i64 qn, .int .i64 qw, .int .i64 qf, .bool qg] (23), .val (undef)] : List Kd).getD i (.val undef))) (fun wr => Below w2.heap.size w2 wr) cQ sQ wr ∧ (cQ 10 = true → sQ 10 = sQ 9 ∧ cQ 9 = true)) ?_ ?_ ?_ ?_ 11 _ _ _ ?_ ?_
  · rintro L a wr ⟨cQ, sQ, rfl, _, _⟩
    rfl
  · rintro L a wr ⟨cQ, sQ, rfl, _, _⟩ i hi hfi
    have hi' : i < 12 := hi
    rcases (show i = 0 ∨ i = 1 ∨ i = 2 ∨ i = 3 ∨ i = 4 ∨ i = 5 ∨ i = 6 ∨ i = 7 ∨ i = 8 ∨ i = 9 ∨ i = 10 ∨ i = 11 by omega) with rfl | rfl | rfl | rfl | rfl | rfl | rfl | rfl | rfl | rfl | rfl | rfl
    · exact absurd hfi (by decide)
    · exact absurd hfi (by decide)
    · exact absurd hfi (by decide)
    · exact absurd hfi (by decide)
    · exact absurd hfi (by decide)
    · exact absurd hfi (by decide)
    · exact absurd hfi (by decide)
    · exact absurd hfi (by decide)
    · exact absurd hfi (by decide)
    · exact absurd hfi (by decide)
    · exact absurd hfi (by decide)
    · rfl
  · rintro L a wr i o ⟨cQ, sQ, rfl, rfl, hF, hT10⟩ ho hfl hL hdep
    have hB := hF.fr
    have hi : i < 11 := of_decide_eq_true hfl
    rcases (show i = 0 ∨ i = 1 ∨ i = 2 ∨ i = 3 ∨ i = 4 ∨ i = 5 ∨ i = 6 ∨ i = 7 ∨ i = 8 ∨ i = 9 ∨ i = 10 by omega) with rfl | rfl | rfl | rfl | rfl | rfl | rfl | rfl | rfl | rfl | rfl
    · have ho' := Option.some.inj ho
      subst ho'
      refine ⟨by kernel_rfl, ?_⟩
      have hxx := hx.keep hB hxl
      have x0 := hxx.cell 0 _ rfl
      have x1 := hxx.cell 1 _ rfl
      have x2 := hxx.cell 2 _ rfl
      have x3 := hxx.cell 3 _ rfl
      have x4 := hxx.cell 4 _ rfl
      have x5 := hxx.cell 5 _ rfl
      go_simp
      exact ⟨up cQ 0 true, by simp [up], up sQ 0 (pkV ⟨u, m, n, wt, f, g⟩), by simp [up, sl], hF.step 0 (pkV ⟨u, m, n, wt, f, g⟩) _ hB (fun j u h => h) rfl, by simpa [up] using hT10⟩
    · have ho' := Option.some.inj ho
      subst ho'
      have h0 : cQ 0 = true := hdep ⟨0, .data⟩ (by simp) rfl
      have e0 : sQ 0 = pkV ⟨u, m, n, wt, f, g⟩ := hF.k 0 h0
      refine ⟨by kernel_rfl, ?_⟩
      rw [sl_on h0, e0]
      go_simp
      refine (HT.out _).mono ?_
      rintro e w2 ⟨rfl, hb⟩
      go_simp
      exact ⟨up cQ 1 true, by simp [up, h0, e0], up sQ 1 (pkV ⟨u, m, n, wt, f, g⟩), by simp [up, sl, h0, e0], hF.step 1 (pkV ⟨u, m, n, wt, f, g⟩) _ (hB.trans (hb.mono hB.size)) (FixQ.keep hb) rfl, by simpa [up] using hT10⟩
    · have ho' := Option.some.inj ho
      subst ho'
      refine ⟨by kernel_rfl, ?_⟩
      go_simp
      exact ⟨up cQ 2 true, by simp [up], up sQ 2 (.int .i64 now), by simp [up, sl], hF.step 2 (.int .i64 now) _ hB (fun j u h => h) rfl, by simpa [up] using hT10⟩
    · have ho' := Option.some.inj ho
      subst ho'
      refine ⟨by kernel_rfl, ?_⟩
      have hyy := hy.keep hB hyl
      have y0 := hyy.cell 0 _ rfl
      have y1 := hyy.cell 1 _ rfl
      have y2 := hyy.cell 2 _ rfl
      have y3 := hyy.cell 3 _ rfl
      go_simp
      exact ⟨up cQ 3 true, by simp [up], up sQ 3 (anV ⟨c, am, au, af⟩), by simp [up, sl], hF.step 3 (anV ⟨c, am, au, af⟩) _ hB (fun j u h => h) rfl, by simpa [up] using hT10⟩
    · have ho' := Option.some.inj ho
      subst ho'
      have h3 : cQ 3 = true := hdep ⟨3, .data⟩ (by simp) rfl
      have e3 : sQ 3 = anV ⟨c, am, au, af⟩ := hF.k 3 h3
      refine ⟨by kernel_rfl, ?_⟩
      rw [sl_on h3, e3]
      go_simp
      refine (HTA.out _).mono ?_
      rintro e w2 ⟨rfl, hb⟩
      go_simp
      exact ⟨up cQ 4 true, by simp [up, h3, e3], up sQ 4 (anV ⟨c, am, au, af⟩), by simp [up, sl, h3, e3], hF.step 4 (anV ⟨c, am, au, af⟩) _ (hB.trans (hb.mono hB.size)) (FixQ.keep hb) rfl, by simpa [up] using hT10⟩
    · have ho' := Option.some.inj ho
      subst ho'
      have h1 : cQ 1 = true := hdep ⟨1, .data⟩ (by simp) rfl
      have e1 : sQ 1 = pkV ⟨u, m, n, wt, f, g⟩ := hF.k 1 h1
      have h2 : cQ 2 = true := hdep ⟨2, .data⟩ (by simp) rfl
      have e2 : sQ 2 = .int .i64 now := hF.k 2 h2
      have h4 : cQ 4 = true := hdep ⟨4, .data⟩ (by simp) rfl
      have e4 : sQ 4 = anV ⟨c, am, au, af⟩ := hF.k 4 h4
      refine ⟨by kernel_rfl, ?_⟩
      rw [sl_on h1, sl_on h2, sl_on h4, e1, e2, e4]
      go_simp
      refine (HS.out _).mono ?_
      rintro e w2 ⟨rfl, hb⟩
      go_simp
      exact ⟨up cQ 5 true, by simp [up, h1, h2, h4, e1, e2, e4], up sQ 5 (.tuple #[pkV ⟨qu, qm, qn, qw, qf, qg⟩, .bool O]), by simp [up, sl, h1, h2, h4, e1, e2, e4], hF.step 5 (.tuple #[pkV ⟨qu, qm, qn, qw, qf, qg⟩, .bool O]) _ (hB.trans (hb.mono hB.size)) (FixQ.keep hb) rfl, by simpa [up] using hT10⟩
    · have ho' := Option.some.inj ho
      subst ho'
      have h5 : cQ 5 = true := hdep ⟨5, .data⟩ (by simp) rfl
      have e5 : sQ 5 = .tuple #[pkV ⟨qu, qm, qn, qw, qf, qg⟩, .bool O] := hF.k 5 h5
      refine ⟨by kernel_rfl, ?_⟩
      rw [sl_on h5, e5]
      go_simp
      exact ⟨up cQ 6 true, by simp [up, h5, e5], up sQ 6 (.tuple #[pkV ⟨qu, qm, qn, qw, qf, qg⟩, .bool O]), by simp [up, sl, h5, e5], hF.step 6 (.tuple #[pkV ⟨qu, qm, qn, qw, qf, qg⟩, .bool O]) _ hB (fun j u h => h) rfl, by simpa [up] using hT10⟩
    · have ho' := Option.some.inj ho
      subst ho'
      have h6 : cQ 6 = true := hdep ⟨6, .data⟩ (by simp) rfl
      have e6 : sQ 6 = .tuple #[pkV ⟨qu, qm, qn, qw, qf, qg⟩, .bool O] := hF.k 6 h6
      refine ⟨by kernel_rfl, ?_⟩
      rw [sl_on h6, e6]
      go_simp
      exact ⟨up cQ 7 true, by simp [up, h6, e6], up sQ 7 (pkV ⟨qu, qm, qn, qw, qf, qg⟩), by simp [up, sl, h6, e6], hF.step 7 (pkV ⟨qu, qm, qn, qw, qf, qg⟩) _ hB (fun j u h => h) rfl, by simpa [up] using hT10⟩
    · have ho' := Option.some.inj ho
      subst ho'
      have h6 : cQ 6 = true := hdep ⟨6, .data⟩ (by simp) rfl
      have e6 : sQ 6 = .tuple #[pkV ⟨qu, qm, qn, qw, qf, qg⟩, .bool O] := hF.k 6 h6
      refine ⟨by kernel_rfl, ?_⟩
      rw [sl_on h6, e6]
      go_simp
      exact ⟨up cQ 8 true, by simp [up, h6, e6], up sQ 8 (.bool O), by simp [up, sl, h6, e6], hF.step 8 (.bool O) _ hB (fun j u h => h) rfl, by simpa [up] using hT10⟩
    · have ho' := Option.some.inj ho
      subst ho'
      refine ⟨by kernel_rfl, ?_⟩
      go_simp
      exact ⟨up cQ 9 true, by simp [up], up sQ 9 (.pointer (some ⟨wr.heap.size, 0, none⟩)), by simp [up, sl], hF.step 9 (.pointer (some ⟨wr.heap.size, 0, none⟩)) _ (hB.alloc hB.size _) (FixQ.keep ((Below.refl _ _).alloc (Nat.le_refl _) _)) ⟨_, _, rfl, hB.size, rfl, Box.new wr _ _⟩, fun h => absurd ((hT10 (by simpa [up] using h)).2.symm.trans (by simpa using hL)) (by decide)⟩
    · have ho' := Option.some.inj ho
      subst ho'
      have h9 : cQ 9 = true := hdep ⟨9, .data⟩ (by simp) rfl
      obtain ⟨gd9, cd9, e9, hgd9, hzd9, hxd9⟩ := hF.k 9 h9
      have h7 : cQ 7 = true := hdep ⟨7, .data⟩ (by simp) rfl
      have e7 : sQ 7 = pkV ⟨qu, qm, qn, qw, qf, qg⟩ := hF.k 7 h7
      refine ⟨by kernel_rfl, ?_⟩
      rw [sl_on h9, sl_on h7, e9, e7]
      obtain ⟨ld, rfl, hld⟩ := arrS hzd9
      obtain ⟨z0, l0, rfl, hl0⟩ := consS hld
      obtain ⟨z1, l1, rfl, hl1⟩ := consS hl0
      obtain ⟨z2, l2, rfl, hl2⟩ := consS hl1
      obtain ⟨z3, l3, rfl, hl3⟩ := consS hl2
      obtain ⟨z4, l4, rfl, hl4⟩ := consS hl3
      obtain ⟨z5, l5, rfl, hl5⟩ := consS hl4
      obtain rfl := List.eq_nil_of_length_eq_zero hl5
      have kz0 := hxd9.cell 0 _ rfl
      have fz0 := hxd9.free 0
      have kz1 := hxd9.cell 1 _ rfl
      have fz1 := hxd9.free 1
      have kz2 := hxd9.cell 2 _ rfl
      have fz2 := hxd9.free 2
      have kz3 := hxd9.cell 3 _ rfl
      have fz3 := hxd9.free 3
      have kz4 := hxd9.cell 4 _ rfl
      have fz4 := hxd9.free 4
      have kz5 := hxd9.cell 5 _ rfl
      have fz5 := hxd9.free 5
      go_simp
      have hfil := Box.fillAll (us := [.string qu, .string qm, .int .i64 qn, .int .i64 qw, .int .i64 qf, .bool qg]) hxd9 rfl
      exact ⟨up cQ 10 true, by simp [up, h9, h7, e9, e7], up sQ 10 (.pointer (some ⟨gd9, 0, none⟩)), by simp [up, sl, h9, h7, e9, e7], hF.step 10 (.pointer (some ⟨gd9, 0, none⟩)) _ (hB.trans (below_putRow gd9 _ hgd9 [.string qu, .string qm, .int .i64 qn, .int .i64 qw, .int .i64 qf, .bool qg] 0 wr)) (FixQ.filled (fin := #[.string qu, .string qm, .int .i64 qn, .int .i64 qw, .int .i64 qf, .bool qg]) hxd9 rfl hfil (putRow_other gd9 [.string qu, .string qm, .int .i64 qn, .int .i64 qw, .int .i64 qf, .bool qg] 0 wr) (kd_put (by simp [putOk]))) ⟨_, rfl, hgd9, hfil⟩, fun _ => ⟨by simp [up, e9], by simp [up, h9]⟩⟩
  · rintro L a wr ⟨cQ, sQ, rfl, rfl, hF, hT10⟩ hall
    have hB := hF.fr
    have h0 : cQ 0 = true := hall 0 (by decide) rfl
    have h1 : cQ 1 = true := hall 1 (by decide) rfl
    have h2 : cQ 2 = true := hall 2 (by decide) rfl
    have h3 : cQ 3 = true := hall 3 (by decide) rfl
    have h4 : cQ 4 = true := hall 4 (by decide) rfl
    have h5 : cQ 5 = true := hall 5 (by decide) rfl
    have h6 : cQ 6 = true := hall 6 (by decide) rfl
    have h7 : cQ 7 = true := hall 7 (by decide) rfl
    have h8 : cQ 8 = true := hall 8 (by decide) rfl
    have h9 : cQ 9 = true := hall 9 (by decide) rfl
    have h10 : cQ 10 = true := hall 10 (by decide) rfl
    have e8 : sQ 8 = .bool O := hF.k 8 h8
    obtain ⟨g9, cd9, e9, hg9, hzd9, hx9⟩ := hF.k 9 h9
    obtain ⟨gp10, ep10, hgp10, hxp10⟩ := hF.k 10 h10
    obtain rfl : g9 = gp10 := by have hq := (hT10 h10).1; rw [ep10, e9] at hq; simpa using hq.symm
    clear hx9 hzd9
    rw [h0, h1, h2, h3, h4, h5, h6, h7, h8, h9, h10, sl_on h8, sl_on h9, e8, e9]
    clear hall hF hT10 ep10 h0 h1 h2 h3 h4 h5 h6 h7 h8 h9 h10 e8 e9
    generalize sl cQ sQ 0 = s0
    generalize sl cQ sQ 1 = s1
    generalize sl cQ sQ 2 = s2
    generalize sl cQ sQ 3 = s3
    generalize sl cQ sQ 4 = s4
    generalize sl cQ sQ 5 = s5
    generalize sl cQ sQ 6 = s6
    generalize sl cQ sQ 7 = s7
    replace hx := hx.keep hB hxl
    replace hy := hy.keep hB hyl
    have hBn := hBw.trans (hB.mono hBw.size)
    clear hBw hB
    have b6 := hxp10
    clear hxp10
    refine wpAnyT_one 11 0 (by kernel_rfl) rfl (by kernel_rfl) ?_
    intro K hK
    go_simp
    refine hK _ _ ⟨trivial, fun _ => trivial⟩ (fun hS => ?_)
    clear hK K hS
    refine wpAnyT_over (by kernel_rfl) ?_
    have hX1 := b6
    obtain ⟨G1, hG1⟩ : ∃ G1, G1 = g9 := ⟨_, rfl⟩
    rw [← hG1] at hX1 ⊢
    clear b6 hG1 hg9 hgp10
    generalize wr = W8 at hx hy hBn hX1 ⊢
    have hxl := hx.lt
    have hyl := hy.lt
    have hBw := hBn
    clear hBn
    go_wp2
    refine wp_region_T (fun _ => True) (fun _ => True) 11 (by kernel_rfl) 12 rfl ?_
    refine wpAnyT_flo2 (fun i => decide (i < 11)) (by kernel_rfl) (by kernel_rfl) 1 (fun L a wr => ∃ (cQ : Nat → Bool) (sQ : Nat → Value), L = #[cQ 0, cQ 1, cQ 2, cQ 3, cQ 4, cQ 5, cQ 6, cQ 7, cQ 8, cQ 9, cQ 10, false] ∧ a = { tmps := #[pkV { u := u, m := m, n := n, wt := wt, f := f, g := g }, Value.int IntKind.i64 now, anV { c := c, m := am, u := au, af := af }, Value.pointer (some { block := w.heap.size, off := 0 }), undef, Value.pointer (some { block := w.heap.size + 1, off := 0 }), Value.bool false, Value.int IntKind.i64 r2, Value.pointer (some { block := G1, off := 0 }), Value.bool O, sl cQ sQ 9, undef, Value.agg #[Value.string u, Value.string m, Value.int IntKind.i64 n, Value.int IntKind.i64 wt, Value.int IntKind.i64 f, Value.bool g], Value.int IntKind.i64 1048576, Value.int IntKind.i64 r, Value.int IntKind.i64 r, Value.bool (decide (r < 0)), Value.agg #[Value.int IntKind.i64 c, Value.string am, Value.string au, Value.int IntKind.i64 af], Value.int IntKind.i64 r, Value.int IntKind.i64 r2, Value.int IntKind.i64 r2, Value.bool (decide (r2 < 0)), s6, s0, s1, s2, s3, s4, s5, s7, Value.bool O, sl cQ sQ 6, sl cQ sQ 0, sl cQ sQ 1, sl cQ sQ 2, sl cQ sQ 3, sl cQ sQ 4, sl cQ sQ 5, sl cQ sQ 7, sl cQ sQ 8, undef, undef, undef, undef, undef, undef, undef, undef, undef], defers := [] } ∧ FloS (FixQ W8.heap.size (fun i => ([.val (pkV ⟨u, m, n, wt, f, g⟩), .val (pkV ⟨u, m, n, wt, f, g⟩), .val (.int .i64 now), .val (anV ⟨c, am, au, af⟩), .val (anV ⟨c, am, au, af⟩), .val (.tuple #[pkV ⟨qu, qm, qn, qw, qf, qg⟩, .bool O]), .val (.tuple #[pkV ⟨qu, qm, qn, qw, qf, qg⟩, .bool O]), .val (pkV ⟨qu, qm, qn, qw, qf, qg⟩), .val (.bool O), .box 6 (23), .put #[.string qu, .string qm, .int .i64 qn, .int .i64 qw, .int .i64 qf, .bool qg] (23), .val (undef)] : List Kd).getD i (.val undef))) (fun wr => Below W8.heap.size W8 wr) cQ sQ wr ∧ (cQ 10 = true → sQ 10 = sQ 9 ∧ cQ 9 = true)) ?_ ?_ ?_ ?_ 11 _ _ _ ?_ ?_
    · rintro L a wr ⟨cQ, sQ, rfl, _, _⟩
      rfl
    · rintro L a wr ⟨cQ, sQ, rfl, _, _⟩ i hi hfi
      have hi' : i < 12 := hi
      rcases (show i = 0 ∨ i = 1 ∨ i = 2 ∨ i = 3 ∨ i = 4 ∨ i = 5 ∨ i = 6 ∨ i = 7 ∨ i = 8 ∨ i = 9 ∨ i = 10 ∨ i = 11 by omega) with rfl | rfl | rfl | rfl | rfl | rfl | rfl | rfl | rfl | rfl | rfl | rfl
      · exact absurd hfi (by decide)
      · exact absurd hfi (by decide)
      · exact absurd hfi (by decide)
      · exact absurd hfi (by decide)
      · exact absurd hfi (by decide)
      · exact absurd hfi (by decide)
      · exact absurd hfi (by decide)
      · exact absurd hfi (by decide)
      · exact absurd hfi (by decide)
      · exact absurd hfi (by decide)
      · exact absurd hfi (by decide)
      · rfl
    · rintro L a wr i o ⟨cQ, sQ, rfl, rfl, hF, hT10⟩ ho hfl hL hdep
      have hB := hF.fr
      have hi : i < 11 := of_decide_eq_true hfl
      rcases (show i = 0 ∨ i = 1 ∨ i = 2 ∨ i = 3 ∨ i = 4 ∨ i = 5 ∨ i = 6 ∨ i = 7 ∨ i = 8 ∨ i = 9 ∨ i = 10 by omega) with rfl | rfl | rfl | rfl | rfl | rfl | rfl | rfl | rfl | rfl | rfl
      · have ho' := Option.some.inj ho
        subst ho'
        refine ⟨by kernel_rfl, ?_⟩
        have hxx := hx.keep hB hxl
        have x0 := hxx.cell 0 _ rfl
        have x1 := hxx.cell 1 _ rfl
        have x2 := hxx.cell 2 _ rfl
        have x3 := hxx.cell 3 _ rfl
        have x4 := hxx.cell 4 _ rfl
        have x5 := hxx.cell 5 _ rfl
        go_simp
        exact ⟨up cQ 0 true, by simp [up], up sQ 0 (pkV ⟨u, m, n, wt, f, g⟩), by simp [up, sl], hF.step 0 (pkV ⟨u, m, n, wt, f, g⟩) _ hB (fun j u h => h) rfl, by simpa [up] using hT10⟩
      · have ho' := Option.some.inj ho
        subst ho'
        have h0 : cQ 0 = true := hdep ⟨0, .data⟩ (by simp) rfl
        have e0 : sQ 0 = pkV ⟨u, m, n, wt, f, g⟩ := hF.k 0 h0
        refine ⟨by kernel_rfl, ?_⟩
        rw [sl_on h0, e0]
        go_simp
        refine (HT.out _).mono ?_
        rintro e w2 ⟨rfl, hb⟩
        go_simp
        exact ⟨up cQ 1 true, by simp [up, h0, e0], up sQ 1 (pkV ⟨u, m, n, wt, f, g⟩), by simp [up, sl, h0, e0], hF.step 1 (pkV ⟨u, m, n, wt, f, g⟩) _ (hB.trans (hb.mono hB.size)) (FixQ.keep hb) rfl, by simpa [up] using hT10⟩
      · have ho' := Option.some.inj ho
        subst ho'
        refine ⟨by kernel_rfl, ?_⟩
        go_simp
        exact ⟨up cQ 2 true, by simp [up], up sQ 2 (.int .i64 now), by simp [up, sl], hF.step 2 (.int .i64 now) _ hB (fun j u h => h) rfl, by simpa [up] using hT10⟩
      · have ho' := Option.some.inj ho
        subst ho'
        refine ⟨by kernel_rfl, ?_⟩
        have hyy := hy.keep hB hyl
        have y0 := hyy.cell 0 _ rfl
        have y1 := hyy.cell 1 _ rfl
        have y2 := hyy.cell 2 _ rfl
        have y3 := hyy.cell 3 _ rfl
        go_simp
        exact ⟨up cQ 3 true, by simp [up], up sQ 3 (anV ⟨c, am, au, af⟩), by simp [up, sl], hF.step 3 (anV ⟨c, am, au, af⟩) _ hB (fun j u h => h) rfl, by simpa [up] using hT10⟩
      · have ho' := Option.some.inj ho
        subst ho'
        have h3 : cQ 3 = true := hdep ⟨3, .data⟩ (by simp) rfl
        have e3 : sQ 3 = anV ⟨c, am, au, af⟩ := hF.k 3 h3
        refine ⟨by kernel_rfl, ?_⟩
        rw [sl_on h3, e3]
        go_simp
        refine (HTA.out _).mono ?_
        rintro e w2 ⟨rfl, hb⟩
        go_simp
        exact ⟨up cQ 4 true, by simp [up, h3, e3], up sQ 4 (anV ⟨c, am, au, af⟩), by simp [up, sl, h3, e3], hF.step 4 (anV ⟨c, am, au, af⟩) _ (hB.trans (hb.mono hB.size)) (FixQ.keep hb) rfl, by simpa [up] using hT10⟩
      · have ho' := Option.some.inj ho
        subst ho'
        have h1 : cQ 1 = true := hdep ⟨1, .data⟩ (by simp) rfl
        have e1 : sQ 1 = pkV ⟨u, m, n, wt, f, g⟩ := hF.k 1 h1
        have h2 : cQ 2 = true := hdep ⟨2, .data⟩ (by simp) rfl
        have e2 : sQ 2 = .int .i64 now := hF.k 2 h2
        have h4 : cQ 4 = true := hdep ⟨4, .data⟩ (by simp) rfl
        have e4 : sQ 4 = anV ⟨c, am, au, af⟩ := hF.k 4 h4
        refine ⟨by kernel_rfl, ?_⟩
        rw [sl_on h1, sl_on h2, sl_on h4, e1, e2, e4]
        go_simp
        refine (HI.out _).mono ?_
        rintro e w2 ⟨rfl, hb⟩
        go_simp
        exact ⟨up cQ 5 true, by simp [up, h1, h2, h4, e1, e2, e4], up sQ 5 (.tuple #[pkV ⟨qu, qm, qn, qw, qf, qg⟩, .bool O]), by simp [up, sl, h1, h2, h4, e1, e2, e4], hF.step 5 (.tuple #[pkV ⟨qu, qm, qn, qw, qf, qg⟩, .bool O]) _ (hB.trans (hb.mono hB.size)) (FixQ.keep hb) rfl, by simpa [up] using hT10⟩
      · have ho' := Option.some.inj ho
        subst ho'
        have h5 : cQ 5 = true := hdep ⟨5, .data⟩ (by simp) rfl
        have e5 : sQ 5 = .tuple #[pkV ⟨qu, qm, qn, qw, qf, qg⟩, .bool O] := hF.k 5 h5
        refine ⟨by kernel_rfl, ?_⟩
        rw [sl_on h5, e5]
        go_simp
        exact ⟨up cQ 6 true, by simp [up, h5, e5], up sQ 6 (.tuple #[pkV ⟨qu, qm, qn, qw, qf, qg⟩, .bool O]), by simp [up, sl, h5, e5], hF.step 6 (.tuple #[pkV ⟨qu, qm, qn, qw, qf, qg⟩, .bool O]) _ hB (fun j u h => h) rfl, by simpa [up] using hT10⟩
      · have ho' := Option.some.inj ho
        subst ho'
        have h6 : cQ 6 = true := hdep ⟨6, .data⟩ (by simp) rfl
        have e6 : sQ 6 = .tuple #[pkV ⟨qu, qm, qn, qw, qf, qg⟩, .bool O] := hF.k 6 h6
        refine ⟨by kernel_rfl, ?_⟩
        rw [sl_on h6, e6]
        go_simp
        exact ⟨up cQ 7 true, by simp [up, h6, e6], up sQ 7 (pkV ⟨qu, qm, qn, qw, qf, qg⟩), by simp [up, sl, h6, e6], hF.step 7 (pkV ⟨qu, qm, qn, qw, qf, qg⟩) _ hB (fun j u h => h) rfl, by simpa [up] using hT10⟩
      · have ho' := Option.some.inj ho
        subst ho'
        have h6 : cQ 6 = true := hdep ⟨6, .data⟩ (by simp) rfl
        have e6 : sQ 6 = .tuple #[pkV ⟨qu, qm, qn, qw, qf, qg⟩, .bool O] := hF.k 6 h6
        refine ⟨by kernel_rfl, ?_⟩
        rw [sl_on h6, e6]
        go_simp
        exact ⟨up cQ 8 true, by simp [up, h6, e6], up sQ 8 (.bool O), by simp [up, sl, h6, e6], hF.step 8 (.bool O) _ hB (fun j u h => h) rfl, by simpa [up] using hT10⟩
      · have ho' := Option.some.inj ho
        subst ho'
        refine ⟨by kernel_rfl, ?_⟩
        go_simp
        exact ⟨up cQ 9 true, by simp [up], up sQ 9 (.pointer (some ⟨wr.heap.size, 0, none⟩)), by simp [up, sl], hF.step 9 (.pointer (some ⟨wr.heap.size, 0, none⟩)) _ (hB.alloc hB.size _) (FixQ.keep ((Below.refl _ _).alloc (Nat.le_refl _) _)) ⟨_, _, rfl, hB.size, rfl, Box.new wr _ _⟩, fun h => absurd ((hT10 (by simpa [up] using h)).2.symm.trans (by simpa using hL)) (by decide)⟩
      · have ho' := Option.some.inj ho
        subst ho'
        have h9 : cQ 9 = true := hdep ⟨9, .data⟩ (by simp) rfl
        obtain ⟨gd9, cd9, e9, hgd9, hzd9, hxd9⟩ := hF.k 9 h9
        have h7 : cQ 7 = true := hdep ⟨7, .data⟩ (by simp) rfl
        have e7 : sQ 7 = pkV ⟨qu, qm, qn, qw, qf, qg⟩ := hF.k 7 h7
        refine ⟨by kernel_rfl, ?_⟩
        rw [sl_on h9, sl_on h7, e9, e7]
        obtain ⟨ld, rfl, hld⟩ := arrS hzd9
        obtain ⟨z0, l0, rfl, hl0⟩ := consS hld
        obtain ⟨z1, l1, rfl, hl1⟩ := consS hl0
        obtain ⟨z2, l2, rfl, hl2⟩ := consS hl1
        obtain ⟨z3, l3, rfl, hl3⟩ := consS hl2
        obtain ⟨z4, l4, rfl, hl4⟩ := consS hl3
        obtain ⟨z5, l5, rfl, hl5⟩ := consS hl4
        obtain rfl := List.eq_nil_of_length_eq_zero hl5
        have kz0 := hxd9.cell 0 _ rfl
        have fz0 := hxd9.free 0
        have kz1 := hxd9.cell 1 _ rfl
        have fz1 := hxd9.free 1
        have kz2 := hxd9.cell 2 _ rfl
        have fz2 := hxd9.free 2
        have kz3 := hxd9.cell 3 _ rfl
        have fz3 := hxd9.free 3
        have kz4 := hxd9.cell 4 _ rfl
        have fz4 := hxd9.free 4
        have kz5 := hxd9.cell 5 _ rfl
        have fz5 := hxd9.free 5
        go_simp
        have hfil := Box.fillAll (us := [.string qu, .string qm, .int .i64 qn, .int .i64 qw, .int .i64 qf, .bool qg]) hxd9 rfl
        exact ⟨up cQ 10 true, by simp [up, h9, h7, e9, e7], up sQ 10 (.pointer (some ⟨gd9, 0, none⟩)), by simp [up, sl, h9, h7, e9, e7], hF.step 10 (.pointer (some ⟨gd9, 0, none⟩)) _ (hB.trans (below_putRow gd9 _ hgd9 [.string qu, .string qm, .int .i64 qn, .int .i64 qw, .int .i64 qf, .bool qg] 0 wr)) (FixQ.filled (fin := #[.string qu, .string qm, .int .i64 qn, .int .i64 qw, .int .i64 qf, .bool qg]) hxd9 rfl hfil (putRow_other gd9 [.string qu, .string qm, .int .i64 qn, .int .i64 qw, .int .i64 qf, .bool qg] 0 wr) (kd_put (by simp [putOk]))) ⟨_, rfl, hgd9, hfil⟩, fun _ => ⟨by simp [up, e9], by simp [up, h9]⟩⟩
    · rintro L a wr ⟨cQ, sQ, rfl, rfl, hF, hT10⟩ hall
      have hB := hF.fr
      have h0 : cQ 0 = true := hall 0 (by decide) rfl
      have h1 : cQ 1 = true := hall 1 (by decide) rfl
      have h2 : cQ 2 = true := hall 2 (by decide) rfl
      have h3 : cQ 3 = true := hall 3 (by decide) rfl
      have h4 : cQ 4 = true := hall 4 (by decide) rfl
      have h5 : cQ 5 = true := hall 5 (by decide) rfl
      have h6 : cQ 6 = true := hall 6 (by decide) rfl
      have h7 : cQ 7 = true := hall 7 (by decide) rfl
      have h8 : cQ 8 = true := hall 8 (by decide) rfl
      have h9 : cQ 9 = true := hall 9 (by decide) rfl
      have h10 : cQ 10 = true := hall 10 (by decide) rfl
      have e8 : sQ 8 = .bool O := hF.k 8 h8
      obtain ⟨g9, cd9, e9, hg9, hzd9, hx9⟩ := hF.k 9 h9
      obtain ⟨gp10, ep10, hgp10, hxp10⟩ := hF.k 10 h10
      obtain rfl : g9 = gp10 := by have hq := (hT10 h10).1; rw [ep10, e9] at hq; simpa using hq.symm
      clear hx9 hzd9
      rw [h0, h1, h2, h3, h4, h5, h6, h7, h8, h9, h10, sl_on h8, sl_on h9, e8, e9]
      clear hall hF hT10 ep10 h0 h1 h2 h3 h4 h5 h6 h7 h8 h9 h10 e8 e9
      generalize sl cQ sQ 0 = s0
      generalize sl cQ sQ 1 = s1
      generalize sl cQ sQ 2 = s2
      generalize sl cQ sQ 3 = s3
      generalize sl cQ sQ 4 = s4
      generalize sl cQ sQ 5 = s5
      generalize sl cQ sQ 6 = s6
      generalize sl cQ sQ 7 = s7
      replace hx := hx.keep hB hxl
      replace hy := hy.keep hB hyl
      have hBn := hBw.trans (hB.mono hBw.size)
      replace hX1 := hX1.keep hB hX1.lt
      clear hBw hB
      have b6 := hxp10
      clear hxp10
      refine wpAnyT_one 11 0 (by kernel_rfl) rfl (by kernel_rfl) ?_
      intro K hK
      go_simp
      refine hK _ _ ⟨trivial, fun _ => trivial⟩ (fun hS => ?_)
      clear hK K hS
      refine wpAnyT_over (by kernel_rfl) ?_
      have z0 := hX1.cell 0 _ rfl
      have z1 := hX1.cell 1 _ rfl
      have z2 := hX1.cell 2 _ rfl
      have z3 := hX1.cell 3 _ rfl
      have z4 := hX1.cell 4 _ rfl
      have z5 := hX1.cell 5 _ rfl
      have v0 := b6.cell 0 _ rfl
      have v1 := b6.cell 1 _ rfl
      have v2 := b6.cell 2 _ rfl
      have v3 := b6.cell 3 _ rfl
      have v4 := b6.cell 4 _ rfl
      have v5 := b6.cell 5 _ rfl
      go_wp2_with fail
      refine (HQ.out _).mono ?_
      rintro e wz ⟨rfl, hbz⟩
      have hBz := hBn.trans (hbz.mono hBn.size)
      go_wp2
      go_ret
      exact ⟨rfl, hBz⟩
    · exact ⟨fun _ => false, fun _ => undef, rfl, rfl, ⟨below_drewN (Below.refl _ _) 1, fun i hi => by cases hi⟩, fun h => by cases h⟩
    · decide
  · exact ⟨fun _ => false, fun _ => undef, rfl, rfl, ⟨below_drewN (Below.refl _ _) 1, fun i hi => by cases hi⟩, fun h => by cases h⟩
  · decide
end Go.Proofs.Ytlipgmaiooljkaa
