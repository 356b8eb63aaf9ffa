/- Joined: V9d. -/
import Derived.Deep.CutRange
import Derived.Test.YtfgdbpjmjeaolaaGreatH31
import Derived.Test.YtfgdbpjmjeaolaaGreatH52
/- V9d -/
namespace Go.Proofs.YtfgdbpjmjeaolaaGreat
open Go.ChangeShapes Go.WideShapes Go.ChangeAt Go.RowKit
set_option linter.unusedVariables false

set_option maxRecDepth 100000 in
set_option maxHeartbeats 8000000 in
theorem walk_FnExactDone (v : Value) (ss : List Sb) (u : Value) (o : OpD) (w : World) (h : RdAt w v ss) (hu : OpAt w u o) :
    Calls Tryz.prog 3 #[v, u] w fun e w' => e = .returned (.bool true) ∧ Below w.heap.size w w' := by
  obtain ⟨x, rfl, hi⟩ := h
  obtain ⟨y, rfl, hiy, hzo⟩ := hu
  have HZo := Lib.hid hzo
  have HSz := Lib.hid hi.size
  have HZi := Lib.hid hiy.2
  have HI := Lib.hid hi
  have HY := Lib.hid hiy
  have HRd := Lib.hid (doU_rd ss o)
  obtain ⟨RS, hRS⟩ : ∃ RS, RS = (doV ss o).getD [] := ⟨_, rfl⟩
  obtain ⟨b, hb⟩ : ∃ b, b = (doV ss o).isSome := ⟨_, rfl⟩
  have HSp := Lib.hid (fun v1 y1 (w : World) (h1 : SbAt w w.heap.size v1 ss) (h2 : ItAt w w.heap.size y1 o.its) => specDone_uni v1 y1 ss o w h1 h2 HZo.out)
  have HIm := Lib.hid (fun v1 y1 (w : World) (h1 : SbAt w w.heap.size v1 ss) (h2 : ItAt w w.heap.size y1 o.its) => implDone_uni v1 y1 ss o w h1 h2 HZo.out)
  rw [← hRS] at HRd HSp HIm
  rw [← hb] at HSp HIm
  unfold OutDu at HSp HIm
  have HRz := Lib.hid (rd_sz HRd.out)
  have HRl := Lib.hid (rd_lens HRd.out)
  clear hRS hb hzo hi hiy
  have hb0 : Below w.heap.size w ((w.alloc (.cells #[x] 24)).alloc (.cells #[.int .i64 o.k, .string o.u, .string o.i, .int .i64 o.d, .string o.fu, .string o.ft, y] 29)) := ((Below.refl _ _).alloc (Nat.le_refl _) _).alloc (by simp) _
  have hx0 : Box ((w.alloc (.cells #[x] 24)).alloc (.cells #[.int .i64 o.k, .string o.u, .string o.i, .int .i64 o.d, .string o.fu, .string o.ft, y] 29)) w.heap.size #[x] 24 := (Box.new w #[x] 24).alloc _
  have ho0 : Box ((w.alloc (.cells #[x] 24)).alloc (.cells #[.int .i64 o.k, .string o.u, .string o.i, .int .i64 o.d, .string o.fu, .string o.ft, y] 29)) (w.heap.size + 1) #[.int .i64 o.k, .string o.u, .string o.i, .int .i64 o.d, .string o.fu, .string o.ft, y] 29 := by
    have := Box.new (w.alloc (.cells #[x] 24)) #[.int .i64 o.k, .string o.u, .string o.i, .int .i64 o.d, .string o.fu, .string o.ft, y] 29
    simpa using this
  have HSA0 : Hid (∀ W, Below w.heap.size w W → SbAt W W.heap.size x ss) := Lib.hid (fun W hW => (HI.out.below hW).mono hW.size)
  have HIA0 : Hid (∀ W, Below w.heap.size w W → ItAt W W.heap.size y o.its) := Lib.hid (fun W hW => (HY.out.below hW).mono hW.size)
  clear HI HY
  go_enter Tryz.func3, Tryz.ntmps3
  go_wp2_with fail
  have hwx : w.heap.size + 2 ≤ ((w.alloc (.cells #[x] 24)).alloc (.cells #[.int .i64 o.k, .string o.u, .string o.i, .int .i64 o.d, .string o.fu, .string o.ft, y] 29)).heap.size := by simp
  generalize (w.alloc (.cells #[x] 24)).alloc (.cells #[.int .i64 o.k, .string o.u, .string o.i, .int .i64 o.d, .string o.fu, .string o.ft, y] 29) = W0 at hb0 hx0 ho0 hwx ⊢
  refine (szReader_any x ss 1048576 _ (HSA0.out _ hb0) (by decide) (by decide)).mono ?_
  rintro e w1 ⟨r, rfl, hr0, hr1, hr2, hb1⟩
  have hB1 := hb0.trans (hb1.mono hb0.size)
  have hx1 := hx0.keep hb1 hx0.lt
  have ho1 := ho0.keep hb1 ho0.lt
  clear hb1 hb0 hx0 ho0
  by_cases hr : r < 0
  · clear hr2
    go_wp2
    go_ret
    exact ⟨rfl, hB1⟩
  have HN : Hid (ss.length ≤ 1048576 ∧ ∀ s ∈ ss, s.es.length ≤ 1048576) := Lib.hid ⟨by have := (hr2 (by omega)).1; omega, fun s hs => by have := (hr2 (by omega)).2 s hs; omega⟩
  clear hr2
  have d0 : w1.cell? ⟨w.heap.size + 1, 0, none⟩ = some (.int .i64 o.k) := ho1.cell 0 _ rfl
  have d1 : w1.cell? ⟨w.heap.size + 1, 1, none⟩ = some (.string o.u) := ho1.cell 1 _ rfl
  have d2 : w1.cell? ⟨w.heap.size + 1, 2, none⟩ = some (.string o.i) := ho1.cell 2 _ rfl
  have d3 : w1.cell? ⟨w.heap.size + 1, 3, none⟩ = some (.int .i64 o.d) := ho1.cell 3 _ rfl
  have d4 : w1.cell? ⟨w.heap.size + 1, 4, none⟩ = some (.string o.fu) := ho1.cell 4 _ rfl
  have d5 : w1.cell? ⟨w.heap.size + 1, 5, none⟩ = some (.string o.ft) := ho1.cell 5 _ rfl
  have d6 : w1.cell? ⟨w.heap.size + 1, 6, none⟩ = some (y) := ho1.cell 6 _ rfl
  have hr3 : decide (r < 0) = false := decide_eq_false hr
  go_wp2_with fail
  clear d0 d1 d2 d3 d4 d5 d6
  refine (szOp_any o y r _ (HIA0.out _ hB1) HZo.out (by omega) (by omega)).mono ?_
  rintro e w2 ⟨r2, rfl, hs0, hs1, hs2, hb2⟩
  have hB2 := hB1.trans (hb2.mono hB1.size)
  have hx := hx1.keep hb2 hx1.lt
  have ho := ho1.keep hb2 ho1.lt
  clear hb2 hB1 hx1 ho1 hr3
  by_cases hr2 : r2 < 0
  · clear hs2
    go_wp2
    go_ret
    exact ⟨rfl, hB2⟩
  have hni : o.its.length ≤ 1048576 := by have := hs2 (by omega); omega
  have HNi := Lib.hid hni
  clear hs2 hni
  have hr4 : decide (r2 < 0) = false := decide_eq_false hr2
  have HTr := Lib.hid (fun (w : World) (h : SbAt w w.heap.size x ss) => toReader_any x ss w h HN.out.1 HN.out.2)
  unfold OutRd at HTr
  have HTo := Lib.hid (fun (w : World) (h : ItAt w w.heap.size y o.its) => toOp_any o y w h HZo.out HNi.out)
  unfold OutO at HTo
  have HSA : Hid (∀ W, Below w2.heap.size w2 W → SbAt W W.heap.size x ss) := Lib.hid (fun W hW => HSA0.out W (hB2.trans (hW.mono hB2.size)))
  have HIA : Hid (∀ W, Below w2.heap.size w2 W → ItAt W W.heap.size y o.its) := Lib.hid (fun W hW => HIA0.out W (hB2.trans (hW.mono hB2.size)))
  go_upto_region 8 with fail
  go_cut [6, 7] from 27 to 34 (fun s6 s7 wx => ∃ (g : Nat) (V : Value) (qs : List (Sb × Value)), s6 = .pointer (some ⟨g, 0, none⟩) ∧ s7 = .bool b ∧ w2.heap.size ≤ g ∧ Below w2.heap.size w2 wx ∧ Box wx g #[V] 34 ∧ qs.map Prod.fst = RS ∧ OwnD wx w2.heap.size V qs)
  case first =>
    have hxc := hx.drew
    have hoc := ho.drew
    have hBc : Below w2.heap.size w2 w2.drew := (Below.refl _ _).drew
    refine wp_region_T (fun w' => Box w' w.heap.size #[x] 24 ∧ Box w' (w.heap.size + 1) #[.int .i64 o.k, .string o.u, .string o.i, .int .i64 o.d, .string o.fu, .string o.ft, y] 29) (fun _ => True) 10 (by kernel_rfl) 11 rfl ?_
    refine wpAnyT_takesA (md := .any) 9 (by kernel_rfl) (by intro d v c a w h; cases d <;> exact h) [0, 2] _ _ _ (by decide) (by kernel_rfl) ⟨⟨hxc, hoc⟩, fun _ => trivial⟩ ?_
    simp only [pick, List.filterMap_cons, List.filterMap_nil, List.getElem?_cons_zero, List.getElem?_cons_succ]
    refine wpIf_step (.agg #[x]) (by kernel_rfl) (fun w hw => by have e0 := hw.1.cell 0 _ rfl; go_simp) ?_
    refine wpIf_step (opV o y) (by kernel_rfl) (fun w hw => by have e0 := hw.2.cell 0 _ rfl; have e1 := hw.2.cell 1 _ rfl; have e2 := hw.2.cell 2 _ rfl; have e3 := hw.2.cell 3 _ rfl; have e4 := hw.2.cell 4 _ rfl; have e5 := hw.2.cell 5 _ rfl; have e6 := hw.2.cell 6 _ rfl; go_simp) ?_
    refine wpIf_nil (fun hS => ?_)
    clear hS
    generalize w2.drew = WD at hxc hoc hBc ⊢
    refine wpAnyT_pair 1 8 8 (by kernel_rfl) rfl rfl (by kernel_rfl) (by kernel_rfl) (fun K hK => ?_) (fun K hK => ?_)
    · go_simp
      refine (HTr.out _ (HSA.out _ hBc)).mono ?_
      rintro e wA ⟨v1, rfl, hv1, hbA⟩
      have H1 : Hid (SbAt wA wA.heap.size v1 ss) := Lib.hid (OwnS.at hv1 HSz.out)
      clear hv1
      replace hxc := hxc.keep hbA hxc.lt
      replace hoc := hoc.keep hbA hoc.lt
      replace hBc := hBc.trans (hbA.mono hBc.size)
      refine hK _ _ ⟨⟨hxc, hoc⟩, fun _ => trivial⟩ (fun hS => ?_)
      clear hK K hS hbA
      refine wpAnyT_pair 3 8 7 (by kernel_rfl) rfl rfl (by kernel_rfl) (by kernel_rfl) (fun K hK => ?_) (fun K hK => ?_)
      · go_simp
        refine (HTo.out _ (HIA.out _ hBc)).mono ?_
        rintro e wB ⟨y1, rfl, hy1, hbB⟩
        have H2 : Hid (ItAt wB wB.heap.size y1 o.its) := Lib.hid (ItAt.of_own hy1 HZi.out)
        replace H1 := Lib.hid ((H1.out.below hbB).mono hbB.size)
        clear hy1
        replace hxc := hxc.keep hbB hxc.lt
        replace hoc := hoc.keep hbB hoc.lt
        replace hBc := hBc.trans (hbB.mono hBc.size)
        refine hK _ _ ⟨⟨hxc, hoc⟩, fun _ => trivial⟩ (fun hS => ?_)
        clear hK K hS hbB
        refine wpAnyT_pair 4 8 6 (by kernel_rfl) rfl rfl (by kernel_rfl) (by kernel_rfl) (fun K hK => ?_) (fun K hK => ?_)
        · go_simp
          refine (HSp.out v1 y1 _ H1.out H2.out).mono ?_
          rintro e wC ⟨V, rs, rfl, hrs, hV, hbC⟩
          have H3 : Hid (∃ qs : List (Sb × Value), qs.map Prod.fst = RS ∧ OwnD wC w2.heap.size V qs) := Lib.hid ⟨rs, hrs, hV.lower hBc.size⟩
          clear hrs hV H1 H2
          replace hxc := hxc.keep hbC hxc.lt
          replace hoc := hoc.keep hbC hoc.lt
          replace hBc := hBc.trans (hbC.mono hBc.size)
          refine hK _ _ ⟨⟨hxc, hoc⟩, fun _ => trivial⟩ (fun hS => ?_)
          clear hK K hS hbC
          refine wpAnyT_takesA (md := .any) 3 (by kernel_rfl) (by intro d v c a w h; cases d <;> exact h) [5, 6, 7] _ _ _ (by decide) (by kernel_rfl) ⟨⟨hxc, hoc⟩, fun _ => trivial⟩ ?_
          simp only [pick, List.filterMap_cons, List.filterMap_nil, List.getElem?_cons_zero, List.getElem?_cons_succ]
          refine wpIf_step (.tuple #[.agg #[V], .bool b]) (by kernel_rfl) (fun w hw => by go_simp) ?_
          refine wpIf_step (.agg #[V]) (by kernel_rfl) (fun w hw => by go_simp) ?_
          refine wpIf_step (.bool b) (by kernel_rfl) (fun w hw => by go_simp) ?_
          refine wpIf_nil (fun hS => ?_)
          clear hS
          refine wpAnyT_one 8 2 (by kernel_rfl) rfl (by kernel_rfl) (fun K hK => ?_)
          go_simp
          have hZ := Box.new (wC) #[.slice none 0 0] 34
          have hba : Below (wC).heap.size (wC) (wC.alloc (.cells #[.slice none 0 0] 34)) := (Below.refl _ _).alloc (Nat.le_refl _) _
          have hgW : w2.heap.size ≤ (wC).heap.size := hBc.size
          have hgx : w.heap.size < (wC).heap.size := hxc.lt
          have hgo : w.heap.size + 1 < (wC).heap.size := hoc.lt
          replace hxc := hxc.keep hba hxc.lt
          replace hoc := hoc.keep hba hoc.lt
          replace H3 : Hid (∃ qs : List (Sb × Value), qs.map Prod.fst = RS ∧ OwnD (wC.alloc (.cells #[.slice none 0 0] 34)) w2.heap.size V qs) := Lib.hid (by obtain ⟨qs, h1, h2⟩ := H3.out; exact ⟨qs, h1, h2.keep hba (Nat.le_refl _)⟩)
          replace hBc := hBc.trans (hba.mono hBc.size)
          clear hba
          refine hK _ _ ⟨⟨hxc, hoc⟩, fun _ => trivial⟩ (fun hS => ?_)
          clear hK K hS
          generalize wC.alloc (.cells #[.slice none 0 0] 34) = WZ at hxc hoc hBc hZ H3 ⊢
          generalize (wC).heap.size = gz at hZ hgW hgx hgo ⊢
          obtain ⟨qs, hqs, hV⟩ := H3.out
          obtain ⟨Va, Vc, hVe⟩ := hV.1.slice
          obtain ⟨Vn, hVn⟩ : ∃ n, n = qs.length := ⟨_, rfl⟩
          rw [← hVn] at hVe
          clear hVn
          subst hVe
          have z0 := hZ.cell 0 _ rfl
          have zf := hZ.free
          have hZ2 := hZ.set 0 (.slice Va Vn Vc)
          have hx2 := hxc.other ⟨gz, 0, none⟩ (.slice Va Vn Vc) (show w.heap.size ≠ gz by omega)
          have ho2 := hoc.other ⟨gz, 0, none⟩ (.slice Va Vn Vc) (show w.heap.size + 1 ≠ gz by omega)
          have hB2 := hBc.setCell (p := ⟨gz, 0, none⟩) hgW (.slice Va Vn Vc)
          have hV2 := hV.offBox hZ (.slice Va Vn Vc)
          refine wpAnyT_one 9 1 (by kernel_rfl) rfl (by kernel_rfl) (fun K hK => ?_)
          go_simp
          refine hK _ _ ⟨⟨hx2, ho2⟩, fun _ => trivial⟩ (fun hS => ?_)
          clear hK K hS z0 zf
          refine wpAnyT_one 10 0 (by kernel_rfl) rfl (by kernel_rfl) (fun K hK => ?_)
          go_simp
          refine hK _ _ ⟨⟨hx2, ho2⟩, fun _ => trivial⟩ (fun hS => ?_)
          clear hK K hS
          refine wpAnyT_over (by kernel_rfl) ?_
          go_wp2_with fail
          go_meet
          exact ⟨gz, .slice Va Vn Vc, qs, rfl, rfl, hgW, hB2, hZ2, hqs, hV2⟩
        · go_simp
          have hZ := Box.new (wB) #[.slice none 0 0] 34
          have hba : Below (wB).heap.size (wB) (wB.alloc (.cells #[.slice none 0 0] 34)) := (Below.refl _ _).alloc (Nat.le_refl _) _
          have hgW : w2.heap.size ≤ (wB).heap.size := hBc.size
          have hgx : w.heap.size < (wB).heap.size := hxc.lt
          have hgo : w.heap.size + 1 < (wB).heap.size := hoc.lt
          replace hxc := hxc.keep hba hxc.lt
          replace hoc := hoc.keep hba hoc.lt
          replace H1 := Lib.hid ((H1.out.below hba).mono hba.size)
          replace H2 := Lib.hid ((H2.out.below hba).mono hba.size)
          replace hBc := hBc.trans (hba.mono hBc.size)
          clear hba
          refine hK _ _ ⟨⟨hxc, hoc⟩, fun _ => trivial⟩ (fun hS => ?_)
          clear hK K hS
          generalize wB.alloc (.cells #[.slice none 0 0] 34) = WZ at hxc hoc hBc hZ H1 H2 ⊢
          generalize (wB).heap.size = gz at hZ hgW hgx hgo ⊢
          refine wpAnyT_one 4 5 (by kernel_rfl) rfl (by kernel_rfl) (fun K hK => ?_)
          go_simp
          refine (HSp.out v1 y1 _ H1.out H2.out).mono ?_
          rintro e wC ⟨V, rs, rfl, hrs, hV, hbC⟩
          have H3 : Hid (∃ qs : List (Sb × Value), qs.map Prod.fst = RS ∧ OwnD wC w2.heap.size V qs) := Lib.hid ⟨rs, hrs, hV.lower hBc.size⟩
          clear hrs hV H1 H2
          replace hxc := hxc.keep hbC hxc.lt
          replace hoc := hoc.keep hbC hoc.lt
          replace hZ := hZ.keep hbC hZ.lt
          replace hBc := hBc.trans (hbC.mono hBc.size)
          refine hK _ _ ⟨⟨hxc, hoc⟩, fun _ => trivial⟩ (fun hS => ?_)
          clear hK K hS hbC
          refine wpAnyT_takesA (md := .any) 2 (by kernel_rfl) (by intro d v c a w h; cases d <;> exact h) [5, 6, 7] _ _ _ (by decide) (by kernel_rfl) ⟨⟨hxc, hoc⟩, fun _ => trivial⟩ ?_
          simp only [pick, List.filterMap_cons, List.filterMap_nil, List.getElem?_cons_zero, List.getElem?_cons_succ]
          refine wpIf_step (.tuple #[.agg #[V], .bool b]) (by kernel_rfl) (fun w hw => by go_simp) ?_
          refine wpIf_step (.agg #[V]) (by kernel_rfl) (fun w hw => by go_simp) ?_
          refine wpIf_step (.bool b) (by kernel_rfl) (fun w hw => by go_simp) ?_
          refine wpIf_nil (fun hS => ?_)
          clear hS
          obtain ⟨qs, hqs, hV⟩ := H3.out
          obtain ⟨Va, Vc, hVe⟩ := hV.1.slice
          obtain ⟨Vn, hVn⟩ : ∃ n, n = qs.length := ⟨_, rfl⟩
          rw [← hVn] at hVe
          clear hVn
          subst hVe
          have z0 := hZ.cell 0 _ rfl
          have zf := hZ.free
          have hZ2 := hZ.set 0 (.slice Va Vn Vc)
          have hx2 := hxc.other ⟨gz, 0, none⟩ (.slice Va Vn Vc) (show w.heap.size ≠ gz by omega)
          have ho2 := hoc.other ⟨gz, 0, none⟩ (.slice Va Vn Vc) (show w.heap.size + 1 ≠ gz by omega)
          have hB2 := hBc.setCell (p := ⟨gz, 0, none⟩) hgW (.slice Va Vn Vc)
          have hV2 := hV.offBox hZ (.slice Va Vn Vc)
          refine wpAnyT_one 9 1 (by kernel_rfl) rfl (by kernel_rfl) (fun K hK => ?_)
          go_simp
          refine hK _ _ ⟨⟨hx2, ho2⟩, fun _ => trivial⟩ (fun hS => ?_)
          clear hK K hS z0 zf
          refine wpAnyT_one 10 0 (by kernel_rfl) rfl (by kernel_rfl) (fun K hK => ?_)
          go_simp
          refine hK _ _ ⟨⟨hx2, ho2⟩, fun _ => trivial⟩ (fun hS => ?_)
          clear hK K hS
          refine wpAnyT_over (by kernel_rfl) ?_
          go_wp2_with fail
          go_meet
          exact ⟨gz, .slice Va Vn Vc, qs, rfl, rfl, hgW, hB2, hZ2, hqs, hV2⟩
      · go_simp
        have hZ := Box.new (wA) #[.slice none 0 0] 34
        have hba : Below (wA).heap.size (wA) (wA.alloc (.cells #[.slice none 0 0] 34)) := (Below.refl _ _).alloc (Nat.le_refl _) _
        have hgW : w2.heap.size ≤ (wA).heap.size := hBc.size
        have hgx : w.heap.size < (wA).heap.size := hxc.lt
        have hgo : w.heap.size + 1 < (wA).heap.size := hoc.lt
        replace hxc := hxc.keep hba hxc.lt
        replace hoc := hoc.keep hba hoc.lt
        replace H1 := Lib.hid ((H1.out.below hba).mono hba.size)
        replace hBc := hBc.trans (hba.mono hBc.size)
        clear hba
        refine hK _ _ ⟨⟨hxc, hoc⟩, fun _ => trivial⟩ (fun hS => ?_)
        clear hK K hS
        generalize wA.alloc (.cells #[.slice none 0 0] 34) = WZ at hxc hoc hBc hZ H1 ⊢
        generalize (wA).heap.size = gz at hZ hgW hgx hgo ⊢
        refine wpAnyT_one 3 6 (by kernel_rfl) rfl (by kernel_rfl) (fun K hK => ?_)
        go_simp
        refine (HTo.out _ (HIA.out _ hBc)).mono ?_
        rintro e wB ⟨y1, rfl, hy1, hbB⟩
        have H2 : Hid (ItAt wB wB.heap.size y1 o.its) := Lib.hid (ItAt.of_own hy1 HZi.out)
        replace H1 := Lib.hid ((H1.out.below hbB).mono hbB.size)
        clear hy1
        replace hxc := hxc.keep hbB hxc.lt
        replace hoc := hoc.keep hbB hoc.lt
        replace hZ := hZ.keep hbB hZ.lt
        replace hBc := hBc.trans (hbB.mono hBc.size)
        refine hK _ _ ⟨⟨hxc, hoc⟩, fun _ => trivial⟩ (fun hS => ?_)
        clear hK K hS hbB
        refine wpAnyT_one 4 5 (by kernel_rfl) rfl (by kernel_rfl) (fun K hK => ?_)
        go_simp
        refine (HSp.out v1 y1 _ H1.out H2.out).mono ?_
        rintro e wC ⟨V, rs, rfl, hrs, hV, hbC⟩
        have H3 : Hid (∃ qs : List (Sb × Value), qs.map Prod.fst = RS ∧ OwnD wC w2.heap.size V qs) := Lib.hid ⟨rs, hrs, hV.lower hBc.size⟩
        clear hrs hV H1 H2
        replace hxc := hxc.keep hbC hxc.lt
        replace hoc := hoc.keep hbC hoc.lt
        replace hZ := hZ.keep hbC hZ.lt
        replace hBc := hBc.trans (hbC.mono hBc.size)
        refine hK _ _ ⟨⟨hxc, hoc⟩, fun _ => trivial⟩ (fun hS => ?_)
        clear hK K hS hbC
        refine wpAnyT_takesA (md := .any) 2 (by kernel_rfl) (by intro d v c a w h; cases d <;> exact h) [5, 6, 7] _ _ _ (by decide) (by kernel_rfl) ⟨⟨hxc, hoc⟩, fun _ => trivial⟩ ?_
        simp only [pick, List.filterMap_cons, List.filterMap_nil, List.getElem?_cons_zero, List.getElem?_cons_succ]
        refine wpIf_step (.tuple #[.agg #[V], .bool b]) (by kernel_rfl) (fun w hw => by go_simp) ?_
        refine wpIf_step (.agg #[V]) (by kernel_rfl) (fun w hw => by go_simp) ?_
        refine wpIf_step (.bool b) (by kernel_rfl) (fun w hw => by go_simp) ?_
        refine wpIf_nil (fun hS => ?_)
        clear hS
        obtain ⟨qs, hqs, hV⟩ := H3.out
        obtain ⟨Va, Vc, hVe⟩ := hV.1.slice
        obtain ⟨Vn, hVn⟩ : ∃ n, n = qs.length := ⟨_, rfl⟩
        rw [← hVn] at hVe
        clear hVn
        subst hVe
        have z0 := hZ.cell 0 _ rfl
        have zf := hZ.free
        have hZ2 := hZ.set 0 (.slice Va Vn Vc)
        have hx2 := hxc.other ⟨gz, 0, none⟩ (.slice Va Vn Vc) (show w.heap.size ≠ gz by omega)
        have ho2 := hoc.other ⟨gz, 0, none⟩ (.slice Va Vn Vc) (show w.heap.size + 1 ≠ gz by omega)
        have hB2 := hBc.setCell (p := ⟨gz, 0, none⟩) hgW (.slice Va Vn Vc)
        have hV2 := hV.offBox hZ (.slice Va Vn Vc)
        refine wpAnyT_one 9 1 (by kernel_rfl) rfl (by kernel_rfl) (fun K hK => ?_)
        go_simp
        refine hK _ _ ⟨⟨hx2, ho2⟩, fun _ => trivial⟩ (fun hS => ?_)
        clear hK K hS z0 zf
        refine wpAnyT_one 10 0 (by kernel_rfl) rfl (by kernel_rfl) (fun K hK => ?_)
        go_simp
        refine hK _ _ ⟨⟨hx2, ho2⟩, fun _ => trivial⟩ (fun hS => ?_)
        clear hK K hS
        refine wpAnyT_over (by kernel_rfl) ?_
        go_wp2_with fail
        go_meet
        exact ⟨gz, .slice Va Vn Vc, qs, rfl, rfl, hgW, hB2, hZ2, hqs, hV2⟩
    · go_simp
      have hZ := Box.new (WD) #[.slice none 0 0] 34
      have hba : Below (WD).heap.size (WD) (WD.alloc (.cells #[.slice none 0 0] 34)) := (Below.refl _ _).alloc (Nat.le_refl _) _
      have hgW : w2.heap.size ≤ (WD).heap.size := hBc.size
      have hgx : w.heap.size < (WD).heap.size := hxc.lt
      have hgo : w.heap.size + 1 < (WD).heap.size := hoc.lt
      replace hxc := hxc.keep hba hxc.lt
      replace hoc := hoc.keep hba hoc.lt
      replace hBc := hBc.trans (hba.mono hBc.size)
      clear hba
      refine hK _ _ ⟨⟨hxc, hoc⟩, fun _ => trivial⟩ (fun hS => ?_)
      clear hK K hS
      generalize WD.alloc (.cells #[.slice none 0 0] 34) = WZ at hxc hoc hBc hZ ⊢
      generalize (WD).heap.size = gz at hZ hgW hgx hgo ⊢
      refine wpAnyT_one 1 7 (by kernel_rfl) rfl (by kernel_rfl) (fun K hK => ?_)
      go_simp
      refine (HTr.out _ (HSA.out _ hBc)).mono ?_
      rintro e wA ⟨v1, rfl, hv1, hbA⟩
      have H1 : Hid (SbAt wA wA.heap.size v1 ss) := Lib.hid (OwnS.at hv1 HSz.out)
      clear hv1
      replace hxc := hxc.keep hbA hxc.lt
      replace hoc := hoc.keep hbA hoc.lt
      replace hZ := hZ.keep hbA hZ.lt
      replace hBc := hBc.trans (hbA.mono hBc.size)
      refine hK _ _ ⟨⟨hxc, hoc⟩, fun _ => trivial⟩ (fun hS => ?_)
      clear hK K hS hbA
      refine wpAnyT_one 3 6 (by kernel_rfl) rfl (by kernel_rfl) (fun K hK => ?_)
      go_simp
      refine (HTo.out _ (HIA.out _ hBc)).mono ?_
      rintro e wB ⟨y1, rfl, hy1, hbB⟩
      have H2 : Hid (ItAt wB wB.heap.size y1 o.its) := Lib.hid (ItAt.of_own hy1 HZi.out)
      replace H1 := Lib.hid ((H1.out.below hbB).mono hbB.size)
      clear hy1
      replace hxc := hxc.keep hbB hxc.lt
      replace hoc := hoc.keep hbB hoc.lt
      replace hZ := hZ.keep hbB hZ.lt
      replace hBc := hBc.trans (hbB.mono hBc.size)
      refine hK _ _ ⟨⟨hxc, hoc⟩, fun _ => trivial⟩ (fun hS => ?_)
      clear hK K hS hbB
      refine wpAnyT_one 4 5 (by kernel_rfl) rfl (by kernel_rfl) (fun K hK => ?_)
      go_simp
      refine (HSp.out v1 y1 _ H1.out H2.out).mono ?_
      rintro e wC ⟨V, rs, rfl, hrs, hV, hbC⟩
      have H3 : Hid (∃ qs : List (Sb × Value), qs.map Prod.fst = RS ∧ OwnD wC w2.heap.size V qs) := Lib.hid ⟨rs, hrs, hV.lower hBc.size⟩
      clear hrs hV H1 H2
      replace hxc := hxc.keep hbC hxc.lt
      replace hoc := hoc.keep hbC hoc.lt
      replace hZ := hZ.keep hbC hZ.lt
      replace hBc := hBc.trans (hbC.mono hBc.size)
      refine hK _ _ ⟨⟨hxc, hoc⟩, fun _ => trivial⟩ (fun hS => ?_)
      clear hK K hS hbC
      refine wpAnyT_takesA (md := .any) 2 (by kernel_rfl) (by intro d v c a w h; cases d <;> exact h) [5, 6, 7] _ _ _ (by decide) (by kernel_rfl) ⟨⟨hxc, hoc⟩, fun _ => trivial⟩ ?_
      simp only [pick, List.filterMap_cons, List.filterMap_nil, List.getElem?_cons_zero, List.getElem?_cons_succ]
      refine wpIf_step (.tuple #[.agg #[V], .bool b]) (by kernel_rfl) (fun w hw => by go_simp) ?_
      refine wpIf_step (.agg #[V]) (by kernel_rfl) (fun w hw => by go_simp) ?_
      refine wpIf_step (.bool b) (by kernel_rfl) (fun w hw => by go_simp) ?_
      refine wpIf_nil (fun hS => ?_)
      clear hS
      obtain ⟨qs, hqs, hV⟩ := H3.out
      obtain ⟨Va, Vc, hVe⟩ := hV.1.slice
      obtain ⟨Vn, hVn⟩ : ∃ n, n = qs.length := ⟨_, rfl⟩
      rw [← hVn] at hVe
      clear hVn
      subst hVe
      have z0 := hZ.cell 0 _ rfl
      have zf := hZ.free
      have hZ2 := hZ.set 0 (.slice Va Vn Vc)
      have hx2 := hxc.other ⟨gz, 0, none⟩ (.slice Va Vn Vc) (show w.heap.size ≠ gz by omega)
      have ho2 := hoc.other ⟨gz, 0, none⟩ (.slice Va Vn Vc) (show w.heap.size + 1 ≠ gz by omega)
      have hB2 := hBc.setCell (p := ⟨gz, 0, none⟩) hgW (.slice Va Vn Vc)
      have hV2 := hV.offBox hZ (.slice Va Vn Vc)
      refine wpAnyT_one 9 1 (by kernel_rfl) rfl (by kernel_rfl) (fun K hK => ?_)
      go_simp
      refine hK _ _ ⟨⟨hx2, ho2⟩, fun _ => trivial⟩ (fun hS => ?_)
      clear hK K hS z0 zf
      refine wpAnyT_one 10 0 (by kernel_rfl) rfl (by kernel_rfl) (fun K hK => ?_)
      go_simp
      refine hK _ _ ⟨⟨hx2, ho2⟩, fun _ => trivial⟩ (fun hS => ?_)
      clear hK K hS
      refine wpAnyT_over (by kernel_rfl) ?_
      go_wp2_with fail
      go_meet
      exact ⟨gz, .slice Va Vn Vc, qs, rfl, rfl, hgW, hB2, hZ2, hqs, hV2⟩
  case rest =>
  obtain ⟨g6, V6, q6, rfl, rfl, hg6, hb, h6, hq6, hD6⟩ := hcut
  obtain ⟨Va6, Vc6, hVe⟩ := hD6.1.slice
  obtain ⟨Vn6, hVn⟩ : ∃ n, n = q6.length := ⟨_, rfl⟩
  rw [← hVn] at hVe
  clear hVn
  subst hVe
  have HW6 : Hid (SbAt wc wc.heap.size (.slice Va6 Vn6 Vc6) RS) := Lib.hid (hD6.at hq6 HRz.out)
  clear hq6 hD6 HSp
  replace hx := hx.keep hb hx.lt
  replace ho := ho.keep hb ho.lt
  have hB := hB2.trans (hb.mono hB2.size)
  clear hB2 hb
  have hcs : wc.heap.size ≤ wc.heap.size := Nat.le_refl _
  have h6c := h6.lt
  have hwc2 : w.heap.size + 2 ≤ wc.heap.size := by have := ho.lt; omega
  have hwc : w.heap.size ≤ wc.heap.size := by omega
  have x0 : wc.cell? ⟨w.heap.size, 0, none⟩ = some x := hx.cell 0 _ rfl
  go_wp2_with fail
  clear x0
  refine (toReader_D x ss _ (HSA0.out _ hB) HN.out.1 HN.out.2).mono ?_
  rintro e w3 ⟨X, q8, rfl, hq8, hD8, hb3⟩
  obtain ⟨Xa, Xc, hXe⟩ := hD8.1.slice
  obtain ⟨Xn, hXn⟩ : ∃ n, n = q8.length := ⟨_, rfl⟩
  rw [← hXn] at hXe
  clear hXn
  subst hXe
  have HQ8 := Lib.hid hq8
  have HD8 := Lib.hid hD8
  have HL8 := Lib.hid hD8.lt
  have hcw3 := hb3.size
  replace hx := hx.keep hb3 hx.lt
  replace ho := ho.keep hb3 ho.lt
  replace h6 := h6.keep hb3 h6.lt
  replace HW6 := Lib.hid (HW6.out.below (hb3.mono hcs))
  replace hB := hB.trans (hb3.mono hB.size)
  replace hcs : wc.heap.size ≤ w3.heap.size := hcw3
  clear hb3 hq8 hD8
  have hba : Below w3.heap.size w3 (w3.alloc (.cells #[.slice Xa Xn Xc] 34)) := (Below.refl _ _).alloc (Nat.le_refl _) _
  have h8 := Box.new w3 #[.slice Xa Xn Xc] 34
  replace hx := hx.keep hba hx.lt
  replace ho := ho.keep hba ho.lt
  replace h6 := h6.keep hba h6.lt
  replace HW6 := Lib.hid (HW6.out.below (hba.mono hcs))
  replace HD8 := Lib.hid (HD8.out.keep hba (Nat.le_refl _))
  replace hB := hB.trans (hba.mono hB.size)
  replace hcs : wc.heap.size ≤ (w3.alloc (.cells #[.slice Xa Xn Xc] 34)).heap.size := Nat.le_trans hcs hba.size
  have hs3 : w3.heap.size < (w3.alloc (.cells #[.slice Xa Xn Xc] 34)).heap.size := h8.lt
  clear hba
  have d0 : (w3.alloc (.cells #[.slice Xa Xn Xc] 34)).cell? ⟨w.heap.size + 1, 0, none⟩ = some (.int .i64 o.k) := ho.cell 0 _ rfl
  have d1 : (w3.alloc (.cells #[.slice Xa Xn Xc] 34)).cell? ⟨w.heap.size + 1, 1, none⟩ = some (.string o.u) := ho.cell 1 _ rfl
  have d2 : (w3.alloc (.cells #[.slice Xa Xn Xc] 34)).cell? ⟨w.heap.size + 1, 2, none⟩ = some (.string o.i) := ho.cell 2 _ rfl
  have d3 : (w3.alloc (.cells #[.slice Xa Xn Xc] 34)).cell? ⟨w.heap.size + 1, 3, none⟩ = some (.int .i64 o.d) := ho.cell 3 _ rfl
  have d4 : (w3.alloc (.cells #[.slice Xa Xn Xc] 34)).cell? ⟨w.heap.size + 1, 4, none⟩ = some (.string o.fu) := ho.cell 4 _ rfl
  have d5 : (w3.alloc (.cells #[.slice Xa Xn Xc] 34)).cell? ⟨w.heap.size + 1, 5, none⟩ = some (.string o.ft) := ho.cell 5 _ rfl
  have d6 : (w3.alloc (.cells #[.slice Xa Xn Xc] 34)).cell? ⟨w.heap.size + 1, 6, none⟩ = some (y) := ho.cell 6 _ rfl
  go_wp2_with fail
  clear d0 d1 d2 d3 d4 d5 d6
  generalize w3.alloc (.cells #[.slice Xa Xn Xc] 34) = W3 at hx ho h6 h8 HD8 HW6 hcs hs3 hB ⊢
  refine (toOp_any o y W3 (HIA0.out _ hB) HZo.out HNi.out).mono ?_
  rintro e w4 ⟨Y, rfl, hY, hb4⟩
  have HY := Lib.hid hY
  have HLy : Hid (∀ b, Y.ownBlock = some b → b < w4.heap.size) := Lib.hid (fun b hb => (World.ownsRow.lt hY b hb).2)
  obtain ⟨Ya, Yc, hYe⟩ := hY.slice
  subst hYe
  have hs4 := hb4.size
  replace hx := hx.keep hb4 hx.lt
  replace ho := ho.keep hb4 ho.lt
  replace h6 := h6.keep hb4 h6.lt
  replace h8 := h8.keep hb4 h8.lt
  replace HW6 := Lib.hid (HW6.out.below (hb4.mono hcs))
  replace HD8 := Lib.hid (HD8.out.keep hb4 (Nat.le_refl _))
  replace hB := hB.trans (hb4.mono hB.size)
  replace hcs : wc.heap.size ≤ w4.heap.size := Nat.le_trans hcs hs4
  clear hb4 hY
  have hba : Below w4.heap.size w4 (w4.alloc (.cells #[.int .i64 o.k, .string o.u, .string o.i, .int .i64 o.d, .string o.fu, .string o.ft, .slice Ya o.its.length Yc] 42)) := (Below.refl _ _).alloc (Nat.le_refl _) _
  have h9 := Box.new w4 #[.int .i64 o.k, .string o.u, .string o.i, .int .i64 o.d, .string o.fu, .string o.ft, .slice Ya o.its.length Yc] 42
  replace hx := hx.keep hba hx.lt
  replace ho := ho.keep hba ho.lt
  replace h6 := h6.keep hba h6.lt
  replace h8 := h8.keep hba h8.lt
  replace HW6 := Lib.hid (HW6.out.below (hba.mono hcs))
  replace HD8 := Lib.hid (HD8.out.keep hba (Nat.le_refl _))
  replace HY := Lib.hid (HY.out.keep hba (Nat.le_refl _))
  replace hB := hB.trans (hba.mono hB.size)
  replace hcs : wc.heap.size ≤ (w4.alloc (.cells #[.int .i64 o.k, .string o.u, .string o.i, .int .i64 o.d, .string o.fu, .string o.ft, .slice Ya o.its.length Yc] 42)).heap.size := Nat.le_trans hcs hba.size
  have hs5 : w4.heap.size < (w4.alloc (.cells #[.int .i64 o.k, .string o.u, .string o.i, .int .i64 o.d, .string o.fu, .string o.ft, .slice Ya o.its.length Yc] 42)).heap.size := h9.lt
  clear hba
  have e0 : (w4.alloc (.cells #[.int .i64 o.k, .string o.u, .string o.i, .int .i64 o.d, .string o.fu, .string o.ft, .slice Ya o.its.length Yc] 42)).cell? ⟨w3.heap.size, 0, none⟩ = some (.slice Xa Xn Xc) := h8.cell 0 _ rfl
  have d0 : (w4.alloc (.cells #[.int .i64 o.k, .string o.u, .string o.i, .int .i64 o.d, .string o.fu, .string o.ft, .slice Ya o.its.length Yc] 42)).cell? ⟨w4.heap.size, 0, none⟩ = some (.int .i64 o.k) := h9.cell 0 _ rfl
  have d1 : (w4.alloc (.cells #[.int .i64 o.k, .string o.u, .string o.i, .int .i64 o.d, .string o.fu, .string o.ft, .slice Ya o.its.length Yc] 42)).cell? ⟨w4.heap.size, 1, none⟩ = some (.string o.u) := h9.cell 1 _ rfl
  have d2 : (w4.alloc (.cells #[.int .i64 o.k, .string o.u, .string o.i, .int .i64 o.d, .string o.fu, .string o.ft, .slice Ya o.its.length Yc] 42)).cell? ⟨w4.heap.size, 2, none⟩ = some (.string o.i) := h9.cell 2 _ rfl
  have d3 : (w4.alloc (.cells #[.int .i64 o.k, .string o.u, .string o.i, .int .i64 o.d, .string o.fu, .string o.ft, .slice Ya o.its.length Yc] 42)).cell? ⟨w4.heap.size, 3, none⟩ = some (.int .i64 o.d) := h9.cell 3 _ rfl
  have d4 : (w4.alloc (.cells #[.int .i64 o.k, .string o.u, .string o.i, .int .i64 o.d, .string o.fu, .string o.ft, .slice Ya o.its.length Yc] 42)).cell? ⟨w4.heap.size, 4, none⟩ = some (.string o.fu) := h9.cell 4 _ rfl
  have d5 : (w4.alloc (.cells #[.int .i64 o.k, .string o.u, .string o.i, .int .i64 o.d, .string o.fu, .string o.ft, .slice Ya o.its.length Yc] 42)).cell? ⟨w4.heap.size, 5, none⟩ = some (.string o.ft) := h9.cell 5 _ rfl
  have d6 : (w4.alloc (.cells #[.int .i64 o.k, .string o.u, .string o.i, .int .i64 o.d, .string o.fu, .string o.ft, .slice Ya o.its.length Yc] 42)).cell? ⟨w4.heap.size, 6, none⟩ = some (.slice Ya o.its.length Yc) := h9.cell 6 _ rfl
  go_wp2_with fail
  clear d0 d1 d2 d3 d4 d5 d6 e0
  generalize w4.alloc (.cells #[.int .i64 o.k, .string o.u, .string o.i, .int .i64 o.d, .string o.fu, .string o.ft, .slice Ya o.its.length Yc] 42) = W4 at hx ho h6 h8 h9 HD8 HY HW6 hcs hs5 hB ⊢
  refine (HIm.out _ _ W4 (HD8.out.at HQ8.out HSz.out) (ItAt.of_own HY.out HZi.out)).mono ?_
  rintro e w5 ⟨V1, q10, rfl, hq10, hD10, hb5⟩
  obtain ⟨Va1, Vc1, hVe⟩ := hD10.1.slice
  obtain ⟨Vn1, hVn⟩ : ∃ n, n = q10.length := ⟨_, rfl⟩
  rw [← hVn] at hVe
  clear hVn
  subst hVe
  have HQ10 := Lib.hid hq10
  have HD10 := Lib.hid hD10
  have HL10 := Lib.hid hD10.lt
  have hs6 := hb5.size
  replace hx := hx.keep hb5 hx.lt
  replace ho := ho.keep hb5 ho.lt
  replace h6 := h6.keep hb5 h6.lt
  replace h8 := h8.keep hb5 h8.lt
  replace h9 := h9.keep hb5 h9.lt
  replace HW6 := Lib.hid (HW6.out.below (hb5.mono hcs))
  replace HD8 := Lib.hid (HD8.out.keep hb5 (Nat.le_refl _))
  replace HY := Lib.hid (HY.out.keep hb5 (Nat.le_refl _))
  replace hB := hB.trans (hb5.mono hB.size)
  replace hcs : wc.heap.size ≤ w5.heap.size := Nat.le_trans hcs hs6
  clear hb5 hq10 hD10
  have hba : Below w5.heap.size w5 (w5.alloc (.cells #[.slice Va1 Vn1 Vc1] 34)) := (Below.refl _ _).alloc (Nat.le_refl _) _
  have h10 := Box.new w5 #[.slice Va1 Vn1 Vc1] 34
  replace hx := hx.keep hba hx.lt
  replace ho := ho.keep hba ho.lt
  replace h6 := h6.keep hba h6.lt
  replace h8 := h8.keep hba h8.lt
  replace h9 := h9.keep hba h9.lt
  replace HW6 := Lib.hid (HW6.out.below (hba.mono hcs))
  replace HD8 := Lib.hid (HD8.out.keep hba (Nat.le_refl _))
  replace HY := Lib.hid (HY.out.keep hba (Nat.le_refl _))
  replace HD10 := Lib.hid (HD10.out.keep hba (Nat.le_refl _))
  replace hB := hB.trans (hba.mono hB.size)
  replace hcs : wc.heap.size ≤ (w5.alloc (.cells #[.slice Va1 Vn1 Vc1] 34)).heap.size := Nat.le_trans hcs hba.size
  have hs7 : w5.heap.size < (w5.alloc (.cells #[.slice Va1 Vn1 Vc1] 34)).heap.size := h10.lt
  clear hba
  have hbb : (b != b) = false := by cases b <;> rfl
  have e0 : (w5.alloc (.cells #[.slice Va1 Vn1 Vc1] 34)).cell? ⟨w5.heap.size, 0, none⟩ = some (.slice Va1 Vn1 Vc1) := h10.cell 0 _ rfl
  have e1 : (w5.alloc (.cells #[.slice Va1 Vn1 Vc1] 34)).cell? ⟨g6, 0, none⟩ = some (.slice Va6 Vn6 Vc6) := h6.cell 0 _ rfl
  go_wp2_with fail
  clear e0 e1
  generalize w5.alloc (.cells #[.slice Va1 Vn1 Vc1] 34) = W5 at hx ho h6 h8 h9 h10 HD8 HY HD10 HW6 hcs hs7 hB ⊢
  refine (eqReader_same _ _ RS W5 (HD10.out.at HQ10.out HRz.out) (HW6.out.mono hcs)).mono ?_
  rintro e w6 ⟨rfl, hb6⟩
  have hs8 := hb6.size
  replace hx := hx.keep hb6 hx.lt
  replace ho := ho.keep hb6 ho.lt
  replace h6 := h6.keep hb6 h6.lt
  replace h8 := h8.keep hb6 h8.lt
  replace h9 := h9.keep hb6 h9.lt
  replace h10 := h10.keep hb6 h10.lt
  replace HW6 := Lib.hid (HW6.out.below (hb6.mono hcs))
  replace HD8 := Lib.hid (HD8.out.keep hb6 (Nat.le_refl _))
  replace HY := Lib.hid (HY.out.keep hb6 (Nat.le_refl _))
  replace HD10 := Lib.hid (HD10.out.keep hb6 (Nat.le_refl _))
  replace hB := hB.trans (hb6.mono hB.size)
  replace hcs : wc.heap.size ≤ w6.heap.size := Nat.le_trans hcs hs8
  clear hb6
  go_wp2
  have hdrw6 : w6.drew.heap.size = w6.heap.size := rfl
  replace hx := hx.drew
  replace ho := ho.drew
  replace h6 := h6.drew
  replace h8 := h8.drew
  replace h9 := h9.drew
  replace h10 := h10.drew
  replace HD8 := Lib.hid (HD8.out.drew)
  replace HD10 := Lib.hid (HD10.out.drew)
  replace HY : Hid (OwnR 83 3 itC w6.drew W3.heap.size (.slice Ya o.its.length Yc) o.its) := HY
  replace HW6 := Lib.hid HW6.out.drew
  replace hB := hB.drew
  replace hcs : wc.heap.size ≤ w6.drew.heap.size := hcs
  refine wp_region_T (fun w' => Box w' w3.heap.size #[.slice Xa Xn Xc] 34 ∧ Box w' w.heap.size #[x] 24) (fun _ => True) 4 (by kernel_rfl) 5 rfl ?_
  refine wpAnyT_takesA (md := .any) 3 (by kernel_rfl) (by intro d v c a w h; cases d <;> exact h) [0, 1] _ _ _ (by decide) (by kernel_rfl) ⟨⟨h8, hx⟩, fun _ => trivial⟩ ?_
  simp only [pick, List.filterMap_cons, List.filterMap_nil, List.getElem?_cons_zero, List.getElem?_cons_succ]
  refine wpIf_step (.agg #[.slice Xa Xn Xc]) (by kernel_rfl) (fun w hw => by have e0 := hw.1.cell 0 _ rfl; go_simp) ?_
  refine wpIf_step (.agg #[x]) (by kernel_rfl) (fun w hw => by have e0 := hw.2.cell 0 _ rfl; go_simp) ?_
  refine wpIf_nil (fun hS => ?_)
  clear hS
  refine wpAnyT_one 2 2 (by kernel_rfl) rfl (by kernel_rfl) (fun K hK => ?_)
  go_simp
  refine (HTr.out _ (HSA0.out _ hB)).mono ?_
  rintro e w7 ⟨x7, rfl, hx7, hbt⟩
  have H7 : Hid (SbAt w7 w7.heap.size x7 ss) := Lib.hid (OwnS.at hx7 HSz.out)
  clear hx7
  have hsq7 := hbt.size
  replace hx := hx.keep hbt hx.lt
  replace ho := ho.keep hbt ho.lt
  replace h6 := h6.keep hbt h6.lt
  replace h8 := h8.keep hbt h8.lt
  replace h9 := h9.keep hbt h9.lt
  replace h10 := h10.keep hbt h10.lt
  replace HW6 := Lib.hid (HW6.out.below (hbt.mono hcs))
  replace HD8 := Lib.hid (HD8.out.keep hbt (Nat.le_refl _))
  replace HY := Lib.hid (HY.out.keep hbt (Nat.le_refl _))
  replace HD10 := Lib.hid (HD10.out.keep hbt (Nat.le_refl _))
  replace hB := hB.trans (hbt.mono hB.size)
  replace hcs := Nat.le_trans hcs hsq7
  refine hK _ _ ⟨⟨h8, hx⟩, fun _ => trivial⟩ (fun hS => ?_)
  clear hK K hS
  refine wpAnyT_one 3 1 (by kernel_rfl) rfl (by kernel_rfl) (fun K hK => ?_)
  go_simp
  refine (eqReader_same _ _ ss w7 (HD8.out.at HQ8.out HSz.out) H7.out).mono ?_
  rintro e w8 ⟨rfl, hbe⟩
  clear H7
  have hsr7 := hbe.size
  replace hx := hx.keep hbe hx.lt
  replace ho := ho.keep hbe ho.lt
  replace h6 := h6.keep hbe h6.lt
  replace h8 := h8.keep hbe h8.lt
  replace h9 := h9.keep hbe h9.lt
  replace h10 := h10.keep hbe h10.lt
  replace HW6 := Lib.hid (HW6.out.below (hbe.mono hcs))
  replace HD8 := Lib.hid (HD8.out.keep hbe (Nat.le_refl _))
  replace HY := Lib.hid (HY.out.keep hbe (Nat.le_refl _))
  replace HD10 := Lib.hid (HD10.out.keep hbe (Nat.le_refl _))
  replace hB := hB.trans (hbe.mono hB.size)
  replace hcs := Nat.le_trans hcs hsr7
  refine hK _ _ ⟨⟨h8, hx⟩, fun _ => trivial⟩ (fun hS => ?_)
  clear hK K hS
  refine wpAnyT_one 4 0 (by kernel_rfl) rfl (by kernel_rfl) (fun K hK => ?_)
  go_simp
  refine hK _ _ ⟨⟨h8, hx⟩, fun _ => trivial⟩ (fun hS => ?_)
  clear hK K hS
  refine wpAnyT_over (by kernel_rfl) ?_
  clear hbt hbe
  go_wp2
  have hdrw8 : w8.drew.heap.size = w8.heap.size := rfl
  replace hx := hx.drew
  replace ho := ho.drew
  replace h6 := h6.drew
  replace h8 := h8.drew
  replace h9 := h9.drew
  replace h10 := h10.drew
  replace HD8 := Lib.hid (HD8.out.drew)
  replace HD10 := Lib.hid (HD10.out.drew)
  replace HY : Hid (OwnR 83 3 itC w8.drew W3.heap.size (.slice Ya o.its.length Yc) o.its) := HY
  replace HW6 := Lib.hid HW6.out.drew
  replace hB := hB.drew
  replace hcs : wc.heap.size ≤ w8.drew.heap.size := hcs
  refine wp_region_T (fun w' => Box w' w4.heap.size #[.int .i64 o.k, .string o.u, .string o.i, .int .i64 o.d, .string o.fu, .string o.ft, .slice Ya o.its.length Yc] 42 ∧ Box w' (w.heap.size + 1) #[.int .i64 o.k, .string o.u, .string o.i, .int .i64 o.d, .string o.fu, .string o.ft, y] 29) (fun _ => True) 4 (by kernel_rfl) 5 rfl ?_
  refine wpAnyT_takesA (md := .any) 3 (by kernel_rfl) (by intro d v c a w h; cases d <;> exact h) [0, 1] _ _ _ (by decide) (by kernel_rfl) ⟨⟨h9, ho⟩, fun _ => trivial⟩ ?_
  simp only [pick, List.filterMap_cons, List.filterMap_nil, List.getElem?_cons_zero, List.getElem?_cons_succ]
  refine wpIf_step (opV o (.slice Ya o.its.length Yc)) (by kernel_rfl) (fun w hw => by have e0 := hw.1.cell 0 _ rfl; have e1 := hw.1.cell 1 _ rfl; have e2 := hw.1.cell 2 _ rfl; have e3 := hw.1.cell 3 _ rfl; have e4 := hw.1.cell 4 _ rfl; have e5 := hw.1.cell 5 _ rfl; have e6 := hw.1.cell 6 _ rfl; go_simp) ?_
  refine wpIf_step (opV o y) (by kernel_rfl) (fun w hw => by have e0 := hw.2.cell 0 _ rfl; have e1 := hw.2.cell 1 _ rfl; have e2 := hw.2.cell 2 _ rfl; have e3 := hw.2.cell 3 _ rfl; have e4 := hw.2.cell 4 _ rfl; have e5 := hw.2.cell 5 _ rfl; have e6 := hw.2.cell 6 _ rfl; go_simp) ?_
  refine wpIf_nil (fun hS => ?_)
  clear hS
  refine wpAnyT_one 2 2 (by kernel_rfl) rfl (by kernel_rfl) (fun K hK => ?_)
  go_simp
  refine (HTo.out _ (HIA0.out _ hB)).mono ?_
  rintro e w9 ⟨y9, rfl, hy9, hbt⟩
  have H9 : Hid (ItAt w9 w9.heap.size y9 o.its) := Lib.hid (ItAt.of_own hy9 HZi.out)
  clear hy9
  have hsq9 := hbt.size
  replace hx := hx.keep hbt hx.lt
  replace ho := ho.keep hbt ho.lt
  replace h6 := h6.keep hbt h6.lt
  replace h8 := h8.keep hbt h8.lt
  replace h9 := h9.keep hbt h9.lt
  replace h10 := h10.keep hbt h10.lt
  replace HW6 := Lib.hid (HW6.out.below (hbt.mono hcs))
  replace HD8 := Lib.hid (HD8.out.keep hbt (Nat.le_refl _))
  replace HY := Lib.hid (HY.out.keep hbt (Nat.le_refl _))
  replace HD10 := Lib.hid (HD10.out.keep hbt (Nat.le_refl _))
  replace hB := hB.trans (hbt.mono hB.size)
  replace hcs := Nat.le_trans hcs hsq9
  refine hK _ _ ⟨⟨h9, ho⟩, fun _ => trivial⟩ (fun hS => ?_)
  clear hK K hS
  refine wpAnyT_one 3 1 (by kernel_rfl) rfl (by kernel_rfl) (fun K hK => ?_)
  go_simp
  refine (eqOp_same o _ _ w9 (ItAt.of_own HY.out HZi.out) H9.out HZo.out).mono ?_
  rintro e w10 ⟨rfl, hbe⟩
  clear H9
  have hsr9 := hbe.size
  replace hx := hx.keep hbe hx.lt
  replace ho := ho.keep hbe ho.lt
  replace h6 := h6.keep hbe h6.lt
  replace h8 := h8.keep hbe h8.lt
  replace h9 := h9.keep hbe h9.lt
  replace h10 := h10.keep hbe h10.lt
  replace HW6 := Lib.hid (HW6.out.below (hbe.mono hcs))
  replace HD8 := Lib.hid (HD8.out.keep hbe (Nat.le_refl _))
  replace HY := Lib.hid (HY.out.keep hbe (Nat.le_refl _))
  replace HD10 := Lib.hid (HD10.out.keep hbe (Nat.le_refl _))
  replace hB := hB.trans (hbe.mono hB.size)
  replace hcs := Nat.le_trans hcs hsr9
  refine hK _ _ ⟨⟨h9, ho⟩, fun _ => trivial⟩ (fun hS => ?_)
  clear hK K hS
  refine wpAnyT_one 4 0 (by kernel_rfl) rfl (by kernel_rfl) (fun K hK => ?_)
  go_simp
  refine hK _ _ ⟨⟨h9, ho⟩, fun _ => trivial⟩ (fun hS => ?_)
  clear hK K hS
  refine wpAnyT_over (by kernel_rfl) ?_
  clear hbt hbe
  have f0 : w10.cell? ⟨w3.heap.size, 0, none⟩ = some (.slice Xa Xn Xc) := h8.cell 0 _ rfl
  have hMs := Lib.hid (maOk_one HN.out.1 HN.out.2)
  go_wp2_with fail
  clear f0
  have hw10 : wc.heap.size ≤ w10.heap.size := hcs
  refine (markReader_any _ q8 ss wc.heap.size w3.heap.size 1 w10 HD8.out HQ8.out hcs (Nat.le_of_lt h8.lt) HL8.out.1 HL8.out.2 hMs.out HN.out.1).mono ?_
  rintro e w11 ⟨q8b, rfl, _, _, hM11⟩
  have hm1 := maN_pos hMs.out
  obtain ⟨hm1a, hm1b⟩ := hm1
  generalize maN ss 1 = M1 at hm1a hm1b ⊢
  replace h9 := h9.mid hM11 (.inr (by omega))
  replace h10 := h10.mid hM11 (.inr (by omega))
  replace h6 := h6.mid hM11 (.inl h6c)
  replace hx := hx.mid hM11 (.inl (by omega))
  replace ho := ho.mid hM11 (.inl (by omega))
  replace HD10 := Lib.hid (HD10.out.mid hM11 (by omega))
  replace HY := Lib.hid (HY.out.mid hM11 (by omega))
  replace HW6 := Lib.hid (HW6.out.mid hM11 (Nat.le_refl _))
  replace hB := hB.trans (hM11.1.mono hwc)
  have hs11 := hM11.1.size
  clear hM11 HD8 h8
  have d0 : w11.cell? ⟨w4.heap.size, 0, none⟩ = some (.int .i64 o.k) := h9.cell 0 _ rfl
  have d1 : w11.cell? ⟨w4.heap.size, 1, none⟩ = some (.string o.u) := h9.cell 1 _ rfl
  have d2 : w11.cell? ⟨w4.heap.size, 2, none⟩ = some (.string o.i) := h9.cell 2 _ rfl
  have d3 : w11.cell? ⟨w4.heap.size, 3, none⟩ = some (.int .i64 o.d) := h9.cell 3 _ rfl
  have d4 : w11.cell? ⟨w4.heap.size, 4, none⟩ = some (.string o.fu) := h9.cell 4 _ rfl
  have d5 : w11.cell? ⟨w4.heap.size, 5, none⟩ = some (.string o.ft) := h9.cell 5 _ rfl
  have d6 : w11.cell? ⟨w4.heap.size, 6, none⟩ = some (.slice Ya o.its.length Yc) := h9.cell 6 _ rfl
  go_wp2_with fail
  clear d0 d1 d2 d3 d4 d5 d6
  refine (markOp_any o _ W3.heap.size w4.heap.size M1 w11 HY.out (by omega) HLy.out hm1a (by omega) HNi.out).mono ?_
  rintro e w12 ⟨rfl, hM12⟩
  have hni2 := HNi.out
  have hk0 : decide (M1 + 3 * (o.its.length : Int) < 0) = false := decide_eq_false (by omega)
  have hk1 : M1 + 3 * (o.its.length : Int) ≤ 20000000000000 := by omega
  have hk2 : 0 < M1 + 3 * (o.its.length : Int) := by omega
  generalize M1 + 3 * (o.its.length : Int) = M2 at hk0 hk1 hk2 ⊢
  clear hni2
  replace h10 := h10.mid hM12 (.inr (by omega))
  replace h6 := h6.mid hM12 (.inl (by omega))
  replace hx := hx.mid hM12 (.inl (by omega))
  replace ho := ho.mid hM12 (.inl (by omega))
  replace HD10 := Lib.hid (HD10.out.mid hM12 (by omega))
  replace HW6 := Lib.hid (HW6.out.mid hM12 (by omega))
  replace hB := hB.trans (hM12.1.mono (by omega))
  have hs12 := hM12.1.size
  clear hM12 HY h9
  have e0 : w12.cell? ⟨w5.heap.size, 0, none⟩ = some (.slice Va1 Vn1 Vc1) := h10.cell 0 _ rfl
  have e1 : w12.cell? ⟨g6, 0, none⟩ = some (.slice Va6 Vn6 Vc6) := h6.cell 0 _ rfl
  go_wp2_with fail
  clear e0 e1
  have hcs12 : wc.heap.size ≤ w12.heap.size := by omega
  clear hcs
  have hcs := hcs12
  clear hcs12
  refine (eqReader_same _ _ RS w12 (HD10.out.at HQ10.out HRz.out) (HW6.out.mono hcs)).mono ?_
  rintro e w13 ⟨rfl, hb13⟩
  have hs13 := hb13.size
  replace hx := hx.keep hb13 hx.lt
  replace ho := ho.keep hb13 ho.lt
  replace h6 := h6.keep hb13 h6.lt
  replace h10 := h10.keep hb13 h10.lt
  replace HD10 := Lib.hid (HD10.out.keep hb13 (Nat.le_refl _))
  replace HW6 := Lib.hid (HW6.out.below (hb13.mono hcs))
  replace hB := hB.trans (hb13.mono hB.size)
  replace hcs : wc.heap.size ≤ w13.heap.size := Nat.le_trans hcs hs13
  clear hb13
  have e0 : w13.cell? ⟨w5.heap.size, 0, none⟩ = some (.slice Va1 Vn1 Vc1) := h10.cell 0 _ rfl
  have hMr := Lib.hid (maOk_one HRl.out.1 HRl.out.2)
  go_wp2_with fail
  clear e0
  refine (markReader_any _ q10 RS W4.heap.size w5.heap.size 1 w13 HD10.out HQ10.out (by omega) (by omega) HL10.out.1 HL10.out.2 hMr.out HRl.out.1).mono ?_
  rintro e w14 ⟨q10b, rfl, hqb, hDb, hM14⟩
  have HDb := Lib.hid (hDb.at hqb (maS_sz RS 1))
  clear hqb hDb
  have HHd := Lib.hid (fun (w : World) (h : SbAt w w.heap.size (.slice Va1 Vn1 Vc1) (maS RS 1)) => heldReader_any _ RS 1 w h hMr.out HRl.out.1)
  obtain ⟨hm3a, hm3b⟩ := maN_pos hMr.out
  clear hMr
  generalize maN RS 1 = M3 at hm3a hm3b HHd ⊢
  replace h10 := h10.mid hM14 (.inr (Nat.le_refl _))
  replace h6 := h6.mid hM14 (.inl (by omega))
  replace hx := hx.mid hM14 (.inl (by omega))
  replace ho := ho.mid hM14 (.inl (by omega))
  replace HW6 := Lib.hid (HW6.out.mid hM14 (by omega))
  replace hB := hB.trans (hM14.1.mono (by omega))
  have hs14 := hM14.1.size
  clear hM14 HD10
  have hcs14 : wc.heap.size ≤ w14.heap.size := by omega
  clear hcs
  have hcs := hcs14
  clear hcs14
  have hn3 : decide (M3 < 0) = false := decide_eq_false (by omega)
  have hne3 : (M3 != M3) = false := by simp
  have e0 : w14.cell? ⟨w5.heap.size, 0, none⟩ = some (.slice Va1 Vn1 Vc1) := h10.cell 0 _ rfl
  go_wp2_with fail
  clear e0
  refine (HHd.out w14 HDb.out).mono ?_
  rintro e w15 ⟨rfl, hb15⟩
  have hs15 := hb15.size
  replace HDb := Lib.hid ((HDb.out.below hb15).mono hs15)
  replace hx := hx.keep hb15 hx.lt
  replace ho := ho.keep hb15 ho.lt
  replace h6 := h6.keep hb15 h6.lt
  replace h10 := h10.keep hb15 h10.lt
  replace HW6 := Lib.hid (HW6.out.below (hb15.mono hcs))
  replace hB := hB.trans (hb15.mono hB.size)
  replace hcs : wc.heap.size ≤ w15.heap.size := Nat.le_trans hcs hs15
  clear hb15
  have HSA2 : Hid (∀ W, Below w15.heap.size w15 W → SbAt W W.heap.size x ss) := Lib.hid (fun W hW => HSA0.out W (hB.trans (hW.mono hB.size)))
  have HIA2 : Hid (∀ W, Below w15.heap.size w15 W → ItAt W W.heap.size y o.its) := Lib.hid (fun W hW => HIA0.out W (hB.trans (hW.mono hB.size)))
  go_upto_region 31 with fail
  go_cut [15, 16] from 94 to 101 (fun s15 s16 wy => ∃ (g : Nat) (V : Value) (qs : List (Sb × Value)), s15 = .pointer (some ⟨g, 0, none⟩) ∧ s16 = .bool b ∧ w15.heap.size ≤ g ∧ Below w15.heap.size w15 wy ∧ Box wy g #[V] 34 ∧ qs.map Prod.fst = RS ∧ OwnD wy w15.heap.size V qs)
  case first =>
    have hxc := hx.drew
    have hoc := ho.drew
    have hBc : Below w15.heap.size w15 w15.drew := (Below.refl _ _).drew
    refine wp_region_T (fun w' => Box w' w.heap.size #[x] 24 ∧ Box w' (w.heap.size + 1) #[.int .i64 o.k, .string o.u, .string o.i, .int .i64 o.d, .string o.fu, .string o.ft, y] 29) (fun _ => True) 10 (by kernel_rfl) 11 rfl ?_
    refine wpAnyT_takesA (md := .any) 9 (by kernel_rfl) (by intro d v c a w h; cases d <;> exact h) [0, 2] _ _ _ (by decide) (by kernel_rfl) ⟨⟨hxc, hoc⟩, fun _ => trivial⟩ ?_
    simp only [pick, List.filterMap_cons, List.filterMap_nil, List.getElem?_cons_zero, List.getElem?_cons_succ]
    refine wpIf_step (.agg #[x]) (by kernel_rfl) (fun w hw => by have e0 := hw.1.cell 0 _ rfl; go_simp) ?_
    refine wpIf_step (opV o y) (by kernel_rfl) (fun w hw => by have e0 := hw.2.cell 0 _ rfl; have e1 := hw.2.cell 1 _ rfl; have e2 := hw.2.cell 2 _ rfl; have e3 := hw.2.cell 3 _ rfl; have e4 := hw.2.cell 4 _ rfl; have e5 := hw.2.cell 5 _ rfl; have e6 := hw.2.cell 6 _ rfl; go_simp) ?_
    refine wpIf_nil (fun hS => ?_)
    clear hS
    generalize w15.drew = WD at hxc hoc hBc ⊢
    refine wpAnyT_pair 1 8 8 (by kernel_rfl) rfl rfl (by kernel_rfl) (by kernel_rfl) (fun K hK => ?_) (fun K hK => ?_)
    · go_simp
      refine (HTr.out _ (HSA2.out _ hBc)).mono ?_
      rintro e wA ⟨v1, rfl, hv1, hbA⟩
      have H1 : Hid (SbAt wA wA.heap.size v1 ss) := Lib.hid (OwnS.at hv1 HSz.out)
      clear hv1
      replace hxc := hxc.keep hbA hxc.lt
      replace hoc := hoc.keep hbA hoc.lt
      replace hBc := hBc.trans (hbA.mono hBc.size)
      refine hK _ _ ⟨⟨hxc, hoc⟩, fun _ => trivial⟩ (fun hS => ?_)
      clear hK K hS hbA
      refine wpAnyT_pair 3 8 7 (by kernel_rfl) rfl rfl (by kernel_rfl) (by kernel_rfl) (fun K hK => ?_) (fun K hK => ?_)
      · go_simp
        refine (HTo.out _ (HIA2.out _ hBc)).mono ?_
        rintro e wB ⟨y1, rfl, hy1, hbB⟩
        have H2 : Hid (ItAt wB wB.heap.size y1 o.its) := Lib.hid (ItAt.of_own hy1 HZi.out)
        replace H1 := Lib.hid ((H1.out.below hbB).mono hbB.size)
        clear hy1
        replace hxc := hxc.keep hbB hxc.lt
        replace hoc := hoc.keep hbB hoc.lt
        replace hBc := hBc.trans (hbB.mono hBc.size)
        refine hK _ _ ⟨⟨hxc, hoc⟩, fun _ => trivial⟩ (fun hS => ?_)
        clear hK K hS hbB
        refine wpAnyT_pair 4 8 6 (by kernel_rfl) rfl rfl (by kernel_rfl) (by kernel_rfl) (fun K hK => ?_) (fun K hK => ?_)
        · go_simp
          refine (HIm.out v1 y1 _ H1.out H2.out).mono ?_
          rintro e wC ⟨V, rs, rfl, hrs, hV, hbC⟩
          have H3 : Hid (∃ qs : List (Sb × Value), qs.map Prod.fst = RS ∧ OwnD wC w15.heap.size V qs) := Lib.hid ⟨rs, hrs, hV.lower hBc.size⟩
          clear hrs hV H1 H2
          replace hxc := hxc.keep hbC hxc.lt
          replace hoc := hoc.keep hbC hoc.lt
          replace hBc := hBc.trans (hbC.mono hBc.size)
          refine hK _ _ ⟨⟨hxc, hoc⟩, fun _ => trivial⟩ (fun hS => ?_)
          clear hK K hS hbC
          refine wpAnyT_takesA (md := .any) 3 (by kernel_rfl) (by intro d v c a w h; cases d <;> exact h) [5, 6, 7] _ _ _ (by decide) (by kernel_rfl) ⟨⟨hxc, hoc⟩, fun _ => trivial⟩ ?_
          simp only [pick, List.filterMap_cons, List.filterMap_nil, List.getElem?_cons_zero, List.getElem?_cons_succ]
          refine wpIf_step (.tuple #[.agg #[V], .bool b]) (by kernel_rfl) (fun w hw => by go_simp) ?_
          refine wpIf_step (.agg #[V]) (by kernel_rfl) (fun w hw => by go_simp) ?_
          refine wpIf_step (.bool b) (by kernel_rfl) (fun w hw => by go_simp) ?_
          refine wpIf_nil (fun hS => ?_)
          clear hS
          refine wpAnyT_one 8 2 (by kernel_rfl) rfl (by kernel_rfl) (fun K hK => ?_)
          go_simp
          have hZ := Box.new (wC) #[.slice none 0 0] 34
          have hba : Below (wC).heap.size (wC) (wC.alloc (.cells #[.slice none 0 0] 34)) := (Below.refl _ _).alloc (Nat.le_refl _) _
          have hgW : w15.heap.size ≤ (wC).heap.size := hBc.size
          have hgx : w.heap.size < (wC).heap.size := hxc.lt
          have hgo : w.heap.size + 1 < (wC).heap.size := hoc.lt
          replace hxc := hxc.keep hba hxc.lt
          replace hoc := hoc.keep hba hoc.lt
          replace H3 : Hid (∃ qs : List (Sb × Value), qs.map Prod.fst = RS ∧ OwnD (wC.alloc (.cells #[.slice none 0 0] 34)) w15.heap.size V qs) := Lib.hid (by obtain ⟨qs, h1, h2⟩ := H3.out; exact ⟨qs, h1, h2.keep hba (Nat.le_refl _)⟩)
          replace hBc := hBc.trans (hba.mono hBc.size)
          clear hba
          refine hK _ _ ⟨⟨hxc, hoc⟩, fun _ => trivial⟩ (fun hS => ?_)
          clear hK K hS
          generalize wC.alloc (.cells #[.slice none 0 0] 34) = WZ at hxc hoc hBc hZ H3 ⊢
          generalize (wC).heap.size = gz at hZ hgW hgx hgo ⊢
          obtain ⟨qs, hqs, hV⟩ := H3.out
          obtain ⟨Va, Vc, hVe⟩ := hV.1.slice
          obtain ⟨Vn, hVn⟩ : ∃ n, n = qs.length := ⟨_, rfl⟩
          rw [← hVn] at hVe
          clear hVn
          subst hVe
          have z0 := hZ.cell 0 _ rfl
          have zf := hZ.free
          have hZ2 := hZ.set 0 (.slice Va Vn Vc)
          have hx2 := hxc.other ⟨gz, 0, none⟩ (.slice Va Vn Vc) (show w.heap.size ≠ gz by omega)
          have ho2 := hoc.other ⟨gz, 0, none⟩ (.slice Va Vn Vc) (show w.heap.size + 1 ≠ gz by omega)
          have hB2 := hBc.setCell (p := ⟨gz, 0, none⟩) hgW (.slice Va Vn Vc)
          have hV2 := hV.offBox hZ (.slice Va Vn Vc)
          refine wpAnyT_one 9 1 (by kernel_rfl) rfl (by kernel_rfl) (fun K hK => ?_)
          go_simp
          refine hK _ _ ⟨⟨hx2, ho2⟩, fun _ => trivial⟩ (fun hS => ?_)
          clear hK K hS z0 zf
          refine wpAnyT_one 10 0 (by kernel_rfl) rfl (by kernel_rfl) (fun K hK => ?_)
          go_simp
          refine hK _ _ ⟨⟨hx2, ho2⟩, fun _ => trivial⟩ (fun hS => ?_)
          clear hK K hS
          refine wpAnyT_over (by kernel_rfl) ?_
          go_wp2_with fail
          go_meet
          exact ⟨gz, .slice Va Vn Vc, qs, rfl, rfl, hgW, hB2, hZ2, hqs, hV2⟩
        · go_simp
          have hZ := Box.new (wB) #[.slice none 0 0] 34
          have hba : Below (wB).heap.size (wB) (wB.alloc (.cells #[.slice none 0 0] 34)) := (Below.refl _ _).alloc (Nat.le_refl _) _
          have hgW : w15.heap.size ≤ (wB).heap.size := hBc.size
          have hgx : w.heap.size < (wB).heap.size := hxc.lt
          have hgo : w.heap.size + 1 < (wB).heap.size := hoc.lt
          replace hxc := hxc.keep hba hxc.lt
          replace hoc := hoc.keep hba hoc.lt
          replace H1 := Lib.hid ((H1.out.below hba).mono hba.size)
          replace H2 := Lib.hid ((H2.out.below hba).mono hba.size)
          replace hBc := hBc.trans (hba.mono hBc.size)
          clear hba
          refine hK _ _ ⟨⟨hxc, hoc⟩, fun _ => trivial⟩ (fun hS => ?_)
          clear hK K hS
          generalize wB.alloc (.cells #[.slice none 0 0] 34) = WZ at hxc hoc hBc hZ H1 H2 ⊢
          generalize (wB).heap.size = gz at hZ hgW hgx hgo ⊢
          refine wpAnyT_one 4 5 (by kernel_rfl) rfl (by kernel_rfl) (fun K hK => ?_)
          go_simp
          refine (HIm.out v1 y1 _ H1.out H2.out).mono ?_
          rintro e wC ⟨V, rs, rfl, hrs, hV, hbC⟩
          have H3 : Hid (∃ qs : List (Sb × Value), qs.map Prod.fst = RS ∧ OwnD wC w15.heap.size V qs) := Lib.hid ⟨rs, hrs, hV.lower hBc.size⟩
          clear hrs hV H1 H2
          replace hxc := hxc.keep hbC hxc.lt
          replace hoc := hoc.keep hbC hoc.lt
          replace hZ := hZ.keep hbC hZ.lt
          replace hBc := hBc.trans (hbC.mono hBc.size)
          refine hK _ _ ⟨⟨hxc, hoc⟩, fun _ => trivial⟩ (fun hS => ?_)
          clear hK K hS hbC
          refine wpAnyT_takesA (md := .any) 2 (by kernel_rfl) (by intro d v c a w h; cases d <;> exact h) [5, 6, 7] _ _ _ (by decide) (by kernel_rfl) ⟨⟨hxc, hoc⟩, fun _ => trivial⟩ ?_
          simp only [pick, List.filterMap_cons, List.filterMap_nil, List.getElem?_cons_zero, List.getElem?_cons_succ]
          refine wpIf_step (.tuple #[.agg #[V], .bool b]) (by kernel_rfl) (fun w hw => by go_simp) ?_
          refine wpIf_step (.agg #[V]) (by kernel_rfl) (fun w hw => by go_simp) ?_
          refine wpIf_step (.bool b) (by kernel_rfl) (fun w hw => by go_simp) ?_
          refine wpIf_nil (fun hS => ?_)
          clear hS
          obtain ⟨qs, hqs, hV⟩ := H3.out
          obtain ⟨Va, Vc, hVe⟩ := hV.1.slice
          obtain ⟨Vn, hVn⟩ : ∃ n, n = qs.length := ⟨_, rfl⟩
          rw [← hVn] at hVe
          clear hVn
          subst hVe
          have z0 := hZ.cell 0 _ rfl
          have zf := hZ.free
          have hZ2 := hZ.set 0 (.slice Va Vn Vc)
          have hx2 := hxc.other ⟨gz, 0, none⟩ (.slice Va Vn Vc) (show w.heap.size ≠ gz by omega)
          have ho2 := hoc.other ⟨gz, 0, none⟩ (.slice Va Vn Vc) (show w.heap.size + 1 ≠ gz by omega)
          have hB2 := hBc.setCell (p := ⟨gz, 0, none⟩) hgW (.slice Va Vn Vc)
          have hV2 := hV.offBox hZ (.slice Va Vn Vc)
          refine wpAnyT_one 9 1 (by kernel_rfl) rfl (by kernel_rfl) (fun K hK => ?_)
          go_simp
          refine hK _ _ ⟨⟨hx2, ho2⟩, fun _ => trivial⟩ (fun hS => ?_)
          clear hK K hS z0 zf
          refine wpAnyT_one 10 0 (by kernel_rfl) rfl (by kernel_rfl) (fun K hK => ?_)
          go_simp
          refine hK _ _ ⟨⟨hx2, ho2⟩, fun _ => trivial⟩ (fun hS => ?_)
          clear hK K hS
          refine wpAnyT_over (by kernel_rfl) ?_
          go_wp2_with fail
          go_meet
          exact ⟨gz, .slice Va Vn Vc, qs, rfl, rfl, hgW, hB2, hZ2, hqs, hV2⟩
      · go_simp
        have hZ := Box.new (wA) #[.slice none 0 0] 34
        have hba : Below (wA).heap.size (wA) (wA.alloc (.cells #[.slice none 0 0] 34)) := (Below.refl _ _).alloc (Nat.le_refl _) _
        have hgW : w15.heap.size ≤ (wA).heap.size := hBc.size
        have hgx : w.heap.size < (wA).heap.size := hxc.lt
        have hgo : w.heap.size + 1 < (wA).heap.size := hoc.lt
        replace hxc := hxc.keep hba hxc.lt
        replace hoc := hoc.keep hba hoc.lt
        replace H1 := Lib.hid ((H1.out.below hba).mono hba.size)
        replace hBc := hBc.trans (hba.mono hBc.size)
        clear hba
        refine hK _ _ ⟨⟨hxc, hoc⟩, fun _ => trivial⟩ (fun hS => ?_)
        clear hK K hS
        generalize wA.alloc (.cells #[.slice none 0 0] 34) = WZ at hxc hoc hBc hZ H1 ⊢
        generalize (wA).heap.size = gz at hZ hgW hgx hgo ⊢
        refine wpAnyT_one 3 6 (by kernel_rfl) rfl (by kernel_rfl) (fun K hK => ?_)
        go_simp
        refine (HTo.out _ (HIA2.out _ hBc)).mono ?_
        rintro e wB ⟨y1, rfl, hy1, hbB⟩
        have H2 : Hid (ItAt wB wB.heap.size y1 o.its) := Lib.hid (ItAt.of_own hy1 HZi.out)
        replace H1 := Lib.hid ((H1.out.below hbB).mono hbB.size)
        clear hy1
        replace hxc := hxc.keep hbB hxc.lt
        replace hoc := hoc.keep hbB hoc.lt
        replace hZ := hZ.keep hbB hZ.lt
        replace hBc := hBc.trans (hbB.mono hBc.size)
        refine hK _ _ ⟨⟨hxc, hoc⟩, fun _ => trivial⟩ (fun hS => ?_)
        clear hK K hS hbB
        refine wpAnyT_one 4 5 (by kernel_rfl) rfl (by kernel_rfl) (fun K hK => ?_)
        go_simp
        refine (HIm.out v1 y1 _ H1.out H2.out).mono ?_
        rintro e wC ⟨V, rs, rfl, hrs, hV, hbC⟩
        have H3 : Hid (∃ qs : List (Sb × Value), qs.map Prod.fst = RS ∧ OwnD wC w15.heap.size V qs) := Lib.hid ⟨rs, hrs, hV.lower hBc.size⟩
        clear hrs hV H1 H2
        replace hxc := hxc.keep hbC hxc.lt
        replace hoc := hoc.keep hbC hoc.lt
        replace hZ := hZ.keep hbC hZ.lt
        replace hBc := hBc.trans (hbC.mono hBc.size)
        refine hK _ _ ⟨⟨hxc, hoc⟩, fun _ => trivial⟩ (fun hS => ?_)
        clear hK K hS hbC
        refine wpAnyT_takesA (md := .any) 2 (by kernel_rfl) (by intro d v c a w h; cases d <;> exact h) [5, 6, 7] _ _ _ (by decide) (by kernel_rfl) ⟨⟨hxc, hoc⟩, fun _ => trivial⟩ ?_
        simp only [pick, List.filterMap_cons, List.filterMap_nil, List.getElem?_cons_zero, List.getElem?_cons_succ]
        refine wpIf_step (.tuple #[.agg #[V], .bool b]) (by kernel_rfl) (fun w hw => by go_simp) ?_
        refine wpIf_step (.agg #[V]) (by kernel_rfl) (fun w hw => by go_simp) ?_
        refine wpIf_step (.bool b) (by kernel_rfl) (fun w hw => by go_simp) ?_
        refine wpIf_nil (fun hS => ?_)
        clear hS
        obtain ⟨qs, hqs, hV⟩ := H3.out
        obtain ⟨Va, Vc, hVe⟩ := hV.1.slice
        obtain ⟨Vn, hVn⟩ : ∃ n, n = qs.length := ⟨_, rfl⟩
        rw [← hVn] at hVe
        clear hVn
        subst hVe
        have z0 := hZ.cell 0 _ rfl
        have zf := hZ.free
        have hZ2 := hZ.set 0 (.slice Va Vn Vc)
        have hx2 := hxc.other ⟨gz, 0, none⟩ (.slice Va Vn Vc) (show w.heap.size ≠ gz by omega)
        have ho2 := hoc.other ⟨gz, 0, none⟩ (.slice Va Vn Vc) (show w.heap.size + 1 ≠ gz by omega)
        have hB2 := hBc.setCell (p := ⟨gz, 0, none⟩) hgW (.slice Va Vn Vc)
        have hV2 := hV.offBox hZ (.slice Va Vn Vc)
        refine wpAnyT_one 9 1 (by kernel_rfl) rfl (by kernel_rfl) (fun K hK => ?_)
        go_simp
        refine hK _ _ ⟨⟨hx2, ho2⟩, fun _ => trivial⟩ (fun hS => ?_)
        clear hK K hS z0 zf
        refine wpAnyT_one 10 0 (by kernel_rfl) rfl (by kernel_rfl) (fun K hK => ?_)
        go_simp
        refine hK _ _ ⟨⟨hx2, ho2⟩, fun _ => trivial⟩ (fun hS => ?_)
        clear hK K hS
        refine wpAnyT_over (by kernel_rfl) ?_
        go_wp2_with fail
        go_meet
        exact ⟨gz, .slice Va Vn Vc, qs, rfl, rfl, hgW, hB2, hZ2, hqs, hV2⟩
    · go_simp
      have hZ := Box.new (WD) #[.slice none 0 0] 34
      have hba : Below (WD).heap.size (WD) (WD.alloc (.cells #[.slice none 0 0] 34)) := (Below.refl _ _).alloc (Nat.le_refl _) _
      have hgW : w15.heap.size ≤ (WD).heap.size := hBc.size
      have hgx : w.heap.size < (WD).heap.size := hxc.lt
      have hgo : w.heap.size + 1 < (WD).heap.size := hoc.lt
      replace hxc := hxc.keep hba hxc.lt
      replace hoc := hoc.keep hba hoc.lt
      replace hBc := hBc.trans (hba.mono hBc.size)
      clear hba
      refine hK _ _ ⟨⟨hxc, hoc⟩, fun _ => trivial⟩ (fun hS => ?_)
      clear hK K hS
      generalize WD.alloc (.cells #[.slice none 0 0] 34) = WZ at hxc hoc hBc hZ ⊢
      generalize (WD).heap.size = gz at hZ hgW hgx hgo ⊢
      refine wpAnyT_one 1 7 (by kernel_rfl) rfl (by kernel_rfl) (fun K hK => ?_)
      go_simp
      refine (HTr.out _ (HSA2.out _ hBc)).mono ?_
      rintro e wA ⟨v1, rfl, hv1, hbA⟩
      have H1 : Hid (SbAt wA wA.heap.size v1 ss) := Lib.hid (OwnS.at hv1 HSz.out)
      clear hv1
      replace hxc := hxc.keep hbA hxc.lt
      replace hoc := hoc.keep hbA hoc.lt
      replace hZ := hZ.keep hbA hZ.lt
      replace hBc := hBc.trans (hbA.mono hBc.size)
      refine hK _ _ ⟨⟨hxc, hoc⟩, fun _ => trivial⟩ (fun hS => ?_)
      clear hK K hS hbA
      refine wpAnyT_one 3 6 (by kernel_rfl) rfl (by kernel_rfl) (fun K hK => ?_)
      go_simp
      refine (HTo.out _ (HIA2.out _ hBc)).mono ?_
      rintro e wB ⟨y1, rfl, hy1, hbB⟩
      have H2 : Hid (ItAt wB wB.heap.size y1 o.its) := Lib.hid (ItAt.of_own hy1 HZi.out)
      replace H1 := Lib.hid ((H1.out.below hbB).mono hbB.size)
      clear hy1
      replace hxc := hxc.keep hbB hxc.lt
      replace hoc := hoc.keep hbB hoc.lt
      replace hZ := hZ.keep hbB hZ.lt
      replace hBc := hBc.trans (hbB.mono hBc.size)
      refine hK _ _ ⟨⟨hxc, hoc⟩, fun _ => trivial⟩ (fun hS => ?_)
      clear hK K hS hbB
      refine wpAnyT_one 4 5 (by kernel_rfl) rfl (by kernel_rfl) (fun K hK => ?_)
      go_simp
      refine (HIm.out v1 y1 _ H1.out H2.out).mono ?_
      rintro e wC ⟨V, rs, rfl, hrs, hV, hbC⟩
      have H3 : Hid (∃ qs : List (Sb × Value), qs.map Prod.fst = RS ∧ OwnD wC w15.heap.size V qs) := Lib.hid ⟨rs, hrs, hV.lower hBc.size⟩
      clear hrs hV H1 H2
      replace hxc := hxc.keep hbC hxc.lt
      replace hoc := hoc.keep hbC hoc.lt
      replace hZ := hZ.keep hbC hZ.lt
      replace hBc := hBc.trans (hbC.mono hBc.size)
      refine hK _ _ ⟨⟨hxc, hoc⟩, fun _ => trivial⟩ (fun hS => ?_)
      clear hK K hS hbC
      refine wpAnyT_takesA (md := .any) 2 (by kernel_rfl) (by intro d v c a w h; cases d <;> exact h) [5, 6, 7] _ _ _ (by decide) (by kernel_rfl) ⟨⟨hxc, hoc⟩, fun _ => trivial⟩ ?_
      simp only [pick, List.filterMap_cons, List.filterMap_nil, List.getElem?_cons_zero, List.getElem?_cons_succ]
      refine wpIf_step (.tuple #[.agg #[V], .bool b]) (by kernel_rfl) (fun w hw => by go_simp) ?_
      refine wpIf_step (.agg #[V]) (by kernel_rfl) (fun w hw => by go_simp) ?_
      refine wpIf_step (.bool b) (by kernel_rfl) (fun w hw => by go_simp) ?_
      refine wpIf_nil (fun hS => ?_)
      clear hS
      obtain ⟨qs, hqs, hV⟩ := H3.out
      obtain ⟨Va, Vc, hVe⟩ := hV.1.slice
      obtain ⟨Vn, hVn⟩ : ∃ n, n = qs.length := ⟨_, rfl⟩
      rw [← hVn] at hVe
      clear hVn
      subst hVe
      have z0 := hZ.cell 0 _ rfl
      have zf := hZ.free
      have hZ2 := hZ.set 0 (.slice Va Vn Vc)
      have hx2 := hxc.other ⟨gz, 0, none⟩ (.slice Va Vn Vc) (show w.heap.size ≠ gz by omega)
      have ho2 := hoc.other ⟨gz, 0, none⟩ (.slice Va Vn Vc) (show w.heap.size + 1 ≠ gz by omega)
      have hB2 := hBc.setCell (p := ⟨gz, 0, none⟩) hgW (.slice Va Vn Vc)
      have hV2 := hV.offBox hZ (.slice Va Vn Vc)
      refine wpAnyT_one 9 1 (by kernel_rfl) rfl (by kernel_rfl) (fun K hK => ?_)
      go_simp
      refine hK _ _ ⟨⟨hx2, ho2⟩, fun _ => trivial⟩ (fun hS => ?_)
      clear hK K hS z0 zf
      refine wpAnyT_one 10 0 (by kernel_rfl) rfl (by kernel_rfl) (fun K hK => ?_)
      go_simp
      refine hK _ _ ⟨⟨hx2, ho2⟩, fun _ => trivial⟩ (fun hS => ?_)
      clear hK K hS
      refine wpAnyT_over (by kernel_rfl) ?_
      go_wp2_with fail
      go_meet
      exact ⟨gz, .slice Va Vn Vc, qs, rfl, rfl, hgW, hB2, hZ2, hqs, hV2⟩
  case rest =>
  obtain ⟨g15, V15, q15, rfl, rfl, hg15, hb, h15, hq15, hD15⟩ := hcut
  obtain ⟨Va15, Vc15, hVe⟩ := hD15.1.slice
  obtain ⟨Vn15, hVn⟩ : ∃ n, n = q15.length := ⟨_, rfl⟩
  rw [← hVn] at hVe
  clear hVn
  subst hVe
  have hs16 := hb.size
  replace HDb := Lib.hid ((HDb.out.below hb).mono hs16)
  have H15 := Lib.hid (hD15.at hq15 HRz.out)
  clear hq15 hD15
  replace hx := hx.keep hb hx.lt
  replace ho := ho.keep hb ho.lt
  replace h6 := h6.keep hb h6.lt
  replace h10 := h10.keep hb h10.lt
  replace HW6 := Lib.hid (HW6.out.below (hb.mono hcs))
  replace hB := hB.trans (hb.mono hB.size)
  replace hcs := Nat.le_trans hcs hs16
  clear hb
  have e0 := h15.cell 0 _ rfl
  have e1 := h6.cell 0 _ rfl
  go_wp2_with fail
  clear e0 e1
  refine (eqReader_same _ _ RS _ H15.out (HW6.out.mono hcs)).mono ?_
  rintro e w17 ⟨rfl, hb17⟩
  have hs17 := hb17.size
  replace HDb := Lib.hid ((HDb.out.below hb17).mono hs17)
  replace h10 := h10.keep hb17 h10.lt
  replace hB := hB.trans (hb17.mono hB.size)
  clear hb17 H15 HW6
  have e0 : w17.cell? ⟨w5.heap.size, 0, none⟩ = some (.slice Va1 Vn1 Vc1) := h10.cell 0 _ rfl
  go_wp2_with fail
  clear e0
  refine (HHd.out w17 HDb.out).mono ?_
  rintro e w18 ⟨rfl, hb18⟩
  replace hB := hB.trans (hb18.mono hB.size)
  clear hb18
  go_wp2
  go_ret
  exact ⟨rfl, hB⟩
end Go.Proofs.YtfgdbpjmjeaolaaGreat
