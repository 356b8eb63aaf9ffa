/- What the laws on polls draw: arguments. -/
import Derived.Test.YtlipgmaiooljkaaW16i
namespace Go.Proofs.Ytlipgmaiooljkaa
open Go.ChangeShapes Go.WideShapes Go.ChangeAt Go.RowKit
set_option linter.unusedVariables false
set_option linter.unusedSimpArgs false

set_option maxRecDepth 100000 in
set_option maxHeartbeats 2000000 in
theorem drawPollAfter_any (w : World) (cv : Value) (zs : List Int) (h : Cd w cv zs) :
    Calls Try.prog 33 #[cv] w fun e w' => ∃ (p : PollD) (now : Int) (a : AnsD), e = .returned (.tuple #[pkV p, .int .i64 now, anV a]) ∧ PlD p ∧ AnD a ∧ (Lit.int .i64 now).wf = true ∧ Below w.heap.size w w' := by
  obtain ⟨a, len, cap, hcv⟩ := h.form
  have HV := Lib.hid hcv
  clear hcv
  obtain ⟨W0, hW0⟩ : ∃ W0, W0 = (w.alloc (.cells pk0C 23)).alloc (.cells #[.int .i64 0, .string ⟨#[]⟩, .string ⟨#[]⟩, .int .i64 0] 37) := ⟨_, rfl⟩
  have hB0 : Below w.heap.size w W0 := by rw [hW0]; exact ((Below.refl _ _).alloc (Nat.le_refl _) _).alloc (by simp) _
  have hx0 : Box W0 w.heap.size pk0C 23 := by rw [hW0]; exact (Box.new w _ _).alloc _
  have hy0 : Box W0 (w.heap.size + 1) #[.int .i64 0, .string ⟨#[]⟩, .string ⟨#[]⟩, .int .i64 0] 37 := by
    rw [hW0]
    have := Box.new (w.alloc (.cells pk0C 23)) #[.int .i64 0, .string ⟨#[]⟩, .string ⟨#[]⟩, .int .i64 0] 37
    simpa using this
  have hc0 : Cd W0 cv zs := h.below hB0
  have hz0 : W0.heap.size = w.heap.size + 2 := by rw [hW0]; simp
  go_enter Try.func33, Try.ntmps33
  go_wp2_with fail
  rw [← hW0]
  clear hW0
  refine (open_any cv a len cap HV.out _).mono ?_
  rintro e w1 ⟨rfl, rfl⟩
  have hrd := hc0.rd
  have hgr := World.grownBy.refl (W0.alloc (.cells #[cv, .int .i64 0] 114)) (some W0.heap.size)
  replace hx0 := hx0.alloc (.cells #[cv, .int .i64 0] 114)
  replace hy0 := hy0.alloc (.cells #[cv, .int .i64 0] 114)
  have hB1 := hB0.alloc hB0.size (.cells #[cv, .int .i64 0] 114)
  generalize hrb : W0.heap.size = rb at hrd hgr ⊢
  rw [hz0] at hrb
  generalize W0.alloc (.cells #[cv, .int .i64 0] 114) = W1 at hrd hgr hx0 hy0 hB1 ⊢
  clear hc0 hz0 hB0
  have hgw : ∀ w', W1.grownBy w' (some rb) → Below w.heap.size w w' := fun w' hg => hB1.trans (below_of_grown hg (by omega) hB1.size)
  have HG := Lib.hid hgw
  clear hgw
  go_wp2_with fail
  refine (poll_any _ _ cv zs _ hrd).mono ?_
  rintro e w2 ⟨q, rfl, hq, hrd, hg2⟩
  replace hx0 := hx0.keepG hg2 (by omega)
  replace hy0 := hy0.keepG hg2 (by omega)
  replace hgr := grown_trans hgr hg2
  clear hg2
  obtain ⟨u, m, n, wt, f, gg⟩ := q
  have HQ := Lib.hid hq
  obtain ⟨q1, q2, q3, q4⟩ := hq
  dsimp only at q1 q2 q3 q4
  have hp := Box.new w2 #[.string u, .string m, .int .i64 n, .int .i64 wt, .int .i64 f, .bool gg] 23
  have hpl : w.heap.size + 1 < w2.heap.size := hy0.lt
  have hpr : rb < w2.heap.size := hrd.lt
  replace hx0 := hx0.alloc (.cells #[.string u, .string m, .int .i64 n, .int .i64 wt, .int .i64 f, .bool gg] 23)
  replace hy0 := hy0.alloc (.cells #[.string u, .string m, .int .i64 n, .int .i64 wt, .int .i64 f, .bool gg] 23)
  replace hrd := hrd.alloc (.cells #[.string u, .string m, .int .i64 n, .int .i64 wt, .int .i64 f, .bool gg] 23)
  replace hgr := grown_trans hgr (World.grownBy_alloc w2 (.cells #[.string u, .string m, .int .i64 n, .int .i64 wt, .int .i64 f, .bool gg] 23) (some rb))
  go_wp2
  generalize w2.alloc (.cells #[.string u, .string m, .int .i64 n, .int .i64 wt, .int .i64 f, .bool gg] 23) = W2 at hx0 hy0 hrd hgr hp ⊢
  generalize w2.heap.size = G at hp hpl hpr ⊢
  refine wp_region_T (fun w' => Box w' G #[.string u, .string m, .int .i64 n, .int .i64 wt, .int .i64 f, .bool gg] 23) (fun _ => True) 5 (by kernel_rfl) 6 rfl ?_
  refine wpAnyT_takesA (md := .any) 3 (by kernel_rfl) (by intro d v c a w h; cases d <;> exact h) [0, 1, 2] _ _ _ (by decide) (by kernel_rfl) ⟨hp, fun _ => trivial⟩ ?_
  simp only [pick, List.filterMap_cons, List.filterMap_nil, List.getElem?_cons_zero, List.getElem?_cons_succ]
  refine wpIf_step (.pointer (some ⟨G, 2, none⟩)) (by kernel_rfl) (fun w hw => by go_simp) ?_
  refine wpIf_step (.int .i64 n) (by kernel_rfl) (fun w hw => by have k2 := hw.cell 2 _ rfl; go_simp) ?_
  refine wpIf_step (.pointer (some ⟨rb, 0, none⟩)) (by kernel_rfl) (fun w hw => by go_simp) ?_
  refine wpIf_nil (fun hS => ?_)
  clear hS
  refine wpAnyT_one 3 2 (by kernel_rfl) rfl (by kernel_rfl) (fun K hK => ?_)
  go_simp
  refine (below_any 9 _ _ cv zs _ (hrd.drewN 1) (by omega) (by omega)).mono ?_
  rintro e w3 ⟨y, rfl, y0, y1, hrd, hg3⟩
  replace hp := hp.keepG (grown_trans (grown_drewN (World.grownBy.refl W2 (some rb)) 1) hg3) (by omega)
  replace hx0 := hx0.keepG (grown_trans (grown_drewN (World.grownBy.refl W2 (some rb)) 1) hg3) (by omega)
  replace hy0 := hy0.keepG (grown_trans (grown_drewN (World.grownBy.refl W2 (some rb)) 1) hg3) (by omega)
  replace hgr := grown_trans (grown_drewN hgr 1) hg3
  clear hg3
  refine hK _ _ ⟨hp, fun _ => trivial⟩ (fun hS => ?_)
  clear hK K hS
  refine wpAnyT_takesA (md := .any) 1 (by kernel_rfl) (by intro d v c a w h; cases d <;> exact h) [4] _ _ _ (by decide) (by kernel_rfl) ⟨hp, fun _ => trivial⟩ ?_
  simp only [pick, List.filterMap_cons, List.filterMap_nil, List.getElem?_cons_zero, List.getElem?_cons_succ]
  refine wpIf_step (.int .i64 (n + y)) (by kernel_rfl) (fun w hw => by have hwr := IntWalk.i64_in (n + y) (by omega); go_simp) ?_
  refine wpIf_nil (fun hS => ?_)
  clear hS
  refine wpAnyT_one 5 0 (by kernel_rfl) rfl (by kernel_rfl) (fun K hK => ?_)
  go_simp
  refine hK _ _ ⟨hp, fun _ => trivial⟩ (fun hS => ?_)
  clear hK K hS
  refine wpAnyT_over (by kernel_rfl) ?_
  go_wp2_with fail
  refine (once_any 12 _ _ cv zs _ hrd (by omega) (by omega)).mono ?_
  rintro e w4 ⟨b12, rfl, hrd, hg4⟩
  replace hp := hp.keepG hg4 (by omega)
  replace hx0 := hx0.keepG hg4 (by omega)
  replace hy0 := hy0.keepG hg4 (by omega)
  replace hgr := grown_trans hgr hg4
  clear hg4
  cases b12 with
  | false =>
    go_wp2
    refine wp_region_T (fun w' => Box w' G #[.string u, .string m, .int .i64 n, .int .i64 wt, .int .i64 f, .bool gg] 23) (fun _ => True) 6 (by kernel_rfl) 7 rfl ?_
    refine wpAnyT_takesA (md := .any) 4 (by kernel_rfl) (by intro d v c a w h; cases d <;> exact h) [0, 1, 2] _ _ _ (by decide) (by kernel_rfl) ⟨hp, fun _ => trivial⟩ ?_
    simp only [pick, List.filterMap_cons, List.filterMap_nil, List.getElem?_cons_zero, List.getElem?_cons_succ]
    refine wpIf_step (.agg #[.string u, .string m, .int .i64 n, .int .i64 wt, .int .i64 f, .bool gg]) (by kernel_rfl) (fun w hw => by have k0 := hw.cell 0 _ rfl; have k1 := hw.cell 1 _ rfl; have k2 := hw.cell 2 _ rfl; have k3 := hw.cell 3 _ rfl; have k4 := hw.cell 4 _ rfl; have k5 := hw.cell 5 _ rfl; go_simp) ?_
    refine wpIf_step (.int .i64 (n + y)) (by kernel_rfl) (fun w hw => by go_simp) ?_
    refine wpIf_step (.pointer (some ⟨rb, 0, none⟩)) (by kernel_rfl) (fun w hw => by go_simp) ?_
    refine wpIf_nil (fun hS => ?_)
    clear hS
    refine wpAnyT_one 3 3 (by kernel_rfl) rfl (by kernel_rfl) (fun K hK => ?_)
    go_simp
    refine (answer_any _ _ cv zs _ (hrd.drewN 1)).mono ?_
    rintro e w5 ⟨aa, rfl, haa, hrd, hg5⟩
    replace hp := hp.keepG (grown_trans (grown_drewN (World.grownBy.refl w4 (some rb)) 1) hg5) (by omega)
    replace hx0 := hx0.keepG (grown_trans (grown_drewN (World.grownBy.refl w4 (some rb)) 1) hg5) (by omega)
    replace hy0 := hy0.keepG (grown_trans (grown_drewN (World.grownBy.refl w4 (some rb)) 1) hg5) (by omega)
    replace hgr := grown_trans (grown_drewN hgr 1) hg5
    clear hg5
    refine hK _ _ ⟨hp, fun _ => trivial⟩ (fun hS => ?_)
    clear hK K hS
    have k0 := hx0.cell 0 _ rfl
    have k1 := hx0.cell 1 _ rfl
    have k2 := hx0.cell 2 _ rfl
    have k3 := hx0.cell 3 _ rfl
    have k4 := hx0.cell 4 _ rfl
    have k5 := hx0.cell 5 _ rfl
    have l0 := hx0.free 0
    have l1 := hx0.free 1
    have l2 := hx0.free 2
    have l3 := hx0.free 3
    have l4 := hx0.free 4
    have l5 := hx0.free 5
    refine wpAnyT_one 4 2 (by kernel_rfl) rfl (by kernel_rfl) (fun K hK => ?_)
    go_simp
    have hX := hx0.put6 rfl (.string u) (.string m) (.int .i64 n) (.int .i64 wt) (.int .i64 f) (.bool gg)
    have hbx := below6 w5 w.heap.size w.heap.size (Nat.le_refl _) (.string u) (.string m) (.int .i64 n) (.int .i64 wt) (.int .i64 f) (.bool gg)
    have hy1 := ((((((hy0.other ⟨w.heap.size, 0, none⟩ (.string u) (by show w.heap.size + 1 ≠ w.heap.size; omega)).other ⟨w.heap.size, 1, none⟩ (.string m) (by show w.heap.size + 1 ≠ w.heap.size; omega)).other ⟨w.heap.size, 2, none⟩ (.int .i64 n) (by show w.heap.size + 1 ≠ w.heap.size; omega)).other ⟨w.heap.size, 3, none⟩ (.int .i64 wt) (by show w.heap.size + 1 ≠ w.heap.size; omega)).other ⟨w.heap.size, 4, none⟩ (.int .i64 f) (by show w.heap.size + 1 ≠ w.heap.size; omega)).other ⟨w.heap.size, 5, none⟩ (.bool gg) (by show w.heap.size + 1 ≠ w.heap.size; omega))
    have hp1 := ((((((hp.other ⟨w.heap.size, 0, none⟩ (.string u) (by show G ≠ w.heap.size; omega)).other ⟨w.heap.size, 1, none⟩ (.string m) (by show G ≠ w.heap.size; omega)).other ⟨w.heap.size, 2, none⟩ (.int .i64 n) (by show G ≠ w.heap.size; omega)).other ⟨w.heap.size, 3, none⟩ (.int .i64 wt) (by show G ≠ w.heap.size; omega)).other ⟨w.heap.size, 4, none⟩ (.int .i64 f) (by show G ≠ w.heap.size; omega)).other ⟨w.heap.size, 5, none⟩ (.bool gg) (by show G ≠ w.heap.size; omega))
    have hB5 := (HG.out _ hgr).trans hbx
    clear k0 l0 k1 l1 k2 l2 k3 l3 k4 l4 k5 l5
    generalize ((((((w5.setCell ⟨w.heap.size, 0, none⟩ (.string u)).setCell ⟨w.heap.size, 1, none⟩ (.string m)).setCell ⟨w.heap.size, 2, none⟩ (.int .i64 n)).setCell ⟨w.heap.size, 3, none⟩ (.int .i64 wt)).setCell ⟨w.heap.size, 4, none⟩ (.int .i64 f)).setCell ⟨w.heap.size, 5, none⟩ (.bool gg)) = W6 at hX hy1 hp1 hB5 ⊢
    clear hbx hx0 hy0 hp hrd hgr
    refine hK _ _ ⟨hp1, fun _ => trivial⟩ (fun hS => ?_)
    clear hK K hS
    refine wpAnyT_one 5 1 (by kernel_rfl) rfl (by kernel_rfl) (fun K hK => ?_)
    go_simp
    refine hK _ _ ⟨hp1, fun _ => trivial⟩ (fun hS => ?_)
    clear hK K hS
    obtain ⟨ac, am, au, af⟩ := aa
    have k0 := hy1.cell 0 _ rfl
    have k1 := hy1.cell 1 _ rfl
    have k2 := hy1.cell 2 _ rfl
    have k3 := hy1.cell 3 _ rfl
    have l0 := hy1.free 0
    have l1 := hy1.free 1
    have l2 := hy1.free 2
    have l3 := hy1.free 3
    refine wpAnyT_one 6 0 (by kernel_rfl) rfl (by kernel_rfl) (fun K hK => ?_)
    go_simp
    have hY := put4an W6 (w.heap.size + 1) (.int .i64 ac) (.string am) (.string au) (.int .i64 af) hy1 rfl
    have hby := below4an W6 (w.heap.size + 1) (w.heap.size + 1) (Nat.le_refl _) (.int .i64 ac) (.string am) (.string au) (.int .i64 af)
    have hX2 := hX.keep hby (Nat.lt_succ_self _)
    have hp2 := ((((hp1.other ⟨w.heap.size + 1, 0, none⟩ (.int .i64 ac) (by show G ≠ w.heap.size + 1; omega)).other ⟨w.heap.size + 1, 1, none⟩ (.string am) (by show G ≠ w.heap.size + 1; omega)).other ⟨w.heap.size + 1, 2, none⟩ (.string au) (by show G ≠ w.heap.size + 1; omega)).other ⟨w.heap.size + 1, 3, none⟩ (.int .i64 af) (by show G ≠ w.heap.size + 1; omega))
    have hB7 := hB5.trans (hby.mono (by omega))
    clear k0 k1 k2 k3 l0 l1 l2 l3
    generalize ((((W6.setCell ⟨w.heap.size + 1, 0, none⟩ (.int .i64 ac)).setCell ⟨w.heap.size + 1, 1, none⟩ (.string am)).setCell ⟨w.heap.size + 1, 2, none⟩ (.string au)).setCell ⟨w.heap.size + 1, 3, none⟩ (.int .i64 af)) = W7 at hY hX2 hp2 hB7 ⊢
    refine hK _ _ ⟨hp2, fun _ => trivial⟩ (fun hS => ?_)
    clear hK K hS
    refine wpAnyT_over (by kernel_rfl) ?_
    go_wp2
    have c0 := hX2.cell 0 _ rfl
    have c1 := hX2.cell 1 _ rfl
    have c2 := hX2.cell 2 _ rfl
    have c3 := hX2.cell 3 _ rfl
    have c4 := hX2.cell 4 _ rfl
    have c5 := hX2.cell 5 _ rfl
    have d0 := hY.cell 0 _ rfl
    have d1 := hY.cell 1 _ rfl
    have d2 := hY.cell 2 _ rfl
    have d3 := hY.cell 3 _ rfl
    exact bodyPost_ret (v := .tuple #[pkV ⟨u, m, n, wt, f, gg⟩, .int .i64 (n + y), anV ⟨ac, am, au, af⟩]) (by simp [results, Try.results33, go_sem, c0, c1, c2, c3, c4, c5, d0, d1, d2, d3]) rfl ⟨⟨u, m, n, wt, f, gg⟩, n + y, ⟨ac, am, au, af⟩, rfl, HQ.out, haa, by simp [Lit.wf, IntKind.min, IntKind.max, IntKind.signed, IntKind.bits]; omega, hB7⟩
  | true =>
    go_wp2_with fail
    refine (off_any 0 100 _ _ cv zs _ hrd (by omega) (by omega) (by omega)).mono ?_
    rintro e w6 ⟨oo, rfl, hoo, hrd, hg6⟩
    replace hp := hp.keepG hg6 (by omega)
    replace hx0 := hx0.keepG hg6 (by omega)
    replace hy0 := hy0.keepG hg6 (by omega)
    replace hgr := grown_trans hgr hg6
    clear hg6
    go_wp2
    refine wp_region_T (fun w' => Box w' G #[.string u, .string m, .int .i64 n, .int .i64 wt, .int .i64 f, .bool gg] 23) (fun _ => True) 6 (by kernel_rfl) 7 rfl ?_
    refine wpAnyT_takesA (md := .any) 4 (by kernel_rfl) (by intro d v c a w h; cases d <;> exact h) [0, 1, 2] _ _ _ (by decide) (by kernel_rfl) ⟨hp, fun _ => trivial⟩ ?_
    simp only [pick, List.filterMap_cons, List.filterMap_nil, List.getElem?_cons_zero, List.getElem?_cons_succ]
    refine wpIf_step (.agg #[.string u, .string m, .int .i64 n, .int .i64 wt, .int .i64 f, .bool gg]) (by kernel_rfl) (fun w hw => by have k0 := hw.cell 0 _ rfl; have k1 := hw.cell 1 _ rfl; have k2 := hw.cell 2 _ rfl; have k3 := hw.cell 3 _ rfl; have k4 := hw.cell 4 _ rfl; have k5 := hw.cell 5 _ rfl; go_simp) ?_
    refine wpIf_step (.int .i64 (oo)) (by kernel_rfl) (fun w hw => by go_simp) ?_
    refine wpIf_step (.pointer (some ⟨rb, 0, none⟩)) (by kernel_rfl) (fun w hw => by go_simp) ?_
    refine wpIf_nil (fun hS => ?_)
    clear hS
    refine wpAnyT_one 3 3 (by kernel_rfl) rfl (by kernel_rfl) (fun K hK => ?_)
    go_simp
    refine (answer_any _ _ cv zs _ (hrd.drewN 1)).mono ?_
    rintro e w5 ⟨aa, rfl, haa, hrd, hg5⟩
    replace hp := hp.keepG (grown_trans (grown_drewN (World.grownBy.refl w6 (some rb)) 1) hg5) (by omega)
    replace hx0 := hx0.keepG (grown_trans (grown_drewN (World.grownBy.refl w6 (some rb)) 1) hg5) (by omega)
    replace hy0 := hy0.keepG (grown_trans (grown_drewN (World.grownBy.refl w6 (some rb)) 1) hg5) (by omega)
    replace hgr := grown_trans (grown_drewN hgr 1) hg5
    clear hg5
    refine hK _ _ ⟨hp, fun _ => trivial⟩ (fun hS => ?_)
    clear hK K hS
    have k0 := hx0.cell 0 _ rfl
    have k1 := hx0.cell 1 _ rfl
    have k2 := hx0.cell 2 _ rfl
    have k3 := hx0.cell 3 _ rfl
    have k4 := hx0.cell 4 _ rfl
    have k5 := hx0.cell 5 _ rfl
    have l0 := hx0.free 0
    have l1 := hx0.free 1
    have l2 := hx0.free 2
    have l3 := hx0.free 3
    have l4 := hx0.free 4
    have l5 := hx0.free 5
    refine wpAnyT_one 4 2 (by kernel_rfl) rfl (by kernel_rfl) (fun K hK => ?_)
    go_simp
    have hX := hx0.put6 rfl (.string u) (.string m) (.int .i64 n) (.int .i64 wt) (.int .i64 f) (.bool gg)
    have hbx := below6 w5 w.heap.size w.heap.size (Nat.le_refl _) (.string u) (.string m) (.int .i64 n) (.int .i64 wt) (.int .i64 f) (.bool gg)
    have hy1 := ((((((hy0.other ⟨w.heap.size, 0, none⟩ (.string u) (by show w.heap.size + 1 ≠ w.heap.size; omega)).other ⟨w.heap.size, 1, none⟩ (.string m) (by show w.heap.size + 1 ≠ w.heap.size; omega)).other ⟨w.heap.size, 2, none⟩ (.int .i64 n) (by show w.heap.size + 1 ≠ w.heap.size; omega)).other ⟨w.heap.size, 3, none⟩ (.int .i64 wt) (by show w.heap.size + 1 ≠ w.heap.size; omega)).other ⟨w.heap.size, 4, none⟩ (.int .i64 f) (by show w.heap.size + 1 ≠ w.heap.size; omega)).other ⟨w.heap.size, 5, none⟩ (.bool gg) (by show w.heap.size + 1 ≠ w.heap.size; omega))
    have hp1 := ((((((hp.other ⟨w.heap.size, 0, none⟩ (.string u) (by show G ≠ w.heap.size; omega)).other ⟨w.heap.size, 1, none⟩ (.string m) (by show G ≠ w.heap.size; omega)).other ⟨w.heap.size, 2, none⟩ (.int .i64 n) (by show G ≠ w.heap.size; omega)).other ⟨w.heap.size, 3, none⟩ (.int .i64 wt) (by show G ≠ w.heap.size; omega)).other ⟨w.heap.size, 4, none⟩ (.int .i64 f) (by show G ≠ w.heap.size; omega)).other ⟨w.heap.size, 5, none⟩ (.bool gg) (by show G ≠ w.heap.size; omega))
    have hB5 := (HG.out _ hgr).trans hbx
    clear k0 l0 k1 l1 k2 l2 k3 l3 k4 l4 k5 l5
    generalize ((((((w5.setCell ⟨w.heap.size, 0, none⟩ (.string u)).setCell ⟨w.heap.size, 1, none⟩ (.string m)).setCell ⟨w.heap.size, 2, none⟩ (.int .i64 n)).setCell ⟨w.heap.size, 3, none⟩ (.int .i64 wt)).setCell ⟨w.heap.size, 4, none⟩ (.int .i64 f)).setCell ⟨w.heap.size, 5, none⟩ (.bool gg)) = W6 at hX hy1 hp1 hB5 ⊢
    clear hbx hx0 hy0 hp hrd hgr
    refine hK _ _ ⟨hp1, fun _ => trivial⟩ (fun hS => ?_)
    clear hK K hS
    refine wpAnyT_one 5 1 (by kernel_rfl) rfl (by kernel_rfl) (fun K hK => ?_)
    go_simp
    refine hK _ _ ⟨hp1, fun _ => trivial⟩ (fun hS => ?_)
    clear hK K hS
    obtain ⟨ac, am, au, af⟩ := aa
    have k0 := hy1.cell 0 _ rfl
    have k1 := hy1.cell 1 _ rfl
    have k2 := hy1.cell 2 _ rfl
    have k3 := hy1.cell 3 _ rfl
    have l0 := hy1.free 0
    have l1 := hy1.free 1
    have l2 := hy1.free 2
    have l3 := hy1.free 3
    refine wpAnyT_one 6 0 (by kernel_rfl) rfl (by kernel_rfl) (fun K hK => ?_)
    go_simp
    have hY := put4an W6 (w.heap.size + 1) (.int .i64 ac) (.string am) (.string au) (.int .i64 af) hy1 rfl
    have hby := below4an W6 (w.heap.size + 1) (w.heap.size + 1) (Nat.le_refl _) (.int .i64 ac) (.string am) (.string au) (.int .i64 af)
    have hX2 := hX.keep hby (Nat.lt_succ_self _)
    have hp2 := ((((hp1.other ⟨w.heap.size + 1, 0, none⟩ (.int .i64 ac) (by show G ≠ w.heap.size + 1; omega)).other ⟨w.heap.size + 1, 1, none⟩ (.string am) (by show G ≠ w.heap.size + 1; omega)).other ⟨w.heap.size + 1, 2, none⟩ (.string au) (by show G ≠ w.heap.size + 1; omega)).other ⟨w.heap.size + 1, 3, none⟩ (.int .i64 af) (by show G ≠ w.heap.size + 1; omega))
    have hB7 := hB5.trans (hby.mono (by omega))
    clear k0 k1 k2 k3 l0 l1 l2 l3
    generalize ((((W6.setCell ⟨w.heap.size + 1, 0, none⟩ (.int .i64 ac)).setCell ⟨w.heap.size + 1, 1, none⟩ (.string am)).setCell ⟨w.heap.size + 1, 2, none⟩ (.string au)).setCell ⟨w.heap.size + 1, 3, none⟩ (.int .i64 af)) = W7 at hY hX2 hp2 hB7 ⊢
    refine hK _ _ ⟨hp2, fun _ => trivial⟩ (fun hS => ?_)
    clear hK K hS
    refine wpAnyT_over (by kernel_rfl) ?_
    go_wp2
    have c0 := hX2.cell 0 _ rfl
    have c1 := hX2.cell 1 _ rfl
    have c2 := hX2.cell 2 _ rfl
    have c3 := hX2.cell 3 _ rfl
    have c4 := hX2.cell 4 _ rfl
    have c5 := hX2.cell 5 _ rfl
    have d0 := hY.cell 0 _ rfl
    have d1 := hY.cell 1 _ rfl
    have d2 := hY.cell 2 _ rfl
    have d3 := hY.cell 3 _ rfl
    exact bodyPost_ret (v := .tuple #[pkV ⟨u, m, n, wt, f, gg⟩, .int .i64 (oo), anV ⟨ac, am, au, af⟩]) (by simp [results, Try.results33, go_sem, c0, c1, c2, c3, c4, c5, d0, d1, d2, d3]) rfl ⟨⟨u, m, n, wt, f, gg⟩, oo, ⟨ac, am, au, af⟩, rfl, HQ.out, haa, hoo, hB7⟩
end Go.Proofs.Ytlipgmaiooljkaa
