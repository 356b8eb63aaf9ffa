/- Joined: Y9h. -/
import Derived.Test.YtffkakpbelknaaaH42
/- Y9h -/
namespace Go.Proofs.Ytffkakpbelknaaa
open Go.ChangeShapes Go.WideShapes Go.ChangeAt Go.RowKit
set_option linter.unusedVariables false

set_option maxRecDepth 100000 in
set_option maxHeartbeats 4000000 in
theorem l9Done_drop (v x : Value) (ss : List Sb) (o : OpD) (w : World) (h : SbAt w w.heap.size v ss) (hx : ItAt w w.heap.size x o.its) (hr : rdB ss = true) (hk : o.k = 2) (hf : fnB (sbKs ss) o.u = true) (P : Nat) (hpl : plK (sbKs ss) o.u = P) (hP : P < ss.length) :
    Calls Try.prog 53 #[.agg #[v], opV o x] w (OutDn (doI ss o) w) := by
  have HI := Lib.hid h
  have HX := Lib.hid hx
  have h6 := rd_len hr
  have HSz := Lib.hid h.size
  have HR := Lib.hid hr
  have HCp := Lib.hid (fun w h => l9Copy_any v ss w h (by omega) (fun s hs => by have := sb_len (rd_sub hr s hs); omega))
  have HAt := Lib.hid (fun w h => l9At_any v ss o.u w h)
  rw [atK_there (rd_ris hr) hf, hpl] at HAt
  have hge : decide ((P : Int) < 0) = false := decide_eq_false (by omega)
  have HDo : Hid (doI ss o = some (ss.take P ++ ss.drop (P + 1))) := Lib.hid (by unfold doI; rw [if_neg (by omega), if_neg (by omega), chV_at (by unfold opU; rw [if_neg (by omega)]; exact hf) (by unfold opU; rw [if_neg (by omega)]; exact hpl) hP]; rw [if_pos hk])
  obtain ⟨a, cap, rfl, hl, hm, hc⟩ := h.raw
  obtain ⟨xa, xc, rfl⟩ := hx.1.slice
  clear hc h hx hr
  have hb0 : Below w.heap.size w (((w.alloc (.cells #[.slice a ss.length cap] 26)).alloc (.cells #[.int .i64 o.k, .string o.u, .string o.i, .int .i64 o.d, .string o.fu, .string o.ft, .slice xa o.its.length xc] 31)).alloc (.cells #[.slice none 0 0] 26)) := (((Below.refl _ _).alloc (Nat.le_refl _) _).alloc (by simp) _).alloc (by simp; omega) _
  have hR0 := ((Box.new w #[.slice a ss.length cap] 26).alloc (.cells #[.int .i64 o.k, .string o.u, .string o.i, .int .i64 o.d, .string o.fu, .string o.ft, .slice xa o.its.length xc] 31)).alloc (.cells #[.slice none 0 0] 26)
  have hO0 : Box (((w.alloc (.cells #[.slice a ss.length cap] 26)).alloc (.cells #[.int .i64 o.k, .string o.u, .string o.i, .int .i64 o.d, .string o.fu, .string o.ft, .slice xa o.its.length xc] 31)).alloc (.cells #[.slice none 0 0] 26)) (w.heap.size + 1) #[.int .i64 o.k, .string o.u, .string o.i, .int .i64 o.d, .string o.fu, .string o.ft, .slice xa o.its.length xc] 31 := by
    have := (Box.new (w.alloc (.cells #[.slice a ss.length cap] 26)) #[.int .i64 o.k, .string o.u, .string o.i, .int .i64 o.d, .string o.fu, .string o.ft, .slice xa o.its.length xc] 31).alloc (.cells #[.slice none 0 0] 26)
    simpa using this
  have hZ0 : Box (((w.alloc (.cells #[.slice a ss.length cap] 26)).alloc (.cells #[.int .i64 o.k, .string o.u, .string o.i, .int .i64 o.d, .string o.fu, .string o.ft, .slice xa o.its.length xc] 31)).alloc (.cells #[.slice none 0 0] 26)) (w.heap.size + 1 + 1) #[.slice none 0 0] 26 := by
    have := Box.new ((w.alloc (.cells #[.slice a ss.length cap] 26)).alloc (.cells #[.int .i64 o.k, .string o.u, .string o.i, .int .i64 o.d, .string o.fu, .string o.ft, .slice xa o.its.length xc] 31)) #[.slice none 0 0] 26
    simpa using this
  have hsz0 : (((w.alloc (.cells #[.slice a ss.length cap] 26)).alloc (.cells #[.int .i64 o.k, .string o.u, .string o.i, .int .i64 o.d, .string o.fu, .string o.ft, .slice xa o.its.length xc] 31)).alloc (.cells #[.slice none 0 0] 26)).heap.size = w.heap.size + 3 := by simp
  have hk11 : (o.k == 1) = false := beq_eq_false_iff_ne.2 (by omega)
  have hk33 : (o.k == 3) = false := beq_eq_false_iff_ne.2 (by omega)
  have hk99 : (o.k == 9) = false := beq_eq_false_iff_ne.2 (by omega)
  have hk22 : (o.k == 2) = true := beq_iff_eq.2 hk
  clear hk hl hm hf hpl
  unfold OutCp at HCp
  go_enter Try.func53, Try.ntmps53
  go_wp2_with fail
  generalize ((w.alloc (.cells #[.slice a ss.length cap] 26)).alloc (.cells #[.int .i64 o.k, .string o.u, .string o.i, .int .i64 o.d, .string o.fu, .string o.ft, .slice xa o.its.length xc] 31)).alloc (.cells #[.slice none 0 0] 26) = W0 at hb0 hR0 hO0 hZ0 hsz0 ⊢
  refine (HCp.out _ ((HI.out.below hb0).mono hb0.size)).mono ?_
  rintro e w1 ⟨v1, qs, rfl, hq1, hD1, hb1⟩
  obtain ⟨va, vc, rfl⟩ := hD1.1.slice
  have hs1 : w.heap.size + 3 ≤ w1.heap.size := by have := hb1.size; omega
  have hB1 := (hb0.trans (hb1.mono hb0.size)).alloc (by omega) (.cells #[.slice va qs.length vc] 26)
  have hZ1 := (hZ0.keep hb1 hZ0.lt).alloc (.cells #[.slice va qs.length vc] 26)
  have hO1 := (hO0.keep hb1 hO0.lt).alloc (.cells #[.slice va qs.length vc] 26)
  have hR1 := (hR0.keep hb1 hR0.lt).alloc (.cells #[.slice va qs.length vc] 26)
  have hX1 := Box.new w1 #[.slice va qs.length vc] 26
  have HD1 : Hid (OwnD (w1.alloc (.cells #[.slice va qs.length vc] 26)) (w.heap.size + 3) (.slice va qs.length vc) qs) := Lib.hid ((hD1.lower (show w.heap.size + 3 ≤ W0.heap.size by omega)).keep ((Below.refl _ _).alloc (Nat.le_refl _) _) (Nat.le_refl _))
  have HV1 : Hid (Value.ownBlock (.slice va qs.length vc) ≠ Option.some w1.heap.size ∧ ∀ q ∈ qs, q.2.ownBlock ≠ Option.some w1.heap.size) := Lib.hid ⟨fun e => by have := (World.ownsRow.lt hD1.1 _ e).2; omega, fun q hq e => by have := (World.ownsRow.lt (hD1.2.1 q hq) _ e).2; omega⟩
  have hql : qs.length = ss.length := by have := congrArg List.length hq1; simpa using this
  have HQ1 := Lib.hid hq1
  rw [hql] at hB1 hZ1 hO1 hR1 hX1 HD1 HV1 ⊢
  clear hb1 hb0 hR0 hO0 hZ0 hsz0 hq1 hD1 HCp
  have f0 : (w1.alloc (.cells #[.slice va ss.length vc] 26)).cell? ⟨w.heap.size + 1, 0, none⟩ = some (.int .i64 o.k) := hO1.cell 0 _ rfl
  have f1 : (w1.alloc (.cells #[.slice va ss.length vc] 26)).cell? ⟨w.heap.size + 1, 1, none⟩ = some (.string o.u) := hO1.cell 1 _ rfl
  have f4 : (w1.alloc (.cells #[.slice va ss.length vc] 26)).cell? ⟨w.heap.size + 1, 4, none⟩ = some (.string o.fu) := hO1.cell 4 _ rfl
  have r0 : (w1.alloc (.cells #[.slice va ss.length vc] 26)).cell? ⟨w.heap.size, 0, none⟩ = some (.slice a ss.length cap) := hR1.cell 0 _ rfl
  go_wp2_with fail
  refine (HAt.out _ ((HI.out.below hB1).mono hB1.size)).mono ?_
  rintro e w2 ⟨rfl, hb2⟩
  have hB2 := hB1.trans (hb2.mono hB1.size)
  have hZ2 := hZ1.keep hb2 hZ1.lt
  have hO2 := hO1.keep hb2 hO1.lt
  have hX2 := hX1.keep hb2 hX1.lt
  have HD2 := Lib.hid (HD1.out.keep hb2 (Nat.le_refl _))
  have hs2 : w1.heap.size < w2.heap.size := hX2.lt
  have g0 : w2.cell? ⟨w.heap.size + 1, 0, none⟩ = some (.int .i64 o.k) := hO2.cell 0 _ rfl
  clear hb2 hB1 hZ1 hO1 hR1 f0 f1 f4 r0 HAt hX1 HD1
  generalize w1.heap.size = D at hX2 HV1 hs1 hs2 ⊢
  clear w1
  have hql : qs.length = ss.length := by have := congrArg List.length HQ1.out; simpa using this
  have hnv := HV1.out.1
  obtain ⟨g, rfl, hg1, hg2, hgn⟩ := OwnR.form HD2.out.1 (by omega)
  have hkr : P < qs.length := by omega
  have hgD : D ≠ g := fun e => hnv (by rw [e]; rfl)
  have hcl : ss.length ≤ vc := by have := HD2.out.1.capLe; omega
  have HRc : Hid (RecAt 3 sbC w2 w2.heap.size (.slice (some ⟨g, 0, none⟩) ss.length vc) qs) := Lib.hid (HD2.out.1.at sbC_len)
  have HOn := Lib.hid HD2.out.one
  have HQe : Hid ((qs.take P ++ qs.drop (P + 1)).map Prod.fst = ss.take P ++ ss.drop (P + 1)) := Lib.hid (by rw [List.map_append, List.map_take, List.map_drop, HQ1.out])
  have htl : (qs.take P).length = P := by rw [List.length_take]; omega
  have hdl : (qs.drop (P + 1)).length = ss.length - (P + 1) := by rw [List.length_drop]; omega
  have HSb : Hid (List.Sublist (qs.take P ++ qs.drop (P + 1)) qs) := Lib.hid (by rw [← List.eraseIdx_eq_take_drop_succ]; exact List.eraseIdx_sublist _ _)
  have hq6 : qs.length ≤ 6 := by omega
  clear hgn hnv hql
  by_cases hcp : vc = P + 1
  · have HCp := Lib.hid hcp
    clear hcp
    have hQ0 : Box w2.drew D #[.slice (some ⟨g, 0, none⟩) ss.length vc] 26 := hX2.drew
    go_wp2
    refine wp_region_T (fun w' => Box w' D #[.slice (some ⟨g, 0, none⟩) ss.length vc] 26) (fun _ => True) 13 (by kernel_rfl) 15 rfl ?_
    refine wpAnyT_takesA (md := .any) 7 (by kernel_rfl) (by intro d v c a w h; cases d <;> exact h) [1, 2, 3, 4, 6, 7, 8, 9] _ _ _ (by decide) (by kernel_rfl) ⟨hQ0, fun _ => trivial⟩ ?_
    simp only [pick, List.filterMap_cons, List.filterMap_nil, List.getElem?_cons_zero, List.getElem?_cons_succ]
    refine wpIf_step (.pointer (some ⟨D, 0, none⟩)) (by kernel_rfl) (fun w hw => by go_simp) ?_
    refine wpIf_step (.slice (some ⟨g, 0, none⟩) ss.length vc) (by kernel_rfl) (fun w hw => by have e0 := hw.cell 0 _ rfl; go_simp) ?_
    refine wpIf_step (.int .i64 (P : Int)) (by kernel_rfl) (fun w hw => by go_simp) ?_
    refine wpIf_step (.slice (some ⟨g, 0, none⟩) P vc) (by kernel_rfl) (fun w hw => by go_simp; intro h; omega) ?_
    refine wpIf_step (.pointer (some ⟨D, 0, none⟩)) (by kernel_rfl) (fun w hw => by go_simp) ?_
    refine wpIf_step (.slice (some ⟨g, 0, none⟩) ss.length vc) (by kernel_rfl) (fun w hw => by have e0 := hw.cell 0 _ rfl; go_simp) ?_
    refine wpIf_step (.int .i64 (P : Int)) (by kernel_rfl) (fun w hw => by go_simp) ?_
    refine wpIf_step (.int .i64 ((P : Int) + 1)) (by kernel_rfl) (fun w hw => by go_simp; rw [IntKind.wrap_i64]; omega) ?_
    refine wpIf_nil (fun hS0 => ?_)
    clear hS0
    refine wpAnyT_takesA (md := .any) 6 (by kernel_rfl) (by intro d v c a w h; cases d <;> exact h) [10] _ _ _ (by decide) (by kernel_rfl) ⟨hQ0, fun _ => trivial⟩ ?_
    simp only [pick, List.filterMap_cons, List.filterMap_nil, List.getElem?_cons_zero, List.getElem?_cons_succ]
    refine wpIf_step (.slice (some ⟨g, 0, none⟩) (ss.length - (P + 1)) (vc - (P + 1))) (by kernel_rfl) (fun w hw => by go_simp; rw [if_pos (show (0 : Int) ≤ (P : Int) + 1 ∧ (P : Int) + 1 ≤ (ss.length : Int) by omega), if_pos (show vc = P + 1 from HCp.out)]) ?_
    refine wpIf_nil (fun hS0 => ?_)
    clear hS0
    have hXd := hX2.drew
    have hZd := hZ2.drew
    have hBd := hB2.drew
    have hs2d : w.heap.size + 3 ≤ w2.drew.heap.size := by show w.heap.size + 3 ≤ w2.heap.size; omega
    have HRd : Hid (RecAt 3 sbC w2.drew w2.drew.heap.size (.slice (some ⟨g, 0, none⟩) ss.length vc) qs) := HRc
    have HDd := Lib.hid HD2.out.drew
    clear hX2 hZ2 hB2 HRc HD2 hO2 g0 hQ0
    generalize w2.drew = W at hXd hZd hBd HRd HDd hs2d ⊢
    refine wpAnyT_one 0 5 (by kernel_rfl) rfl (by kernel_rfl) (fun K hK => ?_)
    go_simp
    refine hK _ _ ⟨hXd.alloc _, fun _ => trivial⟩ (fun hS0 => ?_)
    clear hK K hS0
    have HL0 := Lib.hid (OwnR.lit (k := 3) (C := sbC) 43 W W.heap.size (Nat.le_refl _))
    have HT0 : Hid (RecAt 3 sbC (W.alloc (.cells #[] 43)) W.heap.size (.slice (some ⟨g, 0, none⟩) P vc) (qs.take P)) := Lib.hid ((HRd.out.take P (by omega)).below ((Below.refl _ _).alloc (Nat.le_refl _) _))
    obtain ⟨v3, w3, hrun3, hown3, hg3⟩ := appR_run (P := Try.prog) (t := 24) sbC_len (by decide) Try.underlying24 Try.infoSub rfl (by decide) HL0.out HT0.out (fun y hy => sbC_one y (HOn.out y (List.mem_of_mem_take hy))) (by simp; omega) (by simp) 24
    rw [List.nil_append] at hown3
    have hb3 : Below W.heap.size W w3 := ((Below.refl _ _).alloc (Nat.le_refl _) _).trans (gb_Below hg3 (by simp) (by intro b hb; cases hb; exact Nat.le_refl _))
    obtain ⟨v3a, v3c, rfl⟩ := hown3.slice
    rw [htl] at hown3 hrun3
    refine wpAnyT_one 5 4 (by kernel_rfl) rfl (by kernel_rfl) (fun K hK => ?_)
    refine wp_appQ 24 (.tmp 106) (.tmp 110) rfl _ _ (.slice v3a P v3c) rfl rfl hrun3 ?_
    have hX3 := hXd.keep hb3 hXd.lt
    have hZ3 := hZd.keep hb3 hZd.lt
    have hB3 := hBd.trans (hb3.mono (by omega))
    have hs3 : W.heap.size ≤ w3.heap.size := hb3.size
    have HR3 : Hid (RecAt 3 sbC w3 W.heap.size (.slice (some ⟨g, 0, none⟩) (ss.length - (P + 1)) (vc - (P + 1))) (qs.drop (P + 1))) := Lib.hid (by exact (HRd.out.below hb3).drop (P + 1) (by omega) (fun h b2 off2 hab => absurd h (by have := HCp.out; omega)))
    go_simp
    refine hK _ _ ⟨hX3, fun _ => trivial⟩ (fun hS0 => ?_)
    clear hK K hS0
    obtain ⟨v4, w4, hrun4, hown4, hg4⟩ := appR_run (P := Try.prog) (t := 24) sbC_len (by decide) Try.underlying24 Try.infoSub rfl (by decide) hown3 HR3.out (fun y hy => sbC_one y (HOn.out y (List.mem_of_mem_drop hy))) (by omega) hs3 24
    have hb4 : Below W.heap.size w3 w4 := gb_Below hg4 hs3 (ownBlock_base hown3)
    have HD4 := Lib.hid (HDd.out.outer hs2d (hb3.trans hb4) hown4 HSb.out)
    obtain ⟨v4a, v4c, hv4⟩ := hown4.slice
    obtain ⟨n4, hn4⟩ : ∃ n, (qs.take P ++ qs.drop (P + 1)).length = n := ⟨_, rfl⟩
    rw [hn4] at hv4
    subst hv4
    clear hn4
    refine wpAnyT_one 11 3 (by kernel_rfl) rfl (by kernel_rfl) (fun K hK => ?_)
    refine wp_appQ 24 (.tmp 111) (.tmp 116) rfl _ _ (.slice v4a n4 v4c) rfl rfl hrun4 ?_
    have hX4 := hX3.keep hb4 hXd.lt
    have hZ4 := hZ3.keep hb4 hZd.lt
    have hB4 := hB3.trans (hb4.mono (by omega))
    go_simp
    refine hK _ _ ⟨hX4, fun _ => trivial⟩ (fun hS0 => ?_)
    clear hK K hS0
    refine wpAnyT_takesA (md := .any) 2 (by kernel_rfl) (by intro d v c a w h; cases d <;> exact h) [12] _ _ _ (by decide) (by kernel_rfl) ⟨hX4, fun _ => trivial⟩ ?_
    simp only [pick, List.filterMap_cons, List.filterMap_nil, List.getElem?_cons_zero, List.getElem?_cons_succ]
    refine wpIf_step (.agg #[.slice v4a n4 v4c]) (by kernel_rfl) (fun w hw => by go_simp) ?_
    refine wpIf_nil (fun hS0 => ?_)
    clear hS0
    have z0 : w4.cell? ⟨w.heap.size + 1 + 1, 0, none⟩ = some (.slice none 0 0) := hZ4.cell 0 _ rfl
    have zf := hZ4.free
    have hX5 := hX4.other ⟨w.heap.size + 1 + 1, 0, none⟩ (.slice v4a n4 v4c) (show D ≠ w.heap.size + 1 + 1 by omega)
    refine wpAnyT_one 13 1 (by kernel_rfl) rfl (by kernel_rfl) (fun K hK => ?_)
    go_simp
    refine hK _ _ ⟨hX5, fun _ => trivial⟩ (fun hS0 => ?_)
    clear hK K hS0
    refine wpAnyT_one 14 0 (by kernel_rfl) rfl (by kernel_rfl) (fun K hK => ?_)
    go_simp
    refine hK _ _ ⟨hX5, fun _ => trivial⟩ (fun hS0 => ?_)
    clear hK K hS0
    refine wpAnyT_over (by kernel_rfl) ?_
    have hZe := hZ4.set 0 (.slice v4a n4 v4c)
    have hBe := hB4.setCell (p := ⟨w.heap.size + 1 + 1, 0, none⟩) (by simp; omega) (.slice v4a n4 v4c)
    have hDe := (HD4.out.aside ⟨w.heap.size + 1 + 1, 0, none⟩ (.slice v4a n4 v4c) (show w.heap.size + 1 + 1 < w.heap.size + 3 by omega)).lower (show w.heap.size ≤ w.heap.size + 3 by omega)
    clear z0 zf hX3 hZ3 hB3 hX4 hB4 hZ4 hXd hZd hBd hrun3 hrun4 hg3 hg4 hown3 hown4 hb3 hb4 hX5
    generalize w4.setCell ⟨w.heap.size + 1 + 1, 0, none⟩ (.slice v4a n4 v4c) = We at hZe hBe hDe ⊢
    go_wp2
    have p0 : We.cell? ⟨w.heap.size + 1 + 1, 0, none⟩ = some (.slice v4a n4 v4c) := hZe.cell 0 _ rfl
    exact bodyPost_ret (v := .tuple #[.agg #[.slice v4a n4 v4c], .bool true]) (by simp [results, Try.results53, go_sem, p0]) rfl (OutDn.some11 HDo.out ⟨_, _, rfl, HQe.out, hDe, hBe⟩)
  · have HCp := Lib.hid hcp
    clear hcp
    have hQ0 : Box w2.drew D #[.slice (some ⟨g, 0, none⟩) ss.length vc] 26 := hX2.drew
    go_wp2
    refine wp_region_T (fun w' => Box w' D #[.slice (some ⟨g, 0, none⟩) ss.length vc] 26) (fun _ => True) 13 (by kernel_rfl) 15 rfl ?_
    refine wpAnyT_takesA (md := .any) 7 (by kernel_rfl) (by intro d v c a w h; cases d <;> exact h) [1, 2, 3, 4, 6, 7, 8, 9] _ _ _ (by decide) (by kernel_rfl) ⟨hQ0, fun _ => trivial⟩ ?_
    simp only [pick, List.filterMap_cons, List.filterMap_nil, List.getElem?_cons_zero, List.getElem?_cons_succ]
    refine wpIf_step (.pointer (some ⟨D, 0, none⟩)) (by kernel_rfl) (fun w hw => by go_simp) ?_
    refine wpIf_step (.slice (some ⟨g, 0, none⟩) ss.length vc) (by kernel_rfl) (fun w hw => by have e0 := hw.cell 0 _ rfl; go_simp) ?_
    refine wpIf_step (.int .i64 (P : Int)) (by kernel_rfl) (fun w hw => by go_simp) ?_
    refine wpIf_step (.slice (some ⟨g, 0, none⟩) P vc) (by kernel_rfl) (fun w hw => by go_simp; intro h; omega) ?_
    refine wpIf_step (.pointer (some ⟨D, 0, none⟩)) (by kernel_rfl) (fun w hw => by go_simp) ?_
    refine wpIf_step (.slice (some ⟨g, 0, none⟩) ss.length vc) (by kernel_rfl) (fun w hw => by have e0 := hw.cell 0 _ rfl; go_simp) ?_
    refine wpIf_step (.int .i64 (P : Int)) (by kernel_rfl) (fun w hw => by go_simp) ?_
    refine wpIf_step (.int .i64 ((P : Int) + 1)) (by kernel_rfl) (fun w hw => by go_simp; rw [IntKind.wrap_i64]; omega) ?_
    refine wpIf_nil (fun hS0 => ?_)
    clear hS0
    refine wpAnyT_takesA (md := .any) 6 (by kernel_rfl) (by intro d v c a w h; cases d <;> exact h) [10] _ _ _ (by decide) (by kernel_rfl) ⟨hQ0, fun _ => trivial⟩ ?_
    simp only [pick, List.filterMap_cons, List.filterMap_nil, List.getElem?_cons_zero, List.getElem?_cons_succ]
    refine wpIf_step (.slice (some ⟨g, (P + 1) * 3, none⟩) (ss.length - (P + 1)) (vc - (P + 1))) (by kernel_rfl) (fun w hw => by go_simp; rw [if_pos (show (0 : Int) ≤ (P : Int) + 1 ∧ (P : Int) + 1 ≤ (ss.length : Int) by omega), if_neg (show ¬ vc = P + 1 from HCp.out)]) ?_
    refine wpIf_nil (fun hS0 => ?_)
    clear hS0
    have hXd := hX2.drew
    have hZd := hZ2.drew
    have hBd := hB2.drew
    have hs2d : w.heap.size + 3 ≤ w2.drew.heap.size := by show w.heap.size + 3 ≤ w2.heap.size; omega
    have HRd : Hid (RecAt 3 sbC w2.drew w2.drew.heap.size (.slice (some ⟨g, 0, none⟩) ss.length vc) qs) := HRc
    have HDd := Lib.hid HD2.out.drew
    clear hX2 hZ2 hB2 HRc HD2 hO2 g0 hQ0
    generalize w2.drew = W at hXd hZd hBd HRd HDd hs2d ⊢
    refine wpAnyT_one 0 5 (by kernel_rfl) rfl (by kernel_rfl) (fun K hK => ?_)
    go_simp
    refine hK _ _ ⟨hXd.alloc _, fun _ => trivial⟩ (fun hS0 => ?_)
    clear hK K hS0
    have HL0 := Lib.hid (OwnR.lit (k := 3) (C := sbC) 43 W W.heap.size (Nat.le_refl _))
    have HT0 : Hid (RecAt 3 sbC (W.alloc (.cells #[] 43)) W.heap.size (.slice (some ⟨g, 0, none⟩) P vc) (qs.take P)) := Lib.hid ((HRd.out.take P (by omega)).below ((Below.refl _ _).alloc (Nat.le_refl _) _))
    obtain ⟨v3, w3, hrun3, hown3, hg3⟩ := appR_run (P := Try.prog) (t := 24) sbC_len (by decide) Try.underlying24 Try.infoSub rfl (by decide) HL0.out HT0.out (fun y hy => sbC_one y (HOn.out y (List.mem_of_mem_take hy))) (by simp; omega) (by simp) 24
    rw [List.nil_append] at hown3
    have hb3 : Below W.heap.size W w3 := ((Below.refl _ _).alloc (Nat.le_refl _) _).trans (gb_Below hg3 (by simp) (by intro b hb; cases hb; exact Nat.le_refl _))
    obtain ⟨v3a, v3c, rfl⟩ := hown3.slice
    rw [htl] at hown3 hrun3
    refine wpAnyT_one 5 4 (by kernel_rfl) rfl (by kernel_rfl) (fun K hK => ?_)
    refine wp_appQ 24 (.tmp 106) (.tmp 110) rfl _ _ (.slice v3a P v3c) rfl rfl hrun3 ?_
    have hX3 := hXd.keep hb3 hXd.lt
    have hZ3 := hZd.keep hb3 hZd.lt
    have hB3 := hBd.trans (hb3.mono (by omega))
    have hs3 : W.heap.size ≤ w3.heap.size := hb3.size
    have HR3 : Hid (RecAt 3 sbC w3 W.heap.size (.slice (some ⟨g, (P + 1) * 3, none⟩) (ss.length - (P + 1)) (vc - (P + 1))) (qs.drop (P + 1))) := Lib.hid (by exact (HRd.out.below hb3).drop (P + 1) (by omega) (fun _ b2 off2 hab => by cases hab; simp))
    go_simp
    refine hK _ _ ⟨hX3, fun _ => trivial⟩ (fun hS0 => ?_)
    clear hK K hS0
    obtain ⟨v4, w4, hrun4, hown4, hg4⟩ := appR_run (P := Try.prog) (t := 24) sbC_len (by decide) Try.underlying24 Try.infoSub rfl (by decide) hown3 HR3.out (fun y hy => sbC_one y (HOn.out y (List.mem_of_mem_drop hy))) (by omega) hs3 24
    have hb4 : Below W.heap.size w3 w4 := gb_Below hg4 hs3 (ownBlock_base hown3)
    have HD4 := Lib.hid (HDd.out.outer hs2d (hb3.trans hb4) hown4 HSb.out)
    obtain ⟨v4a, v4c, hv4⟩ := hown4.slice
    obtain ⟨n4, hn4⟩ : ∃ n, (qs.take P ++ qs.drop (P + 1)).length = n := ⟨_, rfl⟩
    rw [hn4] at hv4
    subst hv4
    clear hn4
    refine wpAnyT_one 11 3 (by kernel_rfl) rfl (by kernel_rfl) (fun K hK => ?_)
    refine wp_appQ 24 (.tmp 111) (.tmp 116) rfl _ _ (.slice v4a n4 v4c) rfl rfl hrun4 ?_
    have hX4 := hX3.keep hb4 hXd.lt
    have hZ4 := hZ3.keep hb4 hZd.lt
    have hB4 := hB3.trans (hb4.mono (by omega))
    go_simp
    refine hK _ _ ⟨hX4, fun _ => trivial⟩ (fun hS0 => ?_)
    clear hK K hS0
    refine wpAnyT_takesA (md := .any) 2 (by kernel_rfl) (by intro d v c a w h; cases d <;> exact h) [12] _ _ _ (by decide) (by kernel_rfl) ⟨hX4, fun _ => trivial⟩ ?_
    simp only [pick, List.filterMap_cons, List.filterMap_nil, List.getElem?_cons_zero, List.getElem?_cons_succ]
    refine wpIf_step (.agg #[.slice v4a n4 v4c]) (by kernel_rfl) (fun w hw => by go_simp) ?_
    refine wpIf_nil (fun hS0 => ?_)
    clear hS0
    have z0 : w4.cell? ⟨w.heap.size + 1 + 1, 0, none⟩ = some (.slice none 0 0) := hZ4.cell 0 _ rfl
    have zf := hZ4.free
    have hX5 := hX4.other ⟨w.heap.size + 1 + 1, 0, none⟩ (.slice v4a n4 v4c) (show D ≠ w.heap.size + 1 + 1 by omega)
    refine wpAnyT_one 13 1 (by kernel_rfl) rfl (by kernel_rfl) (fun K hK => ?_)
    go_simp
    refine hK _ _ ⟨hX5, fun _ => trivial⟩ (fun hS0 => ?_)
    clear hK K hS0
    refine wpAnyT_one 14 0 (by kernel_rfl) rfl (by kernel_rfl) (fun K hK => ?_)
    go_simp
    refine hK _ _ ⟨hX5, fun _ => trivial⟩ (fun hS0 => ?_)
    clear hK K hS0
    refine wpAnyT_over (by kernel_rfl) ?_
    have hZe := hZ4.set 0 (.slice v4a n4 v4c)
    have hBe := hB4.setCell (p := ⟨w.heap.size + 1 + 1, 0, none⟩) (by simp; omega) (.slice v4a n4 v4c)
    have hDe := (HD4.out.aside ⟨w.heap.size + 1 + 1, 0, none⟩ (.slice v4a n4 v4c) (show w.heap.size + 1 + 1 < w.heap.size + 3 by omega)).lower (show w.heap.size ≤ w.heap.size + 3 by omega)
    clear z0 zf hX3 hZ3 hB3 hX4 hB4 hZ4 hXd hZd hBd hrun3 hrun4 hg3 hg4 hown3 hown4 hb3 hb4 hX5
    generalize w4.setCell ⟨w.heap.size + 1 + 1, 0, none⟩ (.slice v4a n4 v4c) = We at hZe hBe hDe ⊢
    go_wp2
    have p0 : We.cell? ⟨w.heap.size + 1 + 1, 0, none⟩ = some (.slice v4a n4 v4c) := hZe.cell 0 _ rfl
    exact bodyPost_ret (v := .tuple #[.agg #[.slice v4a n4 v4c], .bool true]) (by simp [results, Try.results53, go_sem, p0]) rfl (OutDn.some11 HDo.out ⟨_, _, rfl, HQe.out, hDe, hBe⟩)
end Go.Proofs.Ytffkakpbelknaaa
