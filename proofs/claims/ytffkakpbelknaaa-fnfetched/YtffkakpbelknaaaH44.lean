/- Joined: Y9d. -/
import Derived.Test.YtffkakpbelknaaaH42
/- Y9d -/
namespace Go.Proofs.Ytffkakpbelknaaa
open Go.ChangeShapes Go.WideShapes Go.ChangeAt Go.RowKit
set_option linter.unusedVariables false

set_option maxRecDepth 100000 in
set_option maxHeartbeats 4000000 in
theorem l9Done_mark (v x : Value) (ss : List Sb) (o : OpD) (w : World) (h : SbAt w w.heap.size v ss) (hx : ItAt w w.heap.size x o.its) (hr : rdB ss = true) (hk : o.k = 4 ∨ o.k = 5 ∨ o.k = 6 ∨ o.k = 7) (hf : fnB (sbKs ss) o.u = true) (P : Nat) (hpl : plK (sbKs ss) o.u = P) (hP : P < ss.length) (hfe : fnB (enKs ss[P].es) o.i = true) :
    Calls Try.prog 53 #[.agg #[v], opV o x] w (OutDn (doI ss o) w) := by
  have HI := Lib.hid h
  have HX := Lib.hid hx
  have h6 := rd_len hr
  have HSz := Lib.hid h.size
  have HR := Lib.hid hr
  have HCp := Lib.hid (fun w h => l9Copy_any v ss w h (by omega) (fun s hs => by have := sb_len (rd_sub hr s hs); omega))
  have HAt := Lib.hid (fun w h => l9At_any v ss o.u w h)
  rw [atK_there (rd_ris hr) hf, hpl] at HAt
  have hge : decide ((P : Int) < 0) = false := decide_eq_false (by omega)
  have HDo : Hid (doI ss o = some (ss.set P (mkS ss[P] o.i o.k))) := Lib.hid (by unfold doI; rw [if_neg (by omega), if_neg (by omega), chV_at (by unfold opU; rw [if_neg (by omega)]; exact hf) (by unfold opU; rw [if_neg (by omega)]; exact hpl) hP]; rw [if_neg (by omega), if_neg (by omega), if_neg (by omega), if_pos hfe])
  obtain ⟨a, cap, rfl, hl, hm, hc⟩ := h.raw
  obtain ⟨xa, xc, rfl⟩ := hx.1.slice
  clear hc h hx hr
  have hb0 : Below w.heap.size w (((w.alloc (.cells #[.slice a ss.length cap] 26)).alloc (.cells #[.int .i64 o.k, .string o.u, .string o.i, .int .i64 o.d, .string o.fu, .string o.ft, .slice xa o.its.length xc] 31)).alloc (.cells #[.slice none 0 0] 26)) := (((Below.refl _ _).alloc (Nat.le_refl _) _).alloc (by simp) _).alloc (by simp; omega) _
  have hR0 := ((Box.new w #[.slice a ss.length cap] 26).alloc (.cells #[.int .i64 o.k, .string o.u, .string o.i, .int .i64 o.d, .string o.fu, .string o.ft, .slice xa o.its.length xc] 31)).alloc (.cells #[.slice none 0 0] 26)
  have hO0 : Box (((w.alloc (.cells #[.slice a ss.length cap] 26)).alloc (.cells #[.int .i64 o.k, .string o.u, .string o.i, .int .i64 o.d, .string o.fu, .string o.ft, .slice xa o.its.length xc] 31)).alloc (.cells #[.slice none 0 0] 26)) (w.heap.size + 1) #[.int .i64 o.k, .string o.u, .string o.i, .int .i64 o.d, .string o.fu, .string o.ft, .slice xa o.its.length xc] 31 := by
    have := (Box.new (w.alloc (.cells #[.slice a ss.length cap] 26)) #[.int .i64 o.k, .string o.u, .string o.i, .int .i64 o.d, .string o.fu, .string o.ft, .slice xa o.its.length xc] 31).alloc (.cells #[.slice none 0 0] 26)
    simpa using this
  have hZ0 : Box (((w.alloc (.cells #[.slice a ss.length cap] 26)).alloc (.cells #[.int .i64 o.k, .string o.u, .string o.i, .int .i64 o.d, .string o.fu, .string o.ft, .slice xa o.its.length xc] 31)).alloc (.cells #[.slice none 0 0] 26)) (w.heap.size + 1 + 1) #[.slice none 0 0] 26 := by
    have := Box.new ((w.alloc (.cells #[.slice a ss.length cap] 26)).alloc (.cells #[.int .i64 o.k, .string o.u, .string o.i, .int .i64 o.d, .string o.fu, .string o.ft, .slice xa o.its.length xc] 31)) #[.slice none 0 0] 26
    simpa using this
  have hsz0 : (((w.alloc (.cells #[.slice a ss.length cap] 26)).alloc (.cells #[.int .i64 o.k, .string o.u, .string o.i, .int .i64 o.d, .string o.fu, .string o.ft, .slice xa o.its.length xc] 31)).alloc (.cells #[.slice none 0 0] 26)).heap.size = w.heap.size + 3 := by simp
  have hk11 : (o.k == 1) = false := beq_eq_false_iff_ne.2 (by omega)
  have hk22 : (o.k == 2) = false := beq_eq_false_iff_ne.2 (by omega)
  have hk33 : (o.k == 3) = false := beq_eq_false_iff_ne.2 (by omega)
  have hk88 : (o.k == 8) = false := beq_eq_false_iff_ne.2 (by omega)
  have hk99 : (o.k == 9) = false := beq_eq_false_iff_ne.2 (by omega)
  have HK := Lib.hid hk
  clear hk hl hm hf hpl
  unfold OutCp at HCp
  go_enter Try.func53, Try.ntmps53
  go_wp2_with fail
  generalize ((w.alloc (.cells #[.slice a ss.length cap] 26)).alloc (.cells #[.int .i64 o.k, .string o.u, .string o.i, .int .i64 o.d, .string o.fu, .string o.ft, .slice xa o.its.length xc] 31)).alloc (.cells #[.slice none 0 0] 26) = W0 at hb0 hR0 hO0 hZ0 hsz0 ⊢
  refine (HCp.out _ ((HI.out.below hb0).mono hb0.size)).mono ?_
  rintro e w1 ⟨v1, qs, rfl, hq1, hD1, hb1⟩
  obtain ⟨va, vc, rfl⟩ := hD1.1.slice
  have hs1 : w.heap.size + 3 ≤ w1.heap.size := by have := hb1.size; omega
  have hB1 := (hb0.trans (hb1.mono hb0.size)).alloc (by omega) (.cells #[.slice va qs.length vc] 26)
  have hZ1 := (hZ0.keep hb1 hZ0.lt).alloc (.cells #[.slice va qs.length vc] 26)
  have hO1 := (hO0.keep hb1 hO0.lt).alloc (.cells #[.slice va qs.length vc] 26)
  have hR1 := (hR0.keep hb1 hR0.lt).alloc (.cells #[.slice va qs.length vc] 26)
  have hX1 := Box.new w1 #[.slice va qs.length vc] 26
  have HD1 : Hid (OwnD (w1.alloc (.cells #[.slice va qs.length vc] 26)) (w.heap.size + 3) (.slice va qs.length vc) qs) := Lib.hid ((hD1.lower (show w.heap.size + 3 ≤ W0.heap.size by omega)).keep ((Below.refl _ _).alloc (Nat.le_refl _) _) (Nat.le_refl _))
  have HV1 : Hid (Value.ownBlock (.slice va qs.length vc) ≠ Option.some w1.heap.size ∧ ∀ q ∈ qs, q.2.ownBlock ≠ Option.some w1.heap.size) := Lib.hid ⟨fun e => by have := (World.ownsRow.lt hD1.1 _ e).2; omega, fun q hq e => by have := (World.ownsRow.lt (hD1.2.1 q hq) _ e).2; omega⟩
  have hql : qs.length = ss.length := by have := congrArg List.length hq1; simpa using this
  have HQ1 := Lib.hid hq1
  rw [hql] at hB1 hZ1 hO1 hR1 hX1 HD1 HV1 ⊢
  clear hb1 hb0 hR0 hO0 hZ0 hsz0 hq1 hD1 HCp
  have f0 : (w1.alloc (.cells #[.slice va ss.length vc] 26)).cell? ⟨w.heap.size + 1, 0, none⟩ = some (.int .i64 o.k) := hO1.cell 0 _ rfl
  have f1 : (w1.alloc (.cells #[.slice va ss.length vc] 26)).cell? ⟨w.heap.size + 1, 1, none⟩ = some (.string o.u) := hO1.cell 1 _ rfl
  have f4 : (w1.alloc (.cells #[.slice va ss.length vc] 26)).cell? ⟨w.heap.size + 1, 4, none⟩ = some (.string o.fu) := hO1.cell 4 _ rfl
  have r0 : (w1.alloc (.cells #[.slice va ss.length vc] 26)).cell? ⟨w.heap.size, 0, none⟩ = some (.slice a ss.length cap) := hR1.cell 0 _ rfl
  go_wp2_with fail
  refine (HAt.out _ ((HI.out.below hB1).mono hB1.size)).mono ?_
  rintro e w2 ⟨rfl, hb2⟩
  have hB2 := hB1.trans (hb2.mono hB1.size)
  have hZ2 := hZ1.keep hb2 hZ1.lt
  have hO2 := hO1.keep hb2 hO1.lt
  have hX2 := hX1.keep hb2 hX1.lt
  have HD2 := Lib.hid (HD1.out.keep hb2 (Nat.le_refl _))
  have hs2 : w1.heap.size < w2.heap.size := hX2.lt
  have g0 : w2.cell? ⟨w.heap.size + 1, 0, none⟩ = some (.int .i64 o.k) := hO2.cell 0 _ rfl
  clear hb2 hB1 hZ1 hO1 hR1 f0 f1 f4 r0 HAt hX1 HD1
  generalize w1.heap.size = D at hX2 HV1 hs1 hs2 ⊢
  clear w1
  have hql : qs.length = ss.length := by have := congrArg List.length HQ1.out; simpa using this
  have hnv := HV1.out.1
  have hnp := HV1.out.2
  obtain ⟨g, rfl, hg1, hg2, hgn⟩ := OwnR.form HD2.out.1 (by omega)
  have hkr : P < qs.length := by omega
  have hPs : qs[P].1 = ss[P] := fst_at HQ1.out P hkr hP
  have hgD : D ≠ g := fun e => hnv (by rw [e]; rfl)
  obtain ⟨ya, yc, hyv⟩ := (HD2.out.2.1 _ (List.getElem_mem hkr)).slice
  have c0 := HD2.out.1.val sbC_len hgn P 0 _ hkr rfl
  have c1 := HD2.out.1.val sbC_len hgn P 1 _ hkr rfl
  have c2 := HD2.out.1.val sbC_len hgn P 2 _ hkr rfl
  have hoy := HD2.out.2.1 _ (List.getElem_mem hkr)
  have hny := hnp _ (List.getElem_mem hkr)
  rw [hyv] at c2 hoy hny
  rw [hPs] at c0 c1 c2 hoy hyv hny
  rw [Nat.add_zero] at c0
  have HSy := Lib.hid (HSz.out _ (List.getElem_mem hP))
  have hel : ss[P].es.length ≤ 12 := sb_len (rd_sub HR.out _ (List.getElem_mem hP))
  have hre : risB (enKs ss[P].es) = true := sb_ris (rd_sub HR.out _ (List.getElem_mem hP))
  have HY : Hid (EnAt w2.drew w2.drew.heap.size (.slice ya ss[P].es.length yc) ss[P].es) := Lib.hid ⟨hoy.at enC_len, HSy.out.2⟩
  have HFd := Lib.hid (fun w (h : EnAt w w.heap.size (.slice ya ss[P].es.length yc) ss[P].es) => l9Find_any (.slice ya ss[P].es.length yc) ss[P].es o.i w h)
  rw [atK_there hre hfe] at HFd
  have hKl := fn_pe hfe
  obtain ⟨M, hMe⟩ : ∃ M, M = plK (enKs ss[P].es) o.i := ⟨_, rfl⟩
  rw [← hMe] at HFd hKl
  have HMk2 : Hid (mkS ss[P] o.i o.k = ⟨ss[P].u, ss[P].t, ss[P].es.set M (mkE ss[P].es[M] o.k)⟩) := Lib.hid (by unfold mkS mkAt; rw [← hMe, List.getElem?_eq_getElem hKl])
  clear hMe
  have hge2 : decide ((M : Int) < 0) = false := decide_eq_false (by omega)
  have hoy2 := hoy
  have HSub : Hid (∀ E2 : List En, (qs.set P ((⟨ss[P].u, ss[P].t, E2⟩ : Sb), Value.slice ya ss[P].es.length yc)).map Prod.fst = ss.set P ⟨ss[P].u, ss[P].t, E2⟩) := Lib.hid (fun E2 => by rw [List.map_set, HQ1.out])
  have HIn : Hid (∀ (w3 w4 : World) (E2 : List En), OwnD w3 (w.heap.size + 3) (.slice (some ⟨g, 0, none⟩) ss.length vc) qs → w3.grownBy w4 (Value.ownBlock (.slice ya ss[P].es.length yc)) → OwnR 47 5 enC w4 (w.heap.size + 3) (.slice ya ss[P].es.length yc) E2 → OwnD w4 (w.heap.size + 3) (.slice (some ⟨g, 0, none⟩) ss.length vc) (qs.set P ((⟨ss[P].u, ss[P].t, E2⟩ : Sb), Value.slice ya ss[P].es.length yc))) := Lib.hid (fun w3 w4 E2 h3 hg4 ho4 => by have := h3.inplace P hkr ⟨ss[P].u, ss[P].t, E2⟩ (by rw [hPs]) (by rw [hPs]) (by rw [hyv]; exact hg4) (by rw [hyv]; exact ho4); rw [hyv] at this; exact this)
  obtain ⟨h, hya, hh1, hh2, hhn⟩ := OwnR.form hoy (by omega)
  subst hya
  have hhD : D ≠ h := fun e => hny (by rw [e]; rfl)
  have hgh : g ≠ h := fun e => by rcases own_apart (by decide) HD2.out.1 hoy with h1 | h1; (cases h1); exact h1 (by rw [e]; rfl)
  have hP2 := hP
  generalize ss[P].u = U at HSub HIn HMk2 c0
  generalize ss[P].t = V at HSub HIn HMk2 c1
  generalize ss[P].es = E at c2 HY HFd hoy hel hre hfe hKl HSub HIn HMk2 hyv hoy2 HSy hny hhn
  clear hre hfe hel hyv c0 c1 hnp hnv hny hhn hoy2 HSy hPs hgn hql
  have hQ0 : (Box w2.drew D #[.slice (some ⟨g, 0, none⟩) ss.length vc] 26 ∧ Box w2.drew (w.heap.size + 1) #[.int .i64 o.k, .string o.u, .string o.i, .int .i64 o.d, .string o.fu, .string o.ft, .slice xa o.its.length xc] 31) ∧ w2.drew.cell? ⟨g, P * 3 + 2, none⟩ = some (.slice (some ⟨h, 0, none⟩) E.length yc) := ⟨⟨hX2.drew, hO2.drew⟩, c2⟩
  go_wp2
  refine wp_region_T (fun w' => (Box w' D #[.slice (some ⟨g, 0, none⟩) ss.length vc] 26 ∧ Box w' (w.heap.size + 1) #[.int .i64 o.k, .string o.u, .string o.i, .int .i64 o.d, .string o.fu, .string o.ft, .slice xa o.its.length xc] 31) ∧ w'.cell? ⟨g, P * 3 + 2, none⟩ = some (.slice (some ⟨h, 0, none⟩) E.length yc)) (fun _ => True) 9 (by kernel_rfl) 10 rfl ?_
  refine wpAnyT_takesA (md := .any) 2 (by kernel_rfl) (by intro d v c a w h; cases d <;> exact h) [0, 1, 2, 3, 4, 5, 6, 7] _ _ _ (by decide) (by kernel_rfl) ⟨hQ0, fun _ => trivial⟩ ?_
  simp only [pick, List.filterMap_cons, List.filterMap_nil, List.getElem?_cons_zero, List.getElem?_cons_succ]
  refine wpIf_step (.pointer (some ⟨D, 0, none⟩)) (by kernel_rfl) (fun w hw => by go_simp) ?_
  refine wpIf_step (.slice (some ⟨g, 0, none⟩) ss.length vc) (by kernel_rfl) (fun w hw => by have e0 := hw.1.1.cell 0 _ rfl; go_simp) ?_
  refine wpIf_step (.int .i64 (P : Int)) (by kernel_rfl) (fun w hw => by go_simp) ?_
  refine wpIf_step (.pointer (some ⟨g, P * 3, none⟩)) (by kernel_rfl) (fun w hw => by go_simp) ?_
  refine wpIf_step (.pointer (some ⟨g, P * 3 + 2, none⟩)) (by kernel_rfl) (fun w hw => by go_simp) ?_
  refine wpIf_step (.slice (some ⟨h, 0, none⟩) E.length yc) (by kernel_rfl) (fun w hw => by have e0 := hw.2; go_simp) ?_
  refine wpIf_step (.pointer (some ⟨w.heap.size + 1, 2, none⟩)) (by kernel_rfl) (fun w hw => by go_simp) ?_
  refine wpIf_step (.string o.i) (by kernel_rfl) (fun w hw => by have e0 := hw.1.2.cell 2 _ rfl; go_simp) ?_
  refine wpIf_nil (fun hS => ?_)
  clear hS
  refine wpAnyT_one 8 1 (by kernel_rfl) rfl (by kernel_rfl) (fun K hK => ?_)
  go_simp
  refine (HFd.out w2.drew HY.out).mono ?_
  rintro e w3 ⟨rfl, hb3⟩
  have hX3 := hX2.drew.keep hb3 hX2.lt
  have hO3 := hO2.drew.keep hb3 hO2.lt
  have hZ3 := hZ2.drew.keep hb3 hZ2.lt
  have hB3 := hB2.drew.trans (hb3.mono hB2.size)
  have hs3 : D < w3.heap.size := hX3.lt
  have HD3 := Lib.hid (HD2.out.drew.keep hb3 (Nat.le_refl _))
  have c3 : w3.cell? ⟨g, P * 3 + 2, none⟩ = some (.slice (some ⟨h, 0, none⟩) E.length yc) := by rw [hb3.cell (p := ⟨g, P * 3 + 2, none⟩) hg2]; exact c2
  have hsw : w2.heap.size ≤ w3.heap.size := hb3.size
  have hoy3 := hoy.drew.keep hb3 (Nat.le_refl _)
  refine hK _ _ ⟨⟨⟨hX3, hO3⟩, c3⟩, fun _ => trivial⟩ (fun hS => ?_)
  clear hK K hS
  refine wpAnyT_one 9 0 (by kernel_rfl) rfl (by kernel_rfl) (fun K hK => ?_)
  go_simp
  refine hK _ _ ⟨⟨⟨hX3, hO3⟩, c3⟩, fun _ => trivial⟩ (fun hS => ?_)
  clear hK K hS
  refine wpAnyT_over (by kernel_rfl) ?_
  clear hX2 hO2 hB2 hZ2 HY HFd c2 hQ0 hoy HD2 g0
  obtain ⟨x, hxe⟩ : ∃ x, x = E[M] := ⟨_, rfl⟩
  have e0 := hoy3.val enC_len rfl M 0 _ hKl rfl
  have e1 := hoy3.val enC_len rfl M 1 _ hKl rfl
  have e2 := hoy3.val enC_len rfl M 2 _ hKl rfl
  have e3 := hoy3.val enC_len rfl M 3 _ hKl rfl
  have e4 := hoy3.val enC_len rfl M 4 _ hKl rfl
  rw [← hxe] at e0 e1 e2 e3 e4 HMk2
  rw [Nat.add_zero] at e0
  have HPt : Hid (∀ w4, OwnR 47 5 enC w4 (w.heap.size + 3) (.slice (some ⟨h, 0, none⟩) E.length yc) E → OwnR 47 5 enC (putRow h (M * 5) (enC (mkE x o.k)) w4) (w.heap.size + 3) (.slice (some ⟨h, 0, none⟩) E.length yc) (E.set M (mkE x o.k))) := Lib.hid (fun w4 h4 => h4.put enC_len rfl M (mkE x o.k) hKl)
  have HPg : Hid (∀ w4 : World, w4.grownBy (putRow h (M * 5) (enC (mkE x o.k)) w4) (some h)) := Lib.hid (fun w4 => gb_set1 h _ _ (gb_set1 h _ _ (gb_set1 h _ _ (gb_set1 h _ _ (gb_set1 h _ _ (World.grownBy.refl _ _))))))
  have HMkC := Lib.hid (fun w => l9Mark_any x o.k w HK.out)
  obtain ⟨y, hye⟩ : ∃ y, y = mkE x o.k := ⟨_, rfl⟩
  rw [← hye] at HPt HPg HMkC HMk2
  clear hye hxe
  unfold enC at HPt HPg
  simp only [putRow, Nat.add_assoc, Nat.reduceAdd] at HPt HPg
  have hQ0 : (Box w3.drew D #[.slice (some ⟨g, 0, none⟩) ss.length vc] 26 ∧ Box w3.drew (w.heap.size + 1) #[.int .i64 o.k, .string o.u, .string o.i, .int .i64 o.d, .string o.fu, .string o.ft, .slice xa o.its.length xc] 31) ∧ w3.drew.cell? ⟨g, P * 3 + 2, none⟩ = some (.slice (some ⟨h, 0, none⟩) E.length yc) := ⟨⟨hX3.drew, hO3.drew⟩, c3⟩
  have HOy := Lib.hid hoy3
  have hh3 : h < w3.heap.size := by omega
  clear hoy3
  go_wp2
  refine wp_region_T (fun w' => (Box w' D #[.slice (some ⟨g, 0, none⟩) ss.length vc] 26 ∧ Box w' (w.heap.size + 1) #[.int .i64 o.k, .string o.u, .string o.i, .int .i64 o.d, .string o.fu, .string o.ft, .slice xa o.its.length xc] 31) ∧ w'.cell? ⟨g, P * 3 + 2, none⟩ = some (.slice (some ⟨h, 0, none⟩) E.length yc)) (fun w' => w'.cell? ⟨h, M * 5, none⟩ = some (.string x.it.id) ∧ w'.cell? ⟨h, M * 5 + 1, none⟩ = some (.string x.it.ti) ∧ w'.cell? ⟨h, M * 5 + 2, none⟩ = some (.int .i64 x.it.da) ∧ w'.cell? ⟨h, M * 5 + 3, none⟩ = some (.bool x.rd) ∧ w'.cell? ⟨h, M * 5 + 4, none⟩ = some (.bool x.st)) 20 (by kernel_rfl) 21 rfl ?_
  refine wpAnyT_takesA (md := .any) 4 (by kernel_rfl) (by intro d v c a w h; cases d <;> exact h) [0, 1, 2, 3, 4, 5, 6, 7, 8, 9, 10, 11, 12, 13, 14, 16, 17] _ _ _ (by decide) (by kernel_rfl) ⟨hQ0, fun _ => ⟨e0, e1, e2, e3, e4⟩⟩ ?_
  simp only [pick, List.filterMap_cons, List.filterMap_nil, List.getElem?_cons_zero, List.getElem?_cons_succ]
  refine wpIf_step (.pointer (some ⟨D, 0, none⟩)) (by kernel_rfl) (fun w hw => by go_simp) ?_
  refine wpIf_step (.slice (some ⟨g, 0, none⟩) ss.length vc) (by kernel_rfl) (fun w hw => by have e0 := hw.1.1.cell 0 _ rfl; go_simp) ?_
  refine wpIf_step (.int .i64 (P : Int)) (by kernel_rfl) (fun w hw => by go_simp) ?_
  refine wpIf_step (.pointer (some ⟨g, P * 3, none⟩)) (by kernel_rfl) (fun w hw => by go_simp) ?_
  refine wpIf_step (.pointer (some ⟨g, P * 3 + 2, none⟩)) (by kernel_rfl) (fun w hw => by go_simp) ?_
  refine wpIf_step (.slice (some ⟨h, 0, none⟩) E.length yc) (by kernel_rfl) (fun w hw => by have e0 := hw.2; go_simp) ?_
  refine wpIf_step (.int .i64 (M : Int)) (by kernel_rfl) (fun w hw => by go_simp) ?_
  refine wpIf_step (.pointer (some ⟨D, 0, none⟩)) (by kernel_rfl) (fun w hw => by go_simp) ?_
  refine wpIf_step (.slice (some ⟨g, 0, none⟩) ss.length vc) (by kernel_rfl) (fun w hw => by have e0 := hw.1.1.cell 0 _ rfl; go_simp) ?_
  refine wpIf_step (.int .i64 (P : Int)) (by kernel_rfl) (fun w hw => by go_simp) ?_
  refine wpIf_step (.pointer (some ⟨g, P * 3, none⟩)) (by kernel_rfl) (fun w hw => by go_simp) ?_
  refine wpIf_step (.pointer (some ⟨g, P * 3 + 2, none⟩)) (by kernel_rfl) (fun w hw => by go_simp) ?_
  refine wpIf_step (.slice (some ⟨h, 0, none⟩) E.length yc) (by kernel_rfl) (fun w hw => by have e0 := hw.2; go_simp) ?_
  refine wpIf_step (.int .i64 (M : Int)) (by kernel_rfl) (fun w hw => by go_simp) ?_
  refine wpIf_step (.pointer (some ⟨h, M * 5, none⟩)) (by kernel_rfl) (fun w hw => by go_simp) ?_
  refine wpIf_step (.pointer (some ⟨w.heap.size + 1, 0, none⟩)) (by kernel_rfl) (fun w hw => by go_simp) ?_
  refine wpIf_step (.int .i64 o.k) (by kernel_rfl) (fun w hw => by have e0 := hw.1.2.cell 0 _ rfl; go_simp) ?_
  refine wpIf_nil (fun hS0 => ?_)
  refine wpAnyT_takesB (md := .any) 3 (by kernel_rfl) (by intro d v c a w h; cases d <;> exact h) [15] _ _ _ (by decide) (by kernel_rfl) (by kernel_rfl) (by kernel_rfl) hS0 ?_
  simp only [pick, List.filterMap_cons, List.filterMap_nil, List.getElem?_cons_zero, List.getElem?_cons_succ]
  refine wpIf_step (enV x.it.id x.it.ti x.it.da x.rd x.st) (by kernel_rfl) (fun w hw => by have e0 := hw.2.1; have e1 := hw.2.2.1; have e2 := hw.2.2.2.1; have e3 := hw.2.2.2.2.1; have e4 := hw.2.2.2.2.2; go_simp) ?_
  refine wpIf_nil (fun hS0 => ?_)
  clear hS0
  refine wpAnyT_one 18 2 (by kernel_rfl) rfl (by kernel_rfl) (fun K hK => ?_)
  go_simp
  refine (HMkC.out w3.drew).mono ?_
  rintro e w4 ⟨rfl, hb4⟩
  have hX4 := hX3.drew.keep hb4 hX3.lt
  have hO4 := hO3.drew.keep hb4 hO3.lt
  have hZ4 := hZ3.drew.keep hb4 hZ3.lt
  have hB4 := hB3.drew.trans (hb4.mono hB3.size)
  have HD4 := Lib.hid (HD3.out.drew.keep hb4 (Nat.le_refl _))
  have hoy4 := HOy.out.drew.keep hb4 (Nat.le_refl _)
  have kc : ∀ (q : Nat) o x, q < w3.heap.size → w3.cell? ⟨q, o, none⟩ = some x → w4.cell? ⟨q, o, none⟩ = some x := fun q o x hq h => by rw [hb4.cell (p := ⟨q, o, none⟩) hq]; exact h
  have c4 := kc g _ _ (by omega) c3
  have d0 := kc h _ _ hh3 e0
  have d1 := kc h _ _ hh3 e1
  have d2 := kc h _ _ hh3 e2
  have d3 := kc h _ _ hh3 e3
  have d4 := kc h _ _ hh3 e4
  refine hK _ _ ⟨⟨⟨hX4, hO4⟩, c4⟩, fun _ => ⟨d0, d1, d2, d3, d4⟩⟩ (fun hS0 => ?_)
  clear hK K hS0 hb4 kc
  refine wpAnyT_takesA (md := .any) 1 (by kernel_rfl) (by intro d v c a w h; cases d <;> exact h) [19] _ _ _ (by decide) (by kernel_rfl) ⟨⟨⟨hX4, hO4⟩, c4⟩, fun _ => ⟨d0, d1, d2, d3, d4⟩⟩ ?_
  simp only [pick, List.filterMap_cons, List.filterMap_nil, List.getElem?_cons_zero, List.getElem?_cons_succ]
  refine wpIf_step (.pointer (some ⟨h, M * 5, none⟩)) (by kernel_rfl) (fun w hw => by go_simp) ?_
  refine wpIf_nil (fun hS0 => ?_)
  clear hS0
  have fz := hoy4.free rfl
  have ho5 := HPt.out w4 hoy4
  have hg5 := HPg.out w4
  have hb5 : Below (w.heap.size + 3) w4 (((((w4.setCell ⟨h, M * 5, none⟩ (.string y.it.id)).setCell ⟨h, M * 5 + 1, none⟩ (.string y.it.ti)).setCell ⟨h, M * 5 + 2, none⟩ (.int .i64 y.it.da)).setCell ⟨h, M * 5 + 3, none⟩ (.bool y.rd)).setCell ⟨h, M * 5 + 4, none⟩ (.bool y.st)) := gb_Below hg5 (by have := hX4.lt; omega) (fun b hb => by cases hb; exact hh1)
  have hbh : ∀ {q : Nat} {cs : Array Value} {t : TypeId}, Box w4 q cs t → q ≠ h → Box (((((w4.setCell ⟨h, M * 5, none⟩ (.string y.it.id)).setCell ⟨h, M * 5 + 1, none⟩ (.string y.it.ti)).setCell ⟨h, M * 5 + 2, none⟩ (.int .i64 y.it.da)).setCell ⟨h, M * 5 + 3, none⟩ (.bool y.rd)).setCell ⟨h, M * 5 + 4, none⟩ (.bool y.st)) q cs t := fun hx hq => (hg5.block _ hx.lt (fun e => hq (Option.some.inj e))).trans hx
  have hX5 := hbh hX4 hhD
  have hO5 := hbh hO4 (by omega)
  have hZ5 := hbh hZ4 (by omega)
  have hB5 := hB4.trans (hb5.mono (by omega))
  have c5 : (((((w4.setCell ⟨h, M * 5, none⟩ (.string y.it.id)).setCell ⟨h, M * 5 + 1, none⟩ (.string y.it.ti)).setCell ⟨h, M * 5 + 2, none⟩ (.int .i64 y.it.da)).setCell ⟨h, M * 5 + 3, none⟩ (.bool y.rd)).setCell ⟨h, M * 5 + 4, none⟩ (.bool y.st)).cell? ⟨g, P * 3 + 2, none⟩ = some (.slice (some ⟨h, 0, none⟩) E.length yc) := by rw [cell_blk (hg5.block g (by have := HD4.out.1; have h9 := hX4.lt; have := (World.ownsRow.lt HD4.out.1 g rfl).2; omega) (fun e => hgh (Option.some.inj e)))]; exact c4
  have HD5 := Lib.hid (HIn.out w4 _ _ HD4.out hg5 ho5)
  refine wpAnyT_one 20 0 (by kernel_rfl) rfl (by kernel_rfl) (fun K hK => ?_)
  go_simp
  refine hK _ _ ⟨⟨⟨hX5, hO5⟩, c5⟩, fun h => by exact absurd h (by decide)⟩ (fun hS0 => ?_)
  clear hK K hS0 hQ0
  refine wpAnyT_over (by kernel_rfl) ?_
  have hs5 := hX5.lt
  generalize ((((w4.setCell ⟨h, M * 5, none⟩ (.string y.it.id)).setCell ⟨h, M * 5 + 1, none⟩ (.string y.it.ti)).setCell ⟨h, M * 5 + 2, none⟩ (.int .i64 y.it.da)).setCell ⟨h, M * 5 + 3, none⟩ (.bool y.rd)).setCell ⟨h, M * 5 + 4, none⟩ (.bool y.st) = W5 at hX5 hO5 hZ5 hB5 HD5 hs5 ⊢
  clear hX4 hO4 hZ4 hB4 hX3 hO3 hZ3 hB3 c3 c4 c5 fz HOy HD4 HD3 HPt HPg d0 d1 d2 d3 d4 e0 e1 e2 e3 e4 hoy4 ho5 hg5 hb5 hbh HMkC
  have HQe : Hid ((qs.set P ((⟨U, V, E.set M y⟩ : Sb), Value.slice (some ⟨h, 0, none⟩) E.length yc)).map Prod.fst = ss.set P (mkS ss[P] o.i o.k)) := Lib.hid (by rw [HMk2.out]; exact HSub.out _)
  have x0 : W5.cell? ⟨D, 0, none⟩ = some (.slice (some ⟨g, 0, none⟩) ss.length vc) := hX5.cell 0 _ rfl
  have z0 : W5.cell? ⟨w.heap.size + 1 + 1, 0, none⟩ = some (.slice none 0 0) := hZ5.cell 0 _ rfl
  have zf := hZ5.free
  go_wp2
  have hZe := hZ5.set 0 (.slice (some ⟨g, 0, none⟩) ss.length vc)
  have hBe := hB5.setCell (p := ⟨w.heap.size + 1 + 1, 0, none⟩) (by simp; omega) (.slice (some ⟨g, 0, none⟩) ss.length vc)
  have hDe := (HD5.out.aside ⟨w.heap.size + 1 + 1, 0, none⟩ (.slice (some ⟨g, 0, none⟩) ss.length vc) (show w.heap.size + 1 + 1 < w.heap.size + 3 by omega)).lower (show w.heap.size ≤ w.heap.size + 3 by omega)
  generalize W5.setCell ⟨w.heap.size + 1 + 1, 0, none⟩ (.slice (some ⟨g, 0, none⟩) ss.length vc) = We at hZe hBe hDe ⊢
  have p0 : We.cell? ⟨w.heap.size + 1 + 1, 0, none⟩ = some (.slice (some ⟨g, 0, none⟩) ss.length vc) := hZe.cell 0 _ rfl
  exact bodyPost_ret (v := .tuple #[.agg #[.slice (some ⟨g, 0, none⟩) ss.length vc], .bool true]) (by simp [results, Try.results53, go_sem, p0]) rfl (OutDn.some11 HDo.out ⟨_, _, rfl, HQe.out, hDe, hBe⟩)
end Go.Proofs.Ytffkakpbelknaaa
