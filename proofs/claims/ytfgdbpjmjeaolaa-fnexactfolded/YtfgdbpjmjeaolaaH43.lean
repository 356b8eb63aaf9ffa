/- Joined: Y9c. -/
import Derived.Test.YtfgdbpjmjeaolaaH39
/- Y9c -/
namespace Go.Proofs.Ytfgdbpjmjeaolaa
open Go.ChangeShapes Go.WideShapes Go.ChangeAt Go.RowKit
set_option linter.unusedVariables false

set_option maxRecDepth 100000 in
set_option maxHeartbeats 4000000 in
theorem l9Done_noentry (v x : Value) (ss : List Sb) (o : OpD) (w : World) (h : SbAt w w.heap.size v ss) (hx : ItAt w w.heap.size x o.its) (hr : rdB ss = true) (hk : o.k = 4 ∨ o.k = 5 ∨ o.k = 6 ∨ o.k = 7) (hf : fnB (sbKs ss) o.u = true) (P : Nat) (hpl : plK (sbKs ss) o.u = P) (hP : P < ss.length) (hfe : fnB (enKs ss[P].es) o.i = false) :
    Calls Try.prog 109 #[.agg #[v], opV o x] w (fun e w' => e = .returned (.tuple #[.agg #[.slice none 0 0], .bool false]) ∧ Below w.heap.size w w') := by
  have HI := Lib.hid h
  have HX := Lib.hid hx
  have h6 := rd_len hr
  have HSz := Lib.hid h.size
  have HR := Lib.hid hr
  have HCp := Lib.hid (fun w h => l9Copy_any v ss w h (by omega) (fun s hs => by have := sb_len (rd_sub hr s hs); omega))
  have HAt := Lib.hid (fun w h => l9At_any v ss o.u w h)
  rw [atK_there (rd_ris hr) hf, hpl] at HAt
  have hge : decide ((P : Int) < 0) = false := decide_eq_false (by omega)
  obtain ⟨a, cap, rfl, hl, hm, hc⟩ := h.raw
  obtain ⟨xa, xc, rfl⟩ := hx.1.slice
  clear hc h hx hr
  have hb0 : Below w.heap.size w (((w.alloc (.cells #[.slice a ss.length cap] 26)).alloc (.cells #[.int .i64 o.k, .string o.u, .string o.i, .int .i64 o.d, .string o.fu, .string o.ft, .slice xa o.its.length xc] 45)).alloc (.cells #[.slice none 0 0] 26)) := (((Below.refl _ _).alloc (Nat.le_refl _) _).alloc (by simp) _).alloc (by simp; omega) _
  have hR0 := ((Box.new w #[.slice a ss.length cap] 26).alloc (.cells #[.int .i64 o.k, .string o.u, .string o.i, .int .i64 o.d, .string o.fu, .string o.ft, .slice xa o.its.length xc] 45)).alloc (.cells #[.slice none 0 0] 26)
  have hO0 : Box (((w.alloc (.cells #[.slice a ss.length cap] 26)).alloc (.cells #[.int .i64 o.k, .string o.u, .string o.i, .int .i64 o.d, .string o.fu, .string o.ft, .slice xa o.its.length xc] 45)).alloc (.cells #[.slice none 0 0] 26)) (w.heap.size + 1) #[.int .i64 o.k, .string o.u, .string o.i, .int .i64 o.d, .string o.fu, .string o.ft, .slice xa o.its.length xc] 45 := by
    have := (Box.new (w.alloc (.cells #[.slice a ss.length cap] 26)) #[.int .i64 o.k, .string o.u, .string o.i, .int .i64 o.d, .string o.fu, .string o.ft, .slice xa o.its.length xc] 45).alloc (.cells #[.slice none 0 0] 26)
    simpa using this
  have hZ0 : Box (((w.alloc (.cells #[.slice a ss.length cap] 26)).alloc (.cells #[.int .i64 o.k, .string o.u, .string o.i, .int .i64 o.d, .string o.fu, .string o.ft, .slice xa o.its.length xc] 45)).alloc (.cells #[.slice none 0 0] 26)) (w.heap.size + 1 + 1) #[.slice none 0 0] 26 := by
    have := Box.new ((w.alloc (.cells #[.slice a ss.length cap] 26)).alloc (.cells #[.int .i64 o.k, .string o.u, .string o.i, .int .i64 o.d, .string o.fu, .string o.ft, .slice xa o.its.length xc] 45)) #[.slice none 0 0] 26
    simpa using this
  have hsz0 : (((w.alloc (.cells #[.slice a ss.length cap] 26)).alloc (.cells #[.int .i64 o.k, .string o.u, .string o.i, .int .i64 o.d, .string o.fu, .string o.ft, .slice xa o.its.length xc] 45)).alloc (.cells #[.slice none 0 0] 26)).heap.size = w.heap.size + 3 := by simp
  have hk11 : (o.k == 1) = false := beq_eq_false_iff_ne.2 (by omega)
  have hk22 : (o.k == 2) = false := beq_eq_false_iff_ne.2 (by omega)
  have hk33 : (o.k == 3) = false := beq_eq_false_iff_ne.2 (by omega)
  have hk88 : (o.k == 8) = false := beq_eq_false_iff_ne.2 (by omega)
  have hk99 : (o.k == 9) = false := beq_eq_false_iff_ne.2 (by omega)
  clear hk hl hm hf hpl
  unfold OutCp at HCp
  go_enter Try.func109, Try.ntmps109
  go_wp2_with fail
  generalize ((w.alloc (.cells #[.slice a ss.length cap] 26)).alloc (.cells #[.int .i64 o.k, .string o.u, .string o.i, .int .i64 o.d, .string o.fu, .string o.ft, .slice xa o.its.length xc] 45)).alloc (.cells #[.slice none 0 0] 26) = W0 at hb0 hR0 hO0 hZ0 hsz0 ⊢
  refine (HCp.out _ ((HI.out.below hb0).mono hb0.size)).mono ?_
  rintro e w1 ⟨v1, qs, rfl, hq1, hD1, hb1⟩
  obtain ⟨va, vc, rfl⟩ := hD1.1.slice
  have hs1 : w.heap.size + 3 ≤ w1.heap.size := by have := hb1.size; omega
  have hB1 := (hb0.trans (hb1.mono hb0.size)).alloc (by omega) (.cells #[.slice va qs.length vc] 26)
  have hZ1 := (hZ0.keep hb1 hZ0.lt).alloc (.cells #[.slice va qs.length vc] 26)
  have hO1 := (hO0.keep hb1 hO0.lt).alloc (.cells #[.slice va qs.length vc] 26)
  have hR1 := (hR0.keep hb1 hR0.lt).alloc (.cells #[.slice va qs.length vc] 26)
  have hX1 := Box.new w1 #[.slice va qs.length vc] 26
  have HD1 : Hid (OwnD (w1.alloc (.cells #[.slice va qs.length vc] 26)) (w.heap.size + 3) (.slice va qs.length vc) qs) := Lib.hid ((hD1.lower (show w.heap.size + 3 ≤ W0.heap.size by omega)).keep ((Below.refl _ _).alloc (Nat.le_refl _) _) (Nat.le_refl _))
  have HV1 : Hid (Value.ownBlock (.slice va qs.length vc) ≠ Option.some w1.heap.size ∧ ∀ q ∈ qs, q.2.ownBlock ≠ Option.some w1.heap.size) := Lib.hid ⟨fun e => by have := (World.ownsRow.lt hD1.1 _ e).2; omega, fun q hq e => by have := (World.ownsRow.lt (hD1.2.1 q hq) _ e).2; omega⟩
  have hql : qs.length = ss.length := by have := congrArg List.length hq1; simpa using this
  have HQ1 := Lib.hid hq1
  rw [hql] at hB1 hZ1 hO1 hR1 hX1 HD1 HV1 ⊢
  clear hb1 hb0 hR0 hO0 hZ0 hsz0 hq1 hD1 HCp
  have f0 : (w1.alloc (.cells #[.slice va ss.length vc] 26)).cell? ⟨w.heap.size + 1, 0, none⟩ = some (.int .i64 o.k) := hO1.cell 0 _ rfl
  have f1 : (w1.alloc (.cells #[.slice va ss.length vc] 26)).cell? ⟨w.heap.size + 1, 1, none⟩ = some (.string o.u) := hO1.cell 1 _ rfl
  have f4 : (w1.alloc (.cells #[.slice va ss.length vc] 26)).cell? ⟨w.heap.size + 1, 4, none⟩ = some (.string o.fu) := hO1.cell 4 _ rfl
  have r0 : (w1.alloc (.cells #[.slice va ss.length vc] 26)).cell? ⟨w.heap.size, 0, none⟩ = some (.slice a ss.length cap) := hR1.cell 0 _ rfl
  go_wp2_with fail
  refine (HAt.out _ ((HI.out.below hB1).mono hB1.size)).mono ?_
  rintro e w2 ⟨rfl, hb2⟩
  have hB2 := hB1.trans (hb2.mono hB1.size)
  have hZ2 := hZ1.keep hb2 hZ1.lt
  have hO2 := hO1.keep hb2 hO1.lt
  have hX2 := hX1.keep hb2 hX1.lt
  have HD2 := Lib.hid (HD1.out.keep hb2 (Nat.le_refl _))
  have hs2 : w1.heap.size < w2.heap.size := hX2.lt
  have g0 : w2.cell? ⟨w.heap.size + 1, 0, none⟩ = some (.int .i64 o.k) := hO2.cell 0 _ rfl
  clear hb2 hB1 hZ1 hO1 hR1 f0 f1 f4 r0 HAt hX1 HD1
  generalize w1.heap.size = D at hX2 HV1 hs1 hs2 ⊢
  clear w1
  have hql : qs.length = ss.length := by have := congrArg List.length HQ1.out; simpa using this
  have hnv := HV1.out.1
  have hnp := HV1.out.2
  obtain ⟨g, rfl, hg1, hg2, hgn⟩ := OwnR.form HD2.out.1 (by omega)
  have hkr : P < qs.length := by omega
  have hPs : qs[P].1 = ss[P] := fst_at HQ1.out P hkr hP
  have hgD : D ≠ g := fun e => hnv (by rw [e]; rfl)
  obtain ⟨ya, yc, hyv⟩ := (HD2.out.2.1 _ (List.getElem_mem hkr)).slice
  have c0 := HD2.out.1.val sbC_len hgn P 0 _ hkr rfl
  have c1 := HD2.out.1.val sbC_len hgn P 1 _ hkr rfl
  have c2 := HD2.out.1.val sbC_len hgn P 2 _ hkr rfl
  have hoy := HD2.out.2.1 _ (List.getElem_mem hkr)
  have hny := hnp _ (List.getElem_mem hkr)
  rw [hyv] at c2 hoy hny
  rw [hPs] at c0 c1 c2 hoy hyv hny
  rw [Nat.add_zero] at c0
  have HSy := Lib.hid (HSz.out _ (List.getElem_mem hP))
  have hel : ss[P].es.length ≤ 12 := sb_len (rd_sub HR.out _ (List.getElem_mem hP))
  have hre : risB (enKs ss[P].es) = true := sb_ris (rd_sub HR.out _ (List.getElem_mem hP))
  have HY : Hid (EnAt w2.drew w2.drew.heap.size (.slice ya ss[P].es.length yc) ss[P].es) := Lib.hid ⟨hoy.at enC_len, HSy.out.2⟩
  have HFd := Lib.hid (fun w (h : EnAt w w.heap.size (.slice ya ss[P].es.length yc) ss[P].es) => l9Find_any (.slice ya ss[P].es.length yc) ss[P].es o.i w h)
  rw [atK_not hre hfe] at HFd
  generalize ss[P].es = E at c2 HY HFd hoy hel hre hfe
  clear hre hfe hel hyv c0 c1 HSy hPs hnp hnv hny hgn
  have hQ0 : (Box w2.drew D #[.slice (some ⟨g, 0, none⟩) ss.length vc] 26 ∧ Box w2.drew (w.heap.size + 1) #[.int .i64 o.k, .string o.u, .string o.i, .int .i64 o.d, .string o.fu, .string o.ft, .slice xa o.its.length xc] 45) ∧ w2.drew.cell? ⟨g, P * 3 + 2, none⟩ = some (.slice ya E.length yc) := ⟨⟨hX2.drew, hO2.drew⟩, c2⟩
  go_wp2
  refine wp_region_T (fun w' => (Box w' D #[.slice (some ⟨g, 0, none⟩) ss.length vc] 26 ∧ Box w' (w.heap.size + 1) #[.int .i64 o.k, .string o.u, .string o.i, .int .i64 o.d, .string o.fu, .string o.ft, .slice xa o.its.length xc] 45) ∧ w'.cell? ⟨g, P * 3 + 2, none⟩ = some (.slice ya E.length yc)) (fun _ => True) 9 (by kernel_rfl) 10 rfl ?_
  refine wpAnyT_takesA (md := .any) 2 (by kernel_rfl) (by intro d v c a w h; cases d <;> exact h) [0, 1, 2, 3, 4, 5, 6, 7] _ _ _ (by decide) (by kernel_rfl) ⟨hQ0, fun _ => trivial⟩ ?_
  simp only [pick, List.filterMap_cons, List.filterMap_nil, List.getElem?_cons_zero, List.getElem?_cons_succ]
  refine wpIf_step (.pointer (some ⟨D, 0, none⟩)) (by kernel_rfl) (fun w hw => by go_simp) ?_
  refine wpIf_step (.slice (some ⟨g, 0, none⟩) ss.length vc) (by kernel_rfl) (fun w hw => by have e0 := hw.1.1.cell 0 _ rfl; go_simp) ?_
  refine wpIf_step (.int .i64 (P : Int)) (by kernel_rfl) (fun w hw => by go_simp) ?_
  refine wpIf_step (.pointer (some ⟨g, P * 3, none⟩)) (by kernel_rfl) (fun w hw => by go_simp) ?_
  refine wpIf_step (.pointer (some ⟨g, P * 3 + 2, none⟩)) (by kernel_rfl) (fun w hw => by go_simp) ?_
  refine wpIf_step (.slice ya E.length yc) (by kernel_rfl) (fun w hw => by have e0 := hw.2; go_simp) ?_
  refine wpIf_step (.pointer (some ⟨w.heap.size + 1, 2, none⟩)) (by kernel_rfl) (fun w hw => by go_simp) ?_
  refine wpIf_step (.string o.i) (by kernel_rfl) (fun w hw => by have e0 := hw.1.2.cell 2 _ rfl; go_simp) ?_
  refine wpIf_nil (fun hS => ?_)
  clear hS
  refine wpAnyT_one 8 1 (by kernel_rfl) rfl (by kernel_rfl) (fun K hK => ?_)
  go_simp
  refine (HFd.out w2.drew HY.out).mono ?_
  rintro e w3 ⟨rfl, hb3⟩
  have hX3 := hX2.drew.keep hb3 hX2.lt
  have hO3 := hO2.drew.keep hb3 hO2.lt
  have hZ3 := hZ2.drew.keep hb3 hZ2.lt
  have hB3 := hB2.drew.trans (hb3.mono hB2.size)
  have hs3 : D < w3.heap.size := hX3.lt
  have HD3 := Lib.hid (HD2.out.drew.keep hb3 (Nat.le_refl _))
  have c3 : w3.cell? ⟨g, P * 3 + 2, none⟩ = some (.slice ya E.length yc) := by rw [hb3.cell (p := ⟨g, P * 3 + 2, none⟩) hg2]; exact c2
  have hsw : w2.heap.size ≤ w3.heap.size := hb3.size
  have hoy3 := hoy.drew.keep hb3 (Nat.le_refl _)
  refine hK _ _ ⟨⟨⟨hX3, hO3⟩, c3⟩, fun _ => trivial⟩ (fun hS => ?_)
  clear hK K hS
  refine wpAnyT_one 9 0 (by kernel_rfl) rfl (by kernel_rfl) (fun K hK => ?_)
  go_simp
  refine hK _ _ ⟨⟨⟨hX3, hO3⟩, c3⟩, fun _ => trivial⟩ (fun hS => ?_)
  clear hK K hS
  refine wpAnyT_over (by kernel_rfl) ?_
  clear hX2 hO2 hB2 HY HFd c2 c3 hQ0 hoy hoy3 HD3 HD2
  have z0 : w3.cell? ⟨w.heap.size + 1 + 1, 0, none⟩ = some (.slice none 0 0) := hZ3.cell 0 _ rfl
  have zf := hZ3.free
  go_wp2
  have hZe := hZ3.set 0 (.slice none 0 0)
  have hBe := hB3.setCell (p := ⟨w.heap.size + 1 + 1, 0, none⟩) (by simp; omega) (.slice none 0 0)
  generalize w3.setCell ⟨w.heap.size + 1 + 1, 0, none⟩ (.slice none 0 0) = We at hZe hBe ⊢
  have p0 : We.cell? ⟨w.heap.size + 1 + 1, 0, none⟩ = some (.slice none 0 0) := hZe.cell 0 _ rfl
  exact bodyPost_ret (v := .tuple #[.agg #[.slice none 0 0], .bool false]) (by simp [results, Try.results109, go_sem, p0]) rfl ⟨rfl, hBe⟩
end Go.Proofs.Ytfgdbpjmjeaolaa
