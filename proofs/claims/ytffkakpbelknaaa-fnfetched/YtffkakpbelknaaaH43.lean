/- Joined: Y9b, Y9c. -/
import Derived.Test.YtffkakpbelknaaaH42
/- Y9b -/
namespace Go.Proofs.Ytffkakpbelknaaa
open Go.ChangeShapes Go.WideShapes Go.ChangeAt Go.RowKit
set_option linter.unusedVariables false

set_option maxRecDepth 100000 in
set_option maxHeartbeats 4000000 in
theorem l9Done_purge (v x : Value) (ss : List Sb) (o : OpD) (w : World) (h : SbAt w w.heap.size v ss) (hx : ItAt w w.heap.size x o.its) (hr : rdB ss = true) (hk9 : o.k = 9) :
    Calls Try.prog 53 #[.agg #[v], opV o x] w (OutDn (doI ss o) w) := by
  have HI := Lib.hid h
  have HX := Lib.hid hx
  have h6 := rd_len hr
  have HSz := Lib.hid h.size
  have HR := Lib.hid hr
  have HCp := Lib.hid (fun w h => l9Copy_any v ss w h (by omega) (fun s hs => by have := sb_len (rd_sub hr s hs); omega))
  have HAt := Lib.hid (fun w h => l9At_any v ss o.u w h)
  generalize atK (sbKs ss) o.u = R at HAt
  obtain ⟨a, cap, rfl, hl, hm, hc⟩ := h.raw
  obtain ⟨xa, xc, rfl⟩ := hx.1.slice
  clear hc h hx hr
  have hb0 : Below w.heap.size w (((w.alloc (.cells #[.slice a ss.length cap] 26)).alloc (.cells #[.int .i64 o.k, .string o.u, .string o.i, .int .i64 o.d, .string o.fu, .string o.ft, .slice xa o.its.length xc] 31)).alloc (.cells #[.slice none 0 0] 26)) := (((Below.refl _ _).alloc (Nat.le_refl _) _).alloc (by simp) _).alloc (by simp; omega) _
  have hR0 := ((Box.new w #[.slice a ss.length cap] 26).alloc (.cells #[.int .i64 o.k, .string o.u, .string o.i, .int .i64 o.d, .string o.fu, .string o.ft, .slice xa o.its.length xc] 31)).alloc (.cells #[.slice none 0 0] 26)
  have hO0 : Box (((w.alloc (.cells #[.slice a ss.length cap] 26)).alloc (.cells #[.int .i64 o.k, .string o.u, .string o.i, .int .i64 o.d, .string o.fu, .string o.ft, .slice xa o.its.length xc] 31)).alloc (.cells #[.slice none 0 0] 26)) (w.heap.size + 1) #[.int .i64 o.k, .string o.u, .string o.i, .int .i64 o.d, .string o.fu, .string o.ft, .slice xa o.its.length xc] 31 := by
    have := (Box.new (w.alloc (.cells #[.slice a ss.length cap] 26)) #[.int .i64 o.k, .string o.u, .string o.i, .int .i64 o.d, .string o.fu, .string o.ft, .slice xa o.its.length xc] 31).alloc (.cells #[.slice none 0 0] 26)
    simpa using this
  have hZ0 : Box (((w.alloc (.cells #[.slice a ss.length cap] 26)).alloc (.cells #[.int .i64 o.k, .string o.u, .string o.i, .int .i64 o.d, .string o.fu, .string o.ft, .slice xa o.its.length xc] 31)).alloc (.cells #[.slice none 0 0] 26)) (w.heap.size + 1 + 1) #[.slice none 0 0] 26 := by
    have := Box.new ((w.alloc (.cells #[.slice a ss.length cap] 26)).alloc (.cells #[.int .i64 o.k, .string o.u, .string o.i, .int .i64 o.d, .string o.fu, .string o.ft, .slice xa o.its.length xc] 31)) #[.slice none 0 0] 26
    simpa using this
  have hsz0 : (((w.alloc (.cells #[.slice a ss.length cap] 26)).alloc (.cells #[.int .i64 o.k, .string o.u, .string o.i, .int .i64 o.d, .string o.fu, .string o.ft, .slice xa o.its.length xc] 31)).alloc (.cells #[.slice none 0 0] 26)).heap.size = w.heap.size + 3 := by simp
  have HDo : Hid (doI ss o = some (pgS ss o.d)) := Lib.hid (by unfold doI; rw [if_neg (by omega), if_pos hk9])
  have hk99 : (o.k == 9) = true := beq_iff_eq.2 hk9
  have hk11 : (o.k == 1) = false := beq_eq_false_iff_ne.2 (by omega)
  have hk33 : (o.k == 3) = false := beq_eq_false_iff_ne.2 (by omega)
  clear hk9 hl hm
  unfold OutCp at HCp
  go_enter Try.func53, Try.ntmps53
  go_wp2_with fail
  generalize ((w.alloc (.cells #[.slice a ss.length cap] 26)).alloc (.cells #[.int .i64 o.k, .string o.u, .string o.i, .int .i64 o.d, .string o.fu, .string o.ft, .slice xa o.its.length xc] 31)).alloc (.cells #[.slice none 0 0] 26) = W0 at hb0 hR0 hO0 hZ0 hsz0 ⊢
  refine (HCp.out _ ((HI.out.below hb0).mono hb0.size)).mono ?_
  rintro e w1 ⟨v1, qs, rfl, hq1, hD1, hb1⟩
  obtain ⟨va, vc, rfl⟩ := hD1.1.slice
  have hs1 : w.heap.size + 3 ≤ w1.heap.size := by have := hb1.size; omega
  have hB1 := (hb0.trans (hb1.mono hb0.size)).alloc (by omega) (.cells #[.slice va qs.length vc] 26)
  have hZ1 := (hZ0.keep hb1 hZ0.lt).alloc (.cells #[.slice va qs.length vc] 26)
  have hO1 := (hO0.keep hb1 hO0.lt).alloc (.cells #[.slice va qs.length vc] 26)
  have hR1 := (hR0.keep hb1 hR0.lt).alloc (.cells #[.slice va qs.length vc] 26)
  have hX1 := Box.new w1 #[.slice va qs.length vc] 26
  have HD1 : Hid (OwnD (w1.alloc (.cells #[.slice va qs.length vc] 26)) (w.heap.size + 3) (.slice va qs.length vc) qs) := Lib.hid ((hD1.lower (show w.heap.size + 3 ≤ W0.heap.size by omega)).keep ((Below.refl _ _).alloc (Nat.le_refl _) _) (Nat.le_refl _))
  have HV1 : Hid (Value.ownBlock (.slice va qs.length vc) ≠ Option.some w1.heap.size ∧ ∀ q ∈ qs, q.2.ownBlock ≠ Option.some w1.heap.size) := Lib.hid ⟨fun e => by have := (World.ownsRow.lt hD1.1 _ e).2; omega, fun q hq e => by have := (World.ownsRow.lt (hD1.2.1 q hq) _ e).2; omega⟩
  have hql : qs.length = ss.length := by have := congrArg List.length hq1; simpa using this
  have HQ1 := Lib.hid hq1
  rw [hql] at hB1 hZ1 hO1 hR1 hX1 HD1 HV1 ⊢
  clear hb1 hb0 hR0 hO0 hZ0 hsz0 hq1 hD1 HCp
  have f0 : (w1.alloc (.cells #[.slice va ss.length vc] 26)).cell? ⟨w.heap.size + 1, 0, none⟩ = some (.int .i64 o.k) := hO1.cell 0 _ rfl
  have f1 : (w1.alloc (.cells #[.slice va ss.length vc] 26)).cell? ⟨w.heap.size + 1, 1, none⟩ = some (.string o.u) := hO1.cell 1 _ rfl
  have f4 : (w1.alloc (.cells #[.slice va ss.length vc] 26)).cell? ⟨w.heap.size + 1, 4, none⟩ = some (.string o.fu) := hO1.cell 4 _ rfl
  have r0 : (w1.alloc (.cells #[.slice va ss.length vc] 26)).cell? ⟨w.heap.size, 0, none⟩ = some (.slice a ss.length cap) := hR1.cell 0 _ rfl
  go_wp2_with fail
  refine (HAt.out _ ((HI.out.below hB1).mono hB1.size)).mono ?_
  rintro e w2 ⟨rfl, hb2⟩
  have hB2 := hB1.trans (hb2.mono hB1.size)
  have hZ2 := hZ1.keep hb2 hZ1.lt
  have hO2 := hO1.keep hb2 hO1.lt
  have hX2 := hX1.keep hb2 hX1.lt
  have HD2 := Lib.hid (HD1.out.keep hb2 (Nat.le_refl _))
  have hs2 : w1.heap.size < w2.heap.size := hX2.lt
  have g0 : w2.cell? ⟨w.heap.size + 1, 0, none⟩ = some (.int .i64 o.k) := hO2.cell 0 _ rfl
  clear hb2 hB1 hZ1 hO1 hR1 f0 f1 f4 r0 HAt hX1 HD1
  generalize w1.heap.size = D at hX2 HV1 hs1 hs2 ⊢
  clear w1
  go_wp2_with fail
  go_loopw [9] (fun i wr => ∃ (k : Nat) (qs : List (Sb × Value)), k ≤ ss.length ∧ i = .int .i64 (k : Int) ∧ Hid (qs.map Prod.fst = pgS (ss.take k) o.d ++ ss.drop k) ∧ Hid (OwnD wr (w.heap.size + 3) (.slice va ss.length vc) qs) ∧ Box wr D #[.slice va ss.length vc] 26 ∧ Box wr (w.heap.size + 1) #[.int .i64 o.k, .string o.u, .string o.i, .int .i64 o.d, .string o.fu, .string o.ft, .slice xa o.its.length xc] 31 ∧ Box wr (w.heap.size + 1 + 1) #[.slice none 0 0] 26 ∧ Below w.heap.size w wr ∧ D < wr.heap.size) (fun i _ => ss.length - (intOf i).toNat)
  case atStart => exact ⟨0, qs, Nat.zero_le _, rfl, Lib.hid (by rw [HQ1.out]; rfl), HD2, hX2, hO2, hZ2, hB2, hs2⟩
  case round =>
    obtain ⟨k, rs, hk, rfl, HQ, HD, hX, hO, hZ, hB, hDs⟩ := hrel
    clear HQ1 HD2 hX2 hO2 hZ2 hB2 hs2 g0
    have hnv := HV1.out.1
    have x0 : wr.cell? ⟨D, 0, none⟩ = some (.slice va ss.length vc) := hX.cell 0 _ rfl
    by_cases hlt : k < ss.length
    · have hrl : rs.length = ss.length := by have := congrArg List.length HQ.out; simp [pgS] at this; omega
      obtain ⟨g, rfl, hg1, hg2, hgn⟩ := OwnR.form HD.out.1 (by omega)
      have hkr : k < rs.length := by omega
      have hPe : rs[k].1 = ss[k] := pg_at HQ.out hkr hlt
      obtain ⟨ya, yc, hyv⟩ := (HD.out.2.1 _ (List.getElem_mem hkr)).slice
      have c2 := HD.out.1.val sbC_len hgn k 2 _ hkr rfl
      have hoy := HD.out.2.1 _ (List.getElem_mem hkr)
      rw [hyv] at c2 hoy
      rw [hPe] at c2 hoy hyv
      have HY : Hid (EnAt wr.drew wr.drew.heap.size (.slice ya ss[k].es.length yc) ss[k].es) := Lib.hid ⟨hoy.at enC_len, (HSz.out _ (List.getElem_mem hlt)).2⟩
      have hel : ss[k].es.length ≤ 12 := sb_len (rd_sub HR.out _ (List.getElem_mem hlt))
      have HS : Hid (∀ w' y, Below wr.drew.heap.size wr.drew w' → OwnR 47 5 enC w' wr.drew.heap.size y (pgL ss[k].es o.d) → OwnD (w'.setCell ⟨g, k * 3 + 2, none⟩ y) (w.heap.size + 3) (.slice (some ⟨g, 0, none⟩) ss.length vc) (rs.set k ((⟨ss[k].u, ss[k].t, pgL ss[k].es o.d⟩ : Sb), y))) := Lib.hid (fun w' y hb hy => by have := HD.out.drew.setEs hgn k hkr _ (show w.heap.size + 3 ≤ wr.drew.heap.size by show w.heap.size + 3 ≤ wr.heap.size; omega) hb hy; rw [hPe] at this; exact this)
      have HQn : Hid (∀ y, (rs.set k ((⟨ss[k].u, ss[k].t, pgL ss[k].es o.d⟩ : Sb), y)).map Prod.fst = pgS (ss.take (k + 1)) o.d ++ ss.drop (k + 1)) := Lib.hid (fun y => by rw [List.map_set, HQ.out, ← pgS_set ss o.d k hlt]; rfl)
      have HF : Hid (∀ w', Below wr.drew.heap.size wr.drew w' → (∀ j, w'.frozen? ⟨g, j, none⟩ = false) ∧ w'.cell? ⟨g, k * 3 + 2, none⟩ = some (.slice ya ss[k].es.length yc)) := Lib.hid (fun w' hb => ⟨fun j => (HD.out.drew.1.keep hb (Nat.le_refl _)).free hgn j, by rw [hb.cell (p := ⟨g, k * 3 + 2, none⟩) hg2]; exact c2⟩)
      have hgD : D ≠ g := fun e => hnv (by rw [e]; rfl)
      obtain ⟨P, hP⟩ : ∃ P, P = ss[k] := ⟨_, rfl⟩
      rw [← hP] at c2 HY hel HS HQn HF
      have HP := Lib.hid (fun w h => l9Purge_any (.slice ya P.es.length yc) P.es o.d w h (by omega))
      unfold OutB at HP
      clear hPe hyv hoy hnv hel hP hkr hrl hgn
      have hQ0 : (Box wr.drew D #[.slice (some ⟨g, 0, none⟩) ss.length vc] 26 ∧ Box wr.drew (w.heap.size + 1) #[.int .i64 o.k, .string o.u, .string o.i, .int .i64 o.d, .string o.fu, .string o.ft, .slice xa o.its.length xc] 31) := ⟨hX.drew, hO.drew⟩
      go_wp2
      refine wp_region_T (fun w' => Box w' D #[.slice (some ⟨g, 0, none⟩) ss.length vc] 26 ∧ Box w' (w.heap.size + 1) #[.int .i64 o.k, .string o.u, .string o.i, .int .i64 o.d, .string o.fu, .string o.ft, .slice xa o.its.length xc] 31) (fun w' => w'.cell? ⟨g, k * 3 + 2, none⟩ = some (.slice ya P.es.length yc)) 14 (by kernel_rfl) 15 rfl ?_
      refine wpAnyT_takesA (md := .any) 5 (by kernel_rfl) (by intro d v c a w h; cases d <;> exact h) [0, 1, 2, 3, 4, 5, 6, 7, 9, 10] _ _ _ (by decide) (by kernel_rfl) ⟨hQ0, fun _ => c2⟩ ?_
      simp only [pick, List.filterMap_cons, List.filterMap_nil, List.getElem?_cons_zero, List.getElem?_cons_succ]
      refine wpIf_step (.pointer (some ⟨D, 0, none⟩)) (by kernel_rfl) (fun w hw => by go_simp) ?_
      refine wpIf_step (.slice (some ⟨g, 0, none⟩) ss.length vc) (by kernel_rfl) (fun w hw => by have e0 := hw.1.cell 0 _ rfl; go_simp) ?_
      refine wpIf_step (.int .i64 (k : Int)) (by kernel_rfl) (fun w hw => by go_simp) ?_
      refine wpIf_step (.pointer (some ⟨D, 0, none⟩)) (by kernel_rfl) (fun w hw => by go_simp) ?_
      refine wpIf_step (.slice (some ⟨g, 0, none⟩) ss.length vc) (by kernel_rfl) (fun w hw => by have e0 := hw.1.cell 0 _ rfl; go_simp) ?_
      refine wpIf_step (.int .i64 (k : Int)) (by kernel_rfl) (fun w hw => by go_simp) ?_
      refine wpIf_step (.pointer (some ⟨g, k * 3, none⟩)) (by kernel_rfl) (fun w hw => by go_simp) ?_
      refine wpIf_step (.pointer (some ⟨g, k * 3 + 2, none⟩)) (by kernel_rfl) (fun w hw => by go_simp) ?_
      refine wpIf_step (.pointer (some ⟨w.heap.size + 1, 3, none⟩)) (by kernel_rfl) (fun w hw => by go_simp) ?_
      refine wpIf_step (.int .i64 o.d) (by kernel_rfl) (fun w hw => by have e0 := hw.2.cell 3 _ rfl; go_simp) ?_
      refine wpIf_nil (fun hS0 => ?_)
      refine wpAnyT_takesB (md := .any) 4 (by kernel_rfl) (by intro d v c a w h; cases d <;> exact h) [8] _ _ _ (by decide) (by kernel_rfl) (by kernel_rfl) (by kernel_rfl) hS0 ?_
      simp only [pick, List.filterMap_cons, List.filterMap_nil, List.getElem?_cons_zero, List.getElem?_cons_succ]
      refine wpIf_step (.slice ya P.es.length yc) (by kernel_rfl) (fun w hw => by have e0 := hw.2; go_simp) ?_
      refine wpIf_nil (fun hS0 => ?_)
      clear hS0
      refine wpAnyT_one 11 3 (by kernel_rfl) rfl (by kernel_rfl) (fun K hK => ?_)
      go_simp
      refine (HP.out wr.drew HY.out).mono ?_
      rintro e w3 ⟨y3, rfl, ho3, hb3⟩
      obtain ⟨ya3, yc3, hyv⟩ := ho3.slice
      obtain ⟨n3, hn3⟩ : ∃ n, n = (pgL P.es o.d).length := ⟨_, rfl⟩
      rw [← hn3] at hyv
      subst hyv
      clear hn3
      have hX3 := hX.drew.keep hb3 hX.lt
      have hO3 := hO.drew.keep hb3 hO.lt
      have hZ3 := hZ.drew.keep hb3 hZ.lt
      have hB3 := hB.drew.trans (hb3.mono hB.size)
      obtain ⟨fz, c3⟩ := HF.out w3 hb3
      have HS3 := Lib.hid (HS.out w3 _ hb3 ho3)
      have hs3 : D < w3.heap.size := hX3.lt
      refine hK _ _ ⟨⟨hX3, hO3⟩, fun _ => c3⟩ (fun hS0 => ?_)
      clear hK K hS0 hb3 ho3
      refine wpAnyT_takesA (md := .any) 1 (by kernel_rfl) (by intro d v c a w h; cases d <;> exact h) [12, 13] _ _ _ (by decide) (by kernel_rfl) ⟨⟨hX3, hO3⟩, fun _ => c3⟩ ?_
      simp only [pick, List.filterMap_cons, List.filterMap_nil, List.getElem?_cons_zero, List.getElem?_cons_succ]
      refine wpIf_step (.pointer (some ⟨g, k * 3, none⟩)) (by kernel_rfl) (fun w hw => by go_simp) ?_
      refine wpIf_step (.pointer (some ⟨g, k * 3 + 2, none⟩)) (by kernel_rfl) (fun w hw => by go_simp) ?_
      refine wpIf_nil (fun hS0 => ?_)
      clear hS0
      have hX4 := hX3.other ⟨g, k * 3 + 2, none⟩ (.slice ya3 n3 yc3) hgD
      have hO4 := hO3.other ⟨g, k * 3 + 2, none⟩ (.slice ya3 n3 yc3) (show w.heap.size + 1 ≠ g by omega)
      have hZ4 := hZ3.other ⟨g, k * 3 + 2, none⟩ (.slice ya3 n3 yc3) (show w.heap.size + 1 + 1 ≠ g by omega)
      have hB4 := hB3.setCell (p := ⟨g, k * 3 + 2, none⟩) (show w.heap.size ≤ g by omega) (.slice ya3 n3 yc3)
      refine wpAnyT_one 14 0 (by kernel_rfl) rfl (by kernel_rfl) (fun K hK => ?_)
      go_simp
      refine hK _ _ ⟨⟨hX4, hO4⟩, fun h => by exact absurd h (by decide)⟩ (fun hS0 => ?_)
      clear hK K hS0 hQ0
      refine wpAnyT_over (by kernel_rfl) ?_
      have hs4 : D < (w3.setCell ⟨g, k * 3 + 2, none⟩ (.slice ya3 n3 yc3)).heap.size := hX4.lt
      generalize w3.setCell ⟨g, k * 3 + 2, none⟩ (.slice ya3 n3 yc3) = W4 at hX4 hO4 hZ4 hB4 HS3 hs4 ⊢
      clear hX3 hO3 hZ3 hB3 hX hO hZ hB c2 c3 fz HP HY HF x0
      go_wp2
      go_roundw
      case rel => exact ⟨k + 1, _, by omega, by go_num, Lib.hid (HQn.out _), HS3, hX4, hO4, hZ4, hB4, hs4⟩
      case measure => simp [intOf]; omega
    · have HQe : Hid (rs.map Prod.fst = pgS ss o.d) := Lib.hid (by have h1 := HQ.out; rw [List.take_of_length_le (by omega), List.drop_of_length_le (by omega), List.append_nil] at h1; exact h1)
      have z0 : wr.cell? ⟨w.heap.size + 1 + 1, 0, none⟩ = some (.slice none 0 0) := hZ.cell 0 _ rfl
      have zf := hZ.free
      go_wp2
      have hZe := hZ.set 0 (.slice va ss.length vc)
      have hBe := hB.setCell (p := ⟨w.heap.size + 1 + 1, 0, none⟩) (by simp; omega) (.slice va ss.length vc)
      have hDe := (HD.out.aside ⟨w.heap.size + 1 + 1, 0, none⟩ (.slice va ss.length vc) (show w.heap.size + 1 + 1 < w.heap.size + 3 by omega)).lower (show w.heap.size ≤ w.heap.size + 3 by omega)
      generalize wr.setCell ⟨w.heap.size + 1 + 1, 0, none⟩ (.slice va ss.length vc) = We at hZe hBe hDe ⊢
      have p0 : We.cell? ⟨w.heap.size + 1 + 1, 0, none⟩ = some (.slice va ss.length vc) := hZe.cell 0 _ rfl
      exact bodyPost_ret (v := .tuple #[.agg #[.slice va ss.length vc], .bool true]) (by simp [results, Try.results53, go_sem, p0]) rfl (OutDn.some11 HDo.out ⟨_, rs, rfl, HQe.out, hDe, hBe⟩)
end Go.Proofs.Ytffkakpbelknaaa

/- Y9c -/
namespace Go.Proofs.Ytffkakpbelknaaa
open Go.ChangeShapes Go.WideShapes Go.ChangeAt Go.RowKit
set_option linter.unusedVariables false

set_option maxRecDepth 100000 in
set_option maxHeartbeats 4000000 in
theorem l9Done_noentry (v x : Value) (ss : List Sb) (o : OpD) (w : World) (h : SbAt w w.heap.size v ss) (hx : ItAt w w.heap.size x o.its) (hr : rdB ss = true) (hk : o.k = 4 ∨ o.k = 5 ∨ o.k = 6 ∨ o.k = 7) (hf : fnB (sbKs ss) o.u = true) (P : Nat) (hpl : plK (sbKs ss) o.u = P) (hP : P < ss.length) (hfe : fnB (enKs ss[P].es) o.i = false) :
    Calls Try.prog 53 #[.agg #[v], opV o x] w (fun e w' => e = .returned (.tuple #[.agg #[.slice none 0 0], .bool false]) ∧ Below w.heap.size w w') := by
  have HI := Lib.hid h
  have HX := Lib.hid hx
  have h6 := rd_len hr
  have HSz := Lib.hid h.size
  have HR := Lib.hid hr
  have HCp := Lib.hid (fun w h => l9Copy_any v ss w h (by omega) (fun s hs => by have := sb_len (rd_sub hr s hs); omega))
  have HAt := Lib.hid (fun w h => l9At_any v ss o.u w h)
  rw [atK_there (rd_ris hr) hf, hpl] at HAt
  have hge : decide ((P : Int) < 0) = false := decide_eq_false (by omega)
  obtain ⟨a, cap, rfl, hl, hm, hc⟩ := h.raw
  obtain ⟨xa, xc, rfl⟩ := hx.1.slice
  clear hc h hx hr
  have hb0 : Below w.heap.size w (((w.alloc (.cells #[.slice a ss.length cap] 26)).alloc (.cells #[.int .i64 o.k, .string o.u, .string o.i, .int .i64 o.d, .string o.fu, .string o.ft, .slice xa o.its.length xc] 31)).alloc (.cells #[.slice none 0 0] 26)) := (((Below.refl _ _).alloc (Nat.le_refl _) _).alloc (by simp) _).alloc (by simp; omega) _
  have hR0 := ((Box.new w #[.slice a ss.length cap] 26).alloc (.cells #[.int .i64 o.k, .string o.u, .string o.i, .int .i64 o.d, .string o.fu, .string o.ft, .slice xa o.its.length xc] 31)).alloc (.cells #[.slice none 0 0] 26)
  have hO0 : Box (((w.alloc (.cells #[.slice a ss.length cap] 26)).alloc (.cells #[.int .i64 o.k, .string o.u, .string o.i, .int .i64 o.d, .string o.fu, .string o.ft, .slice xa o.its.length xc] 31)).alloc (.cells #[.slice none 0 0] 26)) (w.heap.size + 1) #[.int .i64 o.k, .string o.u, .string o.i, .int .i64 o.d, .string o.fu, .string o.ft, .slice xa o.its.length xc] 31 := by
    have := (Box.new (w.alloc (.cells #[.slice a ss.length cap] 26)) #[.int .i64 o.k, .string o.u, .string o.i, .int .i64 o.d, .string o.fu, .string o.ft, .slice xa o.its.length xc] 31).alloc (.cells #[.slice none 0 0] 26)
    simpa using this
  have hZ0 : Box (((w.alloc (.cells #[.slice a ss.length cap] 26)).alloc (.cells #[.int .i64 o.k, .string o.u, .string o.i, .int .i64 o.d, .string o.fu, .string o.ft, .slice xa o.its.length xc] 31)).alloc (.cells #[.slice none 0 0] 26)) (w.heap.size + 1 + 1) #[.slice none 0 0] 26 := by
    have := Box.new ((w.alloc (.cells #[.slice a ss.length cap] 26)).alloc (.cells #[.int .i64 o.k, .string o.u, .string o.i, .int .i64 o.d, .string o.fu, .string o.ft, .slice xa o.its.length xc] 31)) #[.slice none 0 0] 26
    simpa using this
  have hsz0 : (((w.alloc (.cells #[.slice a ss.length cap] 26)).alloc (.cells #[.int .i64 o.k, .string o.u, .string o.i, .int .i64 o.d, .string o.fu, .string o.ft, .slice xa o.its.length xc] 31)).alloc (.cells #[.slice none 0 0] 26)).heap.size = w.heap.size + 3 := by simp
  have hk11 : (o.k == 1) = false := beq_eq_false_iff_ne.2 (by omega)
  have hk22 : (o.k == 2) = false := beq_eq_false_iff_ne.2 (by omega)
  have hk33 : (o.k == 3) = false := beq_eq_false_iff_ne.2 (by omega)
  have hk88 : (o.k == 8) = false := beq_eq_false_iff_ne.2 (by omega)
  have hk99 : (o.k == 9) = false := beq_eq_false_iff_ne.2 (by omega)
  clear hk hl hm hf hpl
  unfold OutCp at HCp
  go_enter Try.func53, Try.ntmps53
  go_wp2_with fail
  generalize ((w.alloc (.cells #[.slice a ss.length cap] 26)).alloc (.cells #[.int .i64 o.k, .string o.u, .string o.i, .int .i64 o.d, .string o.fu, .string o.ft, .slice xa o.its.length xc] 31)).alloc (.cells #[.slice none 0 0] 26) = W0 at hb0 hR0 hO0 hZ0 hsz0 ⊢
  refine (HCp.out _ ((HI.out.below hb0).mono hb0.size)).mono ?_
  rintro e w1 ⟨v1, qs, rfl, hq1, hD1, hb1⟩
  obtain ⟨va, vc, rfl⟩ := hD1.1.slice
  have hs1 : w.heap.size + 3 ≤ w1.heap.size := by have := hb1.size; omega
  have hB1 := (hb0.trans (hb1.mono hb0.size)).alloc (by omega) (.cells #[.slice va qs.length vc] 26)
  have hZ1 := (hZ0.keep hb1 hZ0.lt).alloc (.cells #[.slice va qs.length vc] 26)
  have hO1 := (hO0.keep hb1 hO0.lt).alloc (.cells #[.slice va qs.length vc] 26)
  have hR1 := (hR0.keep hb1 hR0.lt).alloc (.cells #[.slice va qs.length vc] 26)
  have hX1 := Box.new w1 #[.slice va qs.length vc] 26
  have HD1 : Hid (OwnD (w1.alloc (.cells #[.slice va qs.length vc] 26)) (w.heap.size + 3) (.slice va qs.length vc) qs) := Lib.hid ((hD1.lower (show w.heap.size + 3 ≤ W0.heap.size by omega)).keep ((Below.refl _ _).alloc (Nat.le_refl _) _) (Nat.le_refl _))
  have HV1 : Hid (Value.ownBlock (.slice va qs.length vc) ≠ Option.some w1.heap.size ∧ ∀ q ∈ qs, q.2.ownBlock ≠ Option.some w1.heap.size) := Lib.hid ⟨fun e => by have := (World.ownsRow.lt hD1.1 _ e).2; omega, fun q hq e => by have := (World.ownsRow.lt (hD1.2.1 q hq) _ e).2; omega⟩
  have hql : qs.length = ss.length := by have := congrArg List.length hq1; simpa using this
  have HQ1 := Lib.hid hq1
  rw [hql] at hB1 hZ1 hO1 hR1 hX1 HD1 HV1 ⊢
  clear hb1 hb0 hR0 hO0 hZ0 hsz0 hq1 hD1 HCp
  have f0 : (w1.alloc (.cells #[.slice va ss.length vc] 26)).cell? ⟨w.heap.size + 1, 0, none⟩ = some (.int .i64 o.k) := hO1.cell 0 _ rfl
  have f1 : (w1.alloc (.cells #[.slice va ss.length vc] 26)).cell? ⟨w.heap.size + 1, 1, none⟩ = some (.string o.u) := hO1.cell 1 _ rfl
  have f4 : (w1.alloc (.cells #[.slice va ss.length vc] 26)).cell? ⟨w.heap.size + 1, 4, none⟩ = some (.string o.fu) := hO1.cell 4 _ rfl
  have r0 : (w1.alloc (.cells #[.slice va ss.length vc] 26)).cell? ⟨w.heap.size, 0, none⟩ = some (.slice a ss.length cap) := hR1.cell 0 _ rfl
  go_wp2_with fail
  refine (HAt.out _ ((HI.out.below hB1).mono hB1.size)).mono ?_
  rintro e w2 ⟨rfl, hb2⟩
  have hB2 := hB1.trans (hb2.mono hB1.size)
  have hZ2 := hZ1.keep hb2 hZ1.lt
  have hO2 := hO1.keep hb2 hO1.lt
  have hX2 := hX1.keep hb2 hX1.lt
  have HD2 := Lib.hid (HD1.out.keep hb2 (Nat.le_refl _))
  have hs2 : w1.heap.size < w2.heap.size := hX2.lt
  have g0 : w2.cell? ⟨w.heap.size + 1, 0, none⟩ = some (.int .i64 o.k) := hO2.cell 0 _ rfl
  clear hb2 hB1 hZ1 hO1 hR1 f0 f1 f4 r0 HAt hX1 HD1
  generalize w1.heap.size = D at hX2 HV1 hs1 hs2 ⊢
  clear w1
  have hql : qs.length = ss.length := by have := congrArg List.length HQ1.out; simpa using this
  have hnv := HV1.out.1
  have hnp := HV1.out.2
  obtain ⟨g, rfl, hg1, hg2, hgn⟩ := OwnR.form HD2.out.1 (by omega)
  have hkr : P < qs.length := by omega
  have hPs : qs[P].1 = ss[P] := fst_at HQ1.out P hkr hP
  have hgD : D ≠ g := fun e => hnv (by rw [e]; rfl)
  obtain ⟨ya, yc, hyv⟩ := (HD2.out.2.1 _ (List.getElem_mem hkr)).slice
  have c0 := HD2.out.1.val sbC_len hgn P 0 _ hkr rfl
  have c1 := HD2.out.1.val sbC_len hgn P 1 _ hkr rfl
  have c2 := HD2.out.1.val sbC_len hgn P 2 _ hkr rfl
  have hoy := HD2.out.2.1 _ (List.getElem_mem hkr)
  have hny := hnp _ (List.getElem_mem hkr)
  rw [hyv] at c2 hoy hny
  rw [hPs] at c0 c1 c2 hoy hyv hny
  rw [Nat.add_zero] at c0
  have HSy := Lib.hid (HSz.out _ (List.getElem_mem hP))
  have hel : ss[P].es.length ≤ 12 := sb_len (rd_sub HR.out _ (List.getElem_mem hP))
  have hre : risB (enKs ss[P].es) = true := sb_ris (rd_sub HR.out _ (List.getElem_mem hP))
  have HY : Hid (EnAt w2.drew w2.drew.heap.size (.slice ya ss[P].es.length yc) ss[P].es) := Lib.hid ⟨hoy.at enC_len, HSy.out.2⟩
  have HFd := Lib.hid (fun w (h : EnAt w w.heap.size (.slice ya ss[P].es.length yc) ss[P].es) => l9Find_any (.slice ya ss[P].es.length yc) ss[P].es o.i w h)
  rw [atK_not hre hfe] at HFd
  generalize ss[P].es = E at c2 HY HFd hoy hel hre hfe
  clear hre hfe hel hyv c0 c1 HSy hPs hnp hnv hny hgn
  have hQ0 : (Box w2.drew D #[.slice (some ⟨g, 0, none⟩) ss.length vc] 26 ∧ Box w2.drew (w.heap.size + 1) #[.int .i64 o.k, .string o.u, .string o.i, .int .i64 o.d, .string o.fu, .string o.ft, .slice xa o.its.length xc] 31) ∧ w2.drew.cell? ⟨g, P * 3 + 2, none⟩ = some (.slice ya E.length yc) := ⟨⟨hX2.drew, hO2.drew⟩, c2⟩
  go_wp2
  refine wp_region_T (fun w' => (Box w' D #[.slice (some ⟨g, 0, none⟩) ss.length vc] 26 ∧ Box w' (w.heap.size + 1) #[.int .i64 o.k, .string o.u, .string o.i, .int .i64 o.d, .string o.fu, .string o.ft, .slice xa o.its.length xc] 31) ∧ w'.cell? ⟨g, P * 3 + 2, none⟩ = some (.slice ya E.length yc)) (fun _ => True) 9 (by kernel_rfl) 10 rfl ?_
  refine wpAnyT_takesA (md := .any) 2 (by kernel_rfl) (by intro d v c a w h; cases d <;> exact h) [0, 1, 2, 3, 4, 5, 6, 7] _ _ _ (by decide) (by kernel_rfl) ⟨hQ0, fun _ => trivial⟩ ?_
  simp only [pick, List.filterMap_cons, List.filterMap_nil, List.getElem?_cons_zero, List.getElem?_cons_succ]
  refine wpIf_step (.pointer (some ⟨D, 0, none⟩)) (by kernel_rfl) (fun w hw => by go_simp) ?_
  refine wpIf_step (.slice (some ⟨g, 0, none⟩) ss.length vc) (by kernel_rfl) (fun w hw => by have e0 := hw.1.1.cell 0 _ rfl; go_simp) ?_
  refine wpIf_step (.int .i64 (P : Int)) (by kernel_rfl) (fun w hw => by go_simp) ?_
  refine wpIf_step (.pointer (some ⟨g, P * 3, none⟩)) (by kernel_rfl) (fun w hw => by go_simp) ?_
  refine wpIf_step (.pointer (some ⟨g, P * 3 + 2, none⟩)) (by kernel_rfl) (fun w hw => by go_simp) ?_
  refine wpIf_step (.slice ya E.length yc) (by kernel_rfl) (fun w hw => by have e0 := hw.2; go_simp) ?_
  refine wpIf_step (.pointer (some ⟨w.heap.size + 1, 2, none⟩)) (by kernel_rfl) (fun w hw => by go_simp) ?_
  refine wpIf_step (.string o.i) (by kernel_rfl) (fun w hw => by have e0 := hw.1.2.cell 2 _ rfl; go_simp) ?_
  refine wpIf_nil (fun hS => ?_)
  clear hS
  refine wpAnyT_one 8 1 (by kernel_rfl) rfl (by kernel_rfl) (fun K hK => ?_)
  go_simp
  refine (HFd.out w2.drew HY.out).mono ?_
  rintro e w3 ⟨rfl, hb3⟩
  have hX3 := hX2.drew.keep hb3 hX2.lt
  have hO3 := hO2.drew.keep hb3 hO2.lt
  have hZ3 := hZ2.drew.keep hb3 hZ2.lt
  have hB3 := hB2.drew.trans (hb3.mono hB2.size)
  have hs3 : D < w3.heap.size := hX3.lt
  have HD3 := Lib.hid (HD2.out.drew.keep hb3 (Nat.le_refl _))
  have c3 : w3.cell? ⟨g, P * 3 + 2, none⟩ = some (.slice ya E.length yc) := by rw [hb3.cell (p := ⟨g, P * 3 + 2, none⟩) hg2]; exact c2
  have hsw : w2.heap.size ≤ w3.heap.size := hb3.size
  have hoy3 := hoy.drew.keep hb3 (Nat.le_refl _)
  refine hK _ _ ⟨⟨⟨hX3, hO3⟩, c3⟩, fun _ => trivial⟩ (fun hS => ?_)
  clear hK K hS
  refine wpAnyT_one 9 0 (by kernel_rfl) rfl (by kernel_rfl) (fun K hK => ?_)
  go_simp
  refine hK _ _ ⟨⟨⟨hX3, hO3⟩, c3⟩, fun _ => trivial⟩ (fun hS => ?_)
  clear hK K hS
  refine wpAnyT_over (by kernel_rfl) ?_
  clear hX2 hO2 hB2 HY HFd c2 c3 hQ0 hoy hoy3 HD3 HD2
  have z0 : w3.cell? ⟨w.heap.size + 1 + 1, 0, none⟩ = some (.slice none 0 0) := hZ3.cell 0 _ rfl
  have zf := hZ3.free
  go_wp2
  have hZe := hZ3.set 0 (.slice none 0 0)
  have hBe := hB3.setCell (p := ⟨w.heap.size + 1 + 1, 0, none⟩) (by simp; omega) (.slice none 0 0)
  generalize w3.setCell ⟨w.heap.size + 1 + 1, 0, none⟩ (.slice none 0 0) = We at hZe hBe ⊢
  have p0 : We.cell? ⟨w.heap.size + 1 + 1, 0, none⟩ = some (.slice none 0 0) := hZe.cell 0 _ rfl
  exact bodyPost_ret (v := .tuple #[.agg #[.slice none 0 0], .bool false]) (by simp [results, Try.results53, go_sem, p0]) rfl ⟨rfl, hBe⟩
end Go.Proofs.Ytffkakpbelknaaa
