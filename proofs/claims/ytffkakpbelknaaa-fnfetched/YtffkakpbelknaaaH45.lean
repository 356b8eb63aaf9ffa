/- Joined: Y9e, Y9g. -/
import Derived.Test.YtffkakpbelknaaaH42
/- Y9e -/
namespace Go.Proofs.Ytffkakpbelknaaa
open Go.ChangeShapes Go.WideShapes Go.ChangeAt Go.RowKit
set_option linter.unusedVariables false

set_option maxRecDepth 100000 in
set_option maxHeartbeats 4000000 in
theorem l9Done_all (v x : Value) (ss : List Sb) (o : OpD) (w : World) (h : SbAt w w.heap.size v ss) (hx : ItAt w w.heap.size x o.its) (hr : rdB ss = true) (hk : o.k = 8) (hf : fnB (sbKs ss) o.u = true) (P : Nat) (hpl : plK (sbKs ss) o.u = P) (hP : P < ss.length) :
    Calls Try.prog 53 #[.agg #[v], opV o x] w (OutDn (doI ss o) w) := by
  have HI := Lib.hid h
  have HX := Lib.hid hx
  have h6 := rd_len hr
  have HSz := Lib.hid h.size
  have HR := Lib.hid hr
  have HCp := Lib.hid (fun w h => l9Copy_any v ss w h (by omega) (fun s hs => by have := sb_len (rd_sub hr s hs); omega))
  have HAt := Lib.hid (fun w h => l9At_any v ss o.u w h)
  rw [atK_there (rd_ris hr) hf, hpl] at HAt
  have hge : decide ((P : Int) < 0) = false := decide_eq_false (by omega)
  have HDo : Hid (doI ss o = some (ss.set P (alS ss[P]))) := Lib.hid (by unfold doI; rw [if_neg (by omega), if_neg (by omega), chV_at (by unfold opU; rw [if_neg (by omega)]; exact hf) (by unfold opU; rw [if_neg (by omega)]; exact hpl) hP]; rw [if_neg (by omega), if_pos hk])
  obtain ⟨a, cap, rfl, hl, hm, hc⟩ := h.raw
  obtain ⟨xa, xc, rfl⟩ := hx.1.slice
  clear hc h hx hr
  have hb0 : Below w.heap.size w (((w.alloc (.cells #[.slice a ss.length cap] 26)).alloc (.cells #[.int .i64 o.k, .string o.u, .string o.i, .int .i64 o.d, .string o.fu, .string o.ft, .slice xa o.its.length xc] 31)).alloc (.cells #[.slice none 0 0] 26)) := (((Below.refl _ _).alloc (Nat.le_refl _) _).alloc (by simp) _).alloc (by simp; omega) _
  have hR0 := ((Box.new w #[.slice a ss.length cap] 26).alloc (.cells #[.int .i64 o.k, .string o.u, .string o.i, .int .i64 o.d, .string o.fu, .string o.ft, .slice xa o.its.length xc] 31)).alloc (.cells #[.slice none 0 0] 26)
  have hO0 : Box (((w.alloc (.cells #[.slice a ss.length cap] 26)).alloc (.cells #[.int .i64 o.k, .string o.u, .string o.i, .int .i64 o.d, .string o.fu, .string o.ft, .slice xa o.its.length xc] 31)).alloc (.cells #[.slice none 0 0] 26)) (w.heap.size + 1) #[.int .i64 o.k, .string o.u, .string o.i, .int .i64 o.d, .string o.fu, .string o.ft, .slice xa o.its.length xc] 31 := by
    have := (Box.new (w.alloc (.cells #[.slice a ss.length cap] 26)) #[.int .i64 o.k, .string o.u, .string o.i, .int .i64 o.d, .string o.fu, .string o.ft, .slice xa o.its.length xc] 31).alloc (.cells #[.slice none 0 0] 26)
    simpa using this
  have hZ0 : Box (((w.alloc (.cells #[.slice a ss.length cap] 26)).alloc (.cells #[.int .i64 o.k, .string o.u, .string o.i, .int .i64 o.d, .string o.fu, .string o.ft, .slice xa o.its.length xc] 31)).alloc (.cells #[.slice none 0 0] 26)) (w.heap.size + 1 + 1) #[.slice none 0 0] 26 := by
    have := Box.new ((w.alloc (.cells #[.slice a ss.length cap] 26)).alloc (.cells #[.int .i64 o.k, .string o.u, .string o.i, .int .i64 o.d, .string o.fu, .string o.ft, .slice xa o.its.length xc] 31)) #[.slice none 0 0] 26
    simpa using this
  have hsz0 : (((w.alloc (.cells #[.slice a ss.length cap] 26)).alloc (.cells #[.int .i64 o.k, .string o.u, .string o.i, .int .i64 o.d, .string o.fu, .string o.ft, .slice xa o.its.length xc] 31)).alloc (.cells #[.slice none 0 0] 26)).heap.size = w.heap.size + 3 := by simp
  have hk11 : (o.k == 1) = false := beq_eq_false_iff_ne.2 (by omega)
  have hk22 : (o.k == 2) = false := beq_eq_false_iff_ne.2 (by omega)
  have hk33 : (o.k == 3) = false := beq_eq_false_iff_ne.2 (by omega)
  have hk99 : (o.k == 9) = false := beq_eq_false_iff_ne.2 (by omega)
  have hk88 : (o.k == 8) = true := beq_iff_eq.2 hk
  clear hk hl hm hf hpl
  unfold OutCp at HCp
  go_enter Try.func53, Try.ntmps53
  go_wp2_with fail
  generalize ((w.alloc (.cells #[.slice a ss.length cap] 26)).alloc (.cells #[.int .i64 o.k, .string o.u, .string o.i, .int .i64 o.d, .string o.fu, .string o.ft, .slice xa o.its.length xc] 31)).alloc (.cells #[.slice none 0 0] 26) = W0 at hb0 hR0 hO0 hZ0 hsz0 ⊢
  refine (HCp.out _ ((HI.out.below hb0).mono hb0.size)).mono ?_
  rintro e w1 ⟨v1, qs, rfl, hq1, hD1, hb1⟩
  obtain ⟨va, vc, rfl⟩ := hD1.1.slice
  have hs1 : w.heap.size + 3 ≤ w1.heap.size := by have := hb1.size; omega
  have hB1 := (hb0.trans (hb1.mono hb0.size)).alloc (by omega) (.cells #[.slice va qs.length vc] 26)
  have hZ1 := (hZ0.keep hb1 hZ0.lt).alloc (.cells #[.slice va qs.length vc] 26)
  have hO1 := (hO0.keep hb1 hO0.lt).alloc (.cells #[.slice va qs.length vc] 26)
  have hR1 := (hR0.keep hb1 hR0.lt).alloc (.cells #[.slice va qs.length vc] 26)
  have hX1 := Box.new w1 #[.slice va qs.length vc] 26
  have HD1 : Hid (OwnD (w1.alloc (.cells #[.slice va qs.length vc] 26)) (w.heap.size + 3) (.slice va qs.length vc) qs) := Lib.hid ((hD1.lower (show w.heap.size + 3 ≤ W0.heap.size by omega)).keep ((Below.refl _ _).alloc (Nat.le_refl _) _) (Nat.le_refl _))
  have HV1 : Hid (Value.ownBlock (.slice va qs.length vc) ≠ Option.some w1.heap.size ∧ ∀ q ∈ qs, q.2.ownBlock ≠ Option.some w1.heap.size) := Lib.hid ⟨fun e => by have := (World.ownsRow.lt hD1.1 _ e).2; omega, fun q hq e => by have := (World.ownsRow.lt (hD1.2.1 q hq) _ e).2; omega⟩
  have hql : qs.length = ss.length := by have := congrArg List.length hq1; simpa using this
  have HQ1 := Lib.hid hq1
  rw [hql] at hB1 hZ1 hO1 hR1 hX1 HD1 HV1 ⊢
  clear hb1 hb0 hR0 hO0 hZ0 hsz0 hq1 hD1 HCp
  have f0 : (w1.alloc (.cells #[.slice va ss.length vc] 26)).cell? ⟨w.heap.size + 1, 0, none⟩ = some (.int .i64 o.k) := hO1.cell 0 _ rfl
  have f1 : (w1.alloc (.cells #[.slice va ss.length vc] 26)).cell? ⟨w.heap.size + 1, 1, none⟩ = some (.string o.u) := hO1.cell 1 _ rfl
  have f4 : (w1.alloc (.cells #[.slice va ss.length vc] 26)).cell? ⟨w.heap.size + 1, 4, none⟩ = some (.string o.fu) := hO1.cell 4 _ rfl
  have r0 : (w1.alloc (.cells #[.slice va ss.length vc] 26)).cell? ⟨w.heap.size, 0, none⟩ = some (.slice a ss.length cap) := hR1.cell 0 _ rfl
  go_wp2_with fail
  refine (HAt.out _ ((HI.out.below hB1).mono hB1.size)).mono ?_
  rintro e w2 ⟨rfl, hb2⟩
  have hB2 := hB1.trans (hb2.mono hB1.size)
  have hZ2 := hZ1.keep hb2 hZ1.lt
  have hO2 := hO1.keep hb2 hO1.lt
  have hX2 := hX1.keep hb2 hX1.lt
  have HD2 := Lib.hid (HD1.out.keep hb2 (Nat.le_refl _))
  have hs2 : w1.heap.size < w2.heap.size := hX2.lt
  have g0 : w2.cell? ⟨w.heap.size + 1, 0, none⟩ = some (.int .i64 o.k) := hO2.cell 0 _ rfl
  clear hb2 hB1 hZ1 hO1 hR1 f0 f1 f4 r0 HAt hX1 HD1
  generalize w1.heap.size = D at hX2 HV1 hs1 hs2 ⊢
  clear w1
  have hql : qs.length = ss.length := by have := congrArg List.length HQ1.out; simpa using this
  have hnv := HV1.out.1
  have hnp := HV1.out.2
  obtain ⟨g, rfl, hg1, hg2, hgn⟩ := OwnR.form HD2.out.1 (by omega)
  have hkr : P < qs.length := by omega
  have hPs : qs[P].1 = ss[P] := fst_at HQ1.out P hkr hP
  have hgD : D ≠ g := fun e => hnv (by rw [e]; rfl)
  obtain ⟨ya, yc, hyv⟩ := (HD2.out.2.1 _ (List.getElem_mem hkr)).slice
  have c0 := HD2.out.1.val sbC_len hgn P 0 _ hkr rfl
  have c1 := HD2.out.1.val sbC_len hgn P 1 _ hkr rfl
  have c2 := HD2.out.1.val sbC_len hgn P 2 _ hkr rfl
  have hoy := HD2.out.2.1 _ (List.getElem_mem hkr)
  have hny := hnp _ (List.getElem_mem hkr)
  rw [hyv] at c2 hoy hny
  rw [hPs] at c0 c1 c2 hoy hyv hny
  rw [Nat.add_zero] at c0
  have HSy := Lib.hid (HSz.out _ (List.getElem_mem hP))
  have hel : ss[P].es.length ≤ 12 := sb_len (rd_sub HR.out _ (List.getElem_mem hP))
  have hre : risB (enKs ss[P].es) = true := sb_ris (rd_sub HR.out _ (List.getElem_mem hP))
  have HDs : Hid (OwnD w2 (w.heap.size + 3) (.slice (some ⟨g, 0, none⟩) ss.length vc) (qs.set P ((⟨ss[P].u, ss[P].t, alH ss[P].es 0⟩ : Sb), Value.slice ya ss[P].es.length yc))) := Lib.hid (by
    have e : qs.set P ((⟨ss[P].u, ss[P].t, alH ss[P].es 0⟩ : Sb), Value.slice ya ss[P].es.length yc) = qs := by
      have e2 : ((⟨ss[P].u, ss[P].t, alH ss[P].es 0⟩ : Sb), Value.slice ya ss[P].es.length yc) = qs[P] := by rw [alH_zero, ← hPs]; exact Prod.ext rfl (by rw [hPs]; exact hyv.symm)
      rw [e2, List.set_getElem_self]
    rw [e]; exact HD2.out)
  have HSub : Hid (∀ y : Value, (qs.set P ((⟨ss[P].u, ss[P].t, rdAll ss[P].es⟩ : Sb), y)).map Prod.fst = ss.set P (alS ss[P])) := Lib.hid (fun y => by rw [List.map_set, HQ1.out]; rfl)
  generalize ss[P].u = U at HDs HSub c0
  generalize ss[P].t = V at HDs HSub c1
  generalize ss[P].es = E at HDs HSub c2 hoy hel hre hyv HSy hny
  clear hre hyv c0 c1 hnp hnv HSy hPs hgn hql hoy
  have x2 : w2.cell? ⟨D, 0, none⟩ = some (.slice (some ⟨g, 0, none⟩) ss.length vc) := hX2.cell 0 _ rfl
  go_wp2_with fail
  clear x2
  go_loopw [12] (fun i wr => ∃ k : Nat, k ≤ E.length ∧ i = .int .i64 (k : Int) ∧ Hid (OwnD wr (w.heap.size + 3) (.slice (some ⟨g, 0, none⟩) ss.length vc) (qs.set P ((⟨U, V, alH E k⟩ : Sb), Value.slice ya E.length yc))) ∧ Box wr D #[.slice (some ⟨g, 0, none⟩) ss.length vc] 26 ∧ Box wr (w.heap.size + 1 + 1) #[.slice none 0 0] 26 ∧ wr.cell? ⟨g, P * 3 + 2, none⟩ = some (.slice ya E.length yc) ∧ Below w.heap.size w wr ∧ w2.heap.size ≤ wr.heap.size) (fun i _ => E.length - (intOf i).toNat)
  case atStart => exact ⟨0, Nat.zero_le _, rfl, HDs, hX2, hZ2, c2, hB2, Nat.le_refl _⟩
  case round =>
    obtain ⟨k, hk, rfl, HD, hX, hZ, c2, hB, hsw⟩ := hrel
    clear HD2 hX2 hO2 hZ2 hB2 g0 HDs
    have x0 : wr.cell? ⟨D, 0, none⟩ = some (.slice (some ⟨g, 0, none⟩) ss.length vc) := hX.cell 0 _ rfl
    by_cases hlt : k < E.length
    · have hrow := HD.out.rowAt hkr
      obtain ⟨h, hya, hh1, hh2, hhn⟩ := OwnR.form hrow (show 0 < (alH E k).length by rw [alH_len]; omega)
      subst hya
      have hhD : D ≠ h := fun e => hny (by rw [e]; rfl)
      have hgh : g ≠ h := fun e => by rcases own_apart (by decide) HD.out.1 hrow with h1 | h1; (cases h1); exact h1 (by rw [e]; rfl)
      have fz := hrow.free hhn
      have hk2 : k < (alH E k).length := by rw [alH_len]; exact hlt
      obtain ⟨bb, e3⟩ : ∃ bb, wr.cell? ⟨h, k * 5 + 3, none⟩ = some (.bool bb) := ⟨_, hrow.val enC_len hhn k 3 _ hk2 rfl⟩
      have HD4 := Lib.hid (HD.out.allStep hkr hlt)
      have hX4 := hX.other ⟨h, k * 5 + 3, none⟩ (.bool true) hhD
      have hZ4 := hZ.other ⟨h, k * 5 + 3, none⟩ (.bool true) (show w.heap.size + 1 + 1 ≠ h by omega)
      have hB4 := hB.setCell (p := ⟨h, k * 5 + 3, none⟩) (show w.heap.size ≤ h by omega) (.bool true)
      have c4 : (wr.setCell ⟨h, k * 5 + 3, none⟩ (.bool true)).cell? ⟨g, P * 3 + 2, none⟩ = some (.slice (some ⟨h, 0, none⟩) E.length yc) := by rw [World.cell?_setCell_other _ _ _ _ (show (⟨h, k * 5 + 3, none⟩ : Addr) ≠ ⟨g, P * 3 + 2, none⟩ from fun e => hgh (congrArg Addr.block e).symm)]; exact c2
      have hs4 : w2.heap.size ≤ (wr.setCell ⟨h, k * 5 + 3, none⟩ (.bool true)).heap.size := by simpa [World.setCell] using hsw
      clear hrow hhn hk2 hX hZ hB
      go_wp2
      go_roundw
      case rel => exact ⟨k + 1, by omega, by go_num, HD4, hX4, hZ4, c4, hB4, hs4⟩
      case measure => simp [intOf]; omega
    · have HQe : Hid ((qs.set P ((⟨U, V, alH E k⟩ : Sb), Value.slice ya E.length yc)).map Prod.fst = ss.set P (alS ss[P])) := Lib.hid (by rw [alH_end E k hlt]; exact HSub.out _)
      have z0 : wr.cell? ⟨w.heap.size + 1 + 1, 0, none⟩ = some (.slice none 0 0) := hZ.cell 0 _ rfl
      have zf := hZ.free
      go_wp2
      have hZe := hZ.set 0 (.slice (some ⟨g, 0, none⟩) ss.length vc)
      have hBe := hB.setCell (p := ⟨w.heap.size + 1 + 1, 0, none⟩) (by simp; omega) (.slice (some ⟨g, 0, none⟩) ss.length vc)
      have hDe := (HD.out.aside ⟨w.heap.size + 1 + 1, 0, none⟩ (.slice (some ⟨g, 0, none⟩) ss.length vc) (show w.heap.size + 1 + 1 < w.heap.size + 3 by omega)).lower (show w.heap.size ≤ w.heap.size + 3 by omega)
      generalize wr.setCell ⟨w.heap.size + 1 + 1, 0, none⟩ (.slice (some ⟨g, 0, none⟩) ss.length vc) = We at hZe hBe hDe ⊢
      have p0 : We.cell? ⟨w.heap.size + 1 + 1, 0, none⟩ = some (.slice (some ⟨g, 0, none⟩) ss.length vc) := hZe.cell 0 _ rfl
      exact bodyPost_ret (v := .tuple #[.agg #[.slice (some ⟨g, 0, none⟩) ss.length vc], .bool true]) (by simp [results, Try.results53, go_sem, p0]) rfl (OutDn.some11 HDo.out ⟨_, _, rfl, HQe.out, hDe, hBe⟩)
end Go.Proofs.Ytffkakpbelknaaa

/- Y9g -/
namespace Go.Proofs.Ytffkakpbelknaaa
open Go.ChangeShapes Go.WideShapes Go.ChangeAt Go.RowKit
set_option linter.unusedVariables false

set_option maxRecDepth 100000 in
set_option maxHeartbeats 4000000 in
theorem l9Done_fetch (v x : Value) (ss : List Sb) (o : OpD) (w : World) (h : SbAt w w.heap.size v ss) (hx : ItAt w w.heap.size x o.its) (hr : rdB ss = true) (hk : o.k = 3) (hop : opB o = true) (hf : fnB (sbKs ss) o.fu = true) (P : Nat) (hpl : plK (sbKs ss) o.fu = P) (hP : P < ss.length) :
    Calls Try.prog 53 #[.agg #[v], opV o x] w (OutDn (doI ss o) w) := by
  have HI := Lib.hid h
  have HX := Lib.hid hx
  have h6 := rd_len hr
  have HSz := Lib.hid h.size
  have HR := Lib.hid hr
  have HCp := Lib.hid (fun w h => l9Copy_any v ss w h (by omega) (fun s hs => by have := sb_len (rd_sub hr s hs); omega))
  have HAt := Lib.hid (fun w h => l9At_any v ss o.fu w h)
  rw [atK_there (rd_ris hr) hf, hpl] at HAt
  have hge : decide ((P : Int) < 0) = false := decide_eq_false (by omega)
  have HDo : Hid (doI ss o = some (ss.set P (ftS ss[P] o.ft o.its))) := Lib.hid (by unfold doI; rw [if_neg (by omega), if_neg (by omega), chV_at (by unfold opU; rw [if_pos hk]; exact hf) (by unfold opU; rw [if_pos hk]; exact hpl) hP]; rw [if_neg (by omega), if_neg (by omega), if_pos hk])
  obtain ⟨a, cap, rfl, hl, hm, hc⟩ := h.raw
  obtain ⟨xa, xc, rfl⟩ := hx.1.slice
  clear hc h hx hr
  have hb0 : Below w.heap.size w (((w.alloc (.cells #[.slice a ss.length cap] 26)).alloc (.cells #[.int .i64 o.k, .string o.u, .string o.i, .int .i64 o.d, .string o.fu, .string o.ft, .slice xa o.its.length xc] 31)).alloc (.cells #[.slice none 0 0] 26)) := (((Below.refl _ _).alloc (Nat.le_refl _) _).alloc (by simp) _).alloc (by simp; omega) _
  have hR0 := ((Box.new w #[.slice a ss.length cap] 26).alloc (.cells #[.int .i64 o.k, .string o.u, .string o.i, .int .i64 o.d, .string o.fu, .string o.ft, .slice xa o.its.length xc] 31)).alloc (.cells #[.slice none 0 0] 26)
  have hO0 : Box (((w.alloc (.cells #[.slice a ss.length cap] 26)).alloc (.cells #[.int .i64 o.k, .string o.u, .string o.i, .int .i64 o.d, .string o.fu, .string o.ft, .slice xa o.its.length xc] 31)).alloc (.cells #[.slice none 0 0] 26)) (w.heap.size + 1) #[.int .i64 o.k, .string o.u, .string o.i, .int .i64 o.d, .string o.fu, .string o.ft, .slice xa o.its.length xc] 31 := by
    have := (Box.new (w.alloc (.cells #[.slice a ss.length cap] 26)) #[.int .i64 o.k, .string o.u, .string o.i, .int .i64 o.d, .string o.fu, .string o.ft, .slice xa o.its.length xc] 31).alloc (.cells #[.slice none 0 0] 26)
    simpa using this
  have hZ0 : Box (((w.alloc (.cells #[.slice a ss.length cap] 26)).alloc (.cells #[.int .i64 o.k, .string o.u, .string o.i, .int .i64 o.d, .string o.fu, .string o.ft, .slice xa o.its.length xc] 31)).alloc (.cells #[.slice none 0 0] 26)) (w.heap.size + 1 + 1) #[.slice none 0 0] 26 := by
    have := Box.new ((w.alloc (.cells #[.slice a ss.length cap] 26)).alloc (.cells #[.int .i64 o.k, .string o.u, .string o.i, .int .i64 o.d, .string o.fu, .string o.ft, .slice xa o.its.length xc] 31)) #[.slice none 0 0] 26
    simpa using this
  have hsz0 : (((w.alloc (.cells #[.slice a ss.length cap] 26)).alloc (.cells #[.int .i64 o.k, .string o.u, .string o.i, .int .i64 o.d, .string o.fu, .string o.ft, .slice xa o.its.length xc] 31)).alloc (.cells #[.slice none 0 0] 26)).heap.size = w.heap.size + 3 := by simp
  have hk11 : (o.k == 1) = false := beq_eq_false_iff_ne.2 (by omega)
  have hk22 : (o.k == 2) = false := beq_eq_false_iff_ne.2 (by omega)
  have hk99 : (o.k == 9) = false := beq_eq_false_iff_ne.2 (by omega)
  have hk33 : (o.k == 3) = true := beq_iff_eq.2 hk
  have hil := op_its hop hk
  clear hk hl hm hf hpl hop
  unfold OutCp at HCp
  go_enter Try.func53, Try.ntmps53
  go_wp2_with fail
  generalize ((w.alloc (.cells #[.slice a ss.length cap] 26)).alloc (.cells #[.int .i64 o.k, .string o.u, .string o.i, .int .i64 o.d, .string o.fu, .string o.ft, .slice xa o.its.length xc] 31)).alloc (.cells #[.slice none 0 0] 26) = W0 at hb0 hR0 hO0 hZ0 hsz0 ⊢
  refine (HCp.out _ ((HI.out.below hb0).mono hb0.size)).mono ?_
  rintro e w1 ⟨v1, qs, rfl, hq1, hD1, hb1⟩
  obtain ⟨va, vc, rfl⟩ := hD1.1.slice
  have hs1 : w.heap.size + 3 ≤ w1.heap.size := by have := hb1.size; omega
  have hB1 := (hb0.trans (hb1.mono hb0.size)).alloc (by omega) (.cells #[.slice va qs.length vc] 26)
  have hZ1 := (hZ0.keep hb1 hZ0.lt).alloc (.cells #[.slice va qs.length vc] 26)
  have hO1 := (hO0.keep hb1 hO0.lt).alloc (.cells #[.slice va qs.length vc] 26)
  have hR1 := (hR0.keep hb1 hR0.lt).alloc (.cells #[.slice va qs.length vc] 26)
  have hX1 := Box.new w1 #[.slice va qs.length vc] 26
  have HD1 : Hid (OwnD (w1.alloc (.cells #[.slice va qs.length vc] 26)) (w.heap.size + 3) (.slice va qs.length vc) qs) := Lib.hid ((hD1.lower (show w.heap.size + 3 ≤ W0.heap.size by omega)).keep ((Below.refl _ _).alloc (Nat.le_refl _) _) (Nat.le_refl _))
  have HV1 : Hid (Value.ownBlock (.slice va qs.length vc) ≠ Option.some w1.heap.size ∧ ∀ q ∈ qs, q.2.ownBlock ≠ Option.some w1.heap.size) := Lib.hid ⟨fun e => by have := (World.ownsRow.lt hD1.1 _ e).2; omega, fun q hq e => by have := (World.ownsRow.lt (hD1.2.1 q hq) _ e).2; omega⟩
  have hql : qs.length = ss.length := by have := congrArg List.length hq1; simpa using this
  have HQ1 := Lib.hid hq1
  rw [hql] at hB1 hZ1 hO1 hR1 hX1 HD1 HV1 ⊢
  clear hb1 hb0 hR0 hO0 hZ0 hsz0 hq1 hD1 HCp
  have f0 : (w1.alloc (.cells #[.slice va ss.length vc] 26)).cell? ⟨w.heap.size + 1, 0, none⟩ = some (.int .i64 o.k) := hO1.cell 0 _ rfl
  have f1 : (w1.alloc (.cells #[.slice va ss.length vc] 26)).cell? ⟨w.heap.size + 1, 1, none⟩ = some (.string o.u) := hO1.cell 1 _ rfl
  have f4 : (w1.alloc (.cells #[.slice va ss.length vc] 26)).cell? ⟨w.heap.size + 1, 4, none⟩ = some (.string o.fu) := hO1.cell 4 _ rfl
  have r0 : (w1.alloc (.cells #[.slice va ss.length vc] 26)).cell? ⟨w.heap.size, 0, none⟩ = some (.slice a ss.length cap) := hR1.cell 0 _ rfl
  go_wp2_with fail
  refine (HAt.out _ ((HI.out.below hB1).mono hB1.size)).mono ?_
  rintro e w2 ⟨rfl, hb2⟩
  have hB2 := hB1.trans (hb2.mono hB1.size)
  have hZ2 := hZ1.keep hb2 hZ1.lt
  have hO2 := hO1.keep hb2 hO1.lt
  have hX2 := hX1.keep hb2 hX1.lt
  have HD2 := Lib.hid (HD1.out.keep hb2 (Nat.le_refl _))
  have hs2 : w1.heap.size < w2.heap.size := hX2.lt
  have g0 : w2.cell? ⟨w.heap.size + 1, 0, none⟩ = some (.int .i64 o.k) := hO2.cell 0 _ rfl
  clear hb2 hB1 hZ1 hO1 hR1 f0 f1 f4 r0 HAt hX1 HD1
  generalize w1.heap.size = D at hX2 HV1 hs1 hs2 ⊢
  clear w1
  have hql : qs.length = ss.length := by have := congrArg List.length HQ1.out; simpa using this
  have hnv := HV1.out.1
  have hnp := HV1.out.2
  obtain ⟨g, rfl, hg1, hg2, hgn⟩ := OwnR.form HD2.out.1 (by omega)
  have hkr : P < qs.length := by omega
  have hPs : qs[P].1 = ss[P] := fst_at HQ1.out P hkr hP
  have hgD : D ≠ g := fun e => hnv (by rw [e]; rfl)
  obtain ⟨ya, yc, hyv⟩ := (HD2.out.2.1 _ (List.getElem_mem hkr)).slice
  have c0 := HD2.out.1.val sbC_len hgn P 0 _ hkr rfl
  have c1 := HD2.out.1.val sbC_len hgn P 1 _ hkr rfl
  have c2 := HD2.out.1.val sbC_len hgn P 2 _ hkr rfl
  have hoy := HD2.out.2.1 _ (List.getElem_mem hkr)
  have hny := hnp _ (List.getElem_mem hkr)
  rw [hyv] at c2 hoy hny
  rw [hPs] at c0 c1 c2 hoy hyv hny
  rw [Nat.add_zero] at c0
  have HSy := Lib.hid (HSz.out _ (List.getElem_mem hP))
  have hel : ss[P].es.length ≤ 12 := sb_len (rd_sub HR.out _ (List.getElem_mem hP))
  have hre : risB (enKs ss[P].es) = true := sb_ris (rd_sub HR.out _ (List.getElem_mem hP))
  have HY : Hid (EnAt w2.drew w2.drew.heap.size (.slice ya ss[P].es.length yc) ss[P].es) := Lib.hid ⟨hoy.at enC_len, HSy.out.2⟩
  have HI2 : Hid (ItAt w2.drew w2.drew.heap.size (.slice xa o.its.length xc) o.its) := Lib.hid ((HX.out.below hB2.drew).mono hB2.size)
  have HFt := Lib.hid (fun w (h : EnAt w w.heap.size (.slice ya ss[P].es.length yc) ss[P].es) hv => l9Fetch_any ss[P] (.slice ya ss[P].es.length yc) o.fu o.ft (.slice xa o.its.length xc) o.its w h hv hre (by omega) (by omega))
  have HS : Hid (∀ w3 y, Below w2.drew.heap.size w2.drew w3 → FyAt w3 w2.drew.heap.size (.slice ya ss[P].es.length yc) y ss[P].es (ftV ss[P].es o.its) → (∃ a c, y = .slice a (ftV ss[P].es o.its).length c) ∧ OwnD (putRow g (P * 3) [.string ss[P].u, .string o.ft, y] w3) (w.heap.size + 3) (.slice (some ⟨g, 0, none⟩) ss.length vc) (qs.set P (ftS ss[P] o.ft o.its, y)) ∧ w3.grownBy (putRow g (P * 3) [.string ss[P].u, .string o.ft, y] w3) (some g)) := Lib.hid (fun w3 y hb3 hy => by
    have hyb : (y = qs[P].2 ∧ (ftS ss[P] o.ft o.its).es = qs[P].1.es) ∨ OwnR 47 5 enC w3 w2.drew.heap.size y (ftS ss[P] o.ft o.its).es := by
      rcases hy with ⟨h1, h2⟩ | h1
      · exact .inl ⟨h1.trans (by rw [hyv]), h2.trans (by rw [hPs])⟩
      · exact .inr h1
    have hg3 : w3.grownBy (putRow g (P * 3) [.string ss[P].u, .string o.ft, y] w3) (some g) := gb_set1 g _ _ (gb_set1 g _ _ (gb_set1 g _ _ (World.grownBy.refl _ _)))
    refine ⟨?_, ?_, hg3⟩
    · rcases hy with ⟨h1, h2⟩ | h1
      · rw [h2]; exact ⟨_, _, h1⟩
      · exact h1.slice
    · refine HD2.out.drew.putSub P hkr (ftS ss[P] o.ft o.its) (show w.heap.size + 3 ≤ w2.heap.size by omega) hb3 hyb hg3 ?_
      exact (HD2.out.drew.1.keep hb3 (Nat.le_refl _)).put sbC_len hgn P (ftS ss[P] o.ft o.its, y) hkr)
  have HSub : Hid (∀ y : Value, (qs.set P (ftS ss[P] o.ft o.its, y)).map Prod.fst = ss.set P (ftS ss[P] o.ft o.its)) := Lib.hid (fun y => by rw [List.map_set, HQ1.out])
  have fzg := (HD2.out.1).free hgn
  have HFz : Hid (∀ w3, Below w2.drew.heap.size w2.drew w3 → ∀ j, w3.frozen? ⟨g, j, none⟩ = false) := Lib.hid (fun w3 hb3 j => (HD2.out.drew.1.keep hb3 (Nat.le_refl _)).free hgn j)
  obtain ⟨S, hSe⟩ : ∃ S, S = ss[P] := ⟨_, rfl⟩
  rw [← hSe] at c0 c1 c2 hoy HY HFt HS HSub hel
  obtain ⟨RR, hRR⟩ : ∃ RR, RR = ftS S o.ft o.its := ⟨_, rfl⟩
  have HRR : Hid (RR = ftS ss[P] o.ft o.its) := Lib.hid (by rw [hRR, hSe])
  rw [← hRR] at HS HSub
  obtain ⟨FV, hFV⟩ : ∃ FV, FV = ftV S.es o.its := ⟨_, rfl⟩
  rw [← hFV] at HS HFt
  clear hre hel hyv hnp hnv hny HSy hPs hgn hql hoy hSe hRR hFV fzg hil
  simp only [putRow, Nat.add_assoc, Nat.reduceAdd] at HS
  have hQ0 : (Box w2.drew D #[.slice (some ⟨g, 0, none⟩) ss.length vc] 26 ∧ Box w2.drew (w.heap.size + 1) #[.int .i64 o.k, .string o.u, .string o.i, .int .i64 o.d, .string o.fu, .string o.ft, .slice xa o.its.length xc] 31) := ⟨hX2.drew, hO2.drew⟩
  go_wp2
  refine wp_region_T (fun w' => Box w' D #[.slice (some ⟨g, 0, none⟩) ss.length vc] 26 ∧ Box w' (w.heap.size + 1) #[.int .i64 o.k, .string o.u, .string o.i, .int .i64 o.d, .string o.fu, .string o.ft, .slice xa o.its.length xc] 31) (fun w' => w'.cell? ⟨g, P * 3, none⟩ = some (.string S.u) ∧ w'.cell? ⟨g, P * 3 + 1, none⟩ = some (.string S.t) ∧ w'.cell? ⟨g, P * 3 + 2, none⟩ = some (.slice ya S.es.length yc)) 12 (by kernel_rfl) 13 rfl ?_
  refine wpAnyT_takesA (md := .any) 4 (by kernel_rfl) (by intro d v c a w h; cases d <;> exact h) [0, 1, 2, 3, 4, 5, 6, 8, 9] _ _ _ (by decide) (by kernel_rfl) ⟨hQ0, fun _ => ⟨c0, c1, c2⟩⟩ ?_
  simp only [pick, List.filterMap_cons, List.filterMap_nil, List.getElem?_cons_zero, List.getElem?_cons_succ]
  refine wpIf_step (.pointer (some ⟨D, 0, none⟩)) (by kernel_rfl) (fun w hw => by go_simp) ?_
  refine wpIf_step (.slice (some ⟨g, 0, none⟩) ss.length vc) (by kernel_rfl) (fun w hw => by have e0 := hw.1.cell 0 _ rfl; go_simp) ?_
  refine wpIf_step (.int .i64 (P : Int)) (by kernel_rfl) (fun w hw => by go_simp) ?_
  refine wpIf_step (.pointer (some ⟨D, 0, none⟩)) (by kernel_rfl) (fun w hw => by go_simp) ?_
  refine wpIf_step (.slice (some ⟨g, 0, none⟩) ss.length vc) (by kernel_rfl) (fun w hw => by have e0 := hw.1.cell 0 _ rfl; go_simp) ?_
  refine wpIf_step (.int .i64 (P : Int)) (by kernel_rfl) (fun w hw => by go_simp) ?_
  refine wpIf_step (.pointer (some ⟨g, P * 3, none⟩)) (by kernel_rfl) (fun w hw => by go_simp) ?_
  refine wpIf_step (.pointer (some ⟨w.heap.size + 1, 4, none⟩)) (by kernel_rfl) (fun w hw => by go_simp) ?_
  refine wpIf_step (.agg #[.string o.fu, .string o.ft, .slice xa o.its.length xc]) (by kernel_rfl) (fun w hw => by have e4 := hw.2.cell 4 _ rfl; have e5 := hw.2.cell 5 _ rfl; have e6 := hw.2.cell 6 _ rfl; go_simp) ?_
  refine wpIf_nil (fun hS0 => ?_)
  refine wpAnyT_takesB (md := .any) 3 (by kernel_rfl) (by intro d v c a w h; cases d <;> exact h) [7] _ _ _ (by decide) (by kernel_rfl) (by kernel_rfl) (by kernel_rfl) hS0 ?_
  simp only [pick, List.filterMap_cons, List.filterMap_nil, List.getElem?_cons_zero, List.getElem?_cons_succ]
  refine wpIf_step (sbV S.u S.t (.slice ya S.es.length yc)) (by kernel_rfl) (fun w hw => by have e0 := hw.2.1; have e1 := hw.2.2.1; have e2 := hw.2.2.2; go_simp) ?_
  refine wpIf_nil (fun hS0 => ?_)
  clear hS0
  refine wpAnyT_one 10 2 (by kernel_rfl) rfl (by kernel_rfl) (fun K hK => ?_)
  go_simp
  refine (HFt.out w2.drew HY.out HI2.out).mono ?_
  rintro e w3 ⟨y3, rfl, hy3, hb3⟩
  obtain ⟨⟨y3a, y3c, hyv⟩, hD4, hg4⟩ := HS.out w3 y3 hb3 hy3
  subst hyv
  have hX3 := hX2.drew.keep hb3 hX2.lt
  have hO3 := hO2.drew.keep hb3 hO2.lt
  have hZ3 := hZ2.drew.keep hb3 hZ2.lt
  have hB3 := hB2.drew.trans (hb3.mono hB2.size)
  have kc : ∀ o x, w2.cell? ⟨g, o, none⟩ = some x → w3.cell? ⟨g, o, none⟩ = some x := fun o x h => by rw [hb3.cell (p := ⟨g, o, none⟩) hg2]; exact h
  have d0 := kc _ _ c0
  have d1 := kc _ _ c1
  have d2 := kc _ _ c2
  have fz := HFz.out w3 hb3
  refine hK _ _ ⟨⟨hX3, hO3⟩, fun _ => ⟨d0, d1, d2⟩⟩ (fun hS0 => ?_)
  clear hK K hS0 hb3 kc hy3
  refine wpAnyT_takesA (md := .any) 1 (by kernel_rfl) (by intro d v c a w h; cases d <;> exact h) [11] _ _ _ (by decide) (by kernel_rfl) ⟨⟨hX3, hO3⟩, fun _ => ⟨d0, d1, d2⟩⟩ ?_
  simp only [pick, List.filterMap_cons, List.filterMap_nil, List.getElem?_cons_zero, List.getElem?_cons_succ]
  refine wpIf_step (.pointer (some ⟨g, P * 3, none⟩)) (by kernel_rfl) (fun w hw => by go_simp) ?_
  refine wpIf_nil (fun hS0 => ?_)
  clear hS0
  have hbh : ∀ {q : Nat} {cs : Array Value} {t : TypeId}, Box w3 q cs t → q ≠ g → Box (((w3.setCell ⟨g, P * 3, none⟩ (.string S.u)).setCell ⟨g, P * 3 + 1, none⟩ (.string o.ft)).setCell ⟨g, P * 3 + 2, none⟩ (.slice y3a FV.length y3c)) q cs t := fun hx hq => (hg4.block _ hx.lt (fun e => hq (Option.some.inj e))).trans hx
  have hX4 := hbh hX3 hgD
  have hO4 := hbh hO3 (by omega)
  have hZ4 := hbh hZ3 (by omega)
  have hB4 := hB3.trans ((gb_Below hg4 (by have := hX3.lt; omega) (fun b hb => by cases hb; exact hg1) : Below (w.heap.size + 3) w3 (((w3.setCell ⟨g, P * 3, none⟩ (.string S.u)).setCell ⟨g, P * 3 + 1, none⟩ (.string o.ft)).setCell ⟨g, P * 3 + 2, none⟩ (.slice y3a FV.length y3c))).mono (by omega))
  refine wpAnyT_one 12 0 (by kernel_rfl) rfl (by kernel_rfl) (fun K hK => ?_)
  go_simp
  refine hK _ _ ⟨⟨hX4, hO4⟩, fun h => by exact absurd h (by decide)⟩ (fun hS0 => ?_)
  clear hK K hS0 hQ0
  refine wpAnyT_over (by kernel_rfl) ?_
  have HD5 := Lib.hid hD4
  generalize ((w3.setCell ⟨g, P * 3, none⟩ (.string S.u)).setCell ⟨g, P * 3 + 1, none⟩ (.string o.ft)).setCell ⟨g, P * 3 + 2, none⟩ (.slice y3a FV.length y3c) = W5 at hX4 hO4 hZ4 hB4 HD5 ⊢
  clear hX3 hO3 hZ3 hB3 hX2 hO2 hZ2 hB2 c0 c1 c2 d0 d1 d2 fz HFt HS HFz hD4 hg4 hbh g0 HD2 HY HI2
  have HQe : Hid ((qs.set P (RR, Value.slice y3a FV.length y3c)).map Prod.fst = ss.set P (ftS ss[P] o.ft o.its)) := Lib.hid (by rw [← HRR.out]; exact HSub.out _)
  have x0 : W5.cell? ⟨D, 0, none⟩ = some (.slice (some ⟨g, 0, none⟩) ss.length vc) := hX4.cell 0 _ rfl
  have z0 : W5.cell? ⟨w.heap.size + 1 + 1, 0, none⟩ = some (.slice none 0 0) := hZ4.cell 0 _ rfl
  have zf := hZ4.free
  go_wp2
  have hZe := hZ4.set 0 (.slice (some ⟨g, 0, none⟩) ss.length vc)
  have hBe := hB4.setCell (p := ⟨w.heap.size + 1 + 1, 0, none⟩) (by simp; omega) (.slice (some ⟨g, 0, none⟩) ss.length vc)
  have hDe := (HD5.out.aside ⟨w.heap.size + 1 + 1, 0, none⟩ (.slice (some ⟨g, 0, none⟩) ss.length vc) (show w.heap.size + 1 + 1 < w.heap.size + 3 by omega)).lower (show w.heap.size ≤ w.heap.size + 3 by omega)
  generalize W5.setCell ⟨w.heap.size + 1 + 1, 0, none⟩ (.slice (some ⟨g, 0, none⟩) ss.length vc) = We at hZe hBe hDe ⊢
  have p0 : We.cell? ⟨w.heap.size + 1 + 1, 0, none⟩ = some (.slice (some ⟨g, 0, none⟩) ss.length vc) := hZe.cell 0 _ rfl
  exact bodyPost_ret (v := .tuple #[.agg #[.slice (some ⟨g, 0, none⟩) ss.length vc], .bool true]) (by simp [results, Try.results53, go_sem, p0]) rfl (OutDn.some11 HDo.out ⟨_, _, rfl, HQe.out, hDe, hBe⟩)
end Go.Proofs.Ytffkakpbelknaaa
