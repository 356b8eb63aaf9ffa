/- Joined: W9zy, W9zz. -/
import Derived.Test.YtffkakpbelknaaaH36
import Derived.Test.YtffkakpbelknaaaH40
/- W9zy -/
namespace Go.Proofs.Ytffkakpbelknaaa
open Go.ChangeShapes Go.WideShapes Go.ChangeAt Go.RowKit
set_option linter.unusedVariables false

set_option maxRecDepth 100000 in
set_option maxHeartbeats 3000000 in
theorem specDone_of (HDn : Hid (∀ (v x : Value) (ss : List Sb) (o : OpD) (w : World), SbAt w w.heap.size v ss → ItAt w w.heap.size x o.its → OpSz o → rdB ss = true → opB o = true → Calls Try.prog 53 #[.agg #[v], opV o x] w (OutDn (doI ss o) w))) (v x : Value) (ss : List Sb) (o : OpD) (w : World) (h : SbAt w w.heap.size v ss) (hx : ItAt w w.heap.size x o.its) (hz : OpSz o) :
    Calls Try.prog 17 #[.agg #[v], opV o x] w (OutDn (doV ss o) w) := by
  have HI := Lib.hid h
  have HX := Lib.hid hx
  have HSz := Lib.hid h.size
  have HCr := Lib.hid (fun w h => specReaderOk_any v ss w h)
  have HCo := Lib.hid (fun w h => specOpOk_any o x w h hz)
  obtain ⟨a, cap, rfl, hl, hm, hc⟩ := h.raw
  obtain ⟨xa, xc, rfl⟩ := hx.1.slice
  clear hc h hx
  have hb0 : Below w.heap.size w (((w.alloc (.cells #[.slice a ss.length cap] 26)).alloc (.cells #[.int .i64 o.k, .string o.u, .string o.i, .int .i64 o.d, .string o.fu, .string o.ft, .slice xa o.its.length xc] 31)).alloc (.cells #[.slice none 0 0] 26)) := (((Below.refl _ _).alloc (Nat.le_refl _) _).alloc (by simp) _).alloc (by simp; omega) _
  have hR0 := ((Box.new w #[.slice a ss.length cap] 26).alloc (.cells #[.int .i64 o.k, .string o.u, .string o.i, .int .i64 o.d, .string o.fu, .string o.ft, .slice xa o.its.length xc] 31)).alloc (.cells #[.slice none 0 0] 26)
  have hO0 : Box (((w.alloc (.cells #[.slice a ss.length cap] 26)).alloc (.cells #[.int .i64 o.k, .string o.u, .string o.i, .int .i64 o.d, .string o.fu, .string o.ft, .slice xa o.its.length xc] 31)).alloc (.cells #[.slice none 0 0] 26)) (w.heap.size + 1) #[.int .i64 o.k, .string o.u, .string o.i, .int .i64 o.d, .string o.fu, .string o.ft, .slice xa o.its.length xc] 31 := by
    have := (Box.new (w.alloc (.cells #[.slice a ss.length cap] 26)) #[.int .i64 o.k, .string o.u, .string o.i, .int .i64 o.d, .string o.fu, .string o.ft, .slice xa o.its.length xc] 31).alloc (.cells #[.slice none 0 0] 26)
    simpa using this
  have hZ0 : Box (((w.alloc (.cells #[.slice a ss.length cap] 26)).alloc (.cells #[.int .i64 o.k, .string o.u, .string o.i, .int .i64 o.d, .string o.fu, .string o.ft, .slice xa o.its.length xc] 31)).alloc (.cells #[.slice none 0 0] 26)) (w.heap.size + 1 + 1) #[.slice none 0 0] 26 := by
    have := Box.new ((w.alloc (.cells #[.slice a ss.length cap] 26)).alloc (.cells #[.int .i64 o.k, .string o.u, .string o.i, .int .i64 o.d, .string o.fu, .string o.ft, .slice xa o.its.length xc] 31)) #[.slice none 0 0] 26
    simpa using this
  have hsz0 : (((w.alloc (.cells #[.slice a ss.length cap] 26)).alloc (.cells #[.int .i64 o.k, .string o.u, .string o.i, .int .i64 o.d, .string o.fu, .string o.ft, .slice xa o.its.length xc] 31)).alloc (.cells #[.slice none 0 0] 26)).heap.size = w.heap.size + 3 := by simp
  cases hrd : rdB ss with
  | false =>
    have HV : Hid (doV ss o = none) := Lib.hid (by unfold doV; rw [if_neg (fun h => by rw [hrd] at h; cases h.1)])
    rw [HV.out]
    rw [hrd] at HCr
    clear hrd HV
    go_enter Try.func17, Try.ntmps17
    go_wp2_with fail
    generalize ((w.alloc (.cells #[.slice a ss.length cap] 26)).alloc (.cells #[.int .i64 o.k, .string o.u, .string o.i, .int .i64 o.d, .string o.fu, .string o.ft, .slice xa o.its.length xc] 31)).alloc (.cells #[.slice none 0 0] 26) = W0 at hb0 hR0 hO0 hZ0 hsz0 ⊢
    refine (HCr.out _ ((HI.out.below hb0).mono hb0.size)).mono ?_
    rintro e w1 ⟨rfl, hb1⟩
    have hB1 := hb0.trans (hb1.mono hb0.size)
    have hZ1 := hZ0.keep hb1 hZ0.lt
    have q0 : w1.cell? ⟨w.heap.size + 1 + 1, 0, none⟩ = some (.slice none 0 0) := hZ1.cell 0 _ rfl
    have qf := hZ1.free
    clear hb1 hb0 hR0 hO0 hZ0
    go_wp2
    have hZ2 := hZ1.set 0 (.slice none 0 0)
    have hB2 := hB1.setCell (p := ⟨w.heap.size + 1 + 1, 0, none⟩) (by simp; omega) (.slice none 0 0)
    generalize w1.setCell ⟨w.heap.size + 1 + 1, 0, none⟩ (.slice none 0 0) = W2 at hZ2 hB2 ⊢
    have p0 : W2.cell? ⟨w.heap.size + 1 + 1, 0, none⟩ = some (.slice none 0 0) := hZ2.cell 0 _ rfl
    exact bodyPost_ret (v := .tuple #[.agg #[.slice none 0 0], .bool false]) (by simp [results, Try.results17, go_sem, p0]) rfl ⟨rfl, hB2⟩
  | true =>
    cases hop : opB o with
    | false =>
      have HV : Hid (doV ss o = none) := Lib.hid (by unfold doV; rw [if_neg (fun h => by rw [hop] at h; cases h.2)])
      rw [HV.out]
      rw [hrd] at HCr
      rw [hop] at HCo
      clear hrd hop HV
      go_enter Try.func17, Try.ntmps17
      go_wp2_with fail
      generalize ((w.alloc (.cells #[.slice a ss.length cap] 26)).alloc (.cells #[.int .i64 o.k, .string o.u, .string o.i, .int .i64 o.d, .string o.fu, .string o.ft, .slice xa o.its.length xc] 31)).alloc (.cells #[.slice none 0 0] 26) = W0 at hb0 hR0 hO0 hZ0 hsz0 ⊢
      refine (HCr.out _ ((HI.out.below hb0).mono hb0.size)).mono ?_
      rintro e w1 ⟨rfl, hb1⟩
      have hB1 := hb0.trans (hb1.mono hb0.size)
      have hZ1 := hZ0.keep hb1 hZ0.lt
      have hO1 := hO0.keep hb1 hO0.lt
      have hR1 := hR0.keep hb1 hR0.lt
      have f0 : w1.cell? ⟨w.heap.size + 1, 0, none⟩ = some (.int .i64 o.k) := hO1.cell 0 _ rfl
      have f1 : w1.cell? ⟨w.heap.size + 1, 1, none⟩ = some (.string o.u) := hO1.cell 1 _ rfl
      have f2 : w1.cell? ⟨w.heap.size + 1, 2, none⟩ = some (.string o.i) := hO1.cell 2 _ rfl
      have f3 : w1.cell? ⟨w.heap.size + 1, 3, none⟩ = some (.int .i64 o.d) := hO1.cell 3 _ rfl
      have f4 : w1.cell? ⟨w.heap.size + 1, 4, none⟩ = some (.string o.fu) := hO1.cell 4 _ rfl
      have f5 : w1.cell? ⟨w.heap.size + 1, 5, none⟩ = some (.string o.ft) := hO1.cell 5 _ rfl
      have f6 : w1.cell? ⟨w.heap.size + 1, 6, none⟩ = some (.slice xa o.its.length xc) := hO1.cell 6 _ rfl
      have hs1 : w.heap.size + 3 ≤ w1.heap.size := by have := hb1.size; omega
      clear hb1 hb0 hR0 hO0 hZ0 hsz0
      go_wp2_with fail
      refine (HCo.out _ ((HX.out.below hB1).mono hB1.size)).mono ?_
      rintro e w2 ⟨rfl, hb2⟩
      have hB2 := hB1.trans (hb2.mono hB1.size)
      have hZ2 := hZ1.keep hb2 hZ1.lt
      have hO2 := hO1.keep hb2 hO1.lt
      have hR2 := hR1.keep hb2 hR1.lt
      have hs2 : w.heap.size + 3 ≤ w2.heap.size := by have := hb2.size; omega
      clear hb2 hB1 hZ1 hO1 hR1 f0 f1 f2 f3 f4 f5 f6
      have q0 : w2.cell? ⟨w.heap.size + 1 + 1, 0, none⟩ = some (.slice none 0 0) := hZ2.cell 0 _ rfl
      have qf := hZ2.free
      go_wp2
      have hZe := hZ2.set 0 (.slice none 0 0)
      have hBe := hB2.setCell (p := ⟨w.heap.size + 1 + 1, 0, none⟩) (by simp; omega) (.slice none 0 0)
      generalize w2.setCell ⟨w.heap.size + 1 + 1, 0, none⟩ (.slice none 0 0) = We at hZe hBe ⊢
      have p0 : We.cell? ⟨w.heap.size + 1 + 1, 0, none⟩ = some (.slice none 0 0) := hZe.cell 0 _ rfl
      exact bodyPost_ret (v := .tuple #[.agg #[.slice none 0 0], .bool false]) (by simp [results, Try.results17, go_sem, p0]) rfl ⟨rfl, hBe⟩
    | true =>
      have HV : Hid (doV ss o = doI ss o) := Lib.hid (by unfold doV; rw [if_pos ⟨hrd, hop⟩])
      rw [HV.out]
      have HRd := Lib.hid hrd
      have HOp := Lib.hid hop
      have HOz := Lib.hid hz
      rw [hrd] at HCr
      rw [hop] at HCo
      clear hrd hop HV hz
      go_enter Try.func17, Try.ntmps17
      go_wp2_with fail
      generalize ((w.alloc (.cells #[.slice a ss.length cap] 26)).alloc (.cells #[.int .i64 o.k, .string o.u, .string o.i, .int .i64 o.d, .string o.fu, .string o.ft, .slice xa o.its.length xc] 31)).alloc (.cells #[.slice none 0 0] 26) = W0 at hb0 hR0 hO0 hZ0 hsz0 ⊢
      refine (HCr.out _ ((HI.out.below hb0).mono hb0.size)).mono ?_
      rintro e w1 ⟨rfl, hb1⟩
      have hB1 := hb0.trans (hb1.mono hb0.size)
      have hZ1 := hZ0.keep hb1 hZ0.lt
      have hO1 := hO0.keep hb1 hO0.lt
      have hR1 := hR0.keep hb1 hR0.lt
      have f0 : w1.cell? ⟨w.heap.size + 1, 0, none⟩ = some (.int .i64 o.k) := hO1.cell 0 _ rfl
      have f1 : w1.cell? ⟨w.heap.size + 1, 1, none⟩ = some (.string o.u) := hO1.cell 1 _ rfl
      have f2 : w1.cell? ⟨w.heap.size + 1, 2, none⟩ = some (.string o.i) := hO1.cell 2 _ rfl
      have f3 : w1.cell? ⟨w.heap.size + 1, 3, none⟩ = some (.int .i64 o.d) := hO1.cell 3 _ rfl
      have f4 : w1.cell? ⟨w.heap.size + 1, 4, none⟩ = some (.string o.fu) := hO1.cell 4 _ rfl
      have f5 : w1.cell? ⟨w.heap.size + 1, 5, none⟩ = some (.string o.ft) := hO1.cell 5 _ rfl
      have f6 : w1.cell? ⟨w.heap.size + 1, 6, none⟩ = some (.slice xa o.its.length xc) := hO1.cell 6 _ rfl
      have hs1 : w.heap.size + 3 ≤ w1.heap.size := by have := hb1.size; omega
      clear hb1 hb0 hR0 hO0 hZ0 hsz0
      go_wp2_with fail
      refine (HCo.out _ ((HX.out.below hB1).mono hB1.size)).mono ?_
      rintro e w2 ⟨rfl, hb2⟩
      have hB2 := hB1.trans (hb2.mono hB1.size)
      have hZ2 := hZ1.keep hb2 hZ1.lt
      have hO2 := hO1.keep hb2 hO1.lt
      have hR2 := hR1.keep hb2 hR1.lt
      have hs2 : w.heap.size + 3 ≤ w2.heap.size := by have := hb2.size; omega
      have r0 : w2.cell? ⟨w.heap.size, 0, none⟩ = some (.slice a ss.length cap) := hR2.cell 0 _ rfl
      clear f0 f1 f2 f3 f4 f5 f6
      have g0 : w2.cell? ⟨w.heap.size + 1, 0, none⟩ = some (.int .i64 o.k) := hO2.cell 0 _ rfl
      have g1 : w2.cell? ⟨w.heap.size + 1, 1, none⟩ = some (.string o.u) := hO2.cell 1 _ rfl
      have g2 : w2.cell? ⟨w.heap.size + 1, 2, none⟩ = some (.string o.i) := hO2.cell 2 _ rfl
      have g3 : w2.cell? ⟨w.heap.size + 1, 3, none⟩ = some (.int .i64 o.d) := hO2.cell 3 _ rfl
      have g4 : w2.cell? ⟨w.heap.size + 1, 4, none⟩ = some (.string o.fu) := hO2.cell 4 _ rfl
      have g5 : w2.cell? ⟨w.heap.size + 1, 5, none⟩ = some (.string o.ft) := hO2.cell 5 _ rfl
      have g6 : w2.cell? ⟨w.heap.size + 1, 6, none⟩ = some (.slice xa o.its.length xc) := hO2.cell 6 _ rfl
      have HL := Lib.hid (HDn.out (.slice a ss.length cap) (.slice xa o.its.length xc) ss o w2 ((HI.out.below hB2).mono hB2.size) ((HX.out.below hB2).mono hB2.size) HOz.out HRd.out HOp.out)
      clear hb2 hB1 hZ1 hO1 hR1 hR2 hO2 HCr HCo
      cases hcv : doI ss o with
      | none =>
        have HCv := Lib.hid hcv
        rw [hcv] at HL
        unfold OutDn at HL
        go_wp2_with fail
        refine HL.out.mono ?_
        rintro e w4 ⟨rfl, hb4⟩
        have hB4 := hB2.trans (hb4.mono hB2.size)
        have hZ4 := hZ2.keep hb4 hZ2.lt
        clear hb4 hB2 hZ2 r0 g0 g1 g2 g3 g4 g5 g6 HL hcv
        have q0 : w4.cell? ⟨w.heap.size + 1 + 1, 0, none⟩ = some (.slice none 0 0) := hZ4.cell 0 _ rfl
        have qf := hZ4.free
        go_wp2
        have hZe := hZ4.set 0 (.slice none 0 0)
        have hBe := hB4.setCell (p := ⟨w.heap.size + 1 + 1, 0, none⟩) (by simp; omega) (.slice none 0 0)
        generalize w4.setCell ⟨w.heap.size + 1 + 1, 0, none⟩ (.slice none 0 0) = We at hZe hBe ⊢
        have p0 : We.cell? ⟨w.heap.size + 1 + 1, 0, none⟩ = some (.slice none 0 0) := hZe.cell 0 _ rfl
        exact bodyPost_ret (v := .tuple #[.agg #[.slice none 0 0], .bool false]) (by simp [results, Try.results17, go_sem, p0]) rfl (OutDn.none11 HCv.out rfl hBe)
      | some rs =>
        have HCv := Lib.hid hcv
        rw [hcv] at HL
        unfold OutDn at HL
        go_wp2_with fail
        refine HL.out.mono ?_
        rintro e w4 ⟨v4, qs, rfl, hq, hD4, hb4⟩
        have hB4 := hB2.trans (hb4.mono hB2.size)
        have hZ4 := hZ2.keep hb4 hZ2.lt
        have HD4 := Lib.hid hD4
        have HQ := Lib.hid hq
        clear hb4 hB2 hZ2 r0 g0 g1 g2 g3 g4 g5 g6 HL hcv hq hD4
        obtain ⟨va, vc, rfl⟩ := HD4.out.1.slice
        have q0 : w4.cell? ⟨w.heap.size + 1 + 1, 0, none⟩ = some (.slice none 0 0) := hZ4.cell 0 _ rfl
        have qf := hZ4.free
        go_wp2
        have hZe := hZ4.set 0 (.slice va qs.length vc)
        have hBe := hB4.setCell (p := ⟨w.heap.size + 1 + 1, 0, none⟩) (by simp; omega) (.slice va qs.length vc)
        have hDe := (HD4.out.aside ⟨w.heap.size + 1 + 1, 0, none⟩ (.slice va qs.length vc) (by simp; omega)).lower (show w.heap.size ≤ w2.heap.size by omega)
        generalize w4.setCell ⟨w.heap.size + 1 + 1, 0, none⟩ (.slice va qs.length vc) = We at hZe hBe hDe ⊢
        have p0 : We.cell? ⟨w.heap.size + 1 + 1, 0, none⟩ = some (.slice va qs.length vc) := hZe.cell 0 _ rfl
        exact bodyPost_ret (v := .tuple #[.agg #[.slice va qs.length vc], .bool true]) (by simp [results, Try.results17, go_sem, p0]) rfl (OutDn.some11 HCv.out ⟨_, qs, rfl, HQ.out, hDe, hBe⟩)
end Go.Proofs.Ytffkakpbelknaaa

/- W9zz -/
namespace Go.Proofs.Ytffkakpbelknaaa
open Go.ChangeShapes Go.WideShapes Go.ChangeAt Go.RowKit
set_option linter.unusedVariables false

set_option maxRecDepth 100000 in
set_option maxHeartbeats 3000000 in
theorem l9Done_gone (v x : Value) (ss : List Sb) (o : OpD) (w : World) (h : SbAt w w.heap.size v ss) (hx : ItAt w w.heap.size x o.its) (hr : rdB ss = true) (hk1 : ¬ o.k = 1) (hk9 : ¬ o.k = 9) (hf : fnB (sbKs ss) (opU o) = false) :
    Calls Try.prog 53 #[.agg #[v], opV o x] w fun e w' => e = .returned (.tuple #[.agg #[.slice none 0 0], .bool false]) ∧ Below w.heap.size w w' := by
  have HI := Lib.hid h
  have HX := Lib.hid hx
  have h6 := rd_len hr
  have HCp := Lib.hid (fun w h => l9Copy_any v ss w h (by omega) (fun s hs => by have := sb_len (rd_sub hr s hs); omega))
  have HAt := Lib.hid (fun w h => l9At_any v ss (opU o) w h)
  rw [atK_not (rd_ris hr) hf] at HAt
  obtain ⟨a, cap, rfl, hl, hm, hc⟩ := h.raw
  obtain ⟨xa, xc, rfl⟩ := hx.1.slice
  clear hc h hx hr hf
  have hb0 : Below w.heap.size w (((w.alloc (.cells #[.slice a ss.length cap] 26)).alloc (.cells #[.int .i64 o.k, .string o.u, .string o.i, .int .i64 o.d, .string o.fu, .string o.ft, .slice xa o.its.length xc] 31)).alloc (.cells #[.slice none 0 0] 26)) := (((Below.refl _ _).alloc (Nat.le_refl _) _).alloc (by simp) _).alloc (by simp; omega) _
  have hR0 := ((Box.new w #[.slice a ss.length cap] 26).alloc (.cells #[.int .i64 o.k, .string o.u, .string o.i, .int .i64 o.d, .string o.fu, .string o.ft, .slice xa o.its.length xc] 31)).alloc (.cells #[.slice none 0 0] 26)
  have hO0 : Box (((w.alloc (.cells #[.slice a ss.length cap] 26)).alloc (.cells #[.int .i64 o.k, .string o.u, .string o.i, .int .i64 o.d, .string o.fu, .string o.ft, .slice xa o.its.length xc] 31)).alloc (.cells #[.slice none 0 0] 26)) (w.heap.size + 1) #[.int .i64 o.k, .string o.u, .string o.i, .int .i64 o.d, .string o.fu, .string o.ft, .slice xa o.its.length xc] 31 := by
    have := (Box.new (w.alloc (.cells #[.slice a ss.length cap] 26)) #[.int .i64 o.k, .string o.u, .string o.i, .int .i64 o.d, .string o.fu, .string o.ft, .slice xa o.its.length xc] 31).alloc (.cells #[.slice none 0 0] 26)
    simpa using this
  have hZ0 : Box (((w.alloc (.cells #[.slice a ss.length cap] 26)).alloc (.cells #[.int .i64 o.k, .string o.u, .string o.i, .int .i64 o.d, .string o.fu, .string o.ft, .slice xa o.its.length xc] 31)).alloc (.cells #[.slice none 0 0] 26)) (w.heap.size + 1 + 1) #[.slice none 0 0] 26 := by
    have := Box.new ((w.alloc (.cells #[.slice a ss.length cap] 26)).alloc (.cells #[.int .i64 o.k, .string o.u, .string o.i, .int .i64 o.d, .string o.fu, .string o.ft, .slice xa o.its.length xc] 31)) #[.slice none 0 0] 26
    simpa using this
  have hsz0 : (((w.alloc (.cells #[.slice a ss.length cap] 26)).alloc (.cells #[.int .i64 o.k, .string o.u, .string o.i, .int .i64 o.d, .string o.fu, .string o.ft, .slice xa o.its.length xc] 31)).alloc (.cells #[.slice none 0 0] 26)).heap.size = w.heap.size + 3 := by simp
  have hkk : (o.k == 1) = false := beq_eq_false_iff_ne.2 hk1
  have hk99 : (o.k == 9) = false := beq_eq_false_iff_ne.2 hk9
  clear hk1 hk9
  unfold OutCp at HCp
  by_cases hk3 : o.k = 3
  · have HU : Hid (opU o = o.fu) := Lib.hid (by unfold opU; rw [if_pos hk3])
    rw [HU.out] at HAt
    have hk33 : (o.k == 3) = true := beq_iff_eq.2 hk3
    clear hk3 HU
    go_enter Try.func53, Try.ntmps53
    go_wp2_with fail
    generalize ((w.alloc (.cells #[.slice a ss.length cap] 26)).alloc (.cells #[.int .i64 o.k, .string o.u, .string o.i, .int .i64 o.d, .string o.fu, .string o.ft, .slice xa o.its.length xc] 31)).alloc (.cells #[.slice none 0 0] 26) = W0 at hb0 hR0 hO0 hZ0 hsz0 ⊢
    refine (HCp.out _ ((HI.out.below hb0).mono hb0.size)).mono ?_
    rintro e w1 ⟨v1, qs, rfl, hq1, hD1, hb1⟩
    obtain ⟨va, vc, rfl⟩ := hD1.1.slice
    have hs1 : w.heap.size + 3 ≤ w1.heap.size := by have := hb1.size; omega
    have hB1 := (hb0.trans (hb1.mono hb0.size)).alloc (by omega) (.cells #[.slice va qs.length vc] 26)
    have hZ1 := (hZ0.keep hb1 hZ0.lt).alloc (.cells #[.slice va qs.length vc] 26)
    have hO1 := (hO0.keep hb1 hO0.lt).alloc (.cells #[.slice va qs.length vc] 26)
    have hR1 := (hR0.keep hb1 hR0.lt).alloc (.cells #[.slice va qs.length vc] 26)
    clear hb1 hb0 hR0 hO0 hZ0 hsz0 hq1 hD1 HCp
    have f0 : (w1.alloc (.cells #[.slice va qs.length vc] 26)).cell? ⟨w.heap.size + 1, 0, none⟩ = some (.int .i64 o.k) := hO1.cell 0 _ rfl
    have f1 : (w1.alloc (.cells #[.slice va qs.length vc] 26)).cell? ⟨w.heap.size + 1, 1, none⟩ = some (.string o.u) := hO1.cell 1 _ rfl
    have f4 : (w1.alloc (.cells #[.slice va qs.length vc] 26)).cell? ⟨w.heap.size + 1, 4, none⟩ = some (.string o.fu) := hO1.cell 4 _ rfl
    have r0 : (w1.alloc (.cells #[.slice va qs.length vc] 26)).cell? ⟨w.heap.size, 0, none⟩ = some (.slice a ss.length cap) := hR1.cell 0 _ rfl
    go_wp2_with fail
    refine (HAt.out _ ((HI.out.below hB1).mono hB1.size)).mono ?_
    rintro e w2 ⟨rfl, hb2⟩
    have hB2 := hB1.trans (hb2.mono hB1.size)
    have hZ2 := hZ1.keep hb2 hZ1.lt
    have hO2 := hO1.keep hb2 hO1.lt
    have g0 : w2.cell? ⟨w.heap.size + 1, 0, none⟩ = some (.int .i64 o.k) := hO2.cell 0 _ rfl
    clear hb2 hB1 hZ1 hO1 hR1 f0 f1 f4 r0 HAt
    have q0 : w2.cell? ⟨w.heap.size + 1 + 1, 0, none⟩ = some (.slice none 0 0) := hZ2.cell 0 _ rfl
    have qf := hZ2.free
    go_wp2
    have hZe := hZ2.set 0 (.slice none 0 0)
    have hBe := hB2.setCell (p := ⟨w.heap.size + 1 + 1, 0, none⟩) (by simp; omega) (.slice none 0 0)
    generalize w2.setCell ⟨w.heap.size + 1 + 1, 0, none⟩ (.slice none 0 0) = We at hZe hBe ⊢
    have p0 : We.cell? ⟨w.heap.size + 1 + 1, 0, none⟩ = some (.slice none 0 0) := hZe.cell 0 _ rfl
    exact bodyPost_ret (v := .tuple #[.agg #[.slice none 0 0], .bool false]) (by simp [results, Try.results53, go_sem, p0]) rfl ⟨rfl, hBe⟩
  · have HU : Hid (opU o = o.u) := Lib.hid (by unfold opU; rw [if_neg hk3])
    rw [HU.out] at HAt
    have hk33 : (o.k == 3) = false := beq_eq_false_iff_ne.2 hk3
    clear hk3 HU
    go_enter Try.func53, Try.ntmps53
    go_wp2_with fail
    generalize ((w.alloc (.cells #[.slice a ss.length cap] 26)).alloc (.cells #[.int .i64 o.k, .string o.u, .string o.i, .int .i64 o.d, .string o.fu, .string o.ft, .slice xa o.its.length xc] 31)).alloc (.cells #[.slice none 0 0] 26) = W0 at hb0 hR0 hO0 hZ0 hsz0 ⊢
    refine (HCp.out _ ((HI.out.below hb0).mono hb0.size)).mono ?_
    rintro e w1 ⟨v1, qs, rfl, hq1, hD1, hb1⟩
    obtain ⟨va, vc, rfl⟩ := hD1.1.slice
    have hs1 : w.heap.size + 3 ≤ w1.heap.size := by have := hb1.size; omega
    have hB1 := (hb0.trans (hb1.mono hb0.size)).alloc (by omega) (.cells #[.slice va qs.length vc] 26)
    have hZ1 := (hZ0.keep hb1 hZ0.lt).alloc (.cells #[.slice va qs.length vc] 26)
    have hO1 := (hO0.keep hb1 hO0.lt).alloc (.cells #[.slice va qs.length vc] 26)
    have hR1 := (hR0.keep hb1 hR0.lt).alloc (.cells #[.slice va qs.length vc] 26)
    clear hb1 hb0 hR0 hO0 hZ0 hsz0 hq1 hD1 HCp
    have f0 : (w1.alloc (.cells #[.slice va qs.length vc] 26)).cell? ⟨w.heap.size + 1, 0, none⟩ = some (.int .i64 o.k) := hO1.cell 0 _ rfl
    have f1 : (w1.alloc (.cells #[.slice va qs.length vc] 26)).cell? ⟨w.heap.size + 1, 1, none⟩ = some (.string o.u) := hO1.cell 1 _ rfl
    have f4 : (w1.alloc (.cells #[.slice va qs.length vc] 26)).cell? ⟨w.heap.size + 1, 4, none⟩ = some (.string o.fu) := hO1.cell 4 _ rfl
    have r0 : (w1.alloc (.cells #[.slice va qs.length vc] 26)).cell? ⟨w.heap.size, 0, none⟩ = some (.slice a ss.length cap) := hR1.cell 0 _ rfl
    go_wp2_with fail
    refine (HAt.out _ ((HI.out.below hB1).mono hB1.size)).mono ?_
    rintro e w2 ⟨rfl, hb2⟩
    have hB2 := hB1.trans (hb2.mono hB1.size)
    have hZ2 := hZ1.keep hb2 hZ1.lt
    have hO2 := hO1.keep hb2 hO1.lt
    have g0 : w2.cell? ⟨w.heap.size + 1, 0, none⟩ = some (.int .i64 o.k) := hO2.cell 0 _ rfl
    clear hb2 hB1 hZ1 hO1 hR1 f0 f1 f4 r0 HAt
    have q0 : w2.cell? ⟨w.heap.size + 1 + 1, 0, none⟩ = some (.slice none 0 0) := hZ2.cell 0 _ rfl
    have qf := hZ2.free
    go_wp2
    have hZe := hZ2.set 0 (.slice none 0 0)
    have hBe := hB2.setCell (p := ⟨w.heap.size + 1 + 1, 0, none⟩) (by simp; omega) (.slice none 0 0)
    generalize w2.setCell ⟨w.heap.size + 1 + 1, 0, none⟩ (.slice none 0 0) = We at hZe hBe ⊢
    have p0 : We.cell? ⟨w.heap.size + 1 + 1, 0, none⟩ = some (.slice none 0 0) := hZe.cell 0 _ rfl
    exact bodyPost_ret (v := .tuple #[.agg #[.slice none 0 0], .bool false]) (by simp [results, Try.results53, go_sem, p0]) rfl ⟨rfl, hBe⟩

set_option maxRecDepth 100000 in
set_option maxHeartbeats 3000000 in
theorem l9Done_there (v x : Value) (ss : List Sb) (o : OpD) (w : World) (h : SbAt w w.heap.size v ss) (hx : ItAt w w.heap.size x o.its) (hr : rdB ss = true) (hk1 : o.k = 1) (hf : fnB (sbKs ss) o.u = true) :
    Calls Try.prog 53 #[.agg #[v], opV o x] w fun e w' => e = .returned (.tuple #[.agg #[.slice none 0 0], .bool false]) ∧ Below w.heap.size w w' := by
  have HI := Lib.hid h
  have HX := Lib.hid hx
  have h6 := rd_len hr
  have HCp := Lib.hid (fun w h => l9Copy_any v ss w h (by omega) (fun s hs => by have := sb_len (rd_sub hr s hs); omega))
  have HAt := Lib.hid (fun w h => l9At_any v ss o.u w h)
  rw [atK_there (rd_ris hr) hf] at HAt
  generalize plK (sbKs ss) o.u = p at HAt
  have hge : decide (0 ≤ (p : Int)) = true := decide_eq_true (by omega)
  obtain ⟨a, cap, rfl, hl, hm, hc⟩ := h.raw
  obtain ⟨xa, xc, rfl⟩ := hx.1.slice
  clear hc h hx hr hf
  have hb0 : Below w.heap.size w (((w.alloc (.cells #[.slice a ss.length cap] 26)).alloc (.cells #[.int .i64 o.k, .string o.u, .string o.i, .int .i64 o.d, .string o.fu, .string o.ft, .slice xa o.its.length xc] 31)).alloc (.cells #[.slice none 0 0] 26)) := (((Below.refl _ _).alloc (Nat.le_refl _) _).alloc (by simp) _).alloc (by simp; omega) _
  have hR0 := ((Box.new w #[.slice a ss.length cap] 26).alloc (.cells #[.int .i64 o.k, .string o.u, .string o.i, .int .i64 o.d, .string o.fu, .string o.ft, .slice xa o.its.length xc] 31)).alloc (.cells #[.slice none 0 0] 26)
  have hO0 : Box (((w.alloc (.cells #[.slice a ss.length cap] 26)).alloc (.cells #[.int .i64 o.k, .string o.u, .string o.i, .int .i64 o.d, .string o.fu, .string o.ft, .slice xa o.its.length xc] 31)).alloc (.cells #[.slice none 0 0] 26)) (w.heap.size + 1) #[.int .i64 o.k, .string o.u, .string o.i, .int .i64 o.d, .string o.fu, .string o.ft, .slice xa o.its.length xc] 31 := by
    have := (Box.new (w.alloc (.cells #[.slice a ss.length cap] 26)) #[.int .i64 o.k, .string o.u, .string o.i, .int .i64 o.d, .string o.fu, .string o.ft, .slice xa o.its.length xc] 31).alloc (.cells #[.slice none 0 0] 26)
    simpa using this
  have hZ0 : Box (((w.alloc (.cells #[.slice a ss.length cap] 26)).alloc (.cells #[.int .i64 o.k, .string o.u, .string o.i, .int .i64 o.d, .string o.fu, .string o.ft, .slice xa o.its.length xc] 31)).alloc (.cells #[.slice none 0 0] 26)) (w.heap.size + 1 + 1) #[.slice none 0 0] 26 := by
    have := Box.new ((w.alloc (.cells #[.slice a ss.length cap] 26)).alloc (.cells #[.int .i64 o.k, .string o.u, .string o.i, .int .i64 o.d, .string o.fu, .string o.ft, .slice xa o.its.length xc] 31)) #[.slice none 0 0] 26
    simpa using this
  have hsz0 : (((w.alloc (.cells #[.slice a ss.length cap] 26)).alloc (.cells #[.int .i64 o.k, .string o.u, .string o.i, .int .i64 o.d, .string o.fu, .string o.ft, .slice xa o.its.length xc] 31)).alloc (.cells #[.slice none 0 0] 26)).heap.size = w.heap.size + 3 := by simp
  have hkk : (o.k == 1) = true := beq_iff_eq.2 hk1
  have hk99 : (o.k == 9) = false := beq_eq_false_iff_ne.2 (by omega)
  have hk33 : (o.k == 3) = false := beq_eq_false_iff_ne.2 (by omega)
  clear hk1
  unfold OutCp at HCp
  go_enter Try.func53, Try.ntmps53
  go_wp2_with fail
  generalize ((w.alloc (.cells #[.slice a ss.length cap] 26)).alloc (.cells #[.int .i64 o.k, .string o.u, .string o.i, .int .i64 o.d, .string o.fu, .string o.ft, .slice xa o.its.length xc] 31)).alloc (.cells #[.slice none 0 0] 26) = W0 at hb0 hR0 hO0 hZ0 hsz0 ⊢
  refine (HCp.out _ ((HI.out.below hb0).mono hb0.size)).mono ?_
  rintro e w1 ⟨v1, qs, rfl, hq1, hD1, hb1⟩
  obtain ⟨va, vc, rfl⟩ := hD1.1.slice
  have hs1 : w.heap.size + 3 ≤ w1.heap.size := by have := hb1.size; omega
  have hB1 := (hb0.trans (hb1.mono hb0.size)).alloc (by omega) (.cells #[.slice va qs.length vc] 26)
  have hZ1 := (hZ0.keep hb1 hZ0.lt).alloc (.cells #[.slice va qs.length vc] 26)
  have hO1 := (hO0.keep hb1 hO0.lt).alloc (.cells #[.slice va qs.length vc] 26)
  have hR1 := (hR0.keep hb1 hR0.lt).alloc (.cells #[.slice va qs.length vc] 26)
  clear hb1 hb0 hR0 hO0 hZ0 hsz0 hq1 hD1 HCp
  have f0 : (w1.alloc (.cells #[.slice va qs.length vc] 26)).cell? ⟨w.heap.size + 1, 0, none⟩ = some (.int .i64 o.k) := hO1.cell 0 _ rfl
  have f1 : (w1.alloc (.cells #[.slice va qs.length vc] 26)).cell? ⟨w.heap.size + 1, 1, none⟩ = some (.string o.u) := hO1.cell 1 _ rfl
  have f4 : (w1.alloc (.cells #[.slice va qs.length vc] 26)).cell? ⟨w.heap.size + 1, 4, none⟩ = some (.string o.fu) := hO1.cell 4 _ rfl
  have r0 : (w1.alloc (.cells #[.slice va qs.length vc] 26)).cell? ⟨w.heap.size, 0, none⟩ = some (.slice a ss.length cap) := hR1.cell 0 _ rfl
  go_wp2_with fail
  refine (HAt.out _ ((HI.out.below hB1).mono hB1.size)).mono ?_
  rintro e w2 ⟨rfl, hb2⟩
  have hB2 := hB1.trans (hb2.mono hB1.size)
  have hZ2 := hZ1.keep hb2 hZ1.lt
  have hO2 := hO1.keep hb2 hO1.lt
  have g0 : w2.cell? ⟨w.heap.size + 1, 0, none⟩ = some (.int .i64 o.k) := hO2.cell 0 _ rfl
  have s0 : w2.cell? ⟨w.heap.size, 0, none⟩ = some (.slice a ss.length cap) := (hR1.keep hb2 hR1.lt).cell 0 _ rfl; clear hb2 hB1 hZ1 hO1 hR1 f0 f1 f4 r0 HAt
  have q0 : w2.cell? ⟨w.heap.size + 1 + 1, 0, none⟩ = some (.slice none 0 0) := hZ2.cell 0 _ rfl
  have qf := hZ2.free
  go_wp2
  have hZe := hZ2.set 0 (.slice none 0 0)
  have hBe := hB2.setCell (p := ⟨w.heap.size + 1 + 1, 0, none⟩) (by simp; omega) (.slice none 0 0)
  generalize w2.setCell ⟨w.heap.size + 1 + 1, 0, none⟩ (.slice none 0 0) = We at hZe hBe ⊢
  have p0 : We.cell? ⟨w.heap.size + 1 + 1, 0, none⟩ = some (.slice none 0 0) := hZe.cell 0 _ rfl
  exact bodyPost_ret (v := .tuple #[.agg #[.slice none 0 0], .bool false]) (by simp [results, Try.results53, go_sem, p0]) rfl ⟨rfl, hBe⟩

set_option maxRecDepth 100000 in
set_option maxHeartbeats 3000000 in
theorem l9Done_full (v x : Value) (ss : List Sb) (o : OpD) (w : World) (h : SbAt w w.heap.size v ss) (hx : ItAt w w.heap.size x o.its) (hr : rdB ss = true) (hk1 : o.k = 1) (hf : fnB (sbKs ss) o.u = false) (h66 : ss.length = 6) :
    Calls Try.prog 53 #[.agg #[v], opV o x] w fun e w' => e = .returned (.tuple #[.agg #[.slice none 0 0], .bool false]) ∧ Below w.heap.size w w' := by
  have HI := Lib.hid h
  have HX := Lib.hid hx
  have h6 := rd_len hr
  have HCp := Lib.hid (fun w h => l9Copy_any v ss w h (by omega) (fun s hs => by have := sb_len (rd_sub hr s hs); omega))
  have HAt := Lib.hid (fun w h => l9At_any v ss o.u w h)
  rw [atK_not (rd_ris hr) hf] at HAt
  have hge : ((ss.length : Int) == 6) = true := beq_iff_eq.2 (by omega)
  clear h66 h6
  obtain ⟨a, cap, rfl, hl, hm, hc⟩ := h.raw
  obtain ⟨xa, xc, rfl⟩ := hx.1.slice
  clear hc h hx hr hf
  have hb0 : Below w.heap.size w (((w.alloc (.cells #[.slice a ss.length cap] 26)).alloc (.cells #[.int .i64 o.k, .string o.u, .string o.i, .int .i64 o.d, .string o.fu, .string o.ft, .slice xa o.its.length xc] 31)).alloc (.cells #[.slice none 0 0] 26)) := (((Below.refl _ _).alloc (Nat.le_refl _) _).alloc (by simp) _).alloc (by simp; omega) _
  have hR0 := ((Box.new w #[.slice a ss.length cap] 26).alloc (.cells #[.int .i64 o.k, .string o.u, .string o.i, .int .i64 o.d, .string o.fu, .string o.ft, .slice xa o.its.length xc] 31)).alloc (.cells #[.slice none 0 0] 26)
  have hO0 : Box (((w.alloc (.cells #[.slice a ss.length cap] 26)).alloc (.cells #[.int .i64 o.k, .string o.u, .string o.i, .int .i64 o.d, .string o.fu, .string o.ft, .slice xa o.its.length xc] 31)).alloc (.cells #[.slice none 0 0] 26)) (w.heap.size + 1) #[.int .i64 o.k, .string o.u, .string o.i, .int .i64 o.d, .string o.fu, .string o.ft, .slice xa o.its.length xc] 31 := by
    have := (Box.new (w.alloc (.cells #[.slice a ss.length cap] 26)) #[.int .i64 o.k, .string o.u, .string o.i, .int .i64 o.d, .string o.fu, .string o.ft, .slice xa o.its.length xc] 31).alloc (.cells #[.slice none 0 0] 26)
    simpa using this
  have hZ0 : Box (((w.alloc (.cells #[.slice a ss.length cap] 26)).alloc (.cells #[.int .i64 o.k, .string o.u, .string o.i, .int .i64 o.d, .string o.fu, .string o.ft, .slice xa o.its.length xc] 31)).alloc (.cells #[.slice none 0 0] 26)) (w.heap.size + 1 + 1) #[.slice none 0 0] 26 := by
    have := Box.new ((w.alloc (.cells #[.slice a ss.length cap] 26)).alloc (.cells #[.int .i64 o.k, .string o.u, .string o.i, .int .i64 o.d, .string o.fu, .string o.ft, .slice xa o.its.length xc] 31)) #[.slice none 0 0] 26
    simpa using this
  have hsz0 : (((w.alloc (.cells #[.slice a ss.length cap] 26)).alloc (.cells #[.int .i64 o.k, .string o.u, .string o.i, .int .i64 o.d, .string o.fu, .string o.ft, .slice xa o.its.length xc] 31)).alloc (.cells #[.slice none 0 0] 26)).heap.size = w.heap.size + 3 := by simp
  have hkk : (o.k == 1) = true := beq_iff_eq.2 hk1
  have hk99 : (o.k == 9) = false := beq_eq_false_iff_ne.2 (by omega)
  have hk33 : (o.k == 3) = false := beq_eq_false_iff_ne.2 (by omega)
  clear hk1
  unfold OutCp at HCp
  go_enter Try.func53, Try.ntmps53
  go_wp2_with fail
  generalize ((w.alloc (.cells #[.slice a ss.length cap] 26)).alloc (.cells #[.int .i64 o.k, .string o.u, .string o.i, .int .i64 o.d, .string o.fu, .string o.ft, .slice xa o.its.length xc] 31)).alloc (.cells #[.slice none 0 0] 26) = W0 at hb0 hR0 hO0 hZ0 hsz0 ⊢
  refine (HCp.out _ ((HI.out.below hb0).mono hb0.size)).mono ?_
  rintro e w1 ⟨v1, qs, rfl, hq1, hD1, hb1⟩
  obtain ⟨va, vc, rfl⟩ := hD1.1.slice
  have hs1 : w.heap.size + 3 ≤ w1.heap.size := by have := hb1.size; omega
  have hB1 := (hb0.trans (hb1.mono hb0.size)).alloc (by omega) (.cells #[.slice va qs.length vc] 26)
  have hZ1 := (hZ0.keep hb1 hZ0.lt).alloc (.cells #[.slice va qs.length vc] 26)
  have hO1 := (hO0.keep hb1 hO0.lt).alloc (.cells #[.slice va qs.length vc] 26)
  have hR1 := (hR0.keep hb1 hR0.lt).alloc (.cells #[.slice va qs.length vc] 26)
  clear hb1 hb0 hR0 hO0 hZ0 hsz0 hq1 hD1 HCp
  have f0 : (w1.alloc (.cells #[.slice va qs.length vc] 26)).cell? ⟨w.heap.size + 1, 0, none⟩ = some (.int .i64 o.k) := hO1.cell 0 _ rfl
  have f1 : (w1.alloc (.cells #[.slice va qs.length vc] 26)).cell? ⟨w.heap.size + 1, 1, none⟩ = some (.string o.u) := hO1.cell 1 _ rfl
  have f4 : (w1.alloc (.cells #[.slice va qs.length vc] 26)).cell? ⟨w.heap.size + 1, 4, none⟩ = some (.string o.fu) := hO1.cell 4 _ rfl
  have r0 : (w1.alloc (.cells #[.slice va qs.length vc] 26)).cell? ⟨w.heap.size, 0, none⟩ = some (.slice a ss.length cap) := hR1.cell 0 _ rfl
  go_wp2_with fail
  refine (HAt.out _ ((HI.out.below hB1).mono hB1.size)).mono ?_
  rintro e w2 ⟨rfl, hb2⟩
  have hB2 := hB1.trans (hb2.mono hB1.size)
  have hZ2 := hZ1.keep hb2 hZ1.lt
  have hO2 := hO1.keep hb2 hO1.lt
  have g0 : w2.cell? ⟨w.heap.size + 1, 0, none⟩ = some (.int .i64 o.k) := hO2.cell 0 _ rfl
  have s0 : w2.cell? ⟨w.heap.size, 0, none⟩ = some (.slice a ss.length cap) := (hR1.keep hb2 hR1.lt).cell 0 _ rfl; clear hb2 hB1 hZ1 hO1 hR1 f0 f1 f4 r0 HAt
  have q0 : w2.cell? ⟨w.heap.size + 1 + 1, 0, none⟩ = some (.slice none 0 0) := hZ2.cell 0 _ rfl
  have qf := hZ2.free
  go_wp2
  have hZe := hZ2.set 0 (.slice none 0 0)
  have hBe := hB2.setCell (p := ⟨w.heap.size + 1 + 1, 0, none⟩) (by simp; omega) (.slice none 0 0)
  generalize w2.setCell ⟨w.heap.size + 1 + 1, 0, none⟩ (.slice none 0 0) = We at hZe hBe ⊢
  have p0 : We.cell? ⟨w.heap.size + 1 + 1, 0, none⟩ = some (.slice none 0 0) := hZe.cell 0 _ rfl
  exact bodyPost_ret (v := .tuple #[.agg #[.slice none 0 0], .bool false]) (by simp [results, Try.results53, go_sem, p0]) rfl ⟨rfl, hBe⟩
end Go.Proofs.Ytffkakpbelknaaa
