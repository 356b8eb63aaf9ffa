/- Joined: W9zz. -/
import Derived.Test.YtfgdbpjmjeaolaaGreatH41
/- W9zz -/
namespace Go.Proofs.YtfgdbpjmjeaolaaGreat
open Go.ChangeShapes Go.WideShapes Go.ChangeAt Go.RowKit
set_option linter.unusedVariables false

set_option maxRecDepth 100000 in
set_option maxHeartbeats 3000000 in
theorem l9Done_gone (v x : Value) (ss : List Sb) (o : OpD) (w : World) (h : SbAt w w.heap.size v ss) (hx : ItAt w w.heap.size x o.its) (hr : rdB ss = true) (hk1 : ¬ o.k = 1) (hk9 : ¬ o.k = 9) (hf : fnB (sbKs ss) (opU o) = false) :
    Calls Tryz.prog 19 #[.agg #[v], opV o x] w fun e w' => e = .returned (.tuple #[.agg #[.slice none 0 0], .bool false]) ∧ Below w.heap.size w w' := by
  have HI := Lib.hid h
  have HX := Lib.hid hx
  have h6 := rd_len hr
  have HCp := Lib.hid (fun w h => l9Copy_any v ss w h (by omega) (fun s hs => by have := sb_len (rd_sub hr s hs); omega))
  have HAt := Lib.hid (fun w h => l9At_any v ss (opU o) w h)
  rw [atK_not (rd_ris hr) hf] at HAt
  obtain ⟨a, cap, rfl, hl, hm, hc⟩ := h.raw
  obtain ⟨xa, xc, rfl⟩ := hx.1.slice
  clear hc h hx hr hf
  have hb0 : Below w.heap.size w (((w.alloc (.cells #[.slice a ss.length cap] 34)).alloc (.cells #[.int .i64 o.k, .string o.u, .string o.i, .int .i64 o.d, .string o.fu, .string o.ft, .slice xa o.its.length xc] 42)).alloc (.cells #[.slice none 0 0] 34)) := (((Below.refl _ _).alloc (Nat.le_refl _) _).alloc (by simp) _).alloc (by simp; omega) _
  have hR0 := ((Box.new w #[.slice a ss.length cap] 34).alloc (.cells #[.int .i64 o.k, .string o.u, .string o.i, .int .i64 o.d, .string o.fu, .string o.ft, .slice xa o.its.length xc] 42)).alloc (.cells #[.slice none 0 0] 34)
  have hO0 : Box (((w.alloc (.cells #[.slice a ss.length cap] 34)).alloc (.cells #[.int .i64 o.k, .string o.u, .string o.i, .int .i64 o.d, .string o.fu, .string o.ft, .slice xa o.its.length xc] 42)).alloc (.cells #[.slice none 0 0] 34)) (w.heap.size + 1) #[.int .i64 o.k, .string o.u, .string o.i, .int .i64 o.d, .string o.fu, .string o.ft, .slice xa o.its.length xc] 42 := by
    have := (Box.new (w.alloc (.cells #[.slice a ss.length cap] 34)) #[.int .i64 o.k, .string o.u, .string o.i, .int .i64 o.d, .string o.fu, .string o.ft, .slice xa o.its.length xc] 42).alloc (.cells #[.slice none 0 0] 34)
    simpa using this
  have hZ0 : Box (((w.alloc (.cells #[.slice a ss.length cap] 34)).alloc (.cells #[.int .i64 o.k, .string o.u, .string o.i, .int .i64 o.d, .string o.fu, .string o.ft, .slice xa o.its.length xc] 42)).alloc (.cells #[.slice none 0 0] 34)) (w.heap.size + 1 + 1) #[.slice none 0 0] 34 := by
    have := Box.new ((w.alloc (.cells #[.slice a ss.length cap] 34)).alloc (.cells #[.int .i64 o.k, .string o.u, .string o.i, .int .i64 o.d, .string o.fu, .string o.ft, .slice xa o.its.length xc] 42)) #[.slice none 0 0] 34
    simpa using this
  have hsz0 : (((w.alloc (.cells #[.slice a ss.length cap] 34)).alloc (.cells #[.int .i64 o.k, .string o.u, .string o.i, .int .i64 o.d, .string o.fu, .string o.ft, .slice xa o.its.length xc] 42)).alloc (.cells #[.slice none 0 0] 34)).heap.size = w.heap.size + 3 := by simp
  have hkk : (o.k == 1) = false := beq_eq_false_iff_ne.2 hk1
  have hk99 : (o.k == 9) = false := beq_eq_false_iff_ne.2 hk9
  clear hk1 hk9
  unfold OutCp at HCp
  by_cases hk3 : o.k = 3
  · have HU : Hid (opU o = o.fu) := Lib.hid (by unfold opU; rw [if_pos hk3])
    rw [HU.out] at HAt
    have hk33 : (o.k == 3) = true := beq_iff_eq.2 hk3
    clear hk3 HU
    go_enter Tryz.func19, Tryz.ntmps19
    go_wp2_with fail
    generalize ((w.alloc (.cells #[.slice a ss.length cap] 34)).alloc (.cells #[.int .i64 o.k, .string o.u, .string o.i, .int .i64 o.d, .string o.fu, .string o.ft, .slice xa o.its.length xc] 42)).alloc (.cells #[.slice none 0 0] 34) = W0 at hb0 hR0 hO0 hZ0 hsz0 ⊢
    refine (HCp.out _ ((HI.out.below hb0).mono hb0.size)).mono ?_
    rintro e w1 ⟨v1, qs, rfl, hq1, hD1, hb1⟩
    obtain ⟨va, vc, rfl⟩ := hD1.1.slice
    have hs1 : w.heap.size + 3 ≤ w1.heap.size := by have := hb1.size; omega
    have hB1 := (hb0.trans (hb1.mono hb0.size)).alloc (by omega) (.cells #[.slice va qs.length vc] 34)
    have hZ1 := (hZ0.keep hb1 hZ0.lt).alloc (.cells #[.slice va qs.length vc] 34)
    have hO1 := (hO0.keep hb1 hO0.lt).alloc (.cells #[.slice va qs.length vc] 34)
    have hR1 := (hR0.keep hb1 hR0.lt).alloc (.cells #[.slice va qs.length vc] 34)
    clear hb1 hb0 hR0 hO0 hZ0 hsz0 hq1 hD1 HCp
    have f0 : (w1.alloc (.cells #[.slice va qs.length vc] 34)).cell? ⟨w.heap.size + 1, 0, none⟩ = some (.int .i64 o.k) := hO1.cell 0 _ rfl
    have f1 : (w1.alloc (.cells #[.slice va qs.length vc] 34)).cell? ⟨w.heap.size + 1, 1, none⟩ = some (.string o.u) := hO1.cell 1 _ rfl
    have f4 : (w1.alloc (.cells #[.slice va qs.length vc] 34)).cell? ⟨w.heap.size + 1, 4, none⟩ = some (.string o.fu) := hO1.cell 4 _ rfl
    have r0 : (w1.alloc (.cells #[.slice va qs.length vc] 34)).cell? ⟨w.heap.size, 0, none⟩ = some (.slice a ss.length cap) := hR1.cell 0 _ rfl
    go_wp2_with fail
    refine (HAt.out _ ((HI.out.below hB1).mono hB1.size)).mono ?_
    rintro e w2 ⟨rfl, hb2⟩
    have hB2 := hB1.trans (hb2.mono hB1.size)
    have hZ2 := hZ1.keep hb2 hZ1.lt
    have hO2 := hO1.keep hb2 hO1.lt
    have g0 : w2.cell? ⟨w.heap.size + 1, 0, none⟩ = some (.int .i64 o.k) := hO2.cell 0 _ rfl
    clear hb2 hB1 hZ1 hO1 hR1 f0 f1 f4 r0 HAt
    have q0 : w2.cell? ⟨w.heap.size + 1 + 1, 0, none⟩ = some (.slice none 0 0) := hZ2.cell 0 _ rfl
    have qf := hZ2.free
    go_wp2
    have hZe := hZ2.set 0 (.slice none 0 0)
    have hBe := hB2.setCell (p := ⟨w.heap.size + 1 + 1, 0, none⟩) (by simp; omega) (.slice none 0 0)
    generalize w2.setCell ⟨w.heap.size + 1 + 1, 0, none⟩ (.slice none 0 0) = We at hZe hBe ⊢
    have p0 : We.cell? ⟨w.heap.size + 1 + 1, 0, none⟩ = some (.slice none 0 0) := hZe.cell 0 _ rfl
    exact bodyPost_ret (v := .tuple #[.agg #[.slice none 0 0], .bool false]) (by simp [results, Tryz.results19, go_sem, p0]) rfl ⟨rfl, hBe⟩
  · have HU : Hid (opU o = o.u) := Lib.hid (by unfold opU; rw [if_neg hk3])
    rw [HU.out] at HAt
    have hk33 : (o.k == 3) = false := beq_eq_false_iff_ne.2 hk3
    clear hk3 HU
    go_enter Tryz.func19, Tryz.ntmps19
    go_wp2_with fail
    generalize ((w.alloc (.cells #[.slice a ss.length cap] 34)).alloc (.cells #[.int .i64 o.k, .string o.u, .string o.i, .int .i64 o.d, .string o.fu, .string o.ft, .slice xa o.its.length xc] 42)).alloc (.cells #[.slice none 0 0] 34) = W0 at hb0 hR0 hO0 hZ0 hsz0 ⊢
    refine (HCp.out _ ((HI.out.below hb0).mono hb0.size)).mono ?_
    rintro e w1 ⟨v1, qs, rfl, hq1, hD1, hb1⟩
    obtain ⟨va, vc, rfl⟩ := hD1.1.slice
    have hs1 : w.heap.size + 3 ≤ w1.heap.size := by have := hb1.size; omega
    have hB1 := (hb0.trans (hb1.mono hb0.size)).alloc (by omega) (.cells #[.slice va qs.length vc] 34)
    have hZ1 := (hZ0.keep hb1 hZ0.lt).alloc (.cells #[.slice va qs.length vc] 34)
    have hO1 := (hO0.keep hb1 hO0.lt).alloc (.cells #[.slice va qs.length vc] 34)
    have hR1 := (hR0.keep hb1 hR0.lt).alloc (.cells #[.slice va qs.length vc] 34)
    clear hb1 hb0 hR0 hO0 hZ0 hsz0 hq1 hD1 HCp
    have f0 : (w1.alloc (.cells #[.slice va qs.length vc] 34)).cell? ⟨w.heap.size + 1, 0, none⟩ = some (.int .i64 o.k) := hO1.cell 0 _ rfl
    have f1 : (w1.alloc (.cells #[.slice va qs.length vc] 34)).cell? ⟨w.heap.size + 1, 1, none⟩ = some (.string o.u) := hO1.cell 1 _ rfl
    have f4 : (w1.alloc (.cells #[.slice va qs.length vc] 34)).cell? ⟨w.heap.size + 1, 4, none⟩ = some (.string o.fu) := hO1.cell 4 _ rfl
    have r0 : (w1.alloc (.cells #[.slice va qs.length vc] 34)).cell? ⟨w.heap.size, 0, none⟩ = some (.slice a ss.length cap) := hR1.cell 0 _ rfl
    go_wp2_with fail
    refine (HAt.out _ ((HI.out.below hB1).mono hB1.size)).mono ?_
    rintro e w2 ⟨rfl, hb2⟩
    have hB2 := hB1.trans (hb2.mono hB1.size)
    have hZ2 := hZ1.keep hb2 hZ1.lt
    have hO2 := hO1.keep hb2 hO1.lt
    have g0 : w2.cell? ⟨w.heap.size + 1, 0, none⟩ = some (.int .i64 o.k) := hO2.cell 0 _ rfl
    clear hb2 hB1 hZ1 hO1 hR1 f0 f1 f4 r0 HAt
    have q0 : w2.cell? ⟨w.heap.size + 1 + 1, 0, none⟩ = some (.slice none 0 0) := hZ2.cell 0 _ rfl
    have qf := hZ2.free
    go_wp2
    have hZe := hZ2.set 0 (.slice none 0 0)
    have hBe := hB2.setCell (p := ⟨w.heap.size + 1 + 1, 0, none⟩) (by simp; omega) (.slice none 0 0)
    generalize w2.setCell ⟨w.heap.size + 1 + 1, 0, none⟩ (.slice none 0 0) = We at hZe hBe ⊢
    have p0 : We.cell? ⟨w.heap.size + 1 + 1, 0, none⟩ = some (.slice none 0 0) := hZe.cell 0 _ rfl
    exact bodyPost_ret (v := .tuple #[.agg #[.slice none 0 0], .bool false]) (by simp [results, Tryz.results19, go_sem, p0]) rfl ⟨rfl, hBe⟩

set_option maxRecDepth 100000 in
set_option maxHeartbeats 3000000 in
theorem l9Done_there (v x : Value) (ss : List Sb) (o : OpD) (w : World) (h : SbAt w w.heap.size v ss) (hx : ItAt w w.heap.size x o.its) (hr : rdB ss = true) (hk1 : o.k = 1) (hf : fnB (sbKs ss) o.u = true) :
    Calls Tryz.prog 19 #[.agg #[v], opV o x] w fun e w' => e = .returned (.tuple #[.agg #[.slice none 0 0], .bool false]) ∧ Below w.heap.size w w' := by
  have HI := Lib.hid h
  have HX := Lib.hid hx
  have h6 := rd_len hr
  have HCp := Lib.hid (fun w h => l9Copy_any v ss w h (by omega) (fun s hs => by have := sb_len (rd_sub hr s hs); omega))
  have HAt := Lib.hid (fun w h => l9At_any v ss o.u w h)
  rw [atK_there (rd_ris hr) hf] at HAt
  generalize plK (sbKs ss) o.u = p at HAt
  have hge : decide (0 ≤ (p : Int)) = true := decide_eq_true (by omega)
  obtain ⟨a, cap, rfl, hl, hm, hc⟩ := h.raw
  obtain ⟨xa, xc, rfl⟩ := hx.1.slice
  clear hc h hx hr hf
  have hb0 : Below w.heap.size w (((w.alloc (.cells #[.slice a ss.length cap] 34)).alloc (.cells #[.int .i64 o.k, .string o.u, .string o.i, .int .i64 o.d, .string o.fu, .string o.ft, .slice xa o.its.length xc] 42)).alloc (.cells #[.slice none 0 0] 34)) := (((Below.refl _ _).alloc (Nat.le_refl _) _).alloc (by simp) _).alloc (by simp; omega) _
  have hR0 := ((Box.new w #[.slice a ss.length cap] 34).alloc (.cells #[.int .i64 o.k, .string o.u, .string o.i, .int .i64 o.d, .string o.fu, .string o.ft, .slice xa o.its.length xc] 42)).alloc (.cells #[.slice none 0 0] 34)
  have hO0 : Box (((w.alloc (.cells #[.slice a ss.length cap] 34)).alloc (.cells #[.int .i64 o.k, .string o.u, .string o.i, .int .i64 o.d, .string o.fu, .string o.ft, .slice xa o.its.length xc] 42)).alloc (.cells #[.slice none 0 0] 34)) (w.heap.size + 1) #[.int .i64 o.k, .string o.u, .string o.i, .int .i64 o.d, .string o.fu, .string o.ft, .slice xa o.its.length xc] 42 := by
    have := (Box.new (w.alloc (.cells #[.slice a ss.length cap] 34)) #[.int .i64 o.k, .string o.u, .string o.i, .int .i64 o.d, .string o.fu, .string o.ft, .slice xa o.its.length xc] 42).alloc (.cells #[.slice none 0 0] 34)
    simpa using this
  have hZ0 : Box (((w.alloc (.cells #[.slice a ss.length cap] 34)).alloc (.cells #[.int .i64 o.k, .string o.u, .string o.i, .int .i64 o.d, .string o.fu, .string o.ft, .slice xa o.its.length xc] 42)).alloc (.cells #[.slice none 0 0] 34)) (w.heap.size + 1 + 1) #[.slice none 0 0] 34 := by
    have := Box.new ((w.alloc (.cells #[.slice a ss.length cap] 34)).alloc (.cells #[.int .i64 o.k, .string o.u, .string o.i, .int .i64 o.d, .string o.fu, .string o.ft, .slice xa o.its.length xc] 42)) #[.slice none 0 0] 34
    simpa using this
  have hsz0 : (((w.alloc (.cells #[.slice a ss.length cap] 34)).alloc (.cells #[.int .i64 o.k, .string o.u, .string o.i, .int .i64 o.d, .string o.fu, .string o.ft, .slice xa o.its.length xc] 42)).alloc (.cells #[.slice none 0 0] 34)).heap.size = w.heap.size + 3 := by simp
  have hkk : (o.k == 1) = true := beq_iff_eq.2 hk1
  have hk99 : (o.k == 9) = false := beq_eq_false_iff_ne.2 (by omega)
  have hk33 : (o.k == 3) = false := beq_eq_false_iff_ne.2 (by omega)
  clear hk1
  unfold OutCp at HCp
  go_enter Tryz.func19, Tryz.ntmps19
  go_wp2_with fail
  generalize ((w.alloc (.cells #[.slice a ss.length cap] 34)).alloc (.cells #[.int .i64 o.k, .string o.u, .string o.i, .int .i64 o.d, .string o.fu, .string o.ft, .slice xa o.its.length xc] 42)).alloc (.cells #[.slice none 0 0] 34) = W0 at hb0 hR0 hO0 hZ0 hsz0 ⊢
  refine (HCp.out _ ((HI.out.below hb0).mono hb0.size)).mono ?_
  rintro e w1 ⟨v1, qs, rfl, hq1, hD1, hb1⟩
  obtain ⟨va, vc, rfl⟩ := hD1.1.slice
  have hs1 : w.heap.size + 3 ≤ w1.heap.size := by have := hb1.size; omega
  have hB1 := (hb0.trans (hb1.mono hb0.size)).alloc (by omega) (.cells #[.slice va qs.length vc] 34)
  have hZ1 := (hZ0.keep hb1 hZ0.lt).alloc (.cells #[.slice va qs.length vc] 34)
  have hO1 := (hO0.keep hb1 hO0.lt).alloc (.cells #[.slice va qs.length vc] 34)
  have hR1 := (hR0.keep hb1 hR0.lt).alloc (.cells #[.slice va qs.length vc] 34)
  clear hb1 hb0 hR0 hO0 hZ0 hsz0 hq1 hD1 HCp
  have f0 : (w1.alloc (.cells #[.slice va qs.length vc] 34)).cell? ⟨w.heap.size + 1, 0, none⟩ = some (.int .i64 o.k) := hO1.cell 0 _ rfl
  have f1 : (w1.alloc (.cells #[.slice va qs.length vc] 34)).cell? ⟨w.heap.size + 1, 1, none⟩ = some (.string o.u) := hO1.cell 1 _ rfl
  have f4 : (w1.alloc (.cells #[.slice va qs.length vc] 34)).cell? ⟨w.heap.size + 1, 4, none⟩ = some (.string o.fu) := hO1.cell 4 _ rfl
  have r0 : (w1.alloc (.cells #[.slice va qs.length vc] 34)).cell? ⟨w.heap.size, 0, none⟩ = some (.slice a ss.length cap) := hR1.cell 0 _ rfl
  go_wp2_with fail
  refine (HAt.out _ ((HI.out.below hB1).mono hB1.size)).mono ?_
  rintro e w2 ⟨rfl, hb2⟩
  have hB2 := hB1.trans (hb2.mono hB1.size)
  have hZ2 := hZ1.keep hb2 hZ1.lt
  have hO2 := hO1.keep hb2 hO1.lt
  have g0 : w2.cell? ⟨w.heap.size + 1, 0, none⟩ = some (.int .i64 o.k) := hO2.cell 0 _ rfl
  have s0 : w2.cell? ⟨w.heap.size, 0, none⟩ = some (.slice a ss.length cap) := (hR1.keep hb2 hR1.lt).cell 0 _ rfl; clear hb2 hB1 hZ1 hO1 hR1 f0 f1 f4 r0 HAt
  have q0 : w2.cell? ⟨w.heap.size + 1 + 1, 0, none⟩ = some (.slice none 0 0) := hZ2.cell 0 _ rfl
  have qf := hZ2.free
  go_wp2
  have hZe := hZ2.set 0 (.slice none 0 0)
  have hBe := hB2.setCell (p := ⟨w.heap.size + 1 + 1, 0, none⟩) (by simp; omega) (.slice none 0 0)
  generalize w2.setCell ⟨w.heap.size + 1 + 1, 0, none⟩ (.slice none 0 0) = We at hZe hBe ⊢
  have p0 : We.cell? ⟨w.heap.size + 1 + 1, 0, none⟩ = some (.slice none 0 0) := hZe.cell 0 _ rfl
  exact bodyPost_ret (v := .tuple #[.agg #[.slice none 0 0], .bool false]) (by simp [results, Tryz.results19, go_sem, p0]) rfl ⟨rfl, hBe⟩

set_option maxRecDepth 100000 in
set_option maxHeartbeats 3000000 in
theorem l9Done_full (v x : Value) (ss : List Sb) (o : OpD) (w : World) (h : SbAt w w.heap.size v ss) (hx : ItAt w w.heap.size x o.its) (hr : rdB ss = true) (hk1 : o.k = 1) (hf : fnB (sbKs ss) o.u = false) (h66 : ss.length = 6) :
    Calls Tryz.prog 19 #[.agg #[v], opV o x] w fun e w' => e = .returned (.tuple #[.agg #[.slice none 0 0], .bool false]) ∧ Below w.heap.size w w' := by
  have HI := Lib.hid h
  have HX := Lib.hid hx
  have h6 := rd_len hr
  have HCp := Lib.hid (fun w h => l9Copy_any v ss w h (by omega) (fun s hs => by have := sb_len (rd_sub hr s hs); omega))
  have HAt := Lib.hid (fun w h => l9At_any v ss o.u w h)
  rw [atK_not (rd_ris hr) hf] at HAt
  have hge : ((ss.length : Int) == 6) = true := beq_iff_eq.2 (by omega)
  clear h66 h6
  obtain ⟨a, cap, rfl, hl, hm, hc⟩ := h.raw
  obtain ⟨xa, xc, rfl⟩ := hx.1.slice
  clear hc h hx hr hf
  have hb0 : Below w.heap.size w (((w.alloc (.cells #[.slice a ss.length cap] 34)).alloc (.cells #[.int .i64 o.k, .string o.u, .string o.i, .int .i64 o.d, .string o.fu, .string o.ft, .slice xa o.its.length xc] 42)).alloc (.cells #[.slice none 0 0] 34)) := (((Below.refl _ _).alloc (Nat.le_refl _) _).alloc (by simp) _).alloc (by simp; omega) _
  have hR0 := ((Box.new w #[.slice a ss.length cap] 34).alloc (.cells #[.int .i64 o.k, .string o.u, .string o.i, .int .i64 o.d, .string o.fu, .string o.ft, .slice xa o.its.length xc] 42)).alloc (.cells #[.slice none 0 0] 34)
  have hO0 : Box (((w.alloc (.cells #[.slice a ss.length cap] 34)).alloc (.cells #[.int .i64 o.k, .string o.u, .string o.i, .int .i64 o.d, .string o.fu, .string o.ft, .slice xa o.its.length xc] 42)).alloc (.cells #[.slice none 0 0] 34)) (w.heap.size + 1) #[.int .i64 o.k, .string o.u, .string o.i, .int .i64 o.d, .string o.fu, .string o.ft, .slice xa o.its.length xc] 42 := by
    have := (Box.new (w.alloc (.cells #[.slice a ss.length cap] 34)) #[.int .i64 o.k, .string o.u, .string o.i, .int .i64 o.d, .string o.fu, .string o.ft, .slice xa o.its.length xc] 42).alloc (.cells #[.slice none 0 0] 34)
    simpa using this
  have hZ0 : Box (((w.alloc (.cells #[.slice a ss.length cap] 34)).alloc (.cells #[.int .i64 o.k, .string o.u, .string o.i, .int .i64 o.d, .string o.fu, .string o.ft, .slice xa o.its.length xc] 42)).alloc (.cells #[.slice none 0 0] 34)) (w.heap.size + 1 + 1) #[.slice none 0 0] 34 := by
    have := Box.new ((w.alloc (.cells #[.slice a ss.length cap] 34)).alloc (.cells #[.int .i64 o.k, .string o.u, .string o.i, .int .i64 o.d, .string o.fu, .string o.ft, .slice xa o.its.length xc] 42)) #[.slice none 0 0] 34
    simpa using this
  have hsz0 : (((w.alloc (.cells #[.slice a ss.length cap] 34)).alloc (.cells #[.int .i64 o.k, .string o.u, .string o.i, .int .i64 o.d, .string o.fu, .string o.ft, .slice xa o.its.length xc] 42)).alloc (.cells #[.slice none 0 0] 34)).heap.size = w.heap.size + 3 := by simp
  have hkk : (o.k == 1) = true := beq_iff_eq.2 hk1
  have hk99 : (o.k == 9) = false := beq_eq_false_iff_ne.2 (by omega)
  have hk33 : (o.k == 3) = false := beq_eq_false_iff_ne.2 (by omega)
  clear hk1
  unfold OutCp at HCp
  go_enter Tryz.func19, Tryz.ntmps19
  go_wp2_with fail
  generalize ((w.alloc (.cells #[.slice a ss.length cap] 34)).alloc (.cells #[.int .i64 o.k, .string o.u, .string o.i, .int .i64 o.d, .string o.fu, .string o.ft, .slice xa o.its.length xc] 42)).alloc (.cells #[.slice none 0 0] 34) = W0 at hb0 hR0 hO0 hZ0 hsz0 ⊢
  refine (HCp.out _ ((HI.out.below hb0).mono hb0.size)).mono ?_
  rintro e w1 ⟨v1, qs, rfl, hq1, hD1, hb1⟩
  obtain ⟨va, vc, rfl⟩ := hD1.1.slice
  have hs1 : w.heap.size + 3 ≤ w1.heap.size := by have := hb1.size; omega
  have hB1 := (hb0.trans (hb1.mono hb0.size)).alloc (by omega) (.cells #[.slice va qs.length vc] 34)
  have hZ1 := (hZ0.keep hb1 hZ0.lt).alloc (.cells #[.slice va qs.length vc] 34)
  have hO1 := (hO0.keep hb1 hO0.lt).alloc (.cells #[.slice va qs.length vc] 34)
  have hR1 := (hR0.keep hb1 hR0.lt).alloc (.cells #[.slice va qs.length vc] 34)
  clear hb1 hb0 hR0 hO0 hZ0 hsz0 hq1 hD1 HCp
  have f0 : (w1.alloc (.cells #[.slice va qs.length vc] 34)).cell? ⟨w.heap.size + 1, 0, none⟩ = some (.int .i64 o.k) := hO1.cell 0 _ rfl
  have f1 : (w1.alloc (.cells #[.slice va qs.length vc] 34)).cell? ⟨w.heap.size + 1, 1, none⟩ = some (.string o.u) := hO1.cell 1 _ rfl
  have f4 : (w1.alloc (.cells #[.slice va qs.length vc] 34)).cell? ⟨w.heap.size + 1, 4, none⟩ = some (.string o.fu) := hO1.cell 4 _ rfl
  have r0 : (w1.alloc (.cells #[.slice va qs.length vc] 34)).cell? ⟨w.heap.size, 0, none⟩ = some (.slice a ss.length cap) := hR1.cell 0 _ rfl
  go_wp2_with fail
  refine (HAt.out _ ((HI.out.below hB1).mono hB1.size)).mono ?_
  rintro e w2 ⟨rfl, hb2⟩
  have hB2 := hB1.trans (hb2.mono hB1.size)
  have hZ2 := hZ1.keep hb2 hZ1.lt
  have hO2 := hO1.keep hb2 hO1.lt
  have g0 : w2.cell? ⟨w.heap.size + 1, 0, none⟩ = some (.int .i64 o.k) := hO2.cell 0 _ rfl
  have s0 : w2.cell? ⟨w.heap.size, 0, none⟩ = some (.slice a ss.length cap) := (hR1.keep hb2 hR1.lt).cell 0 _ rfl; clear hb2 hB1 hZ1 hO1 hR1 f0 f1 f4 r0 HAt
  have q0 : w2.cell? ⟨w.heap.size + 1 + 1, 0, none⟩ = some (.slice none 0 0) := hZ2.cell 0 _ rfl
  have qf := hZ2.free
  go_wp2
  have hZe := hZ2.set 0 (.slice none 0 0)
  have hBe := hB2.setCell (p := ⟨w.heap.size + 1 + 1, 0, none⟩) (by simp; omega) (.slice none 0 0)
  generalize w2.setCell ⟨w.heap.size + 1 + 1, 0, none⟩ (.slice none 0 0) = We at hZe hBe ⊢
  have p0 : We.cell? ⟨w.heap.size + 1 + 1, 0, none⟩ = some (.slice none 0 0) := hZe.cell 0 _ rfl
  exact bodyPost_ret (v := .tuple #[.agg #[.slice none 0 0], .bool false]) (by simp [results, Tryz.results19, go_sem, p0]) rfl ⟨rfl, hBe⟩
end Go.Proofs.YtfgdbpjmjeaolaaGreat
