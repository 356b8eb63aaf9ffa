/- Joined: W9zz, Y9a. -/
import Derived.Test.YtgimjfffdnopiaaH42
/- W9zz -/
namespace Go.Proofs.Ytgimjfffdnopiaa
open Go.ChangeShapes Go.WideShapes Go.ChangeAt Go.RowKit
set_option linter.unusedVariables false

set_option maxRecDepth 100000 in
set_option maxHeartbeats 3000000 in
theorem l9Done_gone (v x : Value) (ss : List Sb) (o : OpD) (w : World) (h : SbAt w w.heap.size v ss) (hx : ItAt w w.heap.size x o.its) (hr : rdB ss = true) (hk1 : ¬ o.k = 1) (hk9 : ¬ o.k = 9) (hf : fnB (sbKs ss) (opU o) = false) :
    Calls Try.prog 116 #[.agg #[v], opV o x] w fun e w' => e = .returned (.tuple #[.agg #[.slice none 0 0], .bool false]) ∧ Below w.heap.size w w' := by
  have HI := Lib.hid h
  have HX := Lib.hid hx
  have h6 := rd_len hr
  have HCp := Lib.hid (fun w h => l9Copy_any v ss w h (by omega) (fun s hs => by have := sb_len (rd_sub hr s hs); omega))
  have HAt := Lib.hid (fun w h => l9At_any v ss (opU o) w h)
  rw [atK_not (rd_ris hr) hf] at HAt
  obtain ⟨a, cap, rfl, hl, hm, hc⟩ := h.raw
  obtain ⟨xa, xc, rfl⟩ := hx.1.slice
  clear hc h hx hr hf
  have hb0 : Below w.heap.size w (((w.alloc (.cells #[.slice a ss.length cap] 28)).alloc (.cells #[.int .i64 o.k, .string o.u, .string o.i, .int .i64 o.d, .string o.fu, .string o.ft, .slice xa o.its.length xc] 38)).alloc (.cells #[.slice none 0 0] 28)) := (((Below.refl _ _).alloc (Nat.le_refl _) _).alloc (by simp) _).alloc (by simp; omega) _
  have hR0 := ((Box.new w #[.slice a ss.length cap] 28).alloc (.cells #[.int .i64 o.k, .string o.u, .string o.i, .int .i64 o.d, .string o.fu, .string o.ft, .slice xa o.its.length xc] 38)).alloc (.cells #[.slice none 0 0] 28)
  have hO0 : Box (((w.alloc (.cells #[.slice a ss.length cap] 28)).alloc (.cells #[.int .i64 o.k, .string o.u, .string o.i, .int .i64 o.d, .string o.fu, .string o.ft, .slice xa o.its.length xc] 38)).alloc (.cells #[.slice none 0 0] 28)) (w.heap.size + 1) #[.int .i64 o.k, .string o.u, .string o.i, .int .i64 o.d, .string o.fu, .string o.ft, .slice xa o.its.length xc] 38 := by
    have := (Box.new (w.alloc (.cells #[.slice a ss.length cap] 28)) #[.int .i64 o.k, .string o.u, .string o.i, .int .i64 o.d, .string o.fu, .string o.ft, .slice xa o.its.length xc] 38).alloc (.cells #[.slice none 0 0] 28)
    simpa using this
  have hZ0 : Box (((w.alloc (.cells #[.slice a ss.length cap] 28)).alloc (.cells #[.int .i64 o.k, .string o.u, .string o.i, .int .i64 o.d, .string o.fu, .string o.ft, .slice xa o.its.length xc] 38)).alloc (.cells #[.slice none 0 0] 28)) (w.heap.size + 1 + 1) #[.slice none 0 0] 28 := by
    have := Box.new ((w.alloc (.cells #[.slice a ss.length cap] 28)).alloc (.cells #[.int .i64 o.k, .string o.u, .string o.i, .int .i64 o.d, .string o.fu, .string o.ft, .slice xa o.its.length xc] 38)) #[.slice none 0 0] 28
    simpa using this
  have hsz0 : (((w.alloc (.cells #[.slice a ss.length cap] 28)).alloc (.cells #[.int .i64 o.k, .string o.u, .string o.i, .int .i64 o.d, .string o.fu, .string o.ft, .slice xa o.its.length xc] 38)).alloc (.cells #[.slice none 0 0] 28)).heap.size = w.heap.size + 3 := by simp
  have hkk : (o.k == 1) = false := beq_eq_false_iff_ne.2 hk1
  have hk99 : (o.k == 9) = false := beq_eq_false_iff_ne.2 hk9
  clear hk1 hk9
  unfold OutCp at HCp
  by_cases hk3 : o.k = 3
  · have HU : Hid (opU o = o.fu) := Lib.hid (by unfold opU; rw [if_pos hk3])
    rw [HU.out] at HAt
    have hk33 : (o.k == 3) = true := beq_iff_eq.2 hk3
    clear hk3 HU
    go_enter Try.func116, Try.ntmps116
    go_wp2_with fail
    generalize ((w.alloc (.cells #[.slice a ss.length cap] 28)).alloc (.cells #[.int .i64 o.k, .string o.u, .string o.i, .int .i64 o.d, .string o.fu, .string o.ft, .slice xa o.its.length xc] 38)).alloc (.cells #[.slice none 0 0] 28) = W0 at hb0 hR0 hO0 hZ0 hsz0 ⊢
    refine (HCp.out _ ((HI.out.below hb0).mono hb0.size)).mono ?_
    rintro e w1 ⟨v1, qs, rfl, hq1, hD1, hb1⟩
    obtain ⟨va, vc, rfl⟩ := hD1.1.slice
    have hs1 : w.heap.size + 3 ≤ w1.heap.size := by have := hb1.size; omega
    have hB1 := (hb0.trans (hb1.mono hb0.size)).alloc (by omega) (.cells #[.slice va qs.length vc] 28)
    have hZ1 := (hZ0.keep hb1 hZ0.lt).alloc (.cells #[.slice va qs.length vc] 28)
    have hO1 := (hO0.keep hb1 hO0.lt).alloc (.cells #[.slice va qs.length vc] 28)
    have hR1 := (hR0.keep hb1 hR0.lt).alloc (.cells #[.slice va qs.length vc] 28)
    clear hb1 hb0 hR0 hO0 hZ0 hsz0 hq1 hD1 HCp
    have f0 : (w1.alloc (.cells #[.slice va qs.length vc] 28)).cell? ⟨w.heap.size + 1, 0, none⟩ = some (.int .i64 o.k) := hO1.cell 0 _ rfl
    have f1 : (w1.alloc (.cells #[.slice va qs.length vc] 28)).cell? ⟨w.heap.size + 1, 1, none⟩ = some (.string o.u) := hO1.cell 1 _ rfl
    have f4 : (w1.alloc (.cells #[.slice va qs.length vc] 28)).cell? ⟨w.heap.size + 1, 4, none⟩ = some (.string o.fu) := hO1.cell 4 _ rfl
    have r0 : (w1.alloc (.cells #[.slice va qs.length vc] 28)).cell? ⟨w.heap.size, 0, none⟩ = some (.slice a ss.length cap) := hR1.cell 0 _ rfl
    go_wp2_with fail
    refine (HAt.out _ ((HI.out.below hB1).mono hB1.size)).mono ?_
    rintro e w2 ⟨rfl, hb2⟩
    have hB2 := hB1.trans (hb2.mono hB1.size)
    have hZ2 := hZ1.keep hb2 hZ1.lt
    have hO2 := hO1.keep hb2 hO1.lt
    have g0 : w2.cell? ⟨w.heap.size + 1, 0, none⟩ = some (.int .i64 o.k) := hO2.cell 0 _ rfl
    clear hb2 hB1 hZ1 hO1 hR1 f0 f1 f4 r0 HAt
    have q0 : w2.cell? ⟨w.heap.size + 1 + 1, 0, none⟩ = some (.slice none 0 0) := hZ2.cell 0 _ rfl
    have qf := hZ2.free
    go_wp2
    have hZe := hZ2.set 0 (.slice none 0 0)
    have hBe := hB2.setCell (p := ⟨w.heap.size + 1 + 1, 0, none⟩) (by simp; omega) (.slice none 0 0)
    generalize w2.setCell ⟨w.heap.size + 1 + 1, 0, none⟩ (.slice none 0 0) = We at hZe hBe ⊢
    have p0 : We.cell? ⟨w.heap.size + 1 + 1, 0, none⟩ = some (.slice none 0 0) := hZe.cell 0 _ rfl
    exact bodyPost_ret (v := .tuple #[.agg #[.slice none 0 0], .bool false]) (by simp [results, Try.results116, go_sem, p0]) rfl ⟨rfl, hBe⟩
  · have HU : Hid (opU o = o.u) := Lib.hid (by unfold opU; rw [if_neg hk3])
    rw [HU.out] at HAt
    have hk33 : (o.k == 3) = false := beq_eq_false_iff_ne.2 hk3
    clear hk3 HU
    go_enter Try.func116, Try.ntmps116
    go_wp2_with fail
    generalize ((w.alloc (.cells #[.slice a ss.length cap] 28)).alloc (.cells #[.int .i64 o.k, .string o.u, .string o.i, .int .i64 o.d, .string o.fu, .string o.ft, .slice xa o.its.length xc] 38)).alloc (.cells #[.slice none 0 0] 28) = W0 at hb0 hR0 hO0 hZ0 hsz0 ⊢
    refine (HCp.out _ ((HI.out.below hb0).mono hb0.size)).mono ?_
    rintro e w1 ⟨v1, qs, rfl, hq1, hD1, hb1⟩
    obtain ⟨va, vc, rfl⟩ := hD1.1.slice
    have hs1 : w.heap.size + 3 ≤ w1.heap.size := by have := hb1.size; omega
    have hB1 := (hb0.trans (hb1.mono hb0.size)).alloc (by omega) (.cells #[.slice va qs.length vc] 28)
    have hZ1 := (hZ0.keep hb1 hZ0.lt).alloc (.cells #[.slice va qs.length vc] 28)
    have hO1 := (hO0.keep hb1 hO0.lt).alloc (.cells #[.slice va qs.length vc] 28)
    have hR1 := (hR0.keep hb1 hR0.lt).alloc (.cells #[.slice va qs.length vc] 28)
    clear hb1 hb0 hR0 hO0 hZ0 hsz0 hq1 hD1 HCp
    have f0 : (w1.alloc (.cells #[.slice va qs.length vc] 28)).cell? ⟨w.heap.size + 1, 0, none⟩ = some (.int .i64 o.k) := hO1.cell 0 _ rfl
    have f1 : (w1.alloc (.cells #[.slice va qs.length vc] 28)).cell? ⟨w.heap.size + 1, 1, none⟩ = some (.string o.u) := hO1.cell 1 _ rfl
    have f4 : (w1.alloc (.cells #[.slice va qs.length vc] 28)).cell? ⟨w.heap.size + 1, 4, none⟩ = some (.string o.fu) := hO1.cell 4 _ rfl
    have r0 : (w1.alloc (.cells #[.slice va qs.length vc] 28)).cell? ⟨w.heap.size, 0, none⟩ = some (.slice a ss.length cap) := hR1.cell 0 _ rfl
    go_wp2_with fail
    refine (HAt.out _ ((HI.out.below hB1).mono hB1.size)).mono ?_
    rintro e w2 ⟨rfl, hb2⟩
    have hB2 := hB1.trans (hb2.mono hB1.size)
    have hZ2 := hZ1.keep hb2 hZ1.lt
    have hO2 := hO1.keep hb2 hO1.lt
    have g0 : w2.cell? ⟨w.heap.size + 1, 0, none⟩ = some (.int .i64 o.k) := hO2.cell 0 _ rfl
    clear hb2 hB1 hZ1 hO1 hR1 f0 f1 f4 r0 HAt
    have q0 : w2.cell? ⟨w.heap.size + 1 + 1, 0, none⟩ = some (.slice none 0 0) := hZ2.cell 0 _ rfl
    have qf := hZ2.free
    go_wp2
    have hZe := hZ2.set 0 (.slice none 0 0)
    have hBe := hB2.setCell (p := ⟨w.heap.size + 1 + 1, 0, none⟩) (by simp; omega) (.slice none 0 0)
    generalize w2.setCell ⟨w.heap.size + 1 + 1, 0, none⟩ (.slice none 0 0) = We at hZe hBe ⊢
    have p0 : We.cell? ⟨w.heap.size + 1 + 1, 0, none⟩ = some (.slice none 0 0) := hZe.cell 0 _ rfl
    exact bodyPost_ret (v := .tuple #[.agg #[.slice none 0 0], .bool false]) (by simp [results, Try.results116, go_sem, p0]) rfl ⟨rfl, hBe⟩

set_option maxRecDepth 100000 in
set_option maxHeartbeats 3000000 in
theorem l9Done_there (v x : Value) (ss : List Sb) (o : OpD) (w : World) (h : SbAt w w.heap.size v ss) (hx : ItAt w w.heap.size x o.its) (hr : rdB ss = true) (hk1 : o.k = 1) (hf : fnB (sbKs ss) o.u = true) :
    Calls Try.prog 116 #[.agg #[v], opV o x] w fun e w' => e = .returned (.tuple #[.agg #[.slice none 0 0], .bool false]) ∧ Below w.heap.size w w' := by
  have HI := Lib.hid h
  have HX := Lib.hid hx
  have h6 := rd_len hr
  have HCp := Lib.hid (fun w h => l9Copy_any v ss w h (by omega) (fun s hs => by have := sb_len (rd_sub hr s hs); omega))
  have HAt := Lib.hid (fun w h => l9At_any v ss o.u w h)
  rw [atK_there (rd_ris hr) hf] at HAt
  generalize plK (sbKs ss) o.u = p at HAt
  have hge : decide (0 ≤ (p : Int)) = true := decide_eq_true (by omega)
  obtain ⟨a, cap, rfl, hl, hm, hc⟩ := h.raw
  obtain ⟨xa, xc, rfl⟩ := hx.1.slice
  clear hc h hx hr hf
  have hb0 : Below w.heap.size w (((w.alloc (.cells #[.slice a ss.length cap] 28)).alloc (.cells #[.int .i64 o.k, .string o.u, .string o.i, .int .i64 o.d, .string o.fu, .string o.ft, .slice xa o.its.length xc] 38)).alloc (.cells #[.slice none 0 0] 28)) := (((Below.refl _ _).alloc (Nat.le_refl _) _).alloc (by simp) _).alloc (by simp; omega) _
  have hR0 := ((Box.new w #[.slice a ss.length cap] 28).alloc (.cells #[.int .i64 o.k, .string o.u, .string o.i, .int .i64 o.d, .string o.fu, .string o.ft, .slice xa o.its.length xc] 38)).alloc (.cells #[.slice none 0 0] 28)
  have hO0 : Box (((w.alloc (.cells #[.slice a ss.length cap] 28)).alloc (.cells #[.int .i64 o.k, .string o.u, .string o.i, .int .i64 o.d, .string o.fu, .string o.ft, .slice xa o.its.length xc] 38)).alloc (.cells #[.slice none 0 0] 28)) (w.heap.size + 1) #[.int .i64 o.k, .string o.u, .string o.i, .int .i64 o.d, .string o.fu, .string o.ft, .slice xa o.its.length xc] 38 := by
    have := (Box.new (w.alloc (.cells #[.slice a ss.length cap] 28)) #[.int .i64 o.k, .string o.u, .string o.i, .int .i64 o.d, .string o.fu, .string o.ft, .slice xa o.its.length xc] 38).alloc (.cells #[.slice none 0 0] 28)
    simpa using this
  have hZ0 : Box (((w.alloc (.cells #[.slice a ss.length cap] 28)).alloc (.cells #[.int .i64 o.k, .string o.u, .string o.i, .int .i64 o.d, .string o.fu, .string o.ft, .slice xa o.its.length xc] 38)).alloc (.cells #[.slice none 0 0] 28)) (w.heap.size + 1 + 1) #[.slice none 0 0] 28 := by
    have := Box.new ((w.alloc (.cells #[.slice a ss.length cap] 28)).alloc (.cells #[.int .i64 o.k, .string o.u, .string o.i, .int .i64 o.d, .string o.fu, .string o.ft, .slice xa o.its.length xc] 38)) #[.slice none 0 0] 28
    simpa using this
  have hsz0 : (((w.alloc (.cells #[.slice a ss.length cap] 28)).alloc (.cells #[.int .i64 o.k, .string o.u, .string o.i, .int .i64 o.d, .string o.fu, .string o.ft, .slice xa o.its.length xc] 38)).alloc (.cells #[.slice none 0 0] 28)).heap.size = w.heap.size + 3 := by simp
  have hkk : (o.k == 1) = true := beq_iff_eq.2 hk1
  have hk99 : (o.k == 9) = false := beq_eq_false_iff_ne.2 (by omega)
  have hk33 : (o.k == 3) = false := beq_eq_false_iff_ne.2 (by omega)
  clear hk1
  unfold OutCp at HCp
  go_enter Try.func116, Try.ntmps116
  go_wp2_with fail
  generalize ((w.alloc (.cells #[.slice a ss.length cap] 28)).alloc (.cells #[.int .i64 o.k, .string o.u, .string o.i, .int .i64 o.d, .string o.fu, .string o.ft, .slice xa o.its.length xc] 38)).alloc (.cells #[.slice none 0 0] 28) = W0 at hb0 hR0 hO0 hZ0 hsz0 ⊢
  refine (HCp.out _ ((HI.out.below hb0).mono hb0.size)).mono ?_
  rintro e w1 ⟨v1, qs, rfl, hq1, hD1, hb1⟩
  obtain ⟨va, vc, rfl⟩ := hD1.1.slice
  have hs1 : w.heap.size + 3 ≤ w1.heap.size := by have := hb1.size; omega
  have hB1 := (hb0.trans (hb1.mono hb0.size)).alloc (by omega) (.cells #[.slice va qs.length vc] 28)
  have hZ1 := (hZ0.keep hb1 hZ0.lt).alloc (.cells #[.slice va qs.length vc] 28)
  have hO1 := (hO0.keep hb1 hO0.lt).alloc (.cells #[.slice va qs.length vc] 28)
  have hR1 := (hR0.keep hb1 hR0.lt).alloc (.cells #[.slice va qs.length vc] 28)
  clear hb1 hb0 hR0 hO0 hZ0 hsz0 hq1 hD1 HCp
  have f0 : (w1.alloc (.cells #[.slice va qs.length vc] 28)).cell? ⟨w.heap.size + 1, 0, none⟩ = some (.int .i64 o.k) := hO1.cell 0 _ rfl
  have f1 : (w1.alloc (.cells #[.slice va qs.length vc] 28)).cell? ⟨w.heap.size + 1, 1, none⟩ = some (.string o.u) := hO1.cell 1 _ rfl
  have f4 : (w1.alloc (.cells #[.slice va qs.length vc] 28)).cell? ⟨w.heap.size + 1, 4, none⟩ = some (.string o.fu) := hO1.cell 4 _ rfl
  have r0 : (w1.alloc (.cells #[.slice va qs.length vc] 28)).cell? ⟨w.heap.size, 0, none⟩ = some (.slice a ss.length cap) := hR1.cell 0 _ rfl
  go_wp2_with fail
  refine (HAt.out _ ((HI.out.below hB1).mono hB1.size)).mono ?_
  rintro e w2 ⟨rfl, hb2⟩
  have hB2 := hB1.trans (hb2.mono hB1.size)
  have hZ2 := hZ1.keep hb2 hZ1.lt
  have hO2 := hO1.keep hb2 hO1.lt
  have g0 : w2.cell? ⟨w.heap.size + 1, 0, none⟩ = some (.int .i64 o.k) := hO2.cell 0 _ rfl
  have s0 : w2.cell? ⟨w.heap.size, 0, none⟩ = some (.slice a ss.length cap) := (hR1.keep hb2 hR1.lt).cell 0 _ rfl; clear hb2 hB1 hZ1 hO1 hR1 f0 f1 f4 r0 HAt
  have q0 : w2.cell? ⟨w.heap.size + 1 + 1, 0, none⟩ = some (.slice none 0 0) := hZ2.cell 0 _ rfl
  have qf := hZ2.free
  go_wp2
  have hZe := hZ2.set 0 (.slice none 0 0)
  have hBe := hB2.setCell (p := ⟨w.heap.size + 1 + 1, 0, none⟩) (by simp; omega) (.slice none 0 0)
  generalize w2.setCell ⟨w.heap.size + 1 + 1, 0, none⟩ (.slice none 0 0) = We at hZe hBe ⊢
  have p0 : We.cell? ⟨w.heap.size + 1 + 1, 0, none⟩ = some (.slice none 0 0) := hZe.cell 0 _ rfl
  exact bodyPost_ret (v := .tuple #[.agg #[.slice none 0 0], .bool false]) (by simp [results, Try.results116, go_sem, p0]) rfl ⟨rfl, hBe⟩

set_option maxRecDepth 100000 in
set_option maxHeartbeats 3000000 in
theorem l9Done_full (v x : Value) (ss : List Sb) (o : OpD) (w : World) (h : SbAt w w.heap.size v ss) (hx : ItAt w w.heap.size x o.its) (hr : rdB ss = true) (hk1 : o.k = 1) (hf : fnB (sbKs ss) o.u = false) (h66 : ss.length = 6) :
    Calls Try.prog 116 #[.agg #[v], opV o x] w fun e w' => e = .returned (.tuple #[.agg #[.slice none 0 0], .bool false]) ∧ Below w.heap.size w w' := by
  have HI := Lib.hid h
  have HX := Lib.hid hx
  have h6 := rd_len hr
  have HCp := Lib.hid (fun w h => l9Copy_any v ss w h (by omega) (fun s hs => by have := sb_len (rd_sub hr s hs); omega))
  have HAt := Lib.hid (fun w h => l9At_any v ss o.u w h)
  rw [atK_not (rd_ris hr) hf] at HAt
  have hge : ((ss.length : Int) == 6) = true := beq_iff_eq.2 (by omega)
  clear h66 h6
  obtain ⟨a, cap, rfl, hl, hm, hc⟩ := h.raw
  obtain ⟨xa, xc, rfl⟩ := hx.1.slice
  clear hc h hx hr hf
  have hb0 : Below w.heap.size w (((w.alloc (.cells #[.slice a ss.length cap] 28)).alloc (.cells #[.int .i64 o.k, .string o.u, .string o.i, .int .i64 o.d, .string o.fu, .string o.ft, .slice xa o.its.length xc] 38)).alloc (.cells #[.slice none 0 0] 28)) := (((Below.refl _ _).alloc (Nat.le_refl _) _).alloc (by simp) _).alloc (by simp; omega) _
  have hR0 := ((Box.new w #[.slice a ss.length cap] 28).alloc (.cells #[.int .i64 o.k, .string o.u, .string o.i, .int .i64 o.d, .string o.fu, .string o.ft, .slice xa o.its.length xc] 38)).alloc (.cells #[.slice none 0 0] 28)
  have hO0 : Box (((w.alloc (.cells #[.slice a ss.length cap] 28)).alloc (.cells #[.int .i64 o.k, .string o.u, .string o.i, .int .i64 o.d, .string o.fu, .string o.ft, .slice xa o.its.length xc] 38)).alloc (.cells #[.slice none 0 0] 28)) (w.heap.size + 1) #[.int .i64 o.k, .string o.u, .string o.i, .int .i64 o.d, .string o.fu, .string o.ft, .slice xa o.its.length xc] 38 := by
    have := (Box.new (w.alloc (.cells #[.slice a ss.length cap] 28)) #[.int .i64 o.k, .string o.u, .string o.i, .int .i64 o.d, .string o.fu, .string o.ft, .slice xa o.its.length xc] 38).alloc (.cells #[.slice none 0 0] 28)
    simpa using this
  have hZ0 : Box (((w.alloc (.cells #[.slice a ss.length cap] 28)).alloc (.cells #[.int .i64 o.k, .string o.u, .string o.i, .int .i64 o.d, .string o.fu, .string o.ft, .slice xa o.its.length xc] 38)).alloc (.cells #[.slice none 0 0] 28)) (w.heap.size + 1 + 1) #[.slice none 0 0] 28 := by
    have := Box.new ((w.alloc (.cells #[.slice a ss.length cap] 28)).alloc (.cells #[.int .i64 o.k, .string o.u, .string o.i, .int .i64 o.d, .string o.fu, .string o.ft, .slice xa o.its.length xc] 38)) #[.slice none 0 0] 28
    simpa using this
  have hsz0 : (((w.alloc (.cells #[.slice a ss.length cap] 28)).alloc (.cells #[.int .i64 o.k, .string o.u, .string o.i, .int .i64 o.d, .string o.fu, .string o.ft, .slice xa o.its.length xc] 38)).alloc (.cells #[.slice none 0 0] 28)).heap.size = w.heap.size + 3 := by simp
  have hkk : (o.k == 1) = true := beq_iff_eq.2 hk1
  have hk99 : (o.k == 9) = false := beq_eq_false_iff_ne.2 (by omega)
  have hk33 : (o.k == 3) = false := beq_eq_false_iff_ne.2 (by omega)
  clear hk1
  unfold OutCp at HCp
  go_enter Try.func116, Try.ntmps116
  go_wp2_with fail
  generalize ((w.alloc (.cells #[.slice a ss.length cap] 28)).alloc (.cells #[.int .i64 o.k, .string o.u, .string o.i, .int .i64 o.d, .string o.fu, .string o.ft, .slice xa o.its.length xc] 38)).alloc (.cells #[.slice none 0 0] 28) = W0 at hb0 hR0 hO0 hZ0 hsz0 ⊢
  refine (HCp.out _ ((HI.out.below hb0).mono hb0.size)).mono ?_
  rintro e w1 ⟨v1, qs, rfl, hq1, hD1, hb1⟩
  obtain ⟨va, vc, rfl⟩ := hD1.1.slice
  have hs1 : w.heap.size + 3 ≤ w1.heap.size := by have := hb1.size; omega
  have hB1 := (hb0.trans (hb1.mono hb0.size)).alloc (by omega) (.cells #[.slice va qs.length vc] 28)
  have hZ1 := (hZ0.keep hb1 hZ0.lt).alloc (.cells #[.slice va qs.length vc] 28)
  have hO1 := (hO0.keep hb1 hO0.lt).alloc (.cells #[.slice va qs.length vc] 28)
  have hR1 := (hR0.keep hb1 hR0.lt).alloc (.cells #[.slice va qs.length vc] 28)
  clear hb1 hb0 hR0 hO0 hZ0 hsz0 hq1 hD1 HCp
  have f0 : (w1.alloc (.cells #[.slice va qs.length vc] 28)).cell? ⟨w.heap.size + 1, 0, none⟩ = some (.int .i64 o.k) := hO1.cell 0 _ rfl
  have f1 : (w1.alloc (.cells #[.slice va qs.length vc] 28)).cell? ⟨w.heap.size + 1, 1, none⟩ = some (.string o.u) := hO1.cell 1 _ rfl
  have f4 : (w1.alloc (.cells #[.slice va qs.length vc] 28)).cell? ⟨w.heap.size + 1, 4, none⟩ = some (.string o.fu) := hO1.cell 4 _ rfl
  have r0 : (w1.alloc (.cells #[.slice va qs.length vc] 28)).cell? ⟨w.heap.size, 0, none⟩ = some (.slice a ss.length cap) := hR1.cell 0 _ rfl
  go_wp2_with fail
  refine (HAt.out _ ((HI.out.below hB1).mono hB1.size)).mono ?_
  rintro e w2 ⟨rfl, hb2⟩
  have hB2 := hB1.trans (hb2.mono hB1.size)
  have hZ2 := hZ1.keep hb2 hZ1.lt
  have hO2 := hO1.keep hb2 hO1.lt
  have g0 : w2.cell? ⟨w.heap.size + 1, 0, none⟩ = some (.int .i64 o.k) := hO2.cell 0 _ rfl
  have s0 : w2.cell? ⟨w.heap.size, 0, none⟩ = some (.slice a ss.length cap) := (hR1.keep hb2 hR1.lt).cell 0 _ rfl; clear hb2 hB1 hZ1 hO1 hR1 f0 f1 f4 r0 HAt
  have q0 : w2.cell? ⟨w.heap.size + 1 + 1, 0, none⟩ = some (.slice none 0 0) := hZ2.cell 0 _ rfl
  have qf := hZ2.free
  go_wp2
  have hZe := hZ2.set 0 (.slice none 0 0)
  have hBe := hB2.setCell (p := ⟨w.heap.size + 1 + 1, 0, none⟩) (by simp; omega) (.slice none 0 0)
  generalize w2.setCell ⟨w.heap.size + 1 + 1, 0, none⟩ (.slice none 0 0) = We at hZe hBe ⊢
  have p0 : We.cell? ⟨w.heap.size + 1 + 1, 0, none⟩ = some (.slice none 0 0) := hZe.cell 0 _ rfl
  exact bodyPost_ret (v := .tuple #[.agg #[.slice none 0 0], .bool false]) (by simp [results, Try.results116, go_sem, p0]) rfl ⟨rfl, hBe⟩
end Go.Proofs.Ytgimjfffdnopiaa

/- Y9a -/
namespace Go.Proofs.Ytgimjfffdnopiaa
open Go.ChangeShapes Go.WideShapes Go.ChangeAt Go.RowKit
set_option linter.unusedVariables false

theorem OwnD.drew {w : World} {B : Nat} {v : Value} {ps : List (Sb × Value)} (h : OwnD w B v ps) : OwnD w.drew B v ps := h
theorem cell_blk {w w' : World} {g : Nat} (h : w'.heap[g]? = w.heap[g]?) (j : Nat) : w'.cell? ⟨g, j, none⟩ = w.cell? ⟨g, j, none⟩ := by
  unfold World.cell?; rw [h]
theorem gb_set1 {w w1 : World} (b o : Nat) (u : Value) (h : w.grownBy w1 (some b)) : w.grownBy (w1.setCell ⟨b, o, none⟩ u) (some b) :=
  ⟨h.os, h.tape, h.output, by simpa [World.setCell] using h.size, fun k hk hn => (Below.heap_setCell _ _ _ _ (fun e => hn (by rw [e]))).trans (h.block k hk hn)⟩
theorem OwnD.putSub {w w2 w4 : World} {B : Nat} {v y : Value} {ps : List (Sb × Value)} (h : OwnD w B v ps) (P : Nat) (hP : P < ps.length) (s : Sb) (hB : B ≤ w.heap.size) (hb : Below w.heap.size w w2) (hyb : (y = ps[P].2 ∧ s.es = ps[P].1.es) ∨ OwnR 103 5 enC w2 w.heap.size y s.es) (hg : w2.grownBy w4 v.ownBlock) (ho : OwnR 99 3 sbC w4 B v (ps.set P (s, y))) : OwnD w4 B v (ps.set P (s, y)) := by
  have hy : OwnR 103 5 enC w2 B y s.es := by
    rcases hyb with ⟨h1, h2⟩ | h1
    · rw [h1, h2]; exact (h.2.1 _ (List.getElem_mem hP)).keep hb (Nat.le_refl _)
    · exact h1.base_mono hB
  have hent : ∀ p ∈ ps.set P (s, y), OwnR 103 5 enC w2 B p.2 p.1.es := by
    intro p hp
    rcases List.mem_or_eq_of_mem_set hp with h1 | h1
    · exact (h.2.1 p h1).keep hb (Nat.le_refl _)
    · rw [h1]; exact hy
  have hrow := h.1.keep hb (Nat.le_refl _)
  have hent4 : ∀ p ∈ ps.set P (s, y), OwnR 103 5 enC w4 B p.2 p.1.es := fun p hp => by
    refine World.ownsRow.kept (hent p hp) hg ?_
    exact own_apart (by decide) (hent p hp) hrow
  refine ⟨ho, hent4, ?_⟩
  unfold ApartD
  rw [List.pairwise_cons]
  refine ⟨fun c hc => ?_, ?_⟩
  · obtain ⟨p, hp, rfl⟩ := List.mem_map.1 hc
    exact own_apart (by decide) ho (hent4 p hp)
  · have hap := (List.pairwise_cons.1 h.2.2).2
    rcases hyb with ⟨e, _⟩ | hnew
    · have e2 : (ps.set P (s, y)).map (fun p => p.2.ownBlock) = ps.map (fun p => p.2.ownBlock) := by
        rw [List.map_set, e]
        apply List.ext_getElem?
        intro j
        rw [List.getElem?_set]
        by_cases e : P = j
        · subst e; simp [hP]
        · rw [if_neg e]
      rw [e2]
      exact hap
    · have hold : ∀ i (hi : i < ps.length) b, ps[i].2.ownBlock = Option.some b → b < w.heap.size := fun i hi b hb => (World.ownsRow.lt (h.2.1 _ (List.getElem_mem hi)) b hb).2
      have hyn : ∀ b, y.ownBlock = Option.some b → w.heap.size ≤ b := fun b hb => (World.ownsRow.lt hnew b hb).1
      rw [List.pairwise_iff_getElem] at hap ⊢
      intro i j hi hj hij
      simp only [List.length_map, List.length_set] at hi hj
      simp only [List.getElem_map, List.getElem_set]
      by_cases ei : P = i
      · rw [if_pos ei, if_neg (by omega)]
        show y.ownBlock = none ∨ y.ownBlock ≠ ps[j].2.ownBlock
        cases hy' : y.ownBlock with
        | none => exact .inl rfl
        | some b => exact .inr (fun e => by have h1 := hold j hj b e.symm; have h2 := hyn b hy'; omega)
      · rw [if_neg ei]
        by_cases ej : P = j
        · rw [if_pos ej]
          show ps[i].2.ownBlock = none ∨ ps[i].2.ownBlock ≠ y.ownBlock
          cases hy' : ps[i].2.ownBlock with
          | none => exact .inl rfl
          | some b => exact .inr (fun e => by have h1 := hold i hi b hy'; have h2 := hyn b e.symm; omega)
        · rw [if_neg ej]
          have := hap i j (by rw [List.length_map]; exact hi) (by rw [List.length_map]; exact hj) hij
          simpa only [List.getElem_map] using this
/-- One list of entries written anew. -/
theorem OwnD.setEs {w w2 : World} {B g n cap : Nat} {y : Value} {ps : List (Sb × Value)} (h : OwnD w B (.slice (Option.some ⟨g, 0, none⟩) n cap) ps) (hn : n = ps.length) (P : Nat) (hP : P < ps.length) (es : List En) (hB : B ≤ w.heap.size) (hb : Below w.heap.size w w2) (hy : OwnR 103 5 enC w2 w.heap.size y es) : OwnD (w2.setCell ⟨g, P * 3 + 2, none⟩ y) B (.slice (Option.some ⟨g, 0, none⟩) n cap) (ps.set P (⟨ps[P].1.u, ps[P].1.t, es⟩, y)) := by
  refine h.putSub P hP _ hB hb (.inr hy) (gb_set1 g (P * 3 + 2) y (World.grownBy.refl _ _)) ?_
  exact (h.1.keep hb (Nat.le_refl _)).setF sbC_len hn P 2 _ y hP (by decide) rfl
theorem OwnR.form {α : Type} {k : Nat} {C : α → List Value} {e : TypeId} {w : World} {B n cap : Nat} {a : Option Addr} {l : List α} (h : OwnR e k C w B (.slice a n cap) l) (h0 : 0 < l.length) : ∃ g, a = some ⟨g, 0, none⟩ ∧ B ≤ g ∧ g < w.heap.size ∧ n = l.length := by
  rcases h.2 with ⟨hv, hn⟩ | ⟨g, cap', cur, hv, hb, hg, rest⟩
  · omega
  · cases hv
    exact ⟨g, rfl, hb, (Array.getElem?_eq_some_iff.1 hg).1, rfl⟩
theorem OwnR.capLe {α : Type} {k : Nat} {C : α → List Value} {e : TypeId} {w : World} {B n cap : Nat} {a : Option Addr} {l : List α} (h : OwnR e k C w B (.slice a n cap) l) : l.length ≤ cap := by
  obtain ⟨a2, c2, e2, h2⟩ := h.len
  injection e2 with _ _ h3
  omega
theorem OwnR.noneCap {α : Type} {k : Nat} {C : α → List Value} {e : TypeId} {w : World} {B n cap : Nat} {l : List α} (h : OwnR e k C w B (.slice none n cap) l) : n = 0 ∧ cap = 0 := by
  rcases h.2 with ⟨hv, hn⟩ | ⟨g, cap', cur, hv, hb, hg, rest⟩
  · injection hv with _ h2 h3
    exact ⟨h2, h3⟩
  · injection hv with h1
    cases h1
theorem OwnR.someForm {α : Type} {k : Nat} {C : α → List Value} {e : TypeId} {w : World} {B n cap : Nat} {a : Addr} {l : List α} (h : OwnR e k C w B (.slice (some a) n cap) l) : ∃ g, a = ⟨g, 0, none⟩ ∧ B ≤ g ∧ g < w.heap.size := by
  rcases h.2 with ⟨hv, hn⟩ | ⟨g, cap', cur, hv, hb, hg, rest⟩
  · injection hv with h1
    cases h1
  · injection hv with h1
    exact ⟨g, Option.some.inj h1, hb, (Array.getElem?_eq_some_iff.1 hg).1⟩
theorem pg_at {qs : List (Sb × Value)} {ss : List Sb} {d : Int} {k : Nat} (h : qs.map Prod.fst = pgS (ss.take k) d ++ ss.drop k) (hk : k < qs.length) (hk2 : k < ss.length) : qs[k].1 = ss[k] := by
  have := congrArg (fun l => l[k]?) h
  simp only [List.getElem?_map, List.getElem?_eq_getElem hk, Option.map_some] at this
  rw [List.getElem?_append_right (by simp [pgS]; omega)] at this
  have e : k - (pgS (ss.take k) d).length = 0 := by simp [pgS]; omega
  rw [e, List.getElem?_drop, Nat.add_zero, List.getElem?_eq_getElem hk2] at this
  exact Option.some.inj this
theorem fst_at {qs : List (Sb × Value)} {ss : List Sb} (h : qs.map Prod.fst = ss) (k : Nat) (hk : k < qs.length) (hk2 : k < ss.length) : qs[k].1 = ss[k] := by
  subst h
  simp
theorem chV_at {ss : List Sb} {o : OpD} (hf : fnB (sbKs ss) (opU o) = true) {P : Nat} (hpl : plK (sbKs ss) (opU o) = P) (hP : P < ss.length) : chV ss o = (if o.k = 2 then some (ss.take P ++ ss.drop (P + 1)) else if o.k = 8 then some (ss.set P (alS ss[P])) else if o.k = 3 then some (ss.set P (ftS ss[P] o.ft o.its)) else if fnB (enKs ss[P].es) o.i = true then some (ss.set P (mkS ss[P] o.i o.k)) else none) := by
  unfold chV
  rw [hf, hpl, List.getElem?_eq_getElem hP]
  rfl
theorem fn_pl {ss : List Sb} {u : ByteArray} (hf : fnB (sbKs ss) u = true) : plK (sbKs ss) u < ss.length := by
  have := fn_lt hf
  simpa [sbKs] using this
theorem fn_pe {es : List En} {u : ByteArray} (hf : fnB (enKs es) u = true) : plK (enKs es) u < es.length := by
  have := fn_lt hf
  simpa [enKs] using this
/-- append of records, at one step. -/
theorem wp_appQ {w w' : World} {o : Oper} {a : Act} {K : Act → World → Prop} {Q : Exit → Act → World → Prop} (t : TypeId) (s x : Operand) (ho : o.op = .call { callee := .builtin .append, args := #[s, x], argTypes := #[t, t] }) (v xv v' : Value) (hs : a.eval s = v) (hx : a.eval x = xv) (hrun : (Builtin.append_ #[t, t] o.type #[v, xv]).run Try.prog w = .ok v' w') (h : K (a.put o.dst v') w') : o.wp Try.prog a w K Q := by
  unfold Oper.wp
  simp [execOp, ho, resolve, invoke, builtin, hs, hx, hrun, Result.andThen]
  exact h
/-- Entries of which the first k are read. -/
def alH (es : List En) (k : Nat) : List En := rdAll (es.take k) ++ es.drop k
theorem alH_len (es : List En) (k : Nat) : (alH es k).length = es.length := by
  unfold alH rdAll
  rw [List.length_append, List.length_map, List.length_take, List.length_drop]
  omega
theorem alH_zero (es : List En) : alH es 0 = es := rfl
theorem alH_end (es : List En) (k : Nat) (h : ¬ k < es.length) : alH es k = rdAll es := by
  unfold alH
  rw [List.take_of_length_le (by omega), List.drop_of_length_le (by omega), List.append_nil]
theorem alH_get (es : List En) (k : Nat) (h : k < es.length) (h2 : k < (alH es k).length) : (alH es k)[k] = es[k] := by
  have hl : (rdAll (es.take k)).length = k := by unfold rdAll; rw [List.length_map, List.length_take]; omega
  have e : (alH es k)[k]? = es[k]? := by
    unfold alH
    rw [List.getElem?_append_right (by omega), hl, Nat.sub_self, List.getElem?_drop, Nat.add_zero]
  rw [List.getElem?_eq_getElem h2, List.getElem?_eq_getElem h] at e
  exact Option.some.inj e
theorem alH_set (es : List En) (k : Nat) (h : k < es.length) : (alH es k).set k { es[k] with rd := true } = alH es (k + 1) := by
  have hl : (rdAll (es.take k)).length = k := by unfold rdAll; rw [List.length_map, List.length_take]; omega
  unfold alH
  rw [List.set_append_right _ _ (by omega), hl, Nat.sub_self, List.drop_eq_getElem_cons h, List.set_cons_zero, List.take_succ_eq_append_getElem h]
  unfold rdAll
  rw [List.map_append, List.append_assoc]
  rfl
theorem OwnD.allStep {w : World} {B g n cap h yc P k : Nat} {qs : List (Sb × Value)} {U V : ByteArray} {E : List En} (hD : OwnD w B (.slice (Option.some ⟨g, 0, none⟩) n cap) (qs.set P ((⟨U, V, alH E k⟩ : Sb), Value.slice (Option.some ⟨h, 0, none⟩) E.length yc))) (hP : P < qs.length) (hk : k < E.length) :
    OwnD (w.setCell ⟨h, k * 5 + 3, none⟩ (.bool true)) B (.slice (Option.some ⟨g, 0, none⟩) n cap) (qs.set P ((⟨U, V, alH E (k + 1)⟩ : Sb), Value.slice (Option.some ⟨h, 0, none⟩) E.length yc)) := by
  have hP2 : P < (qs.set P ((⟨U, V, alH E k⟩ : Sb), Value.slice (Option.some ⟨h, 0, none⟩) E.length yc)).length := by rw [List.length_set]; exact hP
  have e : (qs.set P ((⟨U, V, alH E k⟩ : Sb), Value.slice (Option.some ⟨h, 0, none⟩) E.length yc))[P] = ((⟨U, V, alH E k⟩ : Sb), Value.slice (Option.some ⟨h, 0, none⟩) E.length yc) := List.getElem_set_self _
  have hrow := hD.2.1 _ (List.getElem_mem hP2)
  rw [e] at hrow
  have hk2 : k < (alH E k).length := by rw [alH_len]; exact hk
  have hset := hrow.setF enC_len (alH_len E k).symm k 3 { E[k] with rd := true } (.bool true) hk2 (by decide) (by rw [alH_get E k hk hk2]; rfl)
  rw [alH_set E k hk] at hset
  have := hD.inplace P hP2 ⟨U, V, alH E (k + 1)⟩ (by rw [e]) (by rw [e]) (by rw [e]; exact gb_set1 h (k * 5 + 3) (.bool true) (World.grownBy.refl _ _)) (by rw [e]; exact hset)
  rw [e, List.set_set] at this
  exact this
theorem OwnD.rowAt {w : World} {B : Nat} {v y : Value} {P : Nat} {qs : List (Sb × Value)} {s : Sb} (hD : OwnD w B v (qs.set P (s, y))) (hP : P < qs.length) : OwnR 103 5 enC w B y s.es := by
  have hP2 : P < (qs.set P (s, y)).length := by rw [List.length_set]; exact hP
  have e : (qs.set P (s, y))[P] = (s, y) := List.getElem_set_self _
  have hrow := hD.2.1 _ (List.getElem_mem hP2)
  rw [e] at hrow
  exact hrow
theorem putP_fst (qs : List (Sb × Value)) (p : Nat) (f : Bool) (x : Sb × Value) : (putP qs p f x).map Prod.fst = putP (qs.map Prod.fst) p f x.1 := by
  unfold putP
  rw [List.map_append, List.map_take, List.map_cons, List.map_drop]
theorem putP_false {α : Type} (qs : List α) (p : Nat) (x : α) : (qs.take p ++ [x]) ++ qs.drop p = putP qs p false x := by
  unfold putP
  simp

end Go.Proofs.Ytgimjfffdnopiaa
