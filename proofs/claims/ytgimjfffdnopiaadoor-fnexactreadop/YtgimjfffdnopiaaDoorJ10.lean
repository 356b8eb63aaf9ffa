/- Joined: W7e, W7f. -/
import Derived.Test.YtgimjfffdnopiaaDoorJ8
import Derived.Test.YtgimjfffdnopiaaDoorJ9
/- W7e -/
namespace Go.Proofs.YtgimjfffdnopiaaDoor
open Go.ChangeShapes Go.WideShapes Go.ChangeAt Go.RowKit
set_option linter.unusedVariables false

theorem dOk_not {y m d : Int} (h : ¬ (1970 ≤ y ∧ y ≤ 2517 ∧ 1 ≤ m ∧ m ≤ 12 ∧ 1 ≤ d ∧ d ≤ dIM y m ∧ dN y m d ≤ 200000)) : dOk y m d = false := decide_eq_false h
theorem l1In_true (n lo hi : Int) (w : World) (h : lo ≤ n ∧ n ≤ hi) : Calls Tryd.prog 46 #[.int .i64 n, .int .i64 lo, .int .i64 hi] w fun e w' => e = .returned (.bool true) ∧ w = w' := by
  have := l1In_any n lo hi w
  rwa [decide_eq_true h.1, decide_eq_true h.2] at this
theorem l1In_false (n lo hi : Int) (w : World) (h : ¬ (lo ≤ n ∧ n ≤ hi)) : Calls Tryd.prog 46 #[.int .i64 n, .int .i64 lo, .int .i64 hi] w fun e w' => e = .returned (.bool false) ∧ w = w' := by
  have := l1In_any n lo hi w
  rwa [show (decide (lo ≤ n) && decide (n ≤ hi)) = false by simpa using fun h1 => by omega] at this

set_option maxRecDepth 100000 in
set_option maxHeartbeats 3000000 in
theorem specDateOk_any (y m d : Int) (w : World) :
    Calls Tryd.prog 16 #[dV y m d] w fun e w' => e = .returned (.bool (dOk y m d)) ∧ Below w.heap.size w w' := by
  have HB : Hid (∀ n, Below w.heap.size w ((w.alloc (.cells #[.int .i64 y, .int .i64 m, .int .i64 d] 25)).drewN n)) := Lib.hid (fun n => below_drewN ((Below.refl _ _).alloc (Nat.le_refl _) _) n)
  by_cases c1 : 1970 ≤ y ∧ y ≤ 2517
  · have I1 := Lib.hid (fun w => l1In_true y 1970 2517 w c1)
    by_cases c2 : 1 ≤ m ∧ m ≤ 12
    · have I2 := Lib.hid (fun w => l1In_true m 1 12 w c2)
      have HD := Lib.hid (fun w => l7Days_any y m w (by omega) (by omega))
      by_cases c3 : 1 ≤ d ∧ d ≤ dIM y m
      · have I3 := Lib.hid (fun w => l1In_true d 1 (dIM y m) w c3)
        have hd31 := dIM_bd y m
        have HN := Lib.hid (fun w => l7Day_any y m d w c1.1 c1.2 c2.1 c2.2 c3.1 (by omega))
        have HE : Hid (dOk y m d = decide (dN y m d ≤ 200000)) := Lib.hid (by unfold dOk; simp [c1, c2, c3])
        have hbd := dN_bd y m d c1.1 (by omega) c2.2 c3.1 (by omega)
        generalize dN y m d = N at HN HE hbd
        generalize dIM y m = D at HD I3
        have hA := DAt.new w y m d
        have hB0 : Below w.heap.size w (w.alloc (.cells #[.int .i64 y, .int .i64 m, .int .i64 d] 25)) := (Below.refl _ _).alloc (Nat.le_refl _) _
        clear c1 c2 c3 hd31
        go_enter Tryd.func16, Tryd.ntmps16
        go_wp2
        generalize w.alloc (.cells #[.int .i64 y, .int .i64 m, .int .i64 d] 25) = W at hA hB0 ⊢
        have hA1 : DAt W.drew w.heap.size y m d := hA
        have hB1 := hB0.drew
        clear hA hB0 HB
        refine wp_region_T (fun w' => DAt w' w.heap.size y m d) (fun _ => True) 23 (by kernel_rfl) 24 rfl ?_
        refine wpAnyT_takesA (md := .any) 22 (by kernel_rfl) (by intro d v c a w h; cases d <;> exact h) [0, 1] _ _ _ (by decide) (by kernel_rfl) ⟨hA1, fun _ => trivial⟩ ?_
        simp only [pick, List.filterMap_cons, List.filterMap_nil, List.getElem?_cons_zero, List.getElem?_cons_succ]
        iterate 1 (refine wpIf_step ?_ (by kernel_rfl) ?_ ?_; rotate_left; (intro w _; go_simp); try with_reducible rfl)
        refine wpIf_step (.int .i64 y) (by kernel_rfl) (fun w hw => by have h0 := hw.c0; go_simp) ?_
        refine wpIf_nil (fun hS => ?_)
        refine wpAnyT_one 2 21 (by kernel_rfl) rfl (by kernel_rfl) (fun K hK => ?_)
        go_simp
        refine (I1.out _).mono ?_
        rintro e v1 ⟨rfl, rfl⟩
        refine hK _ _ ⟨hA1, fun _ => trivial⟩ (fun hS3 => ?_)
        clear hK K hS
        refine wpAnyT_takesA (md := .any) 18 (by kernel_rfl) (by intro d v c a w h; cases d <;> exact h) [3, 4, 5] _ _ _ (by decide) (by kernel_rfl) hS3 ?_
        simp only [pick, List.filterMap_cons, List.filterMap_nil, List.getElem?_cons_zero, List.getElem?_cons_succ]
        iterate 2 (refine wpIf_step ?_ (by kernel_rfl) ?_ ?_; rotate_left; (intro w _; go_simp); try with_reducible rfl)
        refine wpIf_step (.int .i64 m) (by kernel_rfl) (fun w hw => by have h0 := hw.c1; go_simp) ?_
        refine wpIf_nil (fun hS => ?_)
        clear hS3
        refine wpAnyT_one 6 17 (by kernel_rfl) rfl (by kernel_rfl) (fun K hK => ?_)
        go_simp
        refine (I2.out _).mono ?_
        rintro e v1 ⟨rfl, rfl⟩
        refine hK _ _ ⟨hA1, fun _ => trivial⟩ (fun hS3 => ?_)
        clear hK K hS
        refine wpAnyT_takesA (md := .any) 9 (by kernel_rfl) (by intro d v c a w h; cases d <;> exact h) [7, 8, 9, 10, 11, 12, 13, 14] _ _ _ (by decide) (by kernel_rfl) hS3 ?_
        simp only [pick, List.filterMap_cons, List.filterMap_nil, List.getElem?_cons_zero, List.getElem?_cons_succ]
        iterate 3 (refine wpIf_step ?_ (by kernel_rfl) ?_ ?_; rotate_left; (intro w _; go_simp); try with_reducible rfl)
        refine wpIf_step (.int .i64 d) (by kernel_rfl) (fun w hw => by have h0 := hw.c2; go_simp) ?_
        iterate 1 (refine wpIf_step ?_ (by kernel_rfl) ?_ ?_; rotate_left; (intro w _; go_simp); try with_reducible rfl)
        refine wpIf_step (.int .i64 y) (by kernel_rfl) (fun w hw => by have h0 := hw.c0; go_simp) ?_
        iterate 1 (refine wpIf_step ?_ (by kernel_rfl) ?_ ?_; rotate_left; (intro w _; go_simp); try with_reducible rfl)
        refine wpIf_step (.int .i64 m) (by kernel_rfl) (fun w hw => by have h0 := hw.c1; go_simp) ?_
        refine wpIf_nil (fun hS => ?_)
        clear hS3
        refine wpAnyT_one 15 8 (by kernel_rfl) rfl (by kernel_rfl) (fun K hK => ?_)
        go_simp
        refine (HD.out _).mono ?_
        rintro e v1 ⟨rfl, rfl⟩
        refine hK _ _ ⟨hA1, fun _ => trivial⟩ (fun hS3 => ?_)
        clear hK K hS
        refine wpAnyT_one 16 7 (by kernel_rfl) rfl (by kernel_rfl) (fun K hK => ?_)
        go_simp
        refine (I3.out _).mono ?_
        rintro e v1 ⟨rfl, rfl⟩
        refine hK _ _ ⟨hA1, fun _ => trivial⟩ (fun hS4 => ?_)
        clear hK K hS3
        refine wpAnyT_takesA (md := .any) 4 (by kernel_rfl) (by intro d v c a w h; cases d <;> exact h) [17, 18, 19] _ _ _ (by decide) (by kernel_rfl) hS4 ?_
        simp only [pick, List.filterMap_cons, List.filterMap_nil, List.getElem?_cons_zero, List.getElem?_cons_succ]
        iterate 2 (refine wpIf_step ?_ (by kernel_rfl) ?_ ?_; rotate_left; (intro w _; go_simp); try with_reducible rfl)
        refine wpIf_step (dV y m d) (by kernel_rfl) (fun w hw => by have h0 := hw.c0; have h1 := hw.c1; have h2 := hw.c2; go_simp) ?_
        refine wpIf_nil (fun hS => ?_)
        clear hS4
        refine wpAnyT_one 20 3 (by kernel_rfl) rfl (by kernel_rfl) (fun K hK => ?_)
        go_simp
        refine (HN.out _).mono ?_
        rintro e v2 ⟨rfl, hb2⟩
        have hA2 := hA1.keep hb2 (Nat.le_refl _)
        have hB2 := hB1.trans (hb2.mono hB1.size)
        refine hK _ _ ⟨hA2, fun _ => trivial⟩ (fun hS4 => ?_)
        clear hK K hS hb2
        refine wpAnyT_takesA (md := .any) 1 (by kernel_rfl) (by intro d v c a w h; cases d <;> exact h) [21, 22] _ _ _ (by decide) (by kernel_rfl) hS4 ?_
        simp only [pick, List.filterMap_cons, List.filterMap_nil, List.getElem?_cons_zero, List.getElem?_cons_succ]
        iterate 2 (refine wpIf_step ?_ (by kernel_rfl) ?_ ?_; rotate_left; (intro w _; go_simp); try with_reducible rfl)
        refine wpIf_nil (fun hS => ?_)
        clear hS4
        refine wpAnyT_one 23 0 (by kernel_rfl) rfl (by kernel_rfl) (fun K hK => ?_)
        go_simp
        refine hK _ _ ⟨hA2, fun _ => trivial⟩ (fun hS4 => ?_)
        clear hK K
        refine wpAnyT_over (by kernel_rfl) ?_
        go_wp2
        go_ret
        exact ⟨ret_bool HE.out.symm, hB2⟩
      · have I3 := Lib.hid (fun w => l1In_false d 1 (dIM y m) w c3)
        have HE := Lib.hid (dOk_not (y := y) (m := m) (d := d) (fun h => c3 ⟨h.2.2.2.2.1, h.2.2.2.2.2.1⟩))
        rw [HE.out]
        generalize dIM y m = D at HD I3
        clear c1 c2 c3
        go_enter Tryd.func16, Tryd.ntmps16
        go_wp2
        go_quiet (first | (go_at_call_of 46 (Value.int .i64 y); exact quiet_same (I1.out _)) | (go_at_call_of 46 (Value.int .i64 m); exact quiet_same (I2.out _)) | (go_at_call 49; exact quiet_same (HD.out _)) | (go_at_call 46; exact quiet_same (I3.out _)))
        go_wp2
        go_ret
        exact ⟨rfl, HB.out _⟩
    · have I2 := Lib.hid (fun w => l1In_false m 1 12 w c2)
      have HE := Lib.hid (dOk_not (y := y) (m := m) (d := d) (fun h => c2 ⟨h.2.2.1, h.2.2.2.1⟩))
      rw [HE.out]
      clear c1 c2
      go_enter Tryd.func16, Tryd.ntmps16
      go_wp2
      go_quiet (first | (go_at_call_of 46 (Value.int .i64 y); exact quiet_same (I1.out _)) | (go_at_call 46; exact quiet_same (I2.out _)))
      go_wp2
      go_ret
      exact ⟨rfl, HB.out _⟩
  · have I1 := Lib.hid (fun w => l1In_false y 1970 2517 w c1)
    have HE := Lib.hid (dOk_not (y := y) (m := m) (d := d) (fun h => c1 ⟨h.1, h.2.1⟩))
    rw [HE.out]
    clear c1
    go_enter Tryd.func16, Tryd.ntmps16
    go_wp2
    go_quiet ((go_at_call 46; exact quiet_same (I1.out _)))
    go_wp2
    go_ret
    exact ⟨rfl, HB.out _⟩

set_option maxRecDepth 100000 in
set_option maxHeartbeats 1600000 in
theorem specDayOf_any (y m d : Int) (w : World) :
    Calls Tryd.prog 13 #[dV y m d] w fun e w' => e = .returned (.int .i64 (dayR y m d)) ∧ Below w.heap.size w w' := by
  have HI := Lib.hid (fun w => specDateOk_any y m d w)
  have hB0 : Below w.heap.size w (w.alloc (.cells #[.int .i64 y, .int .i64 m, .int .i64 d] 25)) := (Below.refl _ _).alloc (Nat.le_refl _) _
  have HA0 := Lib.hid (DAt.new w y m d)
  cases hc : dOk y m d with
  | true =>
    rw [hc] at HI
    obtain ⟨c1, c2, c3, c4, c5, c6, c7⟩ := (dOk_iff y m d).1 hc
    have hd31 := dIM_bd y m
    have HN := Lib.hid (fun w => l7Day_any y m d w c1 c2 c3 c4 c5 (by omega))
    have HE : Hid (dayR y m d = dN y m d) := Lib.hid (by unfold dayR; rw [if_pos hc])
    rw [HE.out]
    generalize dN y m d = N at HN ⊢
    clear hc c1 c2 c3 c4 c5 c6 hd31 c7 HE
    go_enter Tryd.func13, Tryd.ntmps13
    go_wp2_with fail
    refine (HI.out _).mono ?_
    rintro e w1 ⟨rfl, hb1⟩
    have hA1 := HA0.out.keep hb1 (Nat.le_refl _)
    have k0 := hA1.c0
    have k1 := hA1.c1
    have k2 := hA1.c2
    have hB1 := hB0.trans (hb1.mono hB0.size)
    clear hb1 HI hA1
    go_wp2_with fail
    refine (HN.out _).mono ?_
    rintro e w2 ⟨rfl, hb2⟩
    have hB2 := hB1.trans (hb2.mono hB1.size)
    clear hb2
    go_wp2
    go_ret
    exact ⟨rfl, hB2⟩
  | false =>
    rw [hc] at HI
    have HE : Hid (dayR y m d = -1) := Lib.hid (by unfold dayR; rw [hc]; rfl)
    rw [HE.out]
    clear hc HE
    go_enter Tryd.func13, Tryd.ntmps13
    go_wp2_with fail
    refine (HI.out _).mono ?_
    rintro e w1 ⟨rfl, hb1⟩
    have hB1 := hB0.trans (hb1.mono hB0.size)
    go_wp2
    go_ret
    exact ⟨rfl, hB1⟩
end Go.Proofs.YtgimjfffdnopiaaDoor

/- W7f -/
namespace Go.Proofs.YtgimjfffdnopiaaDoor
open Go.ChangeShapes Go.WideShapes Go.ChangeAt Go.RowKit
set_option linter.unusedVariables false

abbrev dC (y m d : Int) : Obj := .cells #[.int .i64 y, .int .i64 m, .int .i64 d] 25
theorem DAt.frozen {w : World} {g : Nat} {y m d : Int} (h : DAt w g y m d) (j : Nat) : w.frozen? ⟨g, j, none⟩ = false := Arr.frozen h j
theorem DAt.s0 {w : World} {g : Nat} {y m d : Int} (h : DAt w g y m d) (x : Int) : DAt (w.setCell ⟨g, 0, none⟩ (.int .i64 x)) g x m d := Arr.set h 0 x
theorem DAt.s1 {w : World} {g : Nat} {y m d : Int} (h : DAt w g y m d) (x : Int) : DAt (w.setCell ⟨g, 1, none⟩ (.int .i64 x)) g y x d := Arr.set h 1 x
theorem DAt.s2 {w : World} {g : Nat} {y m d : Int} (h : DAt w g y m d) (x : Int) : DAt (w.setCell ⟨g, 2, none⟩ (.int .i64 x)) g y m x := Arr.set h 2 x
theorem DAt.other {w : World} {g g' : Nat} {y m d : Int} (h : DAt w g y m d) (j : Nat) (v : Value) (hne : g ≠ g') : DAt (w.setCell ⟨g', j, none⟩ v) g y m d := Arr.other h g' j v hne
theorem DAt.alloc {w : World} {g : Nat} {y m d : Int} (h : DAt w g y m d) (o : Obj) : DAt (w.alloc o) g y m d := Arr.alloc h o

theorem Tryd.infD : (Tryd.prog.info? 25).map (·.size) = some 3 := by kernel_rfl
theorem results_date {fn : Func} {p : Tmp} (h : fn.results = #[.cell p 25]) (tmps : Array Value) (w : World) (g : Nat) (y m d : Int)
    (hp : tmps.getD p undef = .pointer (some ⟨g, 0, none⟩)) (hA : DAt w g y m d) : (results fn tmps).run Tryd.prog w = .ok (dV y m d) w :=
  results_cell_row h tmps w g _ _ _ _ hp hA Tryd.underlying25 rfl Tryd.infD

/-- A date on the way to a day: so many days are left. -/
def Way (n y m r : Int) : Prop := 1970 ≤ y ∧ 1 ≤ m ∧ m ≤ 12 ∧ 0 ≤ r ∧ n = yS y + mS y (m.toNat - 1) + r
theorem Way.first (n : Int) (h : 0 ≤ n) : Way n 1970 1 n := ⟨by omega, by omega, by omega, h, by rw [yS_first]; show n = 0 + 0 + n; omega⟩
theorem Way.month {n y m r : Int} (h : Way n y m r) (hr : dIM y m ≤ r) (hm : m < 12) : Way n y (m + 1) (r - dIM y m) := by
  obtain ⟨h0, h1, h2, h3, h4⟩ := h
  have := mS_last y m h1
  refine ⟨h0, by omega, by omega, by omega, ?_⟩
  rw [show (m + 1).toNat - 1 = m.toNat by omega]
  omega
theorem Way.year {n y m r : Int} (h : Way n y m r) (hr : dIM y m ≤ r) (hm : m = 12) : Way n (y + 1) 1 (r - dIM y m) := by
  obtain ⟨h0, h1, h2, h3, h4⟩ := h
  have a := mS_last y m h1
  have b := yS_succ y
  have c := mS_year y
  have e : m.toNat = 12 := by omega
  rw [e] at a
  refine ⟨by omega, by omega, by omega, by omega, ?_⟩
  show n = yS (y + 1) + 0 + (r - dIM y m)
  rw [e] at h4
  omega
theorem Way.done {n y m r : Int} (h : Way n y m r) (hr : r < dIM y m) : IsD n y m (r + 1) := by
  obtain ⟨h0, h1, h2, h3, h4⟩ := h
  exact ⟨h0, h1, h2, by omega, by omega, by unfold dN; omega⟩
theorem Way.bound {n y m r : Int} (h : Way n y m r) (hn : n ≤ 200000) : y ≤ 2600 ∧ r ≤ 200000 ∧ 0 ≤ r := by
  obtain ⟨h0, h1, h2, h3, h4⟩ := h
  have a := mS_nn y (m.toNat - 1)
  have b := yS_mono 1970 y h0
  have c := yS_first
  refine ⟨?_, by omega, h3⟩
  by_cases e : y ≤ 2600
  · exact e
  · have := yS_mono 2600 y (by omega)
    have : 200000 < yS 2600 := by decide
    omega

set_option maxRecDepth 100000 in
set_option maxHeartbeats 2000000 in
theorem l7Date_any (n : Int) (w : World) (h0 : 0 ≤ n) (h1 : n ≤ 200000) :
    Calls Tryd.prog 47 #[.int .i64 n] w fun e w' => ∃ y m d, e = .returned (dV y m d) ∧ IsD n y m d ∧ Below w.heap.size w w' := by
  have hA := DAt.new (w.alloc (dC 0 0 0)) 1970 1 1
  have hZ := (DAt.new w 0 0 0).alloc (dC 1970 1 1)
  rw [World.size_alloc] at hA
  have hB : Below w.heap.size w ((w.alloc (dC 0 0 0)).alloc (dC 1970 1 1)) := ((Below.refl _ _).alloc (Nat.le_refl _) _).alloc (by simp) _
  go_enter Tryd.func47, Tryd.ntmps47
  go_wp2
  go_loopw [0] (fun s wr => ∃ y m r, s = .int .i64 r ∧ Way n y m r ∧ DAt wr (w.heap.size + 1) y m 1 ∧ DAt wr w.heap.size 0 0 0 ∧ Below w.heap.size w wr) (fun s _ => (intOf s).toNat)
  case atStart => exact ⟨1970, 1, n, rfl, Way.first n h0, hA, hZ, hB⟩
  case round =>
    obtain ⟨y, m, r, rfl, hW, hD, hZ1, hB1⟩ := hrel
    clear hA hZ hB
    have hbd := hW.bound h1
    obtain ⟨w0, w1, w2, _⟩ := id hW
    have HW := Lib.hid hW
    have HD := Lib.hid hD
    have HZ1 := Lib.hid hZ1
    have HB1 := Lib.hid hB1
    have c0 := hD.c0
    have c1 := hD.c1
    have c2 := hD.c2
    have f0 := hD.frozen 0
    have f1 := hD.frozen 1
    have f2 := hD.frozen 2
    have HC := Lib.hid (fun w => l7Days_any y m w (by omega) (by omega))
    have hd := dIM_bd y m
    by_cases hlt : dIM y m ≤ r
    · by_cases hm : m < 12
      · have HN := Lib.hid (hW.month hlt hm)
        generalize dIM y m = X at HC HN hd hlt
        clear hW hD hZ1 hB1
        go_wp2_with fail
        refine (HC.out _).mono ?_
        rintro e v1 ⟨rfl, rfl⟩
        go_wp2_with fail
        refine (HC.out _).mono ?_
        rintro e v1 ⟨rfl, rfl⟩
        go_wp2
        go_roundw
        case rel => exact ⟨y, m + 1, r - X, rfl, HN.out, HD.out.s1 _, HZ1.out.other _ _ (by omega), HB1.out.setCell (p := ⟨w.heap.size + 1, 1, none⟩) (by show w.heap.size ≤ w.heap.size + 1; omega) _⟩
        case measure => simp [intOf]; omega
      · have hm12 : m = 12 := by omega
        have HN := Lib.hid (hW.year hlt hm12)
        subst hm12
        generalize dIM y 12 = X at HC HN hd hlt
        clear hW hD hZ1 hB1 hm
        go_wp2_with fail
        refine (HC.out _).mono ?_
        rintro e v1 ⟨rfl, rfl⟩
        go_wp2_with fail
        refine (HC.out _).mono ?_
        rintro e v1 ⟨rfl, rfl⟩
        go_wp2
        refine ⟨⟨y + 1, 1, r - X, rfl, HN.out, ((HD.out.s1 _).s1 _).s0 _, ((HZ1.out.other _ _ (by omega)).other _ _ (by omega)).other _ _ (by omega), ((HB1.out.setCell (p := ⟨w.heap.size + 1, 1, none⟩) (by show w.heap.size ≤ w.heap.size + 1; omega) _).setCell (p := ⟨w.heap.size + 1, 1, none⟩) (by show w.heap.size ≤ w.heap.size + 1; omega) _).setCell (p := ⟨w.heap.size + 1, 0, none⟩) (by show w.heap.size ≤ w.heap.size + 1; omega) _⟩, ?_⟩
        simp [intOf]; omega
    · have HN := Lib.hid (hW.done (by omega))
      generalize dIM y m = X at HC hd hlt
      have z0 := hZ1.c0
      have z1 := hZ1.c1
      have z2 := hZ1.c2
      have g0 := hZ1.frozen 0
      have g1 := hZ1.frozen 1
      have g2 := hZ1.frozen 2
      clear hW hD hZ1 hB1
      go_wp2_with fail
      refine (HC.out _).mono ?_
      rintro e v1 ⟨rfl, rfl⟩
      go_wp2
      have hF := (((HZ1.out.other 2 (.int .i64 (r + 1)) (show w.heap.size ≠ w.heap.size + 1 by omega)).s0 y).s1 m).s2 (r + 1)
      have hBF := (((HB1.out.setCell (p := ⟨w.heap.size + 1, 2, none⟩) (by show w.heap.size ≤ w.heap.size + 1; omega) (.int .i64 (r + 1))).setCell (p := ⟨w.heap.size, 0, none⟩) (Nat.le_refl _) (.int .i64 y)).setCell (p := ⟨w.heap.size, 1, none⟩) (Nat.le_refl _) (.int .i64 m)).setCell (p := ⟨w.heap.size, 2, none⟩) (Nat.le_refl _) (.int .i64 (r + 1))
      refine bodyPost_ret (results_date rfl _ _ _ _ _ _ rfl hF) rfl ?_
      exact ⟨y, m, r + 1, rfl, HN.out, hBF⟩
end Go.Proofs.YtgimjfffdnopiaaDoor
