/- Parts of the proof. -/
import Derived.Test.YtffkakpbelknaaaGreatDoorO6
import Derived.Test.YtffkakpbelknaaaGreatDoorO8
namespace Go.Proofs.YtffkakpbelknaaaGreatDoor
set_option maxHeartbeats 4000000
set_option maxRecDepth 100000
open Go.ChangeShapes Go.WideShapes Go.ChangeAt Go.RowKit
set_option linter.unusedVariables false
theorem dOk_not {y m d : Int} (h : ¬ (1970 <= y /\ y <= 2517 /\ 1 <= m /\ m <= 12 /\ 1 <= d /\ d <= dIM y m /\ dN y m d <= 200000)) : dOk y m d = false := decide_eq_false h
theorem l1In_true (n lo hi : Int) (w : World) (h : lo <= n /\ n <= hi) : Calls Tryz.prog 88 #[.int .i64 n, .int .i64 lo, .int .i64 hi] w fun e w' => e = .returned (.bool true) /\ w = w' := by
 have := l1In_any n lo hi w
 rwa [decide_eq_true h.1, decide_eq_true h.2] at this
theorem l1In_false (n lo hi : Int) (w : World) (h : ¬ (lo <= n /\ n <= hi)) : Calls Tryz.prog 88 #[.int .i64 n, .int .i64 lo, .int .i64 hi] w fun e w' => e = .returned (.bool false) /\ w = w' := by
 have := l1In_any n lo hi w
 rwa [show (decide (lo <= n) && decide (n <= hi)) = false by simpa using fun h1 => by omega] at this
theorem specDateOk_any (y m d : Int) (w : World) :
  Calls Tryz.prog 128 #[dV y m d] w fun e w' => e = .returned (.bool (dOk y m d)) /\ Below w.heap.size w w' := by
 have HB : Hid (∀ n, Below w.heap.size w ((w.alloc (.cells #[.int .i64 y, .int .i64 m, .int .i64 d] 74)).drewN n)) := Lib.hid (fun n => below_drewN ((Below.refl _ _).alloc (Nat.le_refl _) _) n)
 by_cases c1 : 1970 <= y /\ y <= 2517
 ·have I1 := Lib.hid (fun w => l1In_true y 1970 2517 w c1)
  by_cases c2 : 1 <= m /\ m <= 12
  ·have I2 := Lib.hid (fun w => l1In_true m 1 12 w c2)
   have HD := Lib.hid (fun w => l7Days_any y m w (by omega) (by omega))
   by_cases c3 : 1 <= d /\ d <= dIM y m
   ·have I3 := Lib.hid (fun w => l1In_true d 1 (dIM y m) w c3)
    have hd31 := dIM_bd y m
    have HN := Lib.hid (fun w => l7Day_any y m d w c1.1 c1.2 c2.1 c2.2 c3.1 (by omega))
    have HE : Hid (dOk y m d = decide (dN y m d <= 200000)) := Lib.hid (by unfold dOk; simp [c1, c2, c3])
    have hbd := dN_bd y m d c1.1 (by omega) c2.2 c3.1 (by omega)
    generalize dN y m d = N at HN HE hbd
    generalize dIM y m = D at HD I3
    have hA := DAt.new w y m d
    have hB0 : Below w.heap.size w (w.alloc (.cells #[.int .i64 y, .int .i64 m, .int .i64 d] 74)) := (Below.refl _ _).alloc (Nat.le_refl _) _
    clear c1 c2 c3 hd31
    go_enter Tryz.func128, Tryz.ntmps128
    go_wp2
    generalize w.alloc (.cells #[.int .i64 y, .int .i64 m, .int .i64 d] 74) = W at hA hB0 ⊢
    have hA1 : DAt W.drew w.heap.size y m d := hA
    have hB1 := hB0.drew
    clear hA hB0 HB
    refine wp_region_T (fun w' => DAt w' w.heap.size y m d) (fun _ => True) 23 (by kernel_rfl) 24 rfl ?_
    refine wA 22 [0, 1] ⟨hA1, fun _ => trivial⟩ ?_
    simp only [pick, List.filterMap_cons, List.filterMap_nil, List.getElem?_cons_zero, List.getElem?_cons_succ]
    iterate 1 (refine wpIf_step ?_ (by kernel_rfl) ?_ ?_; rotate_left; (intro w _; go_simp); try with_reducible rfl)
    refine wS (.int .i64 y) (fun w hw => by have h0 := hw.c0; go_simp) ?_
    refine wpIf_nil (fun hS => ?_)
    refine wO 2 21 (fun K hK => ?_)
    go_simp
    refine (I1.out _).mono ?_
    rintro e v1 ⟨rfl, rfl⟩
    refine hK _ _ ⟨hA1, fun _ => trivial⟩ (fun hS3 => ?_)
    clear hK K hS
    refine wA 18 [3, 4, 5] hS3 ?_
    simp only [pick, List.filterMap_cons, List.filterMap_nil, List.getElem?_cons_zero, List.getElem?_cons_succ]
    iterate 2 (refine wpIf_step ?_ (by kernel_rfl) ?_ ?_; rotate_left; (intro w _; go_simp); try with_reducible rfl)
    refine wS (.int .i64 m) (fun w hw => by have h0 := hw.c1; go_simp) ?_
    refine wpIf_nil (fun hS => ?_)
    clear hS3
    refine wO 6 17 (fun K hK => ?_)
    go_simp
    refine (I2.out _).mono ?_
    rintro e v1 ⟨rfl, rfl⟩
    refine hK _ _ ⟨hA1, fun _ => trivial⟩ (fun hS3 => ?_)
    clear hK K hS
    refine wA 9 [7, 8, 9, 10, 11, 12, 13, 14] hS3 ?_
    simp only [pick, List.filterMap_cons, List.filterMap_nil, List.getElem?_cons_zero, List.getElem?_cons_succ]
    iterate 3 (refine wpIf_step ?_ (by kernel_rfl) ?_ ?_; rotate_left; (intro w _; go_simp); try with_reducible rfl)
    refine wS (.int .i64 d) (fun w hw => by have h0 := hw.c2; go_simp) ?_
    iterate 1 (refine wpIf_step ?_ (by kernel_rfl) ?_ ?_; rotate_left; (intro w _; go_simp); try with_reducible rfl)
    refine wS (.int .i64 y) (fun w hw => by have h0 := hw.c0; go_simp) ?_
    iterate 1 (refine wpIf_step ?_ (by kernel_rfl) ?_ ?_; rotate_left; (intro w _; go_simp); try with_reducible rfl)
    refine wS (.int .i64 m) (fun w hw => by have h0 := hw.c1; go_simp) ?_
    refine wpIf_nil (fun hS => ?_)
    clear hS3
    refine wO 15 8 (fun K hK => ?_)
    go_simp
    refine (HD.out _).mono ?_
    rintro e v1 ⟨rfl, rfl⟩
    refine hK _ _ ⟨hA1, fun _ => trivial⟩ (fun hS3 => ?_)
    clear hK K hS
    refine wO 16 7 (fun K hK => ?_)
    go_simp
    refine (I3.out _).mono ?_
    rintro e v1 ⟨rfl, rfl⟩
    refine hK _ _ ⟨hA1, fun _ => trivial⟩ (fun hS4 => ?_)
    clear hK K hS3
    refine wA 4 [17, 18, 19] hS4 ?_
    simp only [pick, List.filterMap_cons, List.filterMap_nil, List.getElem?_cons_zero, List.getElem?_cons_succ]
    iterate 2 (refine wpIf_step ?_ (by kernel_rfl) ?_ ?_; rotate_left; (intro w _; go_simp); try with_reducible rfl)
    refine wS (dV y m d) (fun w hw => by have h0 := hw.c0; have h1 := hw.c1; have h2 := hw.c2; go_simp) ?_
    refine wpIf_nil (fun hS => ?_)
    clear hS4
    refine wO 20 3 (fun K hK => ?_)
    go_simp
    refine (HN.out _).mono ?_
    rintro e v2 ⟨rfl, hb2⟩
    have hA2 := hA1.keep hb2 (Nat.le_refl _)
    have hB2 := hB1.trans (hb2.mono hB1.size)
    refine hK _ _ ⟨hA2, fun _ => trivial⟩ (fun hS4 => ?_)
    clear hK K hS hb2
    refine wA 1 [21, 22] hS4 ?_
    simp only [pick, List.filterMap_cons, List.filterMap_nil, List.getElem?_cons_zero, List.getElem?_cons_succ]
    iterate 2 (refine wpIf_step ?_ (by kernel_rfl) ?_ ?_; rotate_left; (intro w _; go_simp); try with_reducible rfl)
    refine wpIf_nil (fun hS => ?_)
    clear hS4
    refine wO 23 0 (fun K hK => ?_)
    go_simp
    refine hK _ _ ⟨hA2, fun _ => trivial⟩ (fun hS4 => ?_)
    clear hK K
    refine wpAnyT_over (by kernel_rfl) ?_
    go_wp2
    go_ret
    exact ⟨ret_bool HE.out.symm, hB2⟩
   ·have I3 := Lib.hid (fun w => l1In_false d 1 (dIM y m) w c3)
    have HE := Lib.hid (dOk_not (y := y) (m := m) (d := d) (fun h => c3 ⟨h.2.2.2.2.1, h.2.2.2.2.2.1⟩))
    rw [HE.out]
    generalize dIM y m = D at HD I3
    clear c1 c2 c3
    go_enter Tryz.func128, Tryz.ntmps128
    go_wp2
    go_quiet (first | (go_at_call_of 88 (Value.int .i64 y); exact quiet_same (I1.out _)) | (go_at_call_of 88 (Value.int .i64 m); exact quiet_same (I2.out _)) | (go_at_call 98; exact quiet_same (HD.out _)) | (go_at_call 88; exact quiet_same (I3.out _)))
    go_wp2
    go_ret
    exact ⟨rfl, HB.out _⟩
  ·have I2 := Lib.hid (fun w => l1In_false m 1 12 w c2)
   have HE := Lib.hid (dOk_not (y := y) (m := m) (d := d) (fun h => c2 ⟨h.2.2.1, h.2.2.2.1⟩))
   rw [HE.out]
   clear c1 c2
   go_enter Tryz.func128, Tryz.ntmps128
   go_wp2
   go_quiet (first | (go_at_call_of 88 (Value.int .i64 y); exact quiet_same (I1.out _)) | (go_at_call 88; exact quiet_same (I2.out _)))
   go_wp2
   go_ret
   exact ⟨rfl, HB.out _⟩
 ·have I1 := Lib.hid (fun w => l1In_false y 1970 2517 w c1)
  have HE := Lib.hid (dOk_not (y := y) (m := m) (d := d) (fun h => c1 ⟨h.1, h.2.1⟩))
  rw [HE.out]
  clear c1
  go_enter Tryz.func128, Tryz.ntmps128
  go_wp2
  go_quiet ((go_at_call 88; exact quiet_same (I1.out _)))
  go_wp2
  go_ret
  exact ⟨rfl, HB.out _⟩
end Go.Proofs.YtffkakpbelknaaaGreatDoor
namespace Go.Proofs.YtffkakpbelknaaaGreatDoor
open Go.ChangeShapes Go.WideShapes Go.ChangeAt Go.RowKit
set_option linter.unusedVariables false
abbrev dC (y m d : Int) : Obj := .cells #[.int .i64 y, .int .i64 m, .int .i64 d] 74
theorem DAt.frozen {w : World} {g : Nat} {y m d : Int} (h : DAt w g y m d) (j : Nat) : w.frozen? ⟨g, j, none⟩ = false := Arr.frozen h j
theorem DAt.s0 {w : World} {g : Nat} {y m d : Int} (h : DAt w g y m d) (x : Int) : DAt (w.setCell ⟨g, 0, none⟩ (.int .i64 x)) g x m d := Arr.set h 0 x
theorem DAt.s1 {w : World} {g : Nat} {y m d : Int} (h : DAt w g y m d) (x : Int) : DAt (w.setCell ⟨g, 1, none⟩ (.int .i64 x)) g y x d := Arr.set h 1 x
theorem DAt.s2 {w : World} {g : Nat} {y m d : Int} (h : DAt w g y m d) (x : Int) : DAt (w.setCell ⟨g, 2, none⟩ (.int .i64 x)) g y m x := Arr.set h 2 x
theorem DAt.other {w : World} {g g' : Nat} {y m d : Int} (h : DAt w g y m d) (j : Nat) (v : Value) (hne : g ≠ g') : DAt (w.setCell ⟨g', j, none⟩ v) g y m d := Arr.other h g' j v hne
theorem DAt.alloc {w : World} {g : Nat} {y m d : Int} (h : DAt w g y m d) (o : Obj) : DAt (w.alloc o) g y m d := Arr.alloc h o
theorem Tryz.infD : (Tryz.prog.info? 74).map (·.size) = some 3 := by kernel_rfl
theorem results_date {fn : Func} {p : Tmp} (h : fn.results = #[.cell p 74]) (tmps : Array Value) (w : World) (g : Nat) (y m d : Int)
  (hp : tmps.getD p undef = .pointer (some ⟨g, 0, none⟩)) (hA : DAt w g y m d) : (results fn tmps).run Tryz.prog w = .ok (dV y m d) w :=
 results_cell_row h tmps w g _ _ _ _ hp hA Tryz.underlying74 rfl Tryz.infD
def Way (n y m r : Int) : Prop := 1970 <= y /\ 1 <= m /\ m <= 12 /\ 0 <= r /\ n = yS y + mS y (m.toNat - 1) + r
theorem Way.first (n : Int) (h : 0 <= n) : Way n 1970 1 n := ⟨by omega, by omega, by omega, h, by rw [yS_first]; show n = 0 + 0 + n; omega⟩
theorem Way.month {n y m r : Int} (h : Way n y m r) (hr : dIM y m <= r) (hm : m < 12) : Way n y (m + 1) (r - dIM y m) := by
 obtain ⟨h0, h1, h2, h3, h4⟩ := h
 have := mS_last y m h1
 refine ⟨h0, by omega, by omega, by omega, ?_⟩
 rw [show (m + 1).toNat - 1 = m.toNat by omega]
 omega
theorem Way.year {n y m r : Int} (h : Way n y m r) (hr : dIM y m <= r) (hm : m = 12) : Way n (y + 1) 1 (r - dIM y m) := by
 obtain ⟨h0, h1, h2, h3, h4⟩ := h
 have a := mS_last y m h1
 have b := yS_succ y
 have c := mS_year y
 have e : m.toNat = 12 := by omega
 rw [e] at a
 refine ⟨by omega, by omega, by omega, by omega, ?_⟩
 show n = yS (y + 1) + 0 + (r - dIM y m)
 rw [e] at h4
 omega
theorem Way.done {n y m r : Int} (h : Way n y m r) (hr : r < dIM y m) : IsD n y m (r + 1) := by
 obtain ⟨h0, h1, h2, h3, h4⟩ := h
 exact ⟨h0, h1, h2, by omega, by omega, by unfold dN; omega⟩
theorem Way.bound {n y m r : Int} (h : Way n y m r) (hn : n <= 200000) : y <= 2600 /\ r <= 200000 /\ 0 <= r := by
 obtain ⟨h0, h1, h2, h3, h4⟩ := h
 have a := mS_nn y (m.toNat - 1)
 have b := yS_mono 1970 y h0
 have c := yS_first
 refine ⟨?_, by omega, h3⟩
 by_cases e : y <= 2600
 ·exact e
 ·have := yS_mono 2600 y (by omega)
  have : 200000 < yS 2600 := by decide
  omega
theorem l7Date_any (n : Int) (w : World) (h0 : 0 <= n) (h1 : n <= 200000) :
  Calls Tryz.prog 62 #[.int .i64 n] w fun e w' => ∃ y m d, e = .returned (dV y m d) /\ IsD n y m d /\ Below w.heap.size w w' := by
 have hA := DAt.new (w.alloc (dC 0 0 0)) 1970 1 1
 have hZ := (DAt.new w 0 0 0).alloc (dC 1970 1 1)
 rw [World.size_alloc] at hA
 have hB : Below w.heap.size w ((w.alloc (dC 0 0 0)).alloc (dC 1970 1 1)) := ((Below.refl _ _).alloc (Nat.le_refl _) _).alloc (by simp) _
 go_enter Tryz.func62, Tryz.ntmps62
 go_wp2
 go_loopw [0] (fun s wr => ∃ y m r, s = .int .i64 r /\ Way n y m r /\ DAt wr (w.heap.size + 1) y m 1 /\ DAt wr w.heap.size 0 0 0 /\ Below w.heap.size w wr) (fun s _ => (intOf s).toNat)
 case atStart => exact ⟨1970, 1, n, rfl, Way.first n h0, hA, hZ, hB⟩
 case round =>
  obtain ⟨y, m, r, rfl, hW, hD, hZ1, hB1⟩ := hrel
  clear hA hZ hB
  have hbd := hW.bound h1
  obtain ⟨w0, w1, w2, _⟩ := id hW
  have HW := Lib.hid hW
  have HD := Lib.hid hD
  have HZ1 := Lib.hid hZ1
  have HB1 := Lib.hid hB1
  have c0 := hD.c0
  have c1 := hD.c1
  have c2 := hD.c2
  have f0 := hD.frozen 0
  have f1 := hD.frozen 1
  have f2 := hD.frozen 2
  have HC := Lib.hid (fun w => l7Days_any y m w (by omega) (by omega))
  have hd := dIM_bd y m
  by_cases hlt : dIM y m <= r
  ·by_cases hm : m < 12
   ·have HN := Lib.hid (hW.month hlt hm)
    generalize dIM y m = X at HC HN hd hlt
    clear hW hD hZ1 hB1
    go_wp2_with fail
    refine (HC.out _).mono ?_
    rintro e v1 ⟨rfl, rfl⟩
    go_wp2_with fail
    refine (HC.out _).mono ?_
    rintro e v1 ⟨rfl, rfl⟩
    go_wp2
    go_roundw
    case rel => exact ⟨y, m + 1, r - X, rfl, HN.out, HD.out.s1 _, HZ1.out.other _ _ (by omega), HB1.out.setCell (p := ⟨w.heap.size + 1, 1, none⟩) (by show w.heap.size <= w.heap.size + 1; omega) _⟩
    case measure => simp [intOf]; omega
   ·have hm12 : m = 12 := by omega
    have HN := Lib.hid (hW.year hlt hm12)
    subst hm12
    generalize dIM y 12 = X at HC HN hd hlt
    clear hW hD hZ1 hB1 hm
    go_wp2_with fail
    refine (HC.out _).mono ?_
    rintro e v1 ⟨rfl, rfl⟩
    go_wp2_with fail
    refine (HC.out _).mono ?_
    rintro e v1 ⟨rfl, rfl⟩
    go_wp2
    refine ⟨⟨y + 1, 1, r - X, rfl, HN.out, ((HD.out.s1 _).s1 _).s0 _, ((HZ1.out.other _ _ (by omega)).other _ _ (by omega)).other _ _ (by omega), ((HB1.out.setCell (p := ⟨w.heap.size + 1, 1, none⟩) (by show w.heap.size <= w.heap.size + 1; omega) _).setCell (p := ⟨w.heap.size + 1, 1, none⟩) (by show w.heap.size <= w.heap.size + 1; omega) _).setCell (p := ⟨w.heap.size + 1, 0, none⟩) (by show w.heap.size <= w.heap.size + 1; omega) _⟩, ?_⟩
    simp [intOf]; omega
  ·have HN := Lib.hid (hW.done (by omega))
   generalize dIM y m = X at HC hd hlt
   have z0 := hZ1.c0
   have z1 := hZ1.c1
   have z2 := hZ1.c2
   have g0 := hZ1.frozen 0
   have g1 := hZ1.frozen 1
   have g2 := hZ1.frozen 2
   clear hW hD hZ1 hB1
   go_wp2_with fail
   refine (HC.out _).mono ?_
   rintro e v1 ⟨rfl, rfl⟩
   go_wp2
   have hF := (((HZ1.out.other 2 (.int .i64 (r + 1)) (show w.heap.size ≠ w.heap.size + 1 by omega)).s0 y).s1 m).s2 (r + 1)
   have hBF := (((HB1.out.setCell (p := ⟨w.heap.size + 1, 2, none⟩) (by show w.heap.size <= w.heap.size + 1; omega) (.int .i64 (r + 1))).setCell (p := ⟨w.heap.size, 0, none⟩) (Nat.le_refl _) (.int .i64 y)).setCell (p := ⟨w.heap.size, 1, none⟩) (Nat.le_refl _) (.int .i64 m)).setCell (p := ⟨w.heap.size, 2, none⟩) (Nat.le_refl _) (.int .i64 (r + 1))
   refine bodyPost_ret (results_date rfl _ _ _ _ _ _ rfl hF) rfl ?_
   exact ⟨y, m, r + 1, rfl, HN.out, hBF⟩
end Go.Proofs.YtffkakpbelknaaaGreatDoor
namespace Go.Proofs.YtffkakpbelknaaaGreatDoor
open Go.ChangeShapes Go.WideShapes Go.ChangeAt Go.RowKit
set_option linter.unusedVariables false
theorem yS_under : ∀ k : Nat, yS (1970 + (k : Int)) <= 366 * (k : Int)
 | 0 => by show yS 1970 <= 0; rw [yS_first]; omega
 | k + 1 => by
  have := yS_under k
  have e := yS_succ (1970 + (k : Int))
  have b := lpD_bd (1970 + (k : Int))
  rw [show (1970 + ((k + 1 : Nat) : Int)) = 1970 + (k : Int) + 1 by omega]
  omega
theorem year_bound (Y n : Int) (h0 : 1970 <= Y) (h : yS Y <= n) (hn : n <= 200000) : Y <= 2600 /\ 0 <= yS Y := by
 have b := yS_mono 1970 Y h0
 have c := yS_first
 refine ⟨?_, by omega⟩
 by_cases e : Y <= 2600
 ·exact e
 ·have := yS_mono 2600 Y (by omega)
  have : 200000 < yS 2600 := by decide
  omega
def dayIn (w : World) (g : Nat) : Nat := match w.cell? ⟨g, 2, none⟩ with | some (.int _ d) => d.toNat | _ => 0
theorem dayIn_at {w : World} {g : Nat} {y m d : Int} (h : DAt w g y m d) : dayIn w g = d.toNat := by unfold dayIn; rw [h.c2]
theorem implDateOf_in (n : Int) (w : World) (h0 : 0 <= n) (h1 : n <= 200000) (hM : MTab w) :
  Calls Tryz.prog 110 #[.int .i64 n] w fun e w' => ∃ y m d, e = .returned (dV y m d) /\ IsD n y m d /\ Below w.heap.size w w' := by
 have HI := Lib.hid (fun w => isDay_any n w)
 rw [decide_eq_true h0, decide_eq_true h1] at HI
 have HM := Lib.hid hM
 have HZ := Lib.hid (DAt.new w 0 0 0)
 have HB : Hid (Below w.heap.size w (w.alloc (dC 0 0 0))) := Lib.hid ((Below.refl _ _).alloc (Nat.le_refl _) _)
 obtain ⟨N, rfl⟩ := Int.eq_ofNat_of_zero_le h0
 have HS : Hid (yS (1970 + (N : Int) / 366) <= (N : Int)) := Lib.hid (by
  have := yS_under (N / 366)
  rw [show ((N / 366 : Nat) : Int) = (N : Int) / 366 by omega] at this
  omega)
 have hq : 0 <= (N : Int) / 366 /\ (N : Int) / 366 <= 600 := by omega
 clear hM
 go_enter Tryz.func110, Tryz.ntmps110
 go_wp2_with fail
 refine (HI.out _).mono ?_
 rintro e w1 ⟨rfl, rfl⟩
 go_wp2
 generalize (N : Int) / 366 = Q at HS hq ⊢
 go_loop [3] (fun s => ∃ Y : Int, 1970 <= Y /\ yS Y <= N /\ s = .int .i64 Y) (fun s => 3000 - (intOf s).toNat)
 case atStart => exact ⟨1970 + Q, by omega, HS.out, rfl⟩
 case round =>
  obtain ⟨Y, hY0, hY1, rfl⟩ := hrel
  have hb := year_bound Y N hY0 hY1 h1
  have HY := Lib.hid (fun w => yearStart_any (Y + 1) w (by omega) (by omega))
  have HYs := Lib.hid (yS_succ Y)
  have hlb := lpD_bd Y
  by_cases hlt : yS (Y + 1) <= N
  ·generalize hYe : yS (Y + 1) = T at HY hlt
   have HT := Lib.hid hYe
   clear hYe
   go_wp2_with fail
   refine (HY.out _).mono ?_
   rintro e w1 ⟨rfl, rfl⟩
   go_wp2
   refine ⟨⟨Y + 1, by omega, by rw [HT.out]; exact hlt, rfl⟩, ?_⟩
   simp [intOf]; omega
  ·have HL : Hid ((N : Int) < yS (Y + 1)) := Lib.hid (by omega)
   have HY2 := Lib.hid (fun w => yearStart_any Y w (by omega) (by omega))
   have HW : Hid (Way N Y 1 ((N : Int) - yS Y)) := Lib.hid ⟨hY0, by omega, by omega, by omega, by show (N : Int) = yS Y + 0 + (N - yS Y); omega⟩
   generalize yS (Y + 1) = T at HY hlt
   have hyb : 0 <= yS Y /\ yS Y <= 200000 := by omega
   generalize yS Y = S at HY2 HW hyb
   have hY2600 := hb.1
   clear hb hY1 HS hq
   go_wp2_with fail
   refine (HY.out _).mono ?_
   rintro e w1 ⟨rfl, rfl⟩
   go_wp2_with fail
   refine (HY2.out _).mono ?_
   rintro e w1 ⟨rfl, rfl⟩
   have hA := DAt.new (w.alloc (dC 0 0 0)) Y 1 ((N : Int) - S + 1)
   rw [World.size_alloc] at hA
   have hZ := HZ.out.alloc (dC Y 1 ((N : Int) - S + 1))
   have hB := HB.out.alloc (by simp) (dC Y 1 ((N : Int) - S + 1))
   go_wp2
   go_loopw [26] (fun _ wr => ∃ m r, Way N Y m r /\ DAt wr (w.heap.size + 1) Y m (r + 1) /\ DAt wr w.heap.size 0 0 0 /\ Below w.heap.size w wr) (fun _ wr => dayIn wr (w.heap.size + 1))
   case atStart => exact ⟨1, (N : Int) - S, HW.out, hA, hZ, hB⟩
   case round =>
    obtain ⟨m, r, hW, hD, hZ1, hB1⟩ := hrel
    clear hA hZ hB
    have hbd := hW.bound h1
    obtain ⟨_, w1, w2, w3, w4⟩ := id hW
    have HD := Lib.hid hD
    have HZ1 := Lib.hid hZ1
    have HB1 := Lib.hid hB1
    have HM1 := Lib.hid (HM.out.below hB1 (Nat.le_refl _))
    have HMB : Hid (∀ v, MTab v -> Calls Tryz.prog 140 #[.int .i64 Y, .int .i64 m] v fun e w' => e = .returned (.int .i64 (dIM Y m)) /\ v = w') := Lib.hid (fun v hv => daysIn_any Y m v (by omega) (by omega) w1 w2 hv)
    have hd := dIM_bd Y m
    have c0 := hD.c0
    have c1 := hD.c1
    have c2 := hD.c2
    by_cases hlt : dIM Y m < r + 1
    ·have hm12 : m < 12 := by
      have a := mS_last Y m w1
      have b := mS_up Y m.toNat 12 (by omega)
      have c := mS_year Y
      have e := HYs.out
      have l := HL.out
      by_cases hm : m < 12
      ·exact hm
      ·have : m.toNat = 12 := by omega
       rw [this] at a w4
       omega
     have HN := Lib.hid (hW.month (by omega) hm12)
     generalize dIM Y m = X at HMB HN hd hlt
     clear hW hD hZ1 hB1 w4
     go_wp2
     go_quiet ((go_at_call 140; exact quiet_same (HMB.out _ (HM1.out.drewN _))))
     go_wp2
     have hD2 : DAt (wr.drewN nq).drew (w.heap.size + 1) Y m (r + 1) := HD.out
     have hM2 : MTab (wr.drewN nq).drew := HM1.out
     refine wp_region_T (fun _ => True) (fun w' => DAt w' (w.heap.size + 1) Y m (r + 1) /\ MTab w') 9 (by kernel_rfl) 10 rfl ?_
     refine wpAnyT_takesB (md := .any) 4 (by kernel_rfl) (by intro d v c a w h; cases d <;> exact h) [0, 1, 2, 3, 4, 5] _ _ _ (by decide) (by kernel_rfl) (by kernel_rfl) (by kernel_rfl) ⟨trivial, fun _ => ⟨hD2, hM2⟩⟩ ?_
     simp only [pick, List.filterMap_cons, List.filterMap_nil, List.getElem?_cons_zero, List.getElem?_cons_succ]
     iterate 1 (refine wpIf_step ?_ (by kernel_rfl) ?_ ?_; rotate_left; (intro w _; go_simp); try with_reducible rfl)
     refine wS (.int .i64 (r + 1)) (fun w hw => by have h0 := hw.2.1.c2; go_simp) ?_
     iterate 1 (refine wpIf_step ?_ (by kernel_rfl) ?_ ?_; rotate_left; (intro w _; go_simp); try with_reducible rfl)
     refine wS (.int .i64 Y) (fun w hw => by have h0 := hw.2.1.c0; go_simp) ?_
     iterate 1 (refine wpIf_step ?_ (by kernel_rfl) ?_ ?_; rotate_left; (intro w _; go_simp); try with_reducible rfl)
     refine wS (.int .i64 m) (fun w hw => by have h0 := hw.2.1.c1; go_simp) ?_
     refine wpIf_nil (fun hS => ?_)
     refine wO 6 3 (fun K hK => ?_)
     go_simp
     refine (HMB.out _ hM2).mono ?_
     rintro e v1 ⟨rfl, rfl⟩
     refine hK _ _ ⟨trivial, fun _ => ⟨hD2, hM2⟩⟩ (fun hS3 => ?_)
     clear hK K hS
     refine wpAnyT_takesB (md := .any) 1 (by kernel_rfl) (by intro d v c a w h; cases d <;> exact h) [7, 8] _ _ _ (by decide) (by kernel_rfl) (by kernel_rfl) (by kernel_rfl) hS3 ?_
     simp only [pick, List.filterMap_cons, List.filterMap_nil, List.getElem?_cons_zero, List.getElem?_cons_succ]
     iterate 2 (refine wpIf_step ?_ (by kernel_rfl) ?_ ?_; rotate_left; (intro w _; go_simp); try with_reducible rfl)
     refine wpIf_nil (fun hS => ?_)
     clear hS3 hS
     have k2 := hD2.c2
     have g2 := hD2.frozen 2
     have g2w := HD.out.frozen 2
     refine wO 9 0 (fun K hK => ?_)
     go_simp
     refine hK _ _ ⟨trivial, fun h => by cases h⟩ (fun hS4 => ?_)
     clear hK K hS4 k2 g2
     refine wpAnyT_over (by kernel_rfl) ?_
     have hD3 := hD2.s2 (r + 1 - X)
     have k1 := hD3.c1
     have g1 := hD3.frozen 1
     have g1w := HD.out.frozen 1
     clear hD3 hD2 hM2
     go_wp2
     have e0 : DAt (wr.drewN (nq + 1)) (w.heap.size + 1) Y m (r + 1) := HD.out
     have e1 : DAt (wr.drewN (nq + 1)) w.heap.size 0 0 0 := HZ1.out
     have e2 := below_drewN HB1.out (nq + 1)
     have hF := (e0.s2 (r + 1 - X)).s1 (m + 1)
     refine ⟨⟨m + 1, r - X, HN.out, ?_, (e1.other _ _ (by omega)).other _ _ (by omega), (e2.setCell (p := ⟨w.heap.size + 1, 2, none⟩) (by show w.heap.size <= w.heap.size + 1; omega) _).setCell (p := ⟨w.heap.size + 1, 1, none⟩) (by show w.heap.size <= w.heap.size + 1; omega) _⟩, ?_⟩
     ·rw [show r - X + 1 = r + 1 - X by omega]; exact hF
     ·rw [dayIn_at hF, dayIn_at HD.out]; omega
    ·have HN := Lib.hid (hW.done (by omega))
     generalize dIM Y m = X at HMB hd hlt
     clear hW hD hZ1 hB1 w4
     go_wp2
     go_quiet ((go_at_call 140; exact quiet_same (HMB.out _ (HM1.out.drewN _))))
     have hD2 : DAt (wr.drewN nq) (w.heap.size + 1) Y m (r + 1) := HD.out
     have hZ2 : DAt (wr.drewN nq) w.heap.size 0 0 0 := HZ1.out
     have hB2 := below_drewN HB1.out nq
     generalize wr.drewN nq = V at hD2 hZ2 hB2 ⊢
     have d0 := hD2.c0
     have d1 := hD2.c1
     have d2 := hD2.c2
     have z0 := hZ2.c0
     have z1 := hZ2.c1
     have z2 := hZ2.c2
     have g0 := hZ2.frozen 0
     have g1 := hZ2.frozen 1
     have g2 := hZ2.frozen 2
     have HF := Lib.hid (((hZ2.s0 Y).s1 m).s2 (r + 1))
     have HBF := Lib.hid (((hB2.setCell (p := ⟨w.heap.size, 0, none⟩) (Nat.le_refl _) (.int .i64 Y)).setCell (p := ⟨w.heap.size, 1, none⟩) (Nat.le_refl _) (.int .i64 m)).setCell (p := ⟨w.heap.size, 2, none⟩) (Nat.le_refl _) (.int .i64 (r + 1)))
     clear hD2 hZ2 hB2
     go_wp2
     refine bodyPost_ret (results_date rfl _ _ _ _ _ _ rfl HF.out) rfl ?_
     exact ⟨Y, m, r + 1, rfl, HN.out, HBF.out⟩
noncomputable def dateR (n : Int) : Int × Int × Int := open Classical in if h : 0 <= n /\ n <= 200000 /\ ∃ t : Int × Int × Int, IsD n t.1 t.2.1 t.2.2 then Classical.choose h.2.2 else (0, 0, 0)
theorem dateR_is {n y m d : Int} (h0 : 0 <= n) (h1 : n <= 200000) (h : IsD n y m d) : dateR n = (y, m, d) := by
 have hx : 0 <= n /\ n <= 200000 /\ ∃ t : Int × Int × Int, IsD n t.1 t.2.1 t.2.2 := ⟨h0, h1, (y, m, d), h⟩
 unfold dateR
 rw [dif_pos hx]
 have hs := Classical.choose_spec hx.2.2
 obtain ⟨e1, e2, e3⟩ := isD_uniq hs h
 exact Prod.ext e1 (Prod.ext e2 e3)
theorem dateR_not {n : Int} (h : ¬ (0 <= n /\ n <= 200000)) : dateR n = (0, 0, 0) := by
 unfold dateR
 rw [dif_neg (fun hx => h ⟨hx.1, hx.2.1⟩)]
noncomputable abbrev dateV (n : Int) : Value := dV (dateR n).1 (dateR n).2.1 (dateR n).2.2
theorem implDateOf_any (n : Int) (w : World) (hM : MTab w) :
  Calls Tryz.prog 110 #[.int .i64 n] w fun e w' => e = .returned (dateV n) /\ Below w.heap.size w w' := by
 by_cases h : 0 <= n /\ n <= 200000
 ·refine (implDateOf_in n w h.1 h.2 hM).mono ?_
  rintro e w' ⟨y, m, d, rfl, hd, hb⟩
  have hv : dateV n = dV y m d := by unfold dateV; rw [dateR_is h.1 h.2 hd]
  rw [hv]
  exact ⟨rfl, hb⟩
 ·have HI := Lib.hid (fun w => isDay_any n w)
  rw [show (decide (0 <= n) && decide (n <= 200000)) = false by simpa using fun h1 => by omega] at HI
  have hv : dateV n = dV 0 0 0 := by unfold dateV; rw [dateR_not h]
  rw [hv]
  have HF := Lib.hid (DAt.new w 0 0 0)
  have HB := Lib.hid ((Below.refl w.heap.size w).alloc (Nat.le_refl _) (dC 0 0 0))
  clear h hM hv
  go_enter Tryz.func110, Tryz.ntmps110
  go_wp2_with fail
  refine (HI.out _).mono ?_
  rintro e w1 ⟨rfl, rfl⟩
  go_wp2
  refine bodyPost_ret (results_date rfl _ _ _ _ _ _ rfl HF.out) rfl ?_
  exact ⟨rfl, HB.out⟩
end Go.Proofs.YtffkakpbelknaaaGreatDoor
