/- Joined: W7e, W7f, W7g, W3e. -/
import Derived.IntWalk
import Derived.Test.YtfjaincogbdeiaaGreatDoorH6
import Derived.Test.YtfjaincogbdeiaaGreatDoorH8
import Derived.Test.YtfjaincogbdeiaaGreatDoorH35
/- W7e -/
namespace Go.Proofs.YtfjaincogbdeiaaGreatDoor
open Go.ChangeShapes Go.WideShapes Go.ChangeAt Go.RowKit
set_option linter.unusedVariables false

theorem dOk_not {y m d : Int} (h : ¬ (1970 ≤ y ∧ y ≤ 2517 ∧ 1 ≤ m ∧ m ≤ 12 ∧ 1 ≤ d ∧ d ≤ dIM y m ∧ dN y m d ≤ 200000)) : dOk y m d = false := decide_eq_false h
theorem l1In_true (n lo hi : Int) (w : World) (h : lo ≤ n ∧ n ≤ hi) : Calls Tryz.prog 16 #[.int .i64 n, .int .i64 lo, .int .i64 hi] w fun e w' => e = .returned (.bool true) ∧ w = w' := by
  have := l1In_any n lo hi w
  rwa [decide_eq_true h.1, decide_eq_true h.2] at this
theorem l1In_false (n lo hi : Int) (w : World) (h : ¬ (lo ≤ n ∧ n ≤ hi)) : Calls Tryz.prog 16 #[.int .i64 n, .int .i64 lo, .int .i64 hi] w fun e w' => e = .returned (.bool false) ∧ w = w' := by
  have := l1In_any n lo hi w
  rwa [show (decide (lo ≤ n) && decide (n ≤ hi)) = false by simpa using fun h1 => by omega] at this

end Go.Proofs.YtfjaincogbdeiaaGreatDoor

/- W7f -/
namespace Go.Proofs.YtfjaincogbdeiaaGreatDoor
open Go.ChangeShapes Go.WideShapes Go.ChangeAt Go.RowKit
set_option linter.unusedVariables false

abbrev dC (y m d : Int) : Obj := .cells #[.int .i64 y, .int .i64 m, .int .i64 d] 86
theorem DAt.frozen {w : World} {g : Nat} {y m d : Int} (h : DAt w g y m d) (j : Nat) : w.frozen? ⟨g, j, none⟩ = false := Arr.frozen h j
theorem DAt.s0 {w : World} {g : Nat} {y m d : Int} (h : DAt w g y m d) (x : Int) : DAt (w.setCell ⟨g, 0, none⟩ (.int .i64 x)) g x m d := Arr.set h 0 x
theorem DAt.s1 {w : World} {g : Nat} {y m d : Int} (h : DAt w g y m d) (x : Int) : DAt (w.setCell ⟨g, 1, none⟩ (.int .i64 x)) g y x d := Arr.set h 1 x
theorem DAt.s2 {w : World} {g : Nat} {y m d : Int} (h : DAt w g y m d) (x : Int) : DAt (w.setCell ⟨g, 2, none⟩ (.int .i64 x)) g y m x := Arr.set h 2 x
theorem DAt.other {w : World} {g g' : Nat} {y m d : Int} (h : DAt w g y m d) (j : Nat) (v : Value) (hne : g ≠ g') : DAt (w.setCell ⟨g', j, none⟩ v) g y m d := Arr.other h g' j v hne
theorem DAt.alloc {w : World} {g : Nat} {y m d : Int} (h : DAt w g y m d) (o : Obj) : DAt (w.alloc o) g y m d := Arr.alloc h o

theorem Tryz.infD : (Tryz.prog.info? 86).map (·.size) = some 3 := by kernel_rfl
theorem results_date {fn : Func} {p : Tmp} (h : fn.results = #[.cell p 86]) (tmps : Array Value) (w : World) (g : Nat) (y m d : Int)
    (hp : tmps.getD p undef = .pointer (some ⟨g, 0, none⟩)) (hA : DAt w g y m d) : (results fn tmps).run Tryz.prog w = .ok (dV y m d) w :=
  results_cell_row h tmps w g _ _ _ _ hp hA Tryz.underlying86 rfl Tryz.infD

/-- A date on the way to a day: so many days are left. -/
def Way (n y m r : Int) : Prop := 1970 ≤ y ∧ 1 ≤ m ∧ m ≤ 12 ∧ 0 ≤ r ∧ n = yS y + mS y (m.toNat - 1) + r
theorem Way.first (n : Int) (h : 0 ≤ n) : Way n 1970 1 n := ⟨by omega, by omega, by omega, h, by rw [yS_first]; show n = 0 + 0 + n; omega⟩
theorem Way.month {n y m r : Int} (h : Way n y m r) (hr : dIM y m ≤ r) (hm : m < 12) : Way n y (m + 1) (r - dIM y m) := by
  obtain ⟨h0, h1, h2, h3, h4⟩ := h
  have := mS_last y m h1
  refine ⟨h0, by omega, by omega, by omega, ?_⟩
  rw [show (m + 1).toNat - 1 = m.toNat by omega]
  omega
theorem Way.year {n y m r : Int} (h : Way n y m r) (hr : dIM y m ≤ r) (hm : m = 12) : Way n (y + 1) 1 (r - dIM y m) := by
  obtain ⟨h0, h1, h2, h3, h4⟩ := h
  have a := mS_last y m h1
  have b := yS_succ y
  have c := mS_year y
  have e : m.toNat = 12 := by omega
  rw [e] at a
  refine ⟨by omega, by omega, by omega, by omega, ?_⟩
  show n = yS (y + 1) + 0 + (r - dIM y m)
  rw [e] at h4
  omega
theorem Way.done {n y m r : Int} (h : Way n y m r) (hr : r < dIM y m) : IsD n y m (r + 1) := by
  obtain ⟨h0, h1, h2, h3, h4⟩ := h
  exact ⟨h0, h1, h2, by omega, by omega, by unfold dN; omega⟩
theorem Way.bound {n y m r : Int} (h : Way n y m r) (hn : n ≤ 200000) : y ≤ 2600 ∧ r ≤ 200000 ∧ 0 ≤ r := by
  obtain ⟨h0, h1, h2, h3, h4⟩ := h
  have a := mS_nn y (m.toNat - 1)
  have b := yS_mono 1970 y h0
  have c := yS_first
  refine ⟨?_, by omega, h3⟩
  by_cases e : y ≤ 2600
  · exact e
  · have := yS_mono 2600 y (by omega)
    have : 200000 < yS 2600 := by decide
    omega

set_option maxRecDepth 100000 in
set_option maxHeartbeats 2000000 in
theorem l7Date_any (n : Int) (w : World) (h0 : 0 ≤ n) (h1 : n ≤ 200000) :
    Calls Tryz.prog 65 #[.int .i64 n] w fun e w' => ∃ y m d, e = .returned (dV y m d) ∧ IsD n y m d ∧ Below w.heap.size w w' := by
  have hA := DAt.new (w.alloc (dC 0 0 0)) 1970 1 1
  have hZ := (DAt.new w 0 0 0).alloc (dC 1970 1 1)
  rw [World.size_alloc] at hA
  have hB : Below w.heap.size w ((w.alloc (dC 0 0 0)).alloc (dC 1970 1 1)) := ((Below.refl _ _).alloc (Nat.le_refl _) _).alloc (by simp) _
  go_enter Tryz.func65, Tryz.ntmps65
  go_wp2
  go_loopw [0] (fun s wr => ∃ y m r, s = .int .i64 r ∧ Way n y m r ∧ DAt wr (w.heap.size + 1) y m 1 ∧ DAt wr w.heap.size 0 0 0 ∧ Below w.heap.size w wr) (fun s _ => (intOf s).toNat)
  case atStart => exact ⟨1970, 1, n, rfl, Way.first n h0, hA, hZ, hB⟩
  case round =>
    obtain ⟨y, m, r, rfl, hW, hD, hZ1, hB1⟩ := hrel
    clear hA hZ hB
    have hbd := hW.bound h1
    obtain ⟨w0, w1, w2, _⟩ := id hW
    have HW := Lib.hid hW
    have HD := Lib.hid hD
    have HZ1 := Lib.hid hZ1
    have HB1 := Lib.hid hB1
    have c0 := hD.c0
    have c1 := hD.c1
    have c2 := hD.c2
    have f0 := hD.frozen 0
    have f1 := hD.frozen 1
    have f2 := hD.frozen 2
    have HC := Lib.hid (fun w => l7Days_any y m w (by omega) (by omega))
    have hd := dIM_bd y m
    by_cases hlt : dIM y m ≤ r
    · by_cases hm : m < 12
      · have HN := Lib.hid (hW.month hlt hm)
        generalize dIM y m = X at HC HN hd hlt
        clear hW hD hZ1 hB1
        go_wp2_with fail
        refine (HC.out _).mono ?_
        rintro e v1 ⟨rfl, rfl⟩
        go_wp2_with fail
        refine (HC.out _).mono ?_
        rintro e v1 ⟨rfl, rfl⟩
        go_wp2
        go_roundw
        case rel => exact ⟨y, m + 1, r - X, rfl, HN.out, HD.out.s1 _, HZ1.out.other _ _ (by omega), HB1.out.setCell (p := ⟨w.heap.size + 1, 1, none⟩) (by show w.heap.size ≤ w.heap.size + 1; omega) _⟩
        case measure => simp [intOf]; omega
      · have hm12 : m = 12 := by omega
        have HN := Lib.hid (hW.year hlt hm12)
        subst hm12
        generalize dIM y 12 = X at HC HN hd hlt
        clear hW hD hZ1 hB1 hm
        go_wp2_with fail
        refine (HC.out _).mono ?_
        rintro e v1 ⟨rfl, rfl⟩
        go_wp2_with fail
        refine (HC.out _).mono ?_
        rintro e v1 ⟨rfl, rfl⟩
        go_wp2
        refine ⟨⟨y + 1, 1, r - X, rfl, HN.out, ((HD.out.s1 _).s1 _).s0 _, ((HZ1.out.other _ _ (by omega)).other _ _ (by omega)).other _ _ (by omega), ((HB1.out.setCell (p := ⟨w.heap.size + 1, 1, none⟩) (by show w.heap.size ≤ w.heap.size + 1; omega) _).setCell (p := ⟨w.heap.size + 1, 1, none⟩) (by show w.heap.size ≤ w.heap.size + 1; omega) _).setCell (p := ⟨w.heap.size + 1, 0, none⟩) (by show w.heap.size ≤ w.heap.size + 1; omega) _⟩, ?_⟩
        simp [intOf]; omega
    · have HN := Lib.hid (hW.done (by omega))
      generalize dIM y m = X at HC hd hlt
      have z0 := hZ1.c0
      have z1 := hZ1.c1
      have z2 := hZ1.c2
      have g0 := hZ1.frozen 0
      have g1 := hZ1.frozen 1
      have g2 := hZ1.frozen 2
      clear hW hD hZ1 hB1
      go_wp2_with fail
      refine (HC.out _).mono ?_
      rintro e v1 ⟨rfl, rfl⟩
      go_wp2
      have hF := (((HZ1.out.other 2 (.int .i64 (r + 1)) (show w.heap.size ≠ w.heap.size + 1 by omega)).s0 y).s1 m).s2 (r + 1)
      have hBF := (((HB1.out.setCell (p := ⟨w.heap.size + 1, 2, none⟩) (by show w.heap.size ≤ w.heap.size + 1; omega) (.int .i64 (r + 1))).setCell (p := ⟨w.heap.size, 0, none⟩) (Nat.le_refl _) (.int .i64 y)).setCell (p := ⟨w.heap.size, 1, none⟩) (Nat.le_refl _) (.int .i64 m)).setCell (p := ⟨w.heap.size, 2, none⟩) (Nat.le_refl _) (.int .i64 (r + 1))
      refine bodyPost_ret (results_date rfl _ _ _ _ _ _ rfl hF) rfl ?_
      exact ⟨y, m, r + 1, rfl, HN.out, hBF⟩
end Go.Proofs.YtfjaincogbdeiaaGreatDoor

/- W7g -/
namespace Go.Proofs.YtfjaincogbdeiaaGreatDoor
open Go.ChangeShapes Go.WideShapes Go.ChangeAt Go.RowKit
set_option linter.unusedVariables false

theorem yS_under : ∀ k : Nat, yS (1970 + (k : Int)) ≤ 366 * (k : Int)
  | 0 => by show yS 1970 ≤ 0; rw [yS_first]; omega
  | k + 1 => by
    have := yS_under k
    have e := yS_succ (1970 + (k : Int))
    have b := lpD_bd (1970 + (k : Int))
    rw [show (1970 + ((k + 1 : Nat) : Int)) = 1970 + (k : Int) + 1 by omega]
    omega
theorem year_bound (Y n : Int) (h0 : 1970 ≤ Y) (h : yS Y ≤ n) (hn : n ≤ 200000) : Y ≤ 2600 ∧ 0 ≤ yS Y := by
  have b := yS_mono 1970 Y h0
  have c := yS_first
  refine ⟨?_, by omega⟩
  by_cases e : Y ≤ 2600
  · exact e
  · have := yS_mono 2600 Y (by omega)
    have : 200000 < yS 2600 := by decide
    omega
/-- The day of a block's date. -/
def dayIn (w : World) (g : Nat) : Nat := match w.cell? ⟨g, 2, none⟩ with | some (.int _ d) => d.toNat | _ => 0
theorem dayIn_at {w : World} {g : Nat} {y m d : Int} (h : DAt w g y m d) : dayIn w g = d.toNat := by unfold dayIn; rw [h.c2]

set_option maxRecDepth 100000 in
set_option maxHeartbeats 3000000 in
theorem implDateOf_in (n : Int) (w : World) (h0 : 0 ≤ n) (h1 : n ≤ 200000) (hM : MTab w) :
    Calls Tryz.prog 105 #[.int .i64 n] w fun e w' => ∃ y m d, e = .returned (dV y m d) ∧ IsD n y m d ∧ Below w.heap.size w w' := by
  have HI := Lib.hid (fun w => isDay_any n w)
  rw [decide_eq_true h0, decide_eq_true h1] at HI
  have HM := Lib.hid hM
  have HZ := Lib.hid (DAt.new w 0 0 0)
  have HB : Hid (Below w.heap.size w (w.alloc (dC 0 0 0))) := Lib.hid ((Below.refl _ _).alloc (Nat.le_refl _) _)
  obtain ⟨N, rfl⟩ := Int.eq_ofNat_of_zero_le h0
  have HS : Hid (yS (1970 + (N : Int) / 366) ≤ (N : Int)) := Lib.hid (by
    have := yS_under (N / 366)
    rw [show ((N / 366 : Nat) : Int) = (N : Int) / 366 by omega] at this
    omega)
  have hq : 0 ≤ (N : Int) / 366 ∧ (N : Int) / 366 ≤ 600 := by omega
  clear hM
  go_enter Tryz.func105, Tryz.ntmps105
  go_wp2_with fail
  refine (HI.out _).mono ?_
  rintro e w1 ⟨rfl, rfl⟩
  go_wp2
  generalize (N : Int) / 366 = Q at HS hq ⊢
  go_loop [3] (fun s => ∃ Y : Int, 1970 ≤ Y ∧ yS Y ≤ N ∧ s = .int .i64 Y) (fun s => 3000 - (intOf s).toNat)
  case atStart => exact ⟨1970 + Q, by omega, HS.out, rfl⟩
  case round =>
    obtain ⟨Y, hY0, hY1, rfl⟩ := hrel
    have hb := year_bound Y N hY0 hY1 h1
    have HY := Lib.hid (fun w => yearStart_any (Y + 1) w (by omega) (by omega))
    have HYs := Lib.hid (yS_succ Y)
    have hlb := lpD_bd Y
    by_cases hlt : yS (Y + 1) ≤ N
    · generalize hYe : yS (Y + 1) = T at HY hlt
      have HT := Lib.hid hYe
      clear hYe
      go_wp2_with fail
      refine (HY.out _).mono ?_
      rintro e w1 ⟨rfl, rfl⟩
      go_wp2
      refine ⟨⟨Y + 1, by omega, by rw [HT.out]; exact hlt, rfl⟩, ?_⟩
      simp [intOf]; omega
    · have HL : Hid ((N : Int) < yS (Y + 1)) := Lib.hid (by omega)
      have HY2 := Lib.hid (fun w => yearStart_any Y w (by omega) (by omega))
      have HW : Hid (Way N Y 1 ((N : Int) - yS Y)) := Lib.hid ⟨hY0, by omega, by omega, by omega, by show (N : Int) = yS Y + 0 + (N - yS Y); omega⟩
      generalize yS (Y + 1) = T at HY hlt
      have hyb : 0 ≤ yS Y ∧ yS Y ≤ 200000 := by omega
      generalize yS Y = S at HY2 HW hyb
      have hY2600 := hb.1
      clear hb hY1 HS hq
      go_wp2_with fail
      refine (HY.out _).mono ?_
      rintro e w1 ⟨rfl, rfl⟩
      go_wp2_with fail
      refine (HY2.out _).mono ?_
      rintro e w1 ⟨rfl, rfl⟩
      have hA := DAt.new (w.alloc (dC 0 0 0)) Y 1 ((N : Int) - S + 1)
      rw [World.size_alloc] at hA
      have hZ := HZ.out.alloc (dC Y 1 ((N : Int) - S + 1))
      have hB := HB.out.alloc (by simp) (dC Y 1 ((N : Int) - S + 1))
      go_wp2
      go_loopw [26] (fun _ wr => ∃ m r, Way N Y m r ∧ DAt wr (w.heap.size + 1) Y m (r + 1) ∧ DAt wr w.heap.size 0 0 0 ∧ Below w.heap.size w wr) (fun _ wr => dayIn wr (w.heap.size + 1))
      case atStart => exact ⟨1, (N : Int) - S, HW.out, hA, hZ, hB⟩
      case round =>
        obtain ⟨m, r, hW, hD, hZ1, hB1⟩ := hrel
        clear hA hZ hB
        have hbd := hW.bound h1
        obtain ⟨_, w1, w2, w3, w4⟩ := id hW
        have HD := Lib.hid hD
        have HZ1 := Lib.hid hZ1
        have HB1 := Lib.hid hB1
        have HM1 := Lib.hid (HM.out.below hB1 (Nat.le_refl _))
        have HMB : Hid (∀ v, MTab v → Calls Tryz.prog 140 #[.int .i64 Y, .int .i64 m] v fun e w' => e = .returned (.int .i64 (dIM Y m)) ∧ v = w') := Lib.hid (fun v hv => daysIn_any Y m v (by omega) (by omega) w1 w2 hv)
        have hd := dIM_bd Y m
        have c0 := hD.c0
        have c1 := hD.c1
        have c2 := hD.c2
        by_cases hlt : dIM Y m < r + 1
        · have hm12 : m < 12 := by
            have a := mS_last Y m w1
            have b := mS_up Y m.toNat 12 (by omega)
            have c := mS_year Y
            have e := HYs.out
            have l := HL.out
            by_cases hm : m < 12
            · exact hm
            · have : m.toNat = 12 := by omega
              rw [this] at a w4
              omega
          have HN := Lib.hid (hW.month (by omega) hm12)
          generalize dIM Y m = X at HMB HN hd hlt
          clear hW hD hZ1 hB1 w4
          go_wp2
          go_quiet ((go_at_call 140; exact quiet_same (HMB.out _ (HM1.out.drewN _))))
          go_wp2
          have hD2 : DAt (wr.drewN nq).drew (w.heap.size + 1) Y m (r + 1) := HD.out
          have hM2 : MTab (wr.drewN nq).drew := HM1.out
          refine wp_region_T (fun _ => True) (fun w' => DAt w' (w.heap.size + 1) Y m (r + 1) ∧ MTab w') 9 (by kernel_rfl) 10 rfl ?_
          refine wpAnyT_takesB (md := .any) 4 (by kernel_rfl) (by intro d v c a w h; cases d <;> exact h) [0, 1, 2, 3, 4, 5] _ _ _ (by decide) (by kernel_rfl) (by kernel_rfl) (by kernel_rfl) ⟨trivial, fun _ => ⟨hD2, hM2⟩⟩ ?_
          simp only [pick, List.filterMap_cons, List.filterMap_nil, List.getElem?_cons_zero, List.getElem?_cons_succ]
          iterate 1 (refine wpIf_step ?_ (by kernel_rfl) ?_ ?_; rotate_left; (intro w _; go_simp); try with_reducible rfl)
          refine wpIf_step (.int .i64 (r + 1)) (by kernel_rfl) (fun w hw => by have h0 := hw.2.1.c2; go_simp) ?_
          iterate 1 (refine wpIf_step ?_ (by kernel_rfl) ?_ ?_; rotate_left; (intro w _; go_simp); try with_reducible rfl)
          refine wpIf_step (.int .i64 Y) (by kernel_rfl) (fun w hw => by have h0 := hw.2.1.c0; go_simp) ?_
          iterate 1 (refine wpIf_step ?_ (by kernel_rfl) ?_ ?_; rotate_left; (intro w _; go_simp); try with_reducible rfl)
          refine wpIf_step (.int .i64 m) (by kernel_rfl) (fun w hw => by have h0 := hw.2.1.c1; go_simp) ?_
          refine wpIf_nil (fun hS => ?_)
          refine wpAnyT_one 6 3 (by kernel_rfl) rfl (by kernel_rfl) (fun K hK => ?_)
          go_simp
          refine (HMB.out _ hM2).mono ?_
          rintro e v1 ⟨rfl, rfl⟩
          refine hK _ _ ⟨trivial, fun _ => ⟨hD2, hM2⟩⟩ (fun hS3 => ?_)
          clear hK K hS
          refine wpAnyT_takesB (md := .any) 1 (by kernel_rfl) (by intro d v c a w h; cases d <;> exact h) [7, 8] _ _ _ (by decide) (by kernel_rfl) (by kernel_rfl) (by kernel_rfl) hS3 ?_
          simp only [pick, List.filterMap_cons, List.filterMap_nil, List.getElem?_cons_zero, List.getElem?_cons_succ]
          iterate 2 (refine wpIf_step ?_ (by kernel_rfl) ?_ ?_; rotate_left; (intro w _; go_simp); try with_reducible rfl)
          refine wpIf_nil (fun hS => ?_)
          clear hS3 hS
          have k2 := hD2.c2
          have g2 := hD2.frozen 2
          have g2w := HD.out.frozen 2
          refine wpAnyT_one 9 0 (by kernel_rfl) rfl (by kernel_rfl) (fun K hK => ?_)
          go_simp
          refine hK _ _ ⟨trivial, fun h => by cases h⟩ (fun hS4 => ?_)
          clear hK K hS4 k2 g2
          refine wpAnyT_over (by kernel_rfl) ?_
          have hD3 := hD2.s2 (r + 1 - X)
          have k1 := hD3.c1
          have g1 := hD3.frozen 1
          have g1w := HD.out.frozen 1
          clear hD3 hD2 hM2
          go_wp2
          have e0 : DAt (wr.drewN (nq + 1)) (w.heap.size + 1) Y m (r + 1) := HD.out
          have e1 : DAt (wr.drewN (nq + 1)) w.heap.size 0 0 0 := HZ1.out
          have e2 := below_drewN HB1.out (nq + 1)
          have hF := (e0.s2 (r + 1 - X)).s1 (m + 1)
          refine ⟨⟨m + 1, r - X, HN.out, ?_, (e1.other _ _ (by omega)).other _ _ (by omega), (e2.setCell (p := ⟨w.heap.size + 1, 2, none⟩) (by show w.heap.size ≤ w.heap.size + 1; omega) _).setCell (p := ⟨w.heap.size + 1, 1, none⟩) (by show w.heap.size ≤ w.heap.size + 1; omega) _⟩, ?_⟩
          · rw [show r - X + 1 = r + 1 - X by omega]; exact hF
          · rw [dayIn_at hF, dayIn_at HD.out]; omega
        · have HN := Lib.hid (hW.done (by omega))
          generalize dIM Y m = X at HMB hd hlt
          clear hW hD hZ1 hB1 w4
          go_wp2
          go_quiet ((go_at_call 140; exact quiet_same (HMB.out _ (HM1.out.drewN _))))
          have hD2 : DAt (wr.drewN nq) (w.heap.size + 1) Y m (r + 1) := HD.out
          have hZ2 : DAt (wr.drewN nq) w.heap.size 0 0 0 := HZ1.out
          have hB2 := below_drewN HB1.out nq
          generalize wr.drewN nq = V at hD2 hZ2 hB2 ⊢
          have d0 := hD2.c0
          have d1 := hD2.c1
          have d2 := hD2.c2
          have z0 := hZ2.c0
          have z1 := hZ2.c1
          have z2 := hZ2.c2
          have g0 := hZ2.frozen 0
          have g1 := hZ2.frozen 1
          have g2 := hZ2.frozen 2
          have HF := Lib.hid (((hZ2.s0 Y).s1 m).s2 (r + 1))
          have HBF := Lib.hid (((hB2.setCell (p := ⟨w.heap.size, 0, none⟩) (Nat.le_refl _) (.int .i64 Y)).setCell (p := ⟨w.heap.size, 1, none⟩) (Nat.le_refl _) (.int .i64 m)).setCell (p := ⟨w.heap.size, 2, none⟩) (Nat.le_refl _) (.int .i64 (r + 1)))
          clear hD2 hZ2 hB2
          go_wp2
          refine bodyPost_ret (results_date rfl _ _ _ _ _ _ rfl HF.out) rfl ?_
          exact ⟨Y, m, r + 1, rfl, HN.out, HBF.out⟩

/-- The date of a day; zero when there is none. -/
noncomputable def dateR (n : Int) : Int × Int × Int := open Classical in if h : 0 ≤ n ∧ n ≤ 200000 ∧ ∃ t : Int × Int × Int, IsD n t.1 t.2.1 t.2.2 then Classical.choose h.2.2 else (0, 0, 0)
theorem dateR_is {n y m d : Int} (h0 : 0 ≤ n) (h1 : n ≤ 200000) (h : IsD n y m d) : dateR n = (y, m, d) := by
  have hx : 0 ≤ n ∧ n ≤ 200000 ∧ ∃ t : Int × Int × Int, IsD n t.1 t.2.1 t.2.2 := ⟨h0, h1, (y, m, d), h⟩
  unfold dateR
  rw [dif_pos hx]
  have hs := Classical.choose_spec hx.2.2
  obtain ⟨e1, e2, e3⟩ := isD_uniq hs h
  exact Prod.ext e1 (Prod.ext e2 e3)
theorem dateR_not {n : Int} (h : ¬ (0 ≤ n ∧ n ≤ 200000)) : dateR n = (0, 0, 0) := by
  unfold dateR
  rw [dif_neg (fun hx => h ⟨hx.1, hx.2.1⟩)]
noncomputable abbrev dateV (n : Int) : Value := dV (dateR n).1 (dateR n).2.1 (dateR n).2.2

set_option maxRecDepth 100000 in
set_option maxHeartbeats 1600000 in
theorem implDateOf_any (n : Int) (w : World) (hM : MTab w) :
    Calls Tryz.prog 105 #[.int .i64 n] w fun e w' => e = .returned (dateV n) ∧ Below w.heap.size w w' := by
  by_cases h : 0 ≤ n ∧ n ≤ 200000
  · refine (implDateOf_in n w h.1 h.2 hM).mono ?_
    rintro e w' ⟨y, m, d, rfl, hd, hb⟩
    have hv : dateV n = dV y m d := by unfold dateV; rw [dateR_is h.1 h.2 hd]
    rw [hv]
    exact ⟨rfl, hb⟩
  · have HI := Lib.hid (fun w => isDay_any n w)
    rw [show (decide (0 ≤ n) && decide (n ≤ 200000)) = false by simpa using fun h1 => by omega] at HI
    have hv : dateV n = dV 0 0 0 := by unfold dateV; rw [dateR_not h]
    rw [hv]
    have HF := Lib.hid (DAt.new w 0 0 0)
    have HB := Lib.hid ((Below.refl w.heap.size w).alloc (Nat.le_refl _) (dC 0 0 0))
    clear h hM hv
    go_enter Tryz.func105, Tryz.ntmps105
    go_wp2_with fail
    refine (HI.out _).mono ?_
    rintro e w1 ⟨rfl, rfl⟩
    go_wp2
    refine bodyPost_ret (results_date rfl _ _ _ _ _ _ rfl HF.out) rfl ?_
    exact ⟨rfl, HB.out⟩

end Go.Proofs.YtfjaincogbdeiaaGreatDoor

/- W3e -/
namespace Go.Proofs.YtfjaincogbdeiaaGreatDoor
open Go.ChangeShapes Go.WideShapes Go.ChangeAt Go.RowKit
set_option linter.unusedVariables false

/-- The parts when so many have been carried, as the reference goes. -/
def syL (x : Num5) : Nat → List Int
  | 0 => [(x.a : Int), (x.b : Int), (x.c : Int), (x.d : Int), (x.e : Int)]
  | 1 => [(x.a : Int) % 67108864, (cb x : Int), (x.c : Int), (x.d : Int), (x.e : Int)]
  | 2 => [(x.a : Int) % 67108864, (cb x : Int) % 67108864, (cc x : Int), (x.d : Int), (x.e : Int)]
  | 3 => [(x.a : Int) % 67108864, (cb x : Int) % 67108864, (cc x : Int) % 67108864, (cd x : Int), (x.e : Int)]
  | 4 => [(x.a : Int) % 67108864, (cb x : Int) % 67108864, (cc x : Int) % 67108864, (cd x : Int) % 67108864, (ce x : Int)]
  | _ => (carry x).list
theorem syL_len (x : Num5) (k : Nat) : (syL x k).length = 5 := by unfold syL; split <;> rfl
theorem sy_step (x : Num5) (k : Nat) (h : k < 4) (hx : x.bd 576460752303423488 576460752303423488) : ∃ z u : Int, (syL x k)[k]? = some z ∧ (syL x k)[k + 1]? = some u ∧ 0 ≤ z ∧ z < 1152921504606846976 ∧ 0 ≤ u ∧ u < 576460752303423488 ∧
    syL x (k + 1) = ((syL x k).set k (z % 67108864)).set (k + 1) (u + z / 67108864) := by
  obtain ⟨h1, h2, h3, h4, h5⟩ := hx
  have e1 : cb x = x.b + x.a / 67108864 := rfl
  have e2 : cc x = x.c + cb x / 67108864 := rfl
  have e3 : cd x = x.d + cc x / 67108864 := rfl
  have e4 : ce x = x.e + cd x / 67108864 := rfl
  match k, h with
  | 0, _ => exact ⟨x.a, x.b, rfl, rfl, by omega, by omega, by omega, by omega, by simp [syL, e1]⟩
  | 1, _ => exact ⟨cb x, x.c, rfl, rfl, by omega, by omega, by omega, by omega, by simp only [syL, e2]; simp⟩
  | 2, _ => exact ⟨cc x, x.d, rfl, rfl, by omega, by omega, by omega, by omega, by simp only [syL, e3]; simp⟩
  | 3, _ => exact ⟨cd x, x.e, rfl, rfl, by omega, by omega, by omega, by omega, by simp only [syL, e4]; simp⟩
theorem sy_last (x : Num5) (hx : x.bd 576460752303423488 576460752303423488) : ∃ z u : Int, (syL x 4)[4]? = some z ∧ (syL x 4)[0]? = some u ∧ 0 ≤ z ∧ z < 1152921504606846976 ∧ 0 ≤ u ∧ u < 576460752303423488 ∧
    syL x 5 = ((syL x 4).set 4 (z % 67108864)).set 0 (u + 5 * (z / 67108864)) := by
  obtain ⟨h1, h2, h3, h4, h5⟩ := hx
  have e1 : cb x = x.b + x.a / 67108864 := rfl
  have e2 : cc x = x.c + cb x / 67108864 := rfl
  have e3 : cd x = x.d + cc x / 67108864 := rfl
  have e4 : ce x = x.e + cd x / 67108864 := rfl
  exact ⟨ce x, (x.a : Int) % 67108864, rfl, rfl, by omega, by omega, by omega, by omega, by simp [syL, Num5.list, carry]⟩
theorem Arr.cellO {w : World} {g : Nat} {t : TypeId} {k : IntKind} {zs : List Int} {z : Int} (h : Arr w g t k zs) (j : Nat) (hj : zs[j]? = some z) : w.cell? ⟨g, j, none⟩ = some (.int k z) := by
  obtain ⟨hl, e⟩ := List.getElem?_eq_some_iff.1 hj
  rw [h.cell j hl, e]

def s5Z : Obj := Obj.cells #[Value.int IntKind.i64 0, Value.int IntKind.i64 0, Value.int IntKind.i64 0, Value.int IntKind.i64 0, Value.int IntKind.i64 0] 151
theorem Tryz.infS : (Tryz.prog.info? 151).map (·.size) = some 5 := by kernel_rfl
theorem Tryz.undS : Tryz.prog.underlying 151 = some (.array 5 2) := by kernel_rfl
theorem Tryz.infSL (zs : List Int) (h : zs.length = 5) : (Tryz.prog.info? 151).map (·.size) = some (stK .i64 zs).size := by rw [stK_size, h]; exact Tryz.infS

set_option maxRecDepth 100000 in
set_option maxHeartbeats 1600000 in
theorem l3Carry_any (x : Num5) (w : World) (hx : x.bd 576460752303423488 576460752303423488) :
    Calls Tryz.prog 165 #[.agg (stK .i64 x.list)] w fun e w' => e = .returned (.agg (stK .i64 (carry3 x).list)) ∧ Below w.heap.size w w' := by
  go_enter Tryz.func165, Tryz.ntmps165
  go_wp2
  have hA0 : Arr ((w.alloc (.cells (stK .i64 x.list) 151)).alloc s5Z) w.heap.size 151 .i64 (carryN 0 x).list := (Arr.new w _ _ _).alloc _
  have hZ0 : ((w.alloc (.cells (stK .i64 x.list) 151)).alloc s5Z).heap[w.heap.size + 1]? = some s5Z := by
    have := heap_alloc_new (w.alloc (.cells (stK .i64 x.list) 151)) s5Z
    simpa using this
  have hB0 : Below w.heap.size w ((w.alloc (.cells (stK .i64 x.list) 151)).alloc s5Z) := ((Below.refl _ _).alloc (Nat.le_refl _) _).alloc (by simp) _
  go_loopw [3] (fun i wr => ∃ k : Nat, k ≤ 3 ∧ i = .int .i64 k ∧ Arr wr w.heap.size 151 .i64 (carryN k x).list ∧ wr.heap[w.heap.size + 1]? = some s5Z ∧ Below w.heap.size w wr)
    (fun i _ => 3 - (intOf i).toNat)
  case atStart => exact ⟨0, Nat.zero_le _, rfl, hA0, hZ0, hB0⟩
  case round =>
    obtain ⟨k, hk, rfl, hA, hZ, hB⟩ := hrel
    clear hA0 hZ0 hB0
    by_cases hlt : k < 3
    · obtain ⟨y, hy⟩ : ∃ y, y = carryN k x := ⟨_, rfl⟩
      have hyb := carryN_bd hx k
      rw [← hy] at hA hyb
      have HY := Lib.hid hy
      clear hy
      go_wp2
      go_loopw [4] (fun i wr => ∃ j : Nat, j ≤ 5 ∧ i = .int .i64 j ∧ Arr wr w.heap.size 151 .i64 (syL y j) ∧ wr.heap[w.heap.size + 1]? = some s5Z ∧ Below w.heap.size w wr)
        (fun i _ => 5 - (intOf i).toNat)
      case atStart => exact ⟨0, Nat.zero_le _, rfl, hA, hZ, hB⟩
      case round =>
        obtain ⟨j, hj, rfl, hA1, hZ1, hB1⟩ := hrel
        clear hA hZ hB
        by_cases hj4 : j < 4
        · obtain ⟨z, u, hz, hu, hz0, hz1, hu0, hu1, hst⟩ := sy_step y j hj4 hyb
          have hc0 := hA1.cellO j hz
          have hc1 := hA1.cellO (j + 1) hu
          have hf0 := hA1.frozen j
          have hf1 := hA1.frozen (j + 1)
          have hd : ((j : Int) == 4) = false := by simp; omega
          have hA2 := (hA1.set j (z % 67108864)).set (j + 1) (u + z / 67108864)
          rw [← hst] at hA2
          have HA2 := Lib.hid hA2
          clear hst hz hu hA2 hA1
          go_wp2
          go_roundw
          case rel => exact ⟨j + 1, by omega, by go_num, HA2.out, (heap_setCell_other _ _ _ _ (by simp)).trans ((heap_setCell_other _ _ _ _ (by simp)).trans hZ1), (hB1.setCell (p := ⟨w.heap.size, j, none⟩) (Nat.le_refl _) _).setCell (p := ⟨w.heap.size, j + 1, none⟩) (Nat.le_refl _) _⟩
          case measure => simp [intOf]; omega
        · by_cases hj5 : j < 5
          · have hj4' : j = 4 := by omega
            subst hj4'
            obtain ⟨z, u, hz, hu, hz0, hz1, hu0, hu1, hst⟩ := sy_last y hyb
            have hc0 := hA1.cellO 4 hz
            have hc1 := hA1.cellO 0 hu
            have hf0 := hA1.frozen 4
            have hf1 := hA1.frozen 0
            have hA2 := (hA1.set 4 (z % 67108864)).set 0 (u + 5 * (z / 67108864))
            rw [← hst] at hA2
            have HA2 := Lib.hid hA2
            clear hst hz hu hA2 hA1
            go_wp2
            go_roundw
            case rel => exact ⟨4 + 1, by omega, by go_num, HA2.out, (heap_setCell_other _ _ _ _ (by simp)).trans ((heap_setCell_other _ _ _ _ (by simp)).trans hZ1), (hB1.setCell (p := ⟨w.heap.size, 4, none⟩) (Nat.le_refl _) _).setCell (p := ⟨w.heap.size, 0, none⟩) (Nat.le_refl _) _⟩
            case measure => simp [intOf]
          · have hj5' : j = 5 := by omega
            rw [hj5'] at hA1
            have hA2 : Arr wr w.heap.size 151 .i64 (carryN (k + 1) x).list := by
              show Arr wr w.heap.size 151 .i64 (carry (carryN k x)).list
              rw [← HY.out]; exact hA1
            clear hj5' hA1
            go_wp2
            go_roundw
            case rel => exact ⟨k + 1, by omega, by go_num, hA2, hZ1, hB1⟩
            case measure => simp [intOf]; omega
    · have hk3 : k = 3 := by omega
      rw [hk3] at hA
      have HA : Hid (Arr wr w.heap.size 151 .i64 (carry3 x).list) := Lib.hid hA
      have HI := Lib.hid (Tryz.infSL (carry3 x).list rfl)
      have HZ := Lib.hid hZ
      clear hk3 hA hZ
      go_wp2_with (first | (refine wpList_load_row rfl _ (.tmp 1) rfl w.heap.size rfl _ _ _ _ HA.out Tryz.undS rfl HI.out ?_) | (refine wpList_store_row rfl _ (.tmp 2) (.tmp 41) rfl (w.heap.size + 1) _ rfl rfl _ _ HZ.out HI.out rfl (stK_one _ _) ?_))
      refine bodyPost_ret (results_cell_row rfl _ _ (w.heap.size + 1) _ _ _ _ rfl (setRow_heap _ _ _ _ _ _ HZ.out) Tryz.undS rfl HI.out) rfl ?_
      exact ⟨rfl, below_setRow hB (by omega) _⟩

/-- The parts, with five more. -/
def more5 (c : Num5) : Num5 := ⟨c.a + 5, c.b, c.c, c.d, c.e⟩
def low5 (x : Num5) : Num5 := ⟨x.a % 67108864, cb x % 67108864, cc x % 67108864, cd x % 67108864, ce x % 67108864⟩
theorem low5_list (x : Num5) : cyL x 5 = (low5 x).list := by simp [cyL, Num5.list, low5]
theorem low5_bd (x : Num5) : (low5 x).bd 67108864 67108864 := by unfold low5 Num5.bd; dsimp only; omega
theorem low5_val (x : Num5) : (low5 x).val + 1361129467683753853853498429727072845824 * (ce x / 67108864) = x.val := by
  unfold Num5.val val5 low5 ce cd cc cb
  dsimp only
  omega
theorem ce_le (c : Num5) (h : c.bd 67108864 67108864) : ce (more5 c) / 67108864 ≤ 1 := by
  obtain ⟨h1, h2, h3, h4, h5⟩ := h
  unfold ce cd cc cb more5
  dsimp only
  omega
theorem more5_val (c : Num5) : (more5 c).val = c.val + 5 := by unfold more5 Num5.val val5; dsimp only; omega
theorem least_over (c : Num5) (h : c.bd 67108864 67108864) (ho : 0 < cyO (more5 c) 5) : cyL (more5 c) 5 = partsL (c.val % prm) := by
  have h1 := ce_le c h
  have h2 := low5_val (more5 c)
  have h3 := bd_val (low5_bd (more5 c))
  have h4 := bd_val h
  rw [more5_val] at h2
  have h5 : 0 < ce (more5 c) / 67108864 := by simp only [cyO] at ho; omega
  have h6 : ce (more5 c) / 67108864 = 1 := by omega
  rw [h6] at h2
  rw [low5_list, ← partsL_val (low5_bd _)]
  congr 1
  unfold prm
  omega
theorem least_under (c : Num5) (h : c.bd 67108864 67108864) (ho : ¬ 0 < cyO (more5 c) 5) : c.list = partsL (c.val % prm) := by
  have h2 := low5_val (more5 c)
  have h3 := bd_val (low5_bd (more5 c))
  rw [more5_val] at h2
  have h6 : ce (more5 c) / 67108864 = 0 := by simp only [cyO] at ho; omega
  rw [h6] at h2
  rw [Nat.mod_eq_of_lt (by unfold prm; omega), partsL_val h]
theorem more5_list (c : Num5) : c.list.set 0 ((c.a : Int) + 5) = cyL (more5 c) 0 := by simp [Num5.list, cyL, more5]

set_option maxRecDepth 100000 in
set_option maxHeartbeats 1600000 in
theorem l3Least_any (x : Num5) (w : World) (hx : x.bd 576460752303423488 576460752303423488) :
    Calls Tryz.prog 152 #[.agg (stK .i64 x.list)] w fun e w' => e = .returned (.agg (stK .i64 (leftL x))) ∧ Below w.heap.size w w' := by
  have HL : Hid (leftL x = partsL ((carry3 x).val % prm)) := Lib.hid (by unfold leftL; rw [carry3_mod])
  have hcb := carry3_bd hx
  have hA0 : Arr ((w.alloc (.cells (stK .i64 x.list) 151)).alloc s5Z) w.heap.size 151 .i64 x.list := (Arr.new w _ _ _).alloc _
  have hZ0 : ((w.alloc (.cells (stK .i64 x.list) 151)).alloc s5Z).heap[w.heap.size + 1]? = some s5Z := by
    have := heap_alloc_new (w.alloc (.cells (stK .i64 x.list) 151)) s5Z
    simpa using this
  have hB0 : Below w.heap.size w ((w.alloc (.cells (stK .i64 x.list) 151)).alloc s5Z) := ((Below.refl _ _).alloc (Nat.le_refl _) _).alloc (by simp) _
  have HA0 := Lib.hid hA0
  have HI := Lib.hid (Tryz.infSL x.list rfl)
  have HI2 := Lib.hid (Tryz.infSL (carry3 x).list rfl)
  go_enter Tryz.func152, Tryz.ntmps152
  go_wp2_with (first | (refine wpList_load_row rfl _ (.tmp 1) rfl w.heap.size rfl _ _ _ _ HA0.out Tryz.undS rfl HI.out ?_))
  refine (l3Carry_any x _ hx).mono ?_
  rintro e w1 ⟨rfl, hb1⟩
  have hA1 := hA0.below hb1 (by simp; omega)
  have hZ1 := (hb1.block (w.heap.size + 1) (by simp)).trans hZ0
  have hB1 := hB0.trans (hb1.mono hB0.size)
  have hs1 : w.heap.size + 2 ≤ w1.heap.size := by have := hb1.size; simpa using this
  obtain ⟨c, hc⟩ : ∃ c, c = carry3 x := ⟨_, rfl⟩
  rw [← hc] at HL hcb HI2
  rw [← hc]
  rename_i hK
  refine hK _ _ ?_
  clear hK HA0 hA0 hZ0 hB0 hb1 hc
  refine wpList_store_row rfl _ (.tmp 1) (.tmp 7) rfl w.heap.size (stK .i64 c.list) rfl rfl _ _ hA1 HI2.out rfl (stK_one _ _) ?_
  have hA2 := hA1.row c.list rfl
  have hZ2 := (setRow_other w1 w.heap.size (w.heap.size + 1) (stK .i64 c.list) (by omega)).trans hZ1
  have hB2 := below_setRow hB1 (Nat.le_refl _) (stK .i64 c.list)
  have hs2 : w.heap.size + 2 ≤ (w1.setRow w.heap.size (stK .i64 c.list)).heap.size := by rw [size_setRow]; exact hs1
  obtain ⟨w2, hw2⟩ : ∃ w2, w2 = w1.setRow w.heap.size (stK .i64 c.list) := ⟨_, rfl⟩
  rw [← hw2] at hA2 hZ2 hB2 hs2 ⊢
  clear hw2 hA1 hZ1 hB1 hs1
  have HA2 := Lib.hid hA2
  have hA3 : Arr ((w2.alloc s5Z).setRow w2.heap.size (stK .i64 c.list)) w2.heap.size 151 .i64 c.list := setRow_heap _ _ _ _ _ _ (heap_alloc_new w2 s5Z)
  have hX3 : Arr ((w2.alloc s5Z).setRow w2.heap.size (stK .i64 c.list)) w.heap.size 151 .i64 c.list := (hA2.alloc s5Z).otherRow _ _ (by omega)
  have hZ3 : ((w2.alloc s5Z).setRow w2.heap.size (stK .i64 c.list)).heap[w.heap.size + 1]? = some s5Z := by
    rw [setRow_other _ _ _ _ (by omega), heap_alloc_old _ _ (by omega)]; exact hZ2
  have hB3 : Below w.heap.size w ((w2.alloc s5Z).setRow w2.heap.size (stK .i64 c.list)) := below_setRow (hB2.alloc (by omega) _) (by omega) _
  have hc3 := hA3.cellO (z := (c.a : Int)) 0 rfl
  have hf3 := hA3.frozen 0
  have hA4 := hA3.set 0 ((c.a : Int) + 5)
  rw [more5_list] at hA4
  have hX4 := hX3.other w2.heap.size 0 (.int .i64 ((c.a : Int) + 5)) (by omega)
  have hZ4 := (heap_setCell_other ((w2.alloc s5Z).setRow w2.heap.size (stK .i64 c.list)) ⟨w2.heap.size, 0, none⟩ (w.heap.size + 1) (.int .i64 ((c.a : Int) + 5)) (by simp; omega)).trans hZ3
  have hB4 := hB3.setCell (p := ⟨w2.heap.size, 0, none⟩) (by simp; omega) (.int .i64 ((c.a : Int) + 5))
  have hm5 : (more5 c).bd 576460752303423488 576460752303423488 := by
    obtain ⟨h1, h2, h3, h4, h5⟩ := hcb
    unfold more5 Num5.bd
    dsimp only
    omega
  have hca : c.a < 67108864 := hcb.1
  have HA4 := Lib.hid hA4
  have HX4 := Lib.hid hX4
  have HZ4 := Lib.hid hZ4
  have HB4 := Lib.hid hB4
  unfold s5Z at hc3 hf3
  clear hA3 hX3 hZ3 hB3 hA4 hX4 hZ4 hB4 hA2 hZ2
  go_wp2_with (first | (refine wpList_load_row rfl _ (.tmp 1) rfl w.heap.size rfl _ _ _ _ HA2.out Tryz.undS rfl HI2.out ?_) | (refine wpList_store_row rfl _ (.tmp 3) (.tmp 8) rfl w2.heap.size _ rfl rfl _ _ (heap_alloc_new w2 s5Z) HI2.out rfl (stK_one _ _) ?_))
  go_loopw [4, 5] (fun o i wr => ∃ k : Nat, k ≤ 5 ∧ i = .int .i64 k ∧ o = .int .i64 (cyO (more5 c) k) ∧ Arr wr w2.heap.size 151 .i64 (cyL (more5 c) k) ∧ Arr wr w.heap.size 151 .i64 c.list ∧ wr.heap[w.heap.size + 1]? = some s5Z ∧ Below w.heap.size w wr)
    (fun _ i _ => 5 - (intOf i).toNat)
  case atStart => exact ⟨0, Nat.zero_le _, rfl, rfl, HA4.out, HX4.out, HZ4.out, HB4.out⟩
  case round =>
    obtain ⟨k, hk, rfl, rfl, hA, hX, hZ, hB⟩ := hrel
    clear HA4 HX4 HZ4 HB4 hc3 hf3 HA2
    obtain ⟨g3, hg3⟩ : ∃ g3, g3 = w2.heap.size := ⟨_, rfl⟩
    rw [← hg3] at hA hs2 ⊢
    clear hg3 hB2
    have hlen := cyL_len (more5 c) k
    by_cases hlt : k < 5
    · obtain ⟨z, hz, hz0, hz1, ho0, ho1, hL, hO⟩ := cy_step (more5 c) k hlt hm5
      obtain ⟨o, ho⟩ : ∃ o, o = cyO (more5 c) k := ⟨_, rfl⟩
      rw [← ho] at ho0 ho1 hL hO ⊢
      have hc := hA.cellO k hz
      have hf := hA.frozen k
      have hA2 := (hA.set k (z + o)).set k ((z + o) % 67108864)
      rw [List.set_set, ← hL] at hA2
      have HA2 := Lib.hid hA2
      have HO := Lib.hid hO
      clear hA hA2 hL hO hz ho hlen
      go_wp2
      go_roundw
      case rel => exact ⟨k + 1, by omega, by go_num, by rw [HO.out], HA2.out, (hX.other _ _ _ (by omega)).other _ _ _ (by omega), (heap_setCell_other _ _ _ _ (by simp; omega)).trans ((heap_setCell_other _ _ _ _ (by simp; omega)).trans hZ), (hB.setCell (p := ⟨g3, k, none⟩) (by simp; omega) _).setCell (p := ⟨g3, k, none⟩) (by simp; omega) _⟩
      case measure => simp [intOf]; omega
    · have hk5 : k = 5 := by omega
      rw [hk5] at hA ⊢
      have HI3 := Lib.hid (Tryz.infSL (cyL (more5 c) 5) rfl)
      have HA := Lib.hid hA
      have HX := Lib.hid hX
      have HZ := Lib.hid hZ
      have hov := least_over c hcb
      have hun := least_under c hcb
      obtain ⟨o, ho⟩ : ∃ o, o = cyO (more5 c) 5 := ⟨_, rfl⟩
      rw [← ho] at hov hun ⊢
      have HOV := Lib.hid hov
      have HUN := Lib.hid hun
      clear hA hX hZ hlen hk5 ho hov hun
      by_cases hpos : 0 < o
      · have hd : decide (0 < o) = true := by simp [hpos]
        have HE : Hid (leftL x = cyL (more5 c) 5) := Lib.hid (by rw [HL.out, HOV.out hpos])
        go_wp2_with (first | (refine wpList_load_row rfl _ (.tmp 3) rfl g3 rfl _ _ _ _ HA.out Tryz.undS rfl HI3.out ?_) | (refine wpList_store_row rfl _ (.tmp 2) (.tmp 36) rfl (w.heap.size + 1) _ rfl rfl _ _ HZ.out HI3.out rfl (stK_one _ _) ?_))
        refine bodyPost_ret (results_cell_row rfl _ _ (w.heap.size + 1) _ _ _ _ rfl (setRow_heap _ _ _ _ _ _ HZ.out) Tryz.undS rfl HI3.out) rfl ?_
        exact ⟨by rw [HE.out], below_setRow hB (by omega) _⟩
      · have hd : decide (0 < o) = false := by simp; omega
        have HE : Hid (leftL x = c.list) := Lib.hid (by rw [HL.out, HUN.out hpos])
        go_wp2_with (first | (refine wpList_load_row rfl _ (.tmp 1) rfl w.heap.size rfl _ _ _ _ HX.out Tryz.undS rfl HI2.out ?_) | (refine wpList_store_row rfl _ (.tmp 2) (.tmp 37) rfl (w.heap.size + 1) _ rfl rfl _ _ HZ.out HI2.out rfl (stK_one _ _) ?_))
        refine bodyPost_ret (results_cell_row rfl _ _ (w.heap.size + 1) _ _ _ _ rfl (setRow_heap _ _ _ _ _ _ HZ.out) Tryz.undS rfl HI2.out) rfl ?_
        exact ⟨by rw [HE.out], below_setRow hB (by omega) _⟩
end Go.Proofs.YtfjaincogbdeiaaGreatDoor
