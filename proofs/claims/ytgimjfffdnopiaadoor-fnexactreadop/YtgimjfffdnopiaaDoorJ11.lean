/- Joined: W7g. -/
import Derived.Test.YtgimjfffdnopiaaDoorJ10
/- W7g -/
namespace Go.Proofs.YtgimjfffdnopiaaDoor
open Go.ChangeShapes Go.WideShapes Go.ChangeAt Go.RowKit
set_option linter.unusedVariables false

theorem yS_under : ∀ k : Nat, yS (1970 + (k : Int)) ≤ 366 * (k : Int)
  | 0 => by show yS 1970 ≤ 0; rw [yS_first]; omega
  | k + 1 => by
    have := yS_under k
    have e := yS_succ (1970 + (k : Int))
    have b := lpD_bd (1970 + (k : Int))
    rw [show (1970 + ((k + 1 : Nat) : Int)) = 1970 + (k : Int) + 1 by omega]
    omega
theorem year_bound (Y n : Int) (h0 : 1970 ≤ Y) (h : yS Y ≤ n) (hn : n ≤ 200000) : Y ≤ 2600 ∧ 0 ≤ yS Y := by
  have b := yS_mono 1970 Y h0
  have c := yS_first
  refine ⟨?_, by omega⟩
  by_cases e : Y ≤ 2600
  · exact e
  · have := yS_mono 2600 Y (by omega)
    have : 200000 < yS 2600 := by decide
    omega
/-- The day of a block's date. -/
def dayIn (w : World) (g : Nat) : Nat := match w.cell? ⟨g, 2, none⟩ with | some (.int _ d) => d.toNat | _ => 0
theorem dayIn_at {w : World} {g : Nat} {y m d : Int} (h : DAt w g y m d) : dayIn w g = d.toNat := by unfold dayIn; rw [h.c2]

set_option maxRecDepth 100000 in
set_option maxHeartbeats 3000000 in
theorem implDateOf_in (n : Int) (w : World) (h0 : 0 ≤ n) (h1 : n ≤ 200000) (hM : MTab w) :
    Calls Tryd.prog 12 #[.int .i64 n] w fun e w' => ∃ y m d, e = .returned (dV y m d) ∧ IsD n y m d ∧ Below w.heap.size w w' := by
  have HI := Lib.hid (fun w => isDay_any n w)
  rw [decide_eq_true h0, decide_eq_true h1] at HI
  have HM := Lib.hid hM
  have HZ := Lib.hid (DAt.new w 0 0 0)
  have HB : Hid (Below w.heap.size w (w.alloc (dC 0 0 0))) := Lib.hid ((Below.refl _ _).alloc (Nat.le_refl _) _)
  obtain ⟨N, rfl⟩ := Int.eq_ofNat_of_zero_le h0
  have HS : Hid (yS (1970 + (N : Int) / 366) ≤ (N : Int)) := Lib.hid (by
    have := yS_under (N / 366)
    rw [show ((N / 366 : Nat) : Int) = (N : Int) / 366 by omega] at this
    omega)
  have hq : 0 ≤ (N : Int) / 366 ∧ (N : Int) / 366 ≤ 600 := by omega
  clear hM
  go_enter Tryd.func12, Tryd.ntmps12
  go_wp2_with fail
  refine (HI.out _).mono ?_
  rintro e w1 ⟨rfl, rfl⟩
  go_wp2
  generalize (N : Int) / 366 = Q at HS hq ⊢
  go_loop [3] (fun s => ∃ Y : Int, 1970 ≤ Y ∧ yS Y ≤ N ∧ s = .int .i64 Y) (fun s => 3000 - (intOf s).toNat)
  case atStart => exact ⟨1970 + Q, by omega, HS.out, rfl⟩
  case round =>
    obtain ⟨Y, hY0, hY1, rfl⟩ := hrel
    have hb := year_bound Y N hY0 hY1 h1
    have HY := Lib.hid (fun w => yearStart_any (Y + 1) w (by omega) (by omega))
    have HYs := Lib.hid (yS_succ Y)
    have hlb := lpD_bd Y
    by_cases hlt : yS (Y + 1) ≤ N
    · generalize hYe : yS (Y + 1) = T at HY hlt
      have HT := Lib.hid hYe
      clear hYe
      go_wp2_with fail
      refine (HY.out _).mono ?_
      rintro e w1 ⟨rfl, rfl⟩
      go_wp2
      refine ⟨⟨Y + 1, by omega, by rw [HT.out]; exact hlt, rfl⟩, ?_⟩
      simp [intOf]; omega
    · have HL : Hid ((N : Int) < yS (Y + 1)) := Lib.hid (by omega)
      have HY2 := Lib.hid (fun w => yearStart_any Y w (by omega) (by omega))
      have HW : Hid (Way N Y 1 ((N : Int) - yS Y)) := Lib.hid ⟨hY0, by omega, by omega, by omega, by show (N : Int) = yS Y + 0 + (N - yS Y); omega⟩
      generalize yS (Y + 1) = T at HY hlt
      have hyb : 0 ≤ yS Y ∧ yS Y ≤ 200000 := by omega
      generalize yS Y = S at HY2 HW hyb
      have hY2600 := hb.1
      clear hb hY1 HS hq
      go_wp2_with fail
      refine (HY.out _).mono ?_
      rintro e w1 ⟨rfl, rfl⟩
      go_wp2_with fail
      refine (HY2.out _).mono ?_
      rintro e w1 ⟨rfl, rfl⟩
      have hA := DAt.new (w.alloc (dC 0 0 0)) Y 1 ((N : Int) - S + 1)
      rw [World.size_alloc] at hA
      have hZ := HZ.out.alloc (dC Y 1 ((N : Int) - S + 1))
      have hB := HB.out.alloc (by simp) (dC Y 1 ((N : Int) - S + 1))
      go_wp2
      go_loopw [26] (fun _ wr => ∃ m r, Way N Y m r ∧ DAt wr (w.heap.size + 1) Y m (r + 1) ∧ DAt wr w.heap.size 0 0 0 ∧ Below w.heap.size w wr) (fun _ wr => dayIn wr (w.heap.size + 1))
      case atStart => exact ⟨1, (N : Int) - S, HW.out, hA, hZ, hB⟩
      case round =>
        obtain ⟨m, r, hW, hD, hZ1, hB1⟩ := hrel
        clear hA hZ hB
        have hbd := hW.bound h1
        obtain ⟨_, w1, w2, w3, w4⟩ := id hW
        have HD := Lib.hid hD
        have HZ1 := Lib.hid hZ1
        have HB1 := Lib.hid hB1
        have HM1 := Lib.hid (HM.out.below hB1 (Nat.le_refl _))
        have HMB : Hid (∀ v, MTab v → Calls Tryd.prog 44 #[.int .i64 Y, .int .i64 m] v fun e w' => e = .returned (.int .i64 (dIM Y m)) ∧ v = w') := Lib.hid (fun v hv => daysIn_any Y m v (by omega) (by omega) w1 w2 hv)
        have hd := dIM_bd Y m
        have c0 := hD.c0
        have c1 := hD.c1
        have c2 := hD.c2
        by_cases hlt : dIM Y m < r + 1
        · have hm12 : m < 12 := by
            have a := mS_last Y m w1
            have b := mS_up Y m.toNat 12 (by omega)
            have c := mS_year Y
            have e := HYs.out
            have l := HL.out
            by_cases hm : m < 12
            · exact hm
            · have : m.toNat = 12 := by omega
              rw [this] at a w4
              omega
          have HN := Lib.hid (hW.month (by omega) hm12)
          generalize dIM Y m = X at HMB HN hd hlt
          clear hW hD hZ1 hB1 w4
          go_wp2
          go_quiet ((go_at_call 44; exact quiet_same (HMB.out _ (HM1.out.drewN _))))
          go_wp2
          have hD2 : DAt (wr.drewN nq).drew (w.heap.size + 1) Y m (r + 1) := HD.out
          have hM2 : MTab (wr.drewN nq).drew := HM1.out
          refine wp_region_T (fun _ => True) (fun w' => DAt w' (w.heap.size + 1) Y m (r + 1) ∧ MTab w') 9 (by kernel_rfl) 10 rfl ?_
          refine wpAnyT_takesB (md := .any) 4 (by kernel_rfl) (by intro d v c a w h; cases d <;> exact h) [0, 1, 2, 3, 4, 5] _ _ _ (by decide) (by kernel_rfl) (by kernel_rfl) (by kernel_rfl) ⟨trivial, fun _ => ⟨hD2, hM2⟩⟩ ?_
          simp only [pick, List.filterMap_cons, List.filterMap_nil, List.getElem?_cons_zero, List.getElem?_cons_succ]
          iterate 1 (refine wpIf_step ?_ (by kernel_rfl) ?_ ?_; rotate_left; (intro w _; go_simp); try with_reducible rfl)
          refine wpIf_step (.int .i64 (r + 1)) (by kernel_rfl) (fun w hw => by have h0 := hw.2.1.c2; go_simp) ?_
          iterate 1 (refine wpIf_step ?_ (by kernel_rfl) ?_ ?_; rotate_left; (intro w _; go_simp); try with_reducible rfl)
          refine wpIf_step (.int .i64 Y) (by kernel_rfl) (fun w hw => by have h0 := hw.2.1.c0; go_simp) ?_
          iterate 1 (refine wpIf_step ?_ (by kernel_rfl) ?_ ?_; rotate_left; (intro w _; go_simp); try with_reducible rfl)
          refine wpIf_step (.int .i64 m) (by kernel_rfl) (fun w hw => by have h0 := hw.2.1.c1; go_simp) ?_
          refine wpIf_nil (fun hS => ?_)
          refine wpAnyT_one 6 3 (by kernel_rfl) rfl (by kernel_rfl) (fun K hK => ?_)
          go_simp
          refine (HMB.out _ hM2).mono ?_
          rintro e v1 ⟨rfl, rfl⟩
          refine hK _ _ ⟨trivial, fun _ => ⟨hD2, hM2⟩⟩ (fun hS3 => ?_)
          clear hK K hS
          refine wpAnyT_takesB (md := .any) 1 (by kernel_rfl) (by intro d v c a w h; cases d <;> exact h) [7, 8] _ _ _ (by decide) (by kernel_rfl) (by kernel_rfl) (by kernel_rfl) hS3 ?_
          simp only [pick, List.filterMap_cons, List.filterMap_nil, List.getElem?_cons_zero, List.getElem?_cons_succ]
          iterate 2 (refine wpIf_step ?_ (by kernel_rfl) ?_ ?_; rotate_left; (intro w _; go_simp); try with_reducible rfl)
          refine wpIf_nil (fun hS => ?_)
          clear hS3 hS
          have k2 := hD2.c2
          have g2 := hD2.frozen 2
          have g2w := HD.out.frozen 2
          refine wpAnyT_one 9 0 (by kernel_rfl) rfl (by kernel_rfl) (fun K hK => ?_)
          go_simp
          refine hK _ _ ⟨trivial, fun h => by cases h⟩ (fun hS4 => ?_)
          clear hK K hS4 k2 g2
          refine wpAnyT_over (by kernel_rfl) ?_
          have hD3 := hD2.s2 (r + 1 - X)
          have k1 := hD3.c1
          have g1 := hD3.frozen 1
          have g1w := HD.out.frozen 1
          clear hD3 hD2 hM2
          go_wp2
          have e0 : DAt (wr.drewN (nq + 1)) (w.heap.size + 1) Y m (r + 1) := HD.out
          have e1 : DAt (wr.drewN (nq + 1)) w.heap.size 0 0 0 := HZ1.out
          have e2 := below_drewN HB1.out (nq + 1)
          have hF := (e0.s2 (r + 1 - X)).s1 (m + 1)
          refine ⟨⟨m + 1, r - X, HN.out, ?_, (e1.other _ _ (by omega)).other _ _ (by omega), (e2.setCell (p := ⟨w.heap.size + 1, 2, none⟩) (by show w.heap.size ≤ w.heap.size + 1; omega) _).setCell (p := ⟨w.heap.size + 1, 1, none⟩) (by show w.heap.size ≤ w.heap.size + 1; omega) _⟩, ?_⟩
          · rw [show r - X + 1 = r + 1 - X by omega]; exact hF
          · rw [dayIn_at hF, dayIn_at HD.out]; omega
        · have HN := Lib.hid (hW.done (by omega))
          generalize dIM Y m = X at HMB hd hlt
          clear hW hD hZ1 hB1 w4
          go_wp2
          go_quiet ((go_at_call 44; exact quiet_same (HMB.out _ (HM1.out.drewN _))))
          have hD2 : DAt (wr.drewN nq) (w.heap.size + 1) Y m (r + 1) := HD.out
          have hZ2 : DAt (wr.drewN nq) w.heap.size 0 0 0 := HZ1.out
          have hB2 := below_drewN HB1.out nq
          generalize wr.drewN nq = V at hD2 hZ2 hB2 ⊢
          have d0 := hD2.c0
          have d1 := hD2.c1
          have d2 := hD2.c2
          have z0 := hZ2.c0
          have z1 := hZ2.c1
          have z2 := hZ2.c2
          have g0 := hZ2.frozen 0
          have g1 := hZ2.frozen 1
          have g2 := hZ2.frozen 2
          have HF := Lib.hid (((hZ2.s0 Y).s1 m).s2 (r + 1))
          have HBF := Lib.hid (((hB2.setCell (p := ⟨w.heap.size, 0, none⟩) (Nat.le_refl _) (.int .i64 Y)).setCell (p := ⟨w.heap.size, 1, none⟩) (Nat.le_refl _) (.int .i64 m)).setCell (p := ⟨w.heap.size, 2, none⟩) (Nat.le_refl _) (.int .i64 (r + 1)))
          clear hD2 hZ2 hB2
          go_wp2
          refine bodyPost_ret (results_date rfl _ _ _ _ _ _ rfl HF.out) rfl ?_
          exact ⟨Y, m, r + 1, rfl, HN.out, HBF.out⟩

/-- The date of a day; zero when there is none. -/
noncomputable def dateR (n : Int) : Int × Int × Int := open Classical in if h : 0 ≤ n ∧ n ≤ 200000 ∧ ∃ t : Int × Int × Int, IsD n t.1 t.2.1 t.2.2 then Classical.choose h.2.2 else (0, 0, 0)
theorem dateR_is {n y m d : Int} (h0 : 0 ≤ n) (h1 : n ≤ 200000) (h : IsD n y m d) : dateR n = (y, m, d) := by
  have hx : 0 ≤ n ∧ n ≤ 200000 ∧ ∃ t : Int × Int × Int, IsD n t.1 t.2.1 t.2.2 := ⟨h0, h1, (y, m, d), h⟩
  unfold dateR
  rw [dif_pos hx]
  have hs := Classical.choose_spec hx.2.2
  obtain ⟨e1, e2, e3⟩ := isD_uniq hs h
  exact Prod.ext e1 (Prod.ext e2 e3)
theorem dateR_not {n : Int} (h : ¬ (0 ≤ n ∧ n ≤ 200000)) : dateR n = (0, 0, 0) := by
  unfold dateR
  rw [dif_neg (fun hx => h ⟨hx.1, hx.2.1⟩)]
noncomputable abbrev dateV (n : Int) : Value := dV (dateR n).1 (dateR n).2.1 (dateR n).2.2

set_option maxRecDepth 100000 in
set_option maxHeartbeats 1600000 in
theorem implDateOf_any (n : Int) (w : World) (hM : MTab w) :
    Calls Tryd.prog 12 #[.int .i64 n] w fun e w' => e = .returned (dateV n) ∧ Below w.heap.size w w' := by
  by_cases h : 0 ≤ n ∧ n ≤ 200000
  · refine (implDateOf_in n w h.1 h.2 hM).mono ?_
    rintro e w' ⟨y, m, d, rfl, hd, hb⟩
    have hv : dateV n = dV y m d := by unfold dateV; rw [dateR_is h.1 h.2 hd]
    rw [hv]
    exact ⟨rfl, hb⟩
  · have HI := Lib.hid (fun w => isDay_any n w)
    rw [show (decide (0 ≤ n) && decide (n ≤ 200000)) = false by simpa using fun h1 => by omega] at HI
    have hv : dateV n = dV 0 0 0 := by unfold dateV; rw [dateR_not h]
    rw [hv]
    have HF := Lib.hid (DAt.new w 0 0 0)
    have HB := Lib.hid ((Below.refl w.heap.size w).alloc (Nat.le_refl _) (dC 0 0 0))
    clear h hM hv
    go_enter Tryd.func12, Tryd.ntmps12
    go_wp2_with fail
    refine (HI.out _).mono ?_
    rintro e w1 ⟨rfl, rfl⟩
    go_wp2
    refine bodyPost_ret (results_date rfl _ _ _ _ _ _ rfl HF.out) rfl ?_
    exact ⟨rfl, HB.out⟩

set_option maxRecDepth 100000 in
set_option maxHeartbeats 1600000 in
theorem specDateOf_any (n : Int) (w : World) :
    Calls Tryd.prog 14 #[.int .i64 n] w fun e w' => e = .returned (dateV n) ∧ Below w.heap.size w w' := by
  have HZ := Lib.hid (DAt.new w 0 0 0)
  have HB := Lib.hid ((Below.refl w.heap.size w).alloc (Nat.le_refl _) (dC 0 0 0))
  by_cases h : 0 ≤ n ∧ n ≤ 200000
  · have HI := Lib.hid (fun w => l1In_true n 0 200000 w h)
    have HC := Lib.hid (fun w => l7Date_any n w h.1 h.2)
    have HV : Hid (∀ y m d, IsD n y m d → dateV n = dV y m d) := Lib.hid (fun y m d hd => by unfold dateV; rw [dateR_is h.1 h.2 hd])
    generalize dateV n = V at HV ⊢
    clear h
    go_enter Tryd.func14, Tryd.ntmps14
    go_wp2_with fail
    refine (HI.out _).mono ?_
    rintro e w1 ⟨rfl, rfl⟩
    go_wp2_with fail
    refine (HC.out _).mono ?_
    rintro e w1 ⟨y, m, d, rfl, hd, hb1⟩
    have hZ1 := HZ.out.keep hb1 (Nat.le_refl _)
    have hB1 := HB.out.trans (hb1.mono (by simp))
    have z0 := hZ1.c0
    have z1 := hZ1.c1
    have z2 := hZ1.c2
    have g0 := hZ1.frozen 0
    have g1 := hZ1.frozen 1
    have g2 := hZ1.frozen 2
    have HF := Lib.hid (((hZ1.s0 y).s1 m).s2 d)
    have HBF := Lib.hid (((hB1.setCell (p := ⟨w.heap.size, 0, none⟩) (Nat.le_refl _) (.int .i64 y)).setCell (p := ⟨w.heap.size, 1, none⟩) (Nat.le_refl _) (.int .i64 m)).setCell (p := ⟨w.heap.size, 2, none⟩) (Nat.le_refl _) (.int .i64 d))
    have HVV := Lib.hid (HV.out y m d hd)
    clear hZ1 hB1 hb1 hd
    go_wp2
    refine bodyPost_ret (results_date rfl _ _ _ _ _ _ rfl HF.out) rfl ?_
    exact ⟨by rw [HVV.out], HBF.out⟩
  · have HI := Lib.hid (fun w => l1In_false n 0 200000 w h)
    have hv : dateV n = dV 0 0 0 := by unfold dateV; rw [dateR_not h]
    rw [hv]
    clear h hv
    go_enter Tryd.func14, Tryd.ntmps14
    go_wp2_with fail
    refine (HI.out _).mono ?_
    rintro e w1 ⟨rfl, rfl⟩
    go_wp2
    refine bodyPost_ret (results_date rfl _ _ _ _ _ _ rfl HZ.out) rfl ?_
    exact ⟨rfl, HB.out⟩
end Go.Proofs.YtgimjfffdnopiaaDoor
