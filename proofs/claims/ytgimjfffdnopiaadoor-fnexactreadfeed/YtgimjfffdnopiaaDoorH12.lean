/- Joined: W7e. -/
import Derived.Test.YtgimjfffdnopiaaDoorH10
import Derived.Test.YtgimjfffdnopiaaDoorH11
/- W7e -/
namespace Go.Proofs.YtgimjfffdnopiaaDoor
open Go.ChangeShapes Go.WideShapes Go.ChangeAt Go.RowKit
set_option linter.unusedVariables false

theorem dOk_not {y m d : Int} (h : ¬ (1970 ≤ y ∧ y ≤ 2517 ∧ 1 ≤ m ∧ m ≤ 12 ∧ 1 ≤ d ∧ d ≤ dIM y m ∧ dN y m d ≤ 200000)) : dOk y m d = false := decide_eq_false h
theorem l1In_true (n lo hi : Int) (w : World) (h : lo ≤ n ∧ n ≤ hi) : Calls Tryd.prog 46 #[.int .i64 n, .int .i64 lo, .int .i64 hi] w fun e w' => e = .returned (.bool true) ∧ w = w' := by
  have := l1In_any n lo hi w
  rwa [decide_eq_true h.1, decide_eq_true h.2] at this
theorem l1In_false (n lo hi : Int) (w : World) (h : ¬ (lo ≤ n ∧ n ≤ hi)) : Calls Tryd.prog 46 #[.int .i64 n, .int .i64 lo, .int .i64 hi] w fun e w' => e = .returned (.bool false) ∧ w = w' := by
  have := l1In_any n lo hi w
  rwa [show (decide (lo ≤ n) && decide (n ≤ hi)) = false by simpa using fun h1 => by omega] at this

set_option maxRecDepth 100000 in
set_option maxHeartbeats 3000000 in
theorem specDateOk_any (y m d : Int) (w : World) :
    Calls Tryd.prog 16 #[dV y m d] w fun e w' => e = .returned (.bool (dOk y m d)) ∧ Below w.heap.size w w' := by
  have HB : Hid (∀ n, Below w.heap.size w ((w.alloc (.cells #[.int .i64 y, .int .i64 m, .int .i64 d] 25)).drewN n)) := Lib.hid (fun n => below_drewN ((Below.refl _ _).alloc (Nat.le_refl _) _) n)
  by_cases c1 : 1970 ≤ y ∧ y ≤ 2517
  · have I1 := Lib.hid (fun w => l1In_true y 1970 2517 w c1)
    by_cases c2 : 1 ≤ m ∧ m ≤ 12
    · have I2 := Lib.hid (fun w => l1In_true m 1 12 w c2)
      have HD := Lib.hid (fun w => l7Days_any y m w (by omega) (by omega))
      by_cases c3 : 1 ≤ d ∧ d ≤ dIM y m
      · have I3 := Lib.hid (fun w => l1In_true d 1 (dIM y m) w c3)
        have hd31 := dIM_bd y m
        have HN := Lib.hid (fun w => l7Day_any y m d w c1.1 c1.2 c2.1 c2.2 c3.1 (by omega))
        have HE : Hid (dOk y m d = decide (dN y m d ≤ 200000)) := Lib.hid (by unfold dOk; simp [c1, c2, c3])
        have hbd := dN_bd y m d c1.1 (by omega) c2.2 c3.1 (by omega)
        generalize dN y m d = N at HN HE hbd
        generalize dIM y m = D at HD I3
        have hA := DAt.new w y m d
        have hB0 : Below w.heap.size w (w.alloc (.cells #[.int .i64 y, .int .i64 m, .int .i64 d] 25)) := (Below.refl _ _).alloc (Nat.le_refl _) _
        clear c1 c2 c3 hd31
        go_enter Tryd.func16, Tryd.ntmps16
        go_wp2
        generalize w.alloc (.cells #[.int .i64 y, .int .i64 m, .int .i64 d] 25) = W at hA hB0 ⊢
        have hA1 : DAt W.drew w.heap.size y m d := hA
        have hB1 := hB0.drew
        clear hA hB0 HB
        refine wp_region_T (fun w' => DAt w' w.heap.size y m d) (fun _ => True) 23 (by kernel_rfl) 24 rfl ?_
        refine wpAnyT_takesA (md := .any) 22 (by kernel_rfl) (by intro d v c a w h; cases d <;> exact h) [0, 1] _ _ _ (by decide) (by kernel_rfl) ⟨hA1, fun _ => trivial⟩ ?_
        simp only [pick, List.filterMap_cons, List.filterMap_nil, List.getElem?_cons_zero, List.getElem?_cons_succ]
        iterate 1 (refine wpIf_step ?_ (by kernel_rfl) ?_ ?_; rotate_left; (intro w _; go_simp); try with_reducible rfl)
        refine wpIf_step (.int .i64 y) (by kernel_rfl) (fun w hw => by have h0 := hw.c0; go_simp) ?_
        refine wpIf_nil (fun hS => ?_)
        refine wpAnyT_one 2 21 (by kernel_rfl) rfl (by kernel_rfl) (fun K hK => ?_)
        go_simp
        refine (I1.out _).mono ?_
        rintro e v1 ⟨rfl, rfl⟩
        refine hK _ _ ⟨hA1, fun _ => trivial⟩ (fun hS3 => ?_)
        clear hK K hS
        refine wpAnyT_takesA (md := .any) 18 (by kernel_rfl) (by intro d v c a w h; cases d <;> exact h) [3, 4, 5] _ _ _ (by decide) (by kernel_rfl) hS3 ?_
        simp only [pick, List.filterMap_cons, List.filterMap_nil, List.getElem?_cons_zero, List.getElem?_cons_succ]
        iterate 2 (refine wpIf_step ?_ (by kernel_rfl) ?_ ?_; rotate_left; (intro w _; go_simp); try with_reducible rfl)
        refine wpIf_step (.int .i64 m) (by kernel_rfl) (fun w hw => by have h0 := hw.c1; go_simp) ?_
        refine wpIf_nil (fun hS => ?_)
        clear hS3
        refine wpAnyT_one 6 17 (by kernel_rfl) rfl (by kernel_rfl) (fun K hK => ?_)
        go_simp
        refine (I2.out _).mono ?_
        rintro e v1 ⟨rfl, rfl⟩
        refine hK _ _ ⟨hA1, fun _ => trivial⟩ (fun hS3 => ?_)
        clear hK K hS
        refine wpAnyT_takesA (md := .any) 9 (by kernel_rfl) (by intro d v c a w h; cases d <;> exact h) [7, 8, 9, 10, 11, 12, 13, 14] _ _ _ (by decide) (by kernel_rfl) hS3 ?_
        simp only [pick, List.filterMap_cons, List.filterMap_nil, List.getElem?_cons_zero, List.getElem?_cons_succ]
        iterate 3 (refine wpIf_step ?_ (by kernel_rfl) ?_ ?_; rotate_left; (intro w _; go_simp); try with_reducible rfl)
        refine wpIf_step (.int .i64 d) (by kernel_rfl) (fun w hw => by have h0 := hw.c2; go_simp) ?_
        iterate 1 (refine wpIf_step ?_ (by kernel_rfl) ?_ ?_; rotate_left; (intro w _; go_simp); try with_reducible rfl)
        refine wpIf_step (.int .i64 y) (by kernel_rfl) (fun w hw => by have h0 := hw.c0; go_simp) ?_
        iterate 1 (refine wpIf_step ?_ (by kernel_rfl) ?_ ?_; rotate_left; (intro w _; go_simp); try with_reducible rfl)
        refine wpIf_step (.int .i64 m) (by kernel_rfl) (fun w hw => by have h0 := hw.c1; go_simp) ?_
        refine wpIf_nil (fun hS => ?_)
        clear hS3
        refine wpAnyT_one 15 8 (by kernel_rfl) rfl (by kernel_rfl) (fun K hK => ?_)
        go_simp
        refine (HD.out _).mono ?_
        rintro e v1 ⟨rfl, rfl⟩
        refine hK _ _ ⟨hA1, fun _ => trivial⟩ (fun hS3 => ?_)
        clear hK K hS
        refine wpAnyT_one 16 7 (by kernel_rfl) rfl (by kernel_rfl) (fun K hK => ?_)
        go_simp
        refine (I3.out _).mono ?_
        rintro e v1 ⟨rfl, rfl⟩
        refine hK _ _ ⟨hA1, fun _ => trivial⟩ (fun hS4 => ?_)
        clear hK K hS3
        refine wpAnyT_takesA (md := .any) 4 (by kernel_rfl) (by intro d v c a w h; cases d <;> exact h) [17, 18, 19] _ _ _ (by decide) (by kernel_rfl) hS4 ?_
        simp only [pick, List.filterMap_cons, List.filterMap_nil, List.getElem?_cons_zero, List.getElem?_cons_succ]
        iterate 2 (refine wpIf_step ?_ (by kernel_rfl) ?_ ?_; rotate_left; (intro w _; go_simp); try with_reducible rfl)
        refine wpIf_step (dV y m d) (by kernel_rfl) (fun w hw => by have h0 := hw.c0; have h1 := hw.c1; have h2 := hw.c2; go_simp) ?_
        refine wpIf_nil (fun hS => ?_)
        clear hS4
        refine wpAnyT_one 20 3 (by kernel_rfl) rfl (by kernel_rfl) (fun K hK => ?_)
        go_simp
        refine (HN.out _).mono ?_
        rintro e v2 ⟨rfl, hb2⟩
        have hA2 := hA1.keep hb2 (Nat.le_refl _)
        have hB2 := hB1.trans (hb2.mono hB1.size)
        refine hK _ _ ⟨hA2, fun _ => trivial⟩ (fun hS4 => ?_)
        clear hK K hS hb2
        refine wpAnyT_takesA (md := .any) 1 (by kernel_rfl) (by intro d v c a w h; cases d <;> exact h) [21, 22] _ _ _ (by decide) (by kernel_rfl) hS4 ?_
        simp only [pick, List.filterMap_cons, List.filterMap_nil, List.getElem?_cons_zero, List.getElem?_cons_succ]
        iterate 2 (refine wpIf_step ?_ (by kernel_rfl) ?_ ?_; rotate_left; (intro w _; go_simp); try with_reducible rfl)
        refine wpIf_nil (fun hS => ?_)
        clear hS4
        refine wpAnyT_one 23 0 (by kernel_rfl) rfl (by kernel_rfl) (fun K hK => ?_)
        go_simp
        refine hK _ _ ⟨hA2, fun _ => trivial⟩ (fun hS4 => ?_)
        clear hK K
        refine wpAnyT_over (by kernel_rfl) ?_
        go_wp2
        go_ret
        exact ⟨ret_bool HE.out.symm, hB2⟩
      · have I3 := Lib.hid (fun w => l1In_false d 1 (dIM y m) w c3)
        have HE := Lib.hid (dOk_not (y := y) (m := m) (d := d) (fun h => c3 ⟨h.2.2.2.2.1, h.2.2.2.2.2.1⟩))
        rw [HE.out]
        generalize dIM y m = D at HD I3
        clear c1 c2 c3
        go_enter Tryd.func16, Tryd.ntmps16
        go_wp2
        go_quiet (first | (go_at_call_of 46 (Value.int .i64 y); exact quiet_same (I1.out _)) | (go_at_call_of 46 (Value.int .i64 m); exact quiet_same (I2.out _)) | (go_at_call 49; exact quiet_same (HD.out _)) | (go_at_call 46; exact quiet_same (I3.out _)))
        go_wp2
        go_ret
        exact ⟨rfl, HB.out _⟩
    · have I2 := Lib.hid (fun w => l1In_false m 1 12 w c2)
      have HE := Lib.hid (dOk_not (y := y) (m := m) (d := d) (fun h => c2 ⟨h.2.2.1, h.2.2.2.1⟩))
      rw [HE.out]
      clear c1 c2
      go_enter Tryd.func16, Tryd.ntmps16
      go_wp2
      go_quiet (first | (go_at_call_of 46 (Value.int .i64 y); exact quiet_same (I1.out _)) | (go_at_call 46; exact quiet_same (I2.out _)))
      go_wp2
      go_ret
      exact ⟨rfl, HB.out _⟩
  · have I1 := Lib.hid (fun w => l1In_false y 1970 2517 w c1)
    have HE := Lib.hid (dOk_not (y := y) (m := m) (d := d) (fun h => c1 ⟨h.1, h.2.1⟩))
    rw [HE.out]
    clear c1
    go_enter Tryd.func16, Tryd.ntmps16
    go_wp2
    go_quiet ((go_at_call 46; exact quiet_same (I1.out _)))
    go_wp2
    go_ret
    exact ⟨rfl, HB.out _⟩

set_option maxRecDepth 100000 in
set_option maxHeartbeats 1600000 in
theorem specDayOf_any (y m d : Int) (w : World) :
    Calls Tryd.prog 13 #[dV y m d] w fun e w' => e = .returned (.int .i64 (dayR y m d)) ∧ Below w.heap.size w w' := by
  have HI := Lib.hid (fun w => specDateOk_any y m d w)
  have hB0 : Below w.heap.size w (w.alloc (.cells #[.int .i64 y, .int .i64 m, .int .i64 d] 25)) := (Below.refl _ _).alloc (Nat.le_refl _) _
  have HA0 := Lib.hid (DAt.new w y m d)
  cases hc : dOk y m d with
  | true =>
    rw [hc] at HI
    obtain ⟨c1, c2, c3, c4, c5, c6, c7⟩ := (dOk_iff y m d).1 hc
    have hd31 := dIM_bd y m
    have HN := Lib.hid (fun w => l7Day_any y m d w c1 c2 c3 c4 c5 (by omega))
    have HE : Hid (dayR y m d = dN y m d) := Lib.hid (by unfold dayR; rw [if_pos hc])
    rw [HE.out]
    generalize dN y m d = N at HN ⊢
    clear hc c1 c2 c3 c4 c5 c6 hd31 c7 HE
    go_enter Tryd.func13, Tryd.ntmps13
    go_wp2_with fail
    refine (HI.out _).mono ?_
    rintro e w1 ⟨rfl, hb1⟩
    have hA1 := HA0.out.keep hb1 (Nat.le_refl _)
    have k0 := hA1.c0
    have k1 := hA1.c1
    have k2 := hA1.c2
    have hB1 := hB0.trans (hb1.mono hB0.size)
    clear hb1 HI hA1
    go_wp2_with fail
    refine (HN.out _).mono ?_
    rintro e w2 ⟨rfl, hb2⟩
    have hB2 := hB1.trans (hb2.mono hB1.size)
    clear hb2
    go_wp2
    go_ret
    exact ⟨rfl, hB2⟩
  | false =>
    rw [hc] at HI
    have HE : Hid (dayR y m d = -1) := Lib.hid (by unfold dayR; rw [hc]; rfl)
    rw [HE.out]
    clear hc HE
    go_enter Tryd.func13, Tryd.ntmps13
    go_wp2_with fail
    refine (HI.out _).mono ?_
    rintro e w1 ⟨rfl, hb1⟩
    have hB1 := hB0.trans (hb1.mono hB0.size)
    go_wp2
    go_ret
    exact ⟨rfl, hB1⟩
end Go.Proofs.YtgimjfffdnopiaaDoor
