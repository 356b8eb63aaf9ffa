/- Joined: W7l. -/
import Derived.Test.YtgimjfffdnopiaaDoorH37
/- W7l -/
namespace Go.Proofs.YtgimjfffdnopiaaDoor
open Go.ChangeShapes Go.WideShapes Go.ChangeAt Go.RowKit
set_option linter.unusedVariables false

theorem str_eq7 {a b : ByteArray} (h : a.toList = b.toList) : a = b := by
  apply ba_eq
  rw [ByteArray.toList_eq, ByteArray.toList_eq] at h
  exact h

set_option maxRecDepth 100000 in
set_option maxHeartbeats 3000000 in
theorem specReadDate_any (s : ByteArray) (w : World) :
    Calls Tryd.prog 21 #[.string s] w fun e w' => e = .returned (rdV s) ∧ Below w.heap.size w w' := by
  have HZ := Lib.hid (DAt.new w 0 0 0)
  have HB : Hid (Below w.heap.size w (w.alloc (dC 0 0 0))) := Lib.hid ((Below.refl _ _).alloc (Nat.le_refl _) _)
  by_cases c1 : s.size = 10
  · have hsI : (s.size : Int) = 10 := by omega
    have HIF := Lib.hid (rd_iff s c1)
    have D1 := Lib.hid (fun w => l7Digits_any (s.extract 0 4) w (by rw [ByteArray.size_extract]; omega))
    have D2 := Lib.hid (fun w => l7Digits_any (s.extract 5 7) w (by rw [ByteArray.size_extract]; omega))
    have D3 := Lib.hid (fun w => l7Digits_any (s.extract 8 10) w (by rw [ByteArray.size_extract]; omega))
    have HC := Lib.hid (fun w => specDateText_any (dgI (s.extract 0 4)) (dgI (s.extract 5 7)) (dgI (s.extract 8 10)) w)
    have HY : Hid (dateT (dgI (s.extract 0 4)) (dgI (s.extract 5 7)) (dgI (s.extract 8 10)) = s → rdV s = .tuple #[dV (dgI (s.extract 0 4)) (dgI (s.extract 5 7)) (dgI (s.extract 8 10)), .bool true]) := Lib.hid (fun h => rdV_yes ⟨c1, HIF.out.1 h⟩)
    have HN : Hid (¬ dateT (dgI (s.extract 0 4)) (dgI (s.extract 5 7)) (dgI (s.extract 8 10)) = s → rdV s = .tuple #[dV 0 0 0, .bool false]) := Lib.hid (fun h => rdV_not (fun hx => h (HIF.out.2 hx.2)))
    generalize dateT (dgI (s.extract 0 4)) (dgI (s.extract 5 7)) (dgI (s.extract 8 10)) = T at HC HY HN
    generalize dgI (s.extract 0 4) = Y at D1 HY HN HC
    generalize dgI (s.extract 5 7) = M at D2 HY HN HC
    generalize dgI (s.extract 8 10) = D at D3 HY HN HC
    generalize rdV s = out at HY HN ⊢
    clear HIF
    go_enter Tryd.func21, Tryd.ntmps21
    go_wp2
    refine wp_region_T (fun _ => True) (fun _ => True) 11 (by kernel_rfl) 12 rfl ?_
    refine wpAnyT_takesA (md := .any) 6 (by kernel_rfl) (by intro d v c a w h; cases d <;> exact h) [0, 1, 3, 4, 6, 7] _ _ _ (by decide) (by kernel_rfl) ⟨trivial, fun _ => trivial⟩ ?_
    simp only [pick, List.filterMap_cons, List.filterMap_nil, List.getElem?_cons_zero, List.getElem?_cons_succ]
    refine wpIf_step (.string s) (by kernel_rfl) (fun w hw => by go_simp) ?_
    refine wpIf_step (.string (s.extract 0 4)) (by kernel_rfl) (fun w hw => by go_simp) ?_
    refine wpIf_step (.string s) (by kernel_rfl) (fun w hw => by go_simp) ?_
    refine wpIf_step (.string (s.extract 5 7)) (by kernel_rfl) (fun w hw => by go_simp) ?_
    refine wpIf_step (.string s) (by kernel_rfl) (fun w hw => by go_simp) ?_
    refine wpIf_step (.string (s.extract 8 10)) (by kernel_rfl) (fun w hw => by go_simp) ?_
    refine wpIf_nil (fun _ => ?_)
    refine wpAnyT_two 2 10 5 (by kernel_rfl) rfl rfl (by kernel_rfl) (by kernel_rfl) (fun K hK => ?_) (fun K hK => ?_)
    · go_simp
      refine (D1.out _).mono ?_
      rintro e v1 ⟨rfl, rfl⟩
      refine hK _ _ ⟨trivial, fun _ => trivial⟩ (fun _ => ?_)
      clear hK K
      refine wpAnyT_two 5 10 4 (by kernel_rfl) rfl rfl (by kernel_rfl) (by kernel_rfl) (fun K hK => ?_) (fun K hK => ?_)
      · go_simp
        refine (D2.out _).mono ?_
        rintro e v1 ⟨rfl, rfl⟩
        refine hK _ _ ⟨trivial, fun _ => trivial⟩ (fun _ => ?_)
        clear hK K
        refine wpAnyT_two 8 10 3 (by kernel_rfl) rfl rfl (by kernel_rfl) (by kernel_rfl) (fun K hK => ?_) (fun K hK => ?_)
        · go_simp
          refine (D3.out _).mono ?_
          rintro e v1 ⟨rfl, rfl⟩
          refine hK _ _ ⟨trivial, fun _ => trivial⟩ (fun _ => ?_)
          clear hK K
          refine wpAnyT_takesA (md := .any) 2 (by kernel_rfl) (by intro d v c a w h; cases d <;> exact h) [9] _ _ _ (by decide) (by kernel_rfl) ⟨trivial, fun _ => trivial⟩ ?_
          simp only [pick, List.filterMap_cons, List.filterMap_nil, List.getElem?_cons_zero, List.getElem?_cons_succ]
          refine wpIf_step (dV Y M D) (by kernel_rfl) (fun w hw => by go_simp) ?_
          refine wpIf_nil (fun _ => ?_)
          refine wpAnyT_one 10 1 (by kernel_rfl) rfl (by kernel_rfl) (fun K hK => ?_)
          go_simp
          refine hK _ _ ⟨trivial, fun _ => trivial⟩ (fun _ => ?_)
          clear hK K
          refine wpAnyT_one 11 0 (by kernel_rfl) rfl (by kernel_rfl) (fun K hK => ?_)
          go_simp
          refine hK _ _ ⟨trivial, fun _ => trivial⟩ (fun _ => ?_)
          clear hK K
          refine wpAnyT_over (by kernel_rfl) ?_
          have hA := DAt.new ((w.alloc (dC 0 0 0)).drew) Y M D
          have hZ1 : DAt (((w.alloc (dC 0 0 0)).drew).alloc (dC Y M D)) w.heap.size 0 0 0 := DAt.alloc (w := (w.alloc (dC 0 0 0)).drew) HZ.out (dC Y M D)
          have hB1 := HB.out.drew.alloc (by simp) (dC Y M D)
          rw [show ((w.alloc (dC 0 0 0)).drew).heap.size = w.heap.size + 1 by simp] at hA
          change Exit.then _ _ _ _ (((w.alloc (dC 0 0 0)).drew).alloc (dC Y M D))
          generalize ((w.alloc (dC 0 0 0)).drew).alloc (dC Y M D) = V at hA hZ1 hB1 ⊢
          have a0 := hA.c0
          have a1 := hA.c1
          have a2 := hA.c2
          go_wp2_with fail
          refine (HC.out _).mono ?_
          rintro e w2 ⟨rfl, hb2⟩
          have hA2 := hA.keep hb2 (Nat.le_refl _)
          have hZ2 := hZ1.keep hb2 (Nat.le_refl _)
          have hB2 := hB1.trans (hb2.mono hB1.size)
          have d0 := hA2.c0
          have d1 := hA2.c1
          have d2 := hA2.c2
          have z0 := hZ2.c0
          have z1 := hZ2.c1
          have z2 := hZ2.c2
          have g0 := hZ2.frozen 0
          have g1 := hZ2.frozen 1
          have g2 := hZ2.frozen 2
          by_cases hc : T = s
          · have HV := Lib.hid (HY.out hc)
            have hT : (T.toList == s.toList) = true := by rw [hc]; simp
            have HF := Lib.hid (((hZ2.s0 Y).s1 M).s2 D)
            have HBF := Lib.hid (((hB2.setCell (p := ⟨w.heap.size, 0, none⟩) (Nat.le_refl _) (.int .i64 Y)).setCell (p := ⟨w.heap.size, 1, none⟩) (Nat.le_refl _) (.int .i64 M)).setCell (p := ⟨w.heap.size, 2, none⟩) (Nat.le_refl _) (.int .i64 D))
            clear hA hA2 hZ1 hZ2 hB1 hB2 hb2 a0 a1 a2 hc
            go_wp2
            refine bodyPost_ret (results_date2 rfl _ _ _ _ _ _ _ rfl rfl HF.out) rfl ?_
            exact ⟨by rw [HV.out]; rfl, HBF.out⟩
          · have HV := Lib.hid (HN.out hc)
            have hT : (T.toList == s.toList) = false := by
              have : ¬ T.toList = s.toList := fun h => hc (str_eq7 h)
              simpa using this
            have HF := Lib.hid (((hZ2.s0 0).s1 0).s2 0)
            have HBF := Lib.hid (((hB2.setCell (p := ⟨w.heap.size, 0, none⟩) (Nat.le_refl _) (.int .i64 0)).setCell (p := ⟨w.heap.size, 1, none⟩) (Nat.le_refl _) (.int .i64 0)).setCell (p := ⟨w.heap.size, 2, none⟩) (Nat.le_refl _) (.int .i64 0))
            clear hA hA2 hZ1 hZ2 hB1 hB2 hb2 a0 a1 a2 hc
            go_wp2
            refine bodyPost_ret (results_date2 rfl _ _ _ _ _ _ _ rfl rfl HF.out) rfl ?_
            exact ⟨by rw [HV.out]; rfl, HBF.out⟩
        · go_simp
          refine hK _ _ ⟨trivial, fun _ => trivial⟩ (fun _ => ?_)
          clear hK K
          refine wpAnyT_one 8 2 (by kernel_rfl) rfl (by kernel_rfl) (fun K hK => ?_)
          go_simp
          refine (D3.out _).mono ?_
          rintro e v1 ⟨rfl, rfl⟩
          refine hK _ _ ⟨trivial, fun _ => trivial⟩ (fun _ => ?_)
          clear hK K
          refine wpAnyT_takesA (md := .any) 1 (by kernel_rfl) (by intro d v c a w h; cases d <;> exact h) [9] _ _ _ (by decide) (by kernel_rfl) ⟨trivial, fun _ => trivial⟩ ?_
          simp only [pick, List.filterMap_cons, List.filterMap_nil, List.getElem?_cons_zero, List.getElem?_cons_succ]
          refine wpIf_step (dV Y M D) (by kernel_rfl) (fun w hw => by go_simp) ?_
          refine wpIf_nil (fun _ => ?_)
          refine wpAnyT_one 11 0 (by kernel_rfl) rfl (by kernel_rfl) (fun K hK => ?_)
          go_simp
          refine hK _ _ ⟨trivial, fun _ => trivial⟩ (fun _ => ?_)
          clear hK K
          refine wpAnyT_over (by kernel_rfl) ?_
          have hA := DAt.new ((w.alloc (dC 0 0 0)).drew) Y M D
          have hZ1 : DAt (((w.alloc (dC 0 0 0)).drew).alloc (dC Y M D)) w.heap.size 0 0 0 := DAt.alloc (w := (w.alloc (dC 0 0 0)).drew) HZ.out (dC Y M D)
          have hB1 := HB.out.drew.alloc (by simp) (dC Y M D)
          rw [show ((w.alloc (dC 0 0 0)).drew).heap.size = w.heap.size + 1 by simp] at hA
          change Exit.then _ _ _ _ (((w.alloc (dC 0 0 0)).drew).alloc (dC Y M D))
          generalize ((w.alloc (dC 0 0 0)).drew).alloc (dC Y M D) = V at hA hZ1 hB1 ⊢
          have a0 := hA.c0
          have a1 := hA.c1
          have a2 := hA.c2
          go_wp2_with fail
          refine (HC.out _).mono ?_
          rintro e w2 ⟨rfl, hb2⟩
          have hA2 := hA.keep hb2 (Nat.le_refl _)
          have hZ2 := hZ1.keep hb2 (Nat.le_refl _)
          have hB2 := hB1.trans (hb2.mono hB1.size)
          have d0 := hA2.c0
          have d1 := hA2.c1
          have d2 := hA2.c2
          have z0 := hZ2.c0
          have z1 := hZ2.c1
          have z2 := hZ2.c2
          have g0 := hZ2.frozen 0
          have g1 := hZ2.frozen 1
          have g2 := hZ2.frozen 2
          by_cases hc : T = s
          · have HV := Lib.hid (HY.out hc)
            have hT : (T.toList == s.toList) = true := by rw [hc]; simp
            have HF := Lib.hid (((hZ2.s0 Y).s1 M).s2 D)
            have HBF := Lib.hid (((hB2.setCell (p := ⟨w.heap.size, 0, none⟩) (Nat.le_refl _) (.int .i64 Y)).setCell (p := ⟨w.heap.size, 1, none⟩) (Nat.le_refl _) (.int .i64 M)).setCell (p := ⟨w.heap.size, 2, none⟩) (Nat.le_refl _) (.int .i64 D))
            clear hA hA2 hZ1 hZ2 hB1 hB2 hb2 a0 a1 a2 hc
            go_wp2
            refine bodyPost_ret (results_date2 rfl _ _ _ _ _ _ _ rfl rfl HF.out) rfl ?_
            exact ⟨by rw [HV.out]; rfl, HBF.out⟩
          · have HV := Lib.hid (HN.out hc)
            have hT : (T.toList == s.toList) = false := by
              have : ¬ T.toList = s.toList := fun h => hc (str_eq7 h)
              simpa using this
            have HF := Lib.hid (((hZ2.s0 0).s1 0).s2 0)
            have HBF := Lib.hid (((hB2.setCell (p := ⟨w.heap.size, 0, none⟩) (Nat.le_refl _) (.int .i64 0)).setCell (p := ⟨w.heap.size, 1, none⟩) (Nat.le_refl _) (.int .i64 0)).setCell (p := ⟨w.heap.size, 2, none⟩) (Nat.le_refl _) (.int .i64 0))
            clear hA hA2 hZ1 hZ2 hB1 hB2 hb2 a0 a1 a2 hc
            go_wp2
            refine bodyPost_ret (results_date2 rfl _ _ _ _ _ _ _ rfl rfl HF.out) rfl ?_
            exact ⟨by rw [HV.out]; rfl, HBF.out⟩
      · go_simp
        refine hK _ _ ⟨trivial, fun _ => trivial⟩ (fun _ => ?_)
        clear hK K
        refine wpAnyT_one 5 3 (by kernel_rfl) rfl (by kernel_rfl) (fun K hK => ?_)
        go_simp
        refine (D2.out _).mono ?_
        rintro e v1 ⟨rfl, rfl⟩
        refine hK _ _ ⟨trivial, fun _ => trivial⟩ (fun _ => ?_)
        clear hK K
        refine wpAnyT_one 8 2 (by kernel_rfl) rfl (by kernel_rfl) (fun K hK => ?_)
        go_simp
        refine (D3.out _).mono ?_
        rintro e v1 ⟨rfl, rfl⟩
        refine hK _ _ ⟨trivial, fun _ => trivial⟩ (fun _ => ?_)
        clear hK K
        refine wpAnyT_takesA (md := .any) 1 (by kernel_rfl) (by intro d v c a w h; cases d <;> exact h) [9] _ _ _ (by decide) (by kernel_rfl) ⟨trivial, fun _ => trivial⟩ ?_
        simp only [pick, List.filterMap_cons, List.filterMap_nil, List.getElem?_cons_zero, List.getElem?_cons_succ]
        refine wpIf_step (dV Y M D) (by kernel_rfl) (fun w hw => by go_simp) ?_
        refine wpIf_nil (fun _ => ?_)
        refine wpAnyT_one 11 0 (by kernel_rfl) rfl (by kernel_rfl) (fun K hK => ?_)
        go_simp
        refine hK _ _ ⟨trivial, fun _ => trivial⟩ (fun _ => ?_)
        clear hK K
        refine wpAnyT_over (by kernel_rfl) ?_
        have hA := DAt.new ((w.alloc (dC 0 0 0)).drew) Y M D
        have hZ1 : DAt (((w.alloc (dC 0 0 0)).drew).alloc (dC Y M D)) w.heap.size 0 0 0 := DAt.alloc (w := (w.alloc (dC 0 0 0)).drew) HZ.out (dC Y M D)
        have hB1 := HB.out.drew.alloc (by simp) (dC Y M D)
        rw [show ((w.alloc (dC 0 0 0)).drew).heap.size = w.heap.size + 1 by simp] at hA
        change Exit.then _ _ _ _ (((w.alloc (dC 0 0 0)).drew).alloc (dC Y M D))
        generalize ((w.alloc (dC 0 0 0)).drew).alloc (dC Y M D) = V at hA hZ1 hB1 ⊢
        have a0 := hA.c0
        have a1 := hA.c1
        have a2 := hA.c2
        go_wp2_with fail
        refine (HC.out _).mono ?_
        rintro e w2 ⟨rfl, hb2⟩
        have hA2 := hA.keep hb2 (Nat.le_refl _)
        have hZ2 := hZ1.keep hb2 (Nat.le_refl _)
        have hB2 := hB1.trans (hb2.mono hB1.size)
        have d0 := hA2.c0
        have d1 := hA2.c1
        have d2 := hA2.c2
        have z0 := hZ2.c0
        have z1 := hZ2.c1
        have z2 := hZ2.c2
        have g0 := hZ2.frozen 0
        have g1 := hZ2.frozen 1
        have g2 := hZ2.frozen 2
        by_cases hc : T = s
        · have HV := Lib.hid (HY.out hc)
          have hT : (T.toList == s.toList) = true := by rw [hc]; simp
          have HF := Lib.hid (((hZ2.s0 Y).s1 M).s2 D)
          have HBF := Lib.hid (((hB2.setCell (p := ⟨w.heap.size, 0, none⟩) (Nat.le_refl _) (.int .i64 Y)).setCell (p := ⟨w.heap.size, 1, none⟩) (Nat.le_refl _) (.int .i64 M)).setCell (p := ⟨w.heap.size, 2, none⟩) (Nat.le_refl _) (.int .i64 D))
          clear hA hA2 hZ1 hZ2 hB1 hB2 hb2 a0 a1 a2 hc
          go_wp2
          refine bodyPost_ret (results_date2 rfl _ _ _ _ _ _ _ rfl rfl HF.out) rfl ?_
          exact ⟨by rw [HV.out]; rfl, HBF.out⟩
        · have HV := Lib.hid (HN.out hc)
          have hT : (T.toList == s.toList) = false := by
            have : ¬ T.toList = s.toList := fun h => hc (str_eq7 h)
            simpa using this
          have HF := Lib.hid (((hZ2.s0 0).s1 0).s2 0)
          have HBF := Lib.hid (((hB2.setCell (p := ⟨w.heap.size, 0, none⟩) (Nat.le_refl _) (.int .i64 0)).setCell (p := ⟨w.heap.size, 1, none⟩) (Nat.le_refl _) (.int .i64 0)).setCell (p := ⟨w.heap.size, 2, none⟩) (Nat.le_refl _) (.int .i64 0))
          clear hA hA2 hZ1 hZ2 hB1 hB2 hb2 a0 a1 a2 hc
          go_wp2
          refine bodyPost_ret (results_date2 rfl _ _ _ _ _ _ _ rfl rfl HF.out) rfl ?_
          exact ⟨by rw [HV.out]; rfl, HBF.out⟩
    · go_simp
      refine hK _ _ ⟨trivial, fun _ => trivial⟩ (fun _ => ?_)
      clear hK K
      refine wpAnyT_one 2 4 (by kernel_rfl) rfl (by kernel_rfl) (fun K hK => ?_)
      go_simp
      refine (D1.out _).mono ?_
      rintro e v1 ⟨rfl, rfl⟩
      refine hK _ _ ⟨trivial, fun _ => trivial⟩ (fun _ => ?_)
      clear hK K
      refine wpAnyT_one 5 3 (by kernel_rfl) rfl (by kernel_rfl) (fun K hK => ?_)
      go_simp
      refine (D2.out _).mono ?_
      rintro e v1 ⟨rfl, rfl⟩
      refine hK _ _ ⟨trivial, fun _ => trivial⟩ (fun _ => ?_)
      clear hK K
      refine wpAnyT_one 8 2 (by kernel_rfl) rfl (by kernel_rfl) (fun K hK => ?_)
      go_simp
      refine (D3.out _).mono ?_
      rintro e v1 ⟨rfl, rfl⟩
      refine hK _ _ ⟨trivial, fun _ => trivial⟩ (fun _ => ?_)
      clear hK K
      refine wpAnyT_takesA (md := .any) 1 (by kernel_rfl) (by intro d v c a w h; cases d <;> exact h) [9] _ _ _ (by decide) (by kernel_rfl) ⟨trivial, fun _ => trivial⟩ ?_
      simp only [pick, List.filterMap_cons, List.filterMap_nil, List.getElem?_cons_zero, List.getElem?_cons_succ]
      refine wpIf_step (dV Y M D) (by kernel_rfl) (fun w hw => by go_simp) ?_
      refine wpIf_nil (fun _ => ?_)
      refine wpAnyT_one 11 0 (by kernel_rfl) rfl (by kernel_rfl) (fun K hK => ?_)
      go_simp
      refine hK _ _ ⟨trivial, fun _ => trivial⟩ (fun _ => ?_)
      clear hK K
      refine wpAnyT_over (by kernel_rfl) ?_
      have hA := DAt.new ((w.alloc (dC 0 0 0)).drew) Y M D
      have hZ1 : DAt (((w.alloc (dC 0 0 0)).drew).alloc (dC Y M D)) w.heap.size 0 0 0 := DAt.alloc (w := (w.alloc (dC 0 0 0)).drew) HZ.out (dC Y M D)
      have hB1 := HB.out.drew.alloc (by simp) (dC Y M D)
      rw [show ((w.alloc (dC 0 0 0)).drew).heap.size = w.heap.size + 1 by simp] at hA
      change Exit.then _ _ _ _ (((w.alloc (dC 0 0 0)).drew).alloc (dC Y M D))
      generalize ((w.alloc (dC 0 0 0)).drew).alloc (dC Y M D) = V at hA hZ1 hB1 ⊢
      have a0 := hA.c0
      have a1 := hA.c1
      have a2 := hA.c2
      go_wp2_with fail
      refine (HC.out _).mono ?_
      rintro e w2 ⟨rfl, hb2⟩
      have hA2 := hA.keep hb2 (Nat.le_refl _)
      have hZ2 := hZ1.keep hb2 (Nat.le_refl _)
      have hB2 := hB1.trans (hb2.mono hB1.size)
      have d0 := hA2.c0
      have d1 := hA2.c1
      have d2 := hA2.c2
      have z0 := hZ2.c0
      have z1 := hZ2.c1
      have z2 := hZ2.c2
      have g0 := hZ2.frozen 0
      have g1 := hZ2.frozen 1
      have g2 := hZ2.frozen 2
      by_cases hc : T = s
      · have HV := Lib.hid (HY.out hc)
        have hT : (T.toList == s.toList) = true := by rw [hc]; simp
        have HF := Lib.hid (((hZ2.s0 Y).s1 M).s2 D)
        have HBF := Lib.hid (((hB2.setCell (p := ⟨w.heap.size, 0, none⟩) (Nat.le_refl _) (.int .i64 Y)).setCell (p := ⟨w.heap.size, 1, none⟩) (Nat.le_refl _) (.int .i64 M)).setCell (p := ⟨w.heap.size, 2, none⟩) (Nat.le_refl _) (.int .i64 D))
        clear hA hA2 hZ1 hZ2 hB1 hB2 hb2 a0 a1 a2 hc
        go_wp2
        refine bodyPost_ret (results_date2 rfl _ _ _ _ _ _ _ rfl rfl HF.out) rfl ?_
        exact ⟨by rw [HV.out]; rfl, HBF.out⟩
      · have HV := Lib.hid (HN.out hc)
        have hT : (T.toList == s.toList) = false := by
          have : ¬ T.toList = s.toList := fun h => hc (str_eq7 h)
          simpa using this
        have HF := Lib.hid (((hZ2.s0 0).s1 0).s2 0)
        have HBF := Lib.hid (((hB2.setCell (p := ⟨w.heap.size, 0, none⟩) (Nat.le_refl _) (.int .i64 0)).setCell (p := ⟨w.heap.size, 1, none⟩) (Nat.le_refl _) (.int .i64 0)).setCell (p := ⟨w.heap.size, 2, none⟩) (Nat.le_refl _) (.int .i64 0))
        clear hA hA2 hZ1 hZ2 hB1 hB2 hb2 a0 a1 a2 hc
        go_wp2
        refine bodyPost_ret (results_date2 rfl _ _ _ _ _ _ _ rfl rfl HF.out) rfl ?_
        exact ⟨by rw [HV.out]; rfl, HBF.out⟩
  · have HE := Lib.hid (rdV_not (s := s) (fun h => c1 h.1))
    rw [HE.out]
    have hn : ((s.size : Int) != 10) = true := by simp; omega
    clear HE
    go_enter Tryd.func21, Tryd.ntmps21
    go_wp2
    refine bodyPost_ret (results_date2 rfl _ _ _ _ _ _ _ rfl rfl HZ.out) rfl ?_
    exact ⟨rfl, HB.out⟩
end Go.Proofs.YtgimjfffdnopiaaDoor
