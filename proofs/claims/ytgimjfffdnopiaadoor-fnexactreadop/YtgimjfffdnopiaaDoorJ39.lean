/- Joined: PlainD2, W7l. -/
import Derived.Test.YtgimjfffdnopiaaDoorJ38
/- PlainD2 -/
namespace Go.Proofs.YtgimjfffdnopiaaDoor
set_option linter.unusedVariables false

theorem dg_back (b : UInt8) (n : Nat) (h : isDg b = true) (hn : n = b.toNat - 48) : UInt8.ofNat (48 + n) = b := by
  unfold isDg at h
  simp at h
  rw [hn, show 48 + (b.toNat - 48) = b.toNat by omega]
  exact UInt8.ofNat_toNat
theorem dg_lt (b : UInt8) (h : isDg b = true) : 48 ≤ b.toNat ∧ b.toNat - 48 < 10 := by
  unfold isDg at h
  simp at h
  omega
theorem val2 (a b : UInt8) : valL [a, b] = 10 * (a.toNat - 48) + (b.toNat - 48) := by simp [valL]
theorem val4 (a b c d : UInt8) : valL [a, b, c, d] = 1000 * (a.toNat - 48) + 100 * (b.toNat - 48) + 10 * (c.toNat - 48) + (d.toNat - 48) := by simp [valL]; omega
theorem two_back (a b : UInt8) (ha : isDg a = true) (hb : isDg b = true) : twoL (valL [a, b]) = [a, b] := by
  have h1 := dg_lt a ha
  have h2 := dg_lt b hb
  unfold twoL
  rw [val2, dg_back a _ ha (by omega), dg_back b _ hb (by omega)]
theorem four_back (a b c d : UInt8) (ha : isDg a = true) (hb : isDg b = true) (hc : isDg c = true) (hd : isDg d = true) (h : 1000 ≤ valL [a, b, c, d]) : Lib.decDigits (valL [a, b, c, d]) = [a, b, c, d] := by
  have h1 := dg_lt a ha
  have h2 := dg_lt b hb
  have h3 := dg_lt c hc
  have h4 := dg_lt d hd
  rw [val4] at h ⊢
  generalize hA : a.toNat - 48 = A at *
  generalize hB : b.toNat - 48 = B at *
  generalize hC : c.toNat - 48 = C at *
  generalize hD : d.toNat - 48 = D at *
  rw [Lib.decDigits.eq_def, dif_neg (by omega), Lib.decDigits.eq_def, dif_neg (by omega), Lib.decDigits.eq_def, dif_neg (by omega), Lib.decDigits.eq_def, dif_pos (by omega)]
  rw [dg_back a _ ha (by omega), dg_back b _ hb (by omega), dg_back c _ hc (by omega), dg_back d _ hd (by omega)]
  rfl
theorem dgI_list (s : ByteArray) (l : List UInt8) (h : s.data.toList = l) : dgI s = if l.all isDg = true then (valL l : Int) else -1 := by unfold dgI; rw [h]
theorem dgI_pos (s : ByteArray) (l : List UInt8) (h : s.data.toList = l) (hp : 0 ≤ dgI s) : l.all isDg = true ∧ dgI s = (valL l : Int) := by
  rw [dgI_list s l h] at hp ⊢
  split at hp
  · rename_i ha
    exact ⟨ha, if_pos ha⟩
  · omega
theorem ten_bytes (s : ByteArray) (h : s.size = 10) : ∃ b0 b1 b2 b3 b4 b5 b6 b7 b8 b9, s.data.toList = [b0, b1, b2, b3, b4, b5, b6, b7, b8, b9] := by
  have hl : s.data.toList.length = 10 := by simpa using h
  match hs : s.data.toList, hl with
  | [b0, b1, b2, b3, b4, b5, b6, b7, b8, b9], _ => exact ⟨b0, b1, b2, b3, b4, b5, b6, b7, b8, b9, rfl⟩
theorem ext_part (s : ByteArray) (l : List UInt8) (a b : Nat) (h : s.data.toList = l) : (s.extract a b).data.toList = (l.take b).drop a := by
  rw [ByteArray.data_extract, Array.toList_extract, h]; simp [List.extract, List.take_drop]
  by_cases hab : a ≤ b
  · rw [show a + (b - a) = b by omega]
  · rw [show a + (b - a) = a by omega]
    rw [List.drop_eq_nil_of_le (by simp; omega), List.drop_eq_nil_of_le (by simp; omega)]
theorem byte_list (s : ByteArray) (l : List UInt8) (k : Nat) (h : s.data.toList = l) (hk : k < l.length) : byteAt7 s k = (l[k]).toNat := by
  have hs : k < s.size := by rw [← h] at hk; simpa using hk
  rw [byteAt7_eq s k hs]
  subst h
  simp; rfl
theorem dtB_list (y m d : Nat) : (dtB y m d).data.toList = Lib.decDigits y ++ [45] ++ twoL m ++ [45] ++ twoL d := by
  unfold dtB
  rw [app7, app7, app7, app7]
  unfold decB twoB
  simp
theorem rd_iff (s : ByteArray) (hs : s.size = 10) : dateT (rY s) (rM s) (rD s) = s ↔ (byteAt7 s 4 = 45 ∧ byteAt7 s 7 = 45 ∧ dOk (rY s) (rM s) (rD s) = true) := by
  obtain ⟨b0, b1, b2, b3, b4, b5, b6, b7, b8, b9, hl⟩ := ten_bytes s hs
  have e1 : (s.extract 0 4).data.toList = [b0, b1, b2, b3] := ext_part s _ 0 4 hl
  have e2 : (s.extract 5 7).data.toList = [b5, b6] := ext_part s _ 5 7 hl
  have e3 : (s.extract 8 10).data.toList = [b8, b9] := ext_part s _ 8 10 hl
  have k4 : byteAt7 s 4 = b4.toNat := byte_list s _ 4 hl (by simp)
  have k7 : byteAt7 s 7 = b7.toNat := byte_list s _ 7 hl (by simp)
  constructor
  · intro he
    have hok : dOk (rY s) (rM s) (rD s) = true := by
      cases hc : dOk (rY s) (rM s) (rD s) with
      | true => rfl
      | false =>
        exfalso
        unfold dateT at he
        rw [hc] at he
        have : s.size = 0 := by rw [← he]; rfl
        omega
    obtain ⟨c1, c2, c3, c4, c5, c6, c7⟩ := (dOk_iff _ _ _).1 hok
    have hd : (dateT (rY s) (rM s) (rD s)).data.toList = s.data.toList := congrArg (fun b : ByteArray => b.data.toList) he
    unfold dateT at hd
    rw [if_pos hok, dtB_list, hl] at hd
    have h4 : (Lib.decDigits (rY s).toNat).length = 4 := by rw [Lib.decDigits_length, Lib.nDigits_unique 3 _ (by omega) (by omega)]
    obtain ⟨x0, x1, x2, x3, hx⟩ : ∃ x0 x1 x2 x3, Lib.decDigits (rY s).toNat = [x0, x1, x2, x3] := by
      match hq : Lib.decDigits (rY s).toNat, h4 with
      | [x0, x1, x2, x3], _ => exact ⟨x0, x1, x2, x3, rfl⟩
    rw [hx] at hd
    simp [twoL] at hd
    refine ⟨?_, ?_, hok⟩
    · rw [k4, ← hd.2.2.2.2.1]; rfl
    · rw [k7, ← hd.2.2.2.2.2.2.2.1]; rfl
  · rintro ⟨h4, h7, hok⟩
    obtain ⟨c1, c2, c3, c4, c5, c6, c7⟩ := (dOk_iff _ _ _).1 hok
    unfold dateT
    rw [if_pos hok]
    apply ba_eq
    rw [dtB_list, hl]
    obtain ⟨a1, v1⟩ := dgI_pos (s.extract 0 4) _ e1 (show 0 ≤ rY s by omega)
    obtain ⟨a2, v2⟩ := dgI_pos (s.extract 5 7) _ e2 (show 0 ≤ rM s by omega)
    obtain ⟨a3, v3⟩ := dgI_pos (s.extract 8 10) _ e3 (show 0 ≤ rD s by omega)
    simp only [List.all_cons, List.all_nil, Bool.and_eq_true, Bool.and_true] at a1 a2 a3
    have hy : rY s = (valL [b0, b1, b2, b3] : Int) := v1
    have hm : rM s = (valL [b5, b6] : Int) := v2
    have hd : rD s = (valL [b8, b9] : Int) := v3
    rw [hy] at c1
    rw [hy, hm, hd, Int.toNat_natCast, Int.toNat_natCast, Int.toNat_natCast, four_back b0 b1 b2 b3 a1.1 a1.2.1 a1.2.2.1 a1.2.2.2 (by omega), two_back b5 b6 a2.1 a2.2, two_back b8 b9 a3.1 a3.2]
    have q4 : b4 = 45 := UInt8.toNat_inj.1 (by rw [← k4, h4]; rfl)
    have q7 : b7 = 45 := UInt8.toNat_inj.1 (by rw [← k7, h7]; rfl)
    rw [q4, q7]; rfl
end Go.Proofs.YtgimjfffdnopiaaDoor

/- W7l -/
namespace Go.Proofs.YtgimjfffdnopiaaDoor
open Go.ChangeShapes Go.WideShapes Go.ChangeAt Go.RowKit
set_option linter.unusedVariables false

theorem str_eq7 {a b : ByteArray} (h : a.toList = b.toList) : a = b := by
  apply ba_eq
  rw [ByteArray.toList_eq, ByteArray.toList_eq] at h
  exact h

set_option maxRecDepth 100000 in
set_option maxHeartbeats 3000000 in
theorem specReadDate_any (s : ByteArray) (w : World) :
    Calls Tryd.prog 21 #[.string s] w fun e w' => e = .returned (rdV s) ∧ Below w.heap.size w w' := by
  have HZ := Lib.hid (DAt.new w 0 0 0)
  have HB : Hid (Below w.heap.size w (w.alloc (dC 0 0 0))) := Lib.hid ((Below.refl _ _).alloc (Nat.le_refl _) _)
  by_cases c1 : s.size = 10
  · have hsI : (s.size : Int) = 10 := by omega
    have HIF := Lib.hid (rd_iff s c1)
    have D1 := Lib.hid (fun w => l7Digits_any (s.extract 0 4) w (by rw [ByteArray.size_extract]; omega))
    have D2 := Lib.hid (fun w => l7Digits_any (s.extract 5 7) w (by rw [ByteArray.size_extract]; omega))
    have D3 := Lib.hid (fun w => l7Digits_any (s.extract 8 10) w (by rw [ByteArray.size_extract]; omega))
    have HC := Lib.hid (fun w => specDateText_any (dgI (s.extract 0 4)) (dgI (s.extract 5 7)) (dgI (s.extract 8 10)) w)
    have HY : Hid (dateT (dgI (s.extract 0 4)) (dgI (s.extract 5 7)) (dgI (s.extract 8 10)) = s → rdV s = .tuple #[dV (dgI (s.extract 0 4)) (dgI (s.extract 5 7)) (dgI (s.extract 8 10)), .bool true]) := Lib.hid (fun h => rdV_yes ⟨c1, HIF.out.1 h⟩)
    have HN : Hid (¬ dateT (dgI (s.extract 0 4)) (dgI (s.extract 5 7)) (dgI (s.extract 8 10)) = s → rdV s = .tuple #[dV 0 0 0, .bool false]) := Lib.hid (fun h => rdV_not (fun hx => h (HIF.out.2 hx.2)))
    generalize dateT (dgI (s.extract 0 4)) (dgI (s.extract 5 7)) (dgI (s.extract 8 10)) = T at HC HY HN
    generalize dgI (s.extract 0 4) = Y at D1 HY HN HC
    generalize dgI (s.extract 5 7) = M at D2 HY HN HC
    generalize dgI (s.extract 8 10) = D at D3 HY HN HC
    generalize rdV s = out at HY HN ⊢
    clear HIF
    go_enter Tryd.func21, Tryd.ntmps21
    go_wp2
    refine wp_region_T (fun _ => True) (fun _ => True) 11 (by kernel_rfl) 12 rfl ?_
    refine wpAnyT_takesA (md := .any) 6 (by kernel_rfl) (by intro d v c a w h; cases d <;> exact h) [0, 1, 3, 4, 6, 7] _ _ _ (by decide) (by kernel_rfl) ⟨trivial, fun _ => trivial⟩ ?_
    simp only [pick, List.filterMap_cons, List.filterMap_nil, List.getElem?_cons_zero, List.getElem?_cons_succ]
    refine wpIf_step (.string s) (by kernel_rfl) (fun w hw => by go_simp) ?_
    refine wpIf_step (.string (s.extract 0 4)) (by kernel_rfl) (fun w hw => by go_simp) ?_
    refine wpIf_step (.string s) (by kernel_rfl) (fun w hw => by go_simp) ?_
    refine wpIf_step (.string (s.extract 5 7)) (by kernel_rfl) (fun w hw => by go_simp) ?_
    refine wpIf_step (.string s) (by kernel_rfl) (fun w hw => by go_simp) ?_
    refine wpIf_step (.string (s.extract 8 10)) (by kernel_rfl) (fun w hw => by go_simp) ?_
    refine wpIf_nil (fun _ => ?_)
    refine wpAnyT_two 2 10 5 (by kernel_rfl) rfl rfl (by kernel_rfl) (by kernel_rfl) (fun K hK => ?_) (fun K hK => ?_)
    · go_simp
      refine (D1.out _).mono ?_
      rintro e v1 ⟨rfl, rfl⟩
      refine hK _ _ ⟨trivial, fun _ => trivial⟩ (fun _ => ?_)
      clear hK K
      refine wpAnyT_two 5 10 4 (by kernel_rfl) rfl rfl (by kernel_rfl) (by kernel_rfl) (fun K hK => ?_) (fun K hK => ?_)
      · go_simp
        refine (D2.out _).mono ?_
        rintro e v1 ⟨rfl, rfl⟩
        refine hK _ _ ⟨trivial, fun _ => trivial⟩ (fun _ => ?_)
        clear hK K
        refine wpAnyT_two 8 10 3 (by kernel_rfl) rfl rfl (by kernel_rfl) (by kernel_rfl) (fun K hK => ?_) (fun K hK => ?_)
        · go_simp
          refine (D3.out _).mono ?_
          rintro e v1 ⟨rfl, rfl⟩
          refine hK _ _ ⟨trivial, fun _ => trivial⟩ (fun _ => ?_)
          clear hK K
          refine wpAnyT_takesA (md := .any) 2 (by kernel_rfl) (by intro d v c a w h; cases d <;> exact h) [9] _ _ _ (by decide) (by kernel_rfl) ⟨trivial, fun _ => trivial⟩ ?_
          simp only [pick, List.filterMap_cons, List.filterMap_nil, List.getElem?_cons_zero, List.getElem?_cons_succ]
          refine wpIf_step (dV Y M D) (by kernel_rfl) (fun w hw => by go_simp) ?_
          refine wpIf_nil (fun _ => ?_)
          refine wpAnyT_one 10 1 (by kernel_rfl) rfl (by kernel_rfl) (fun K hK => ?_)
          go_simp
          refine hK _ _ ⟨trivial, fun _ => trivial⟩ (fun _ => ?_)
          clear hK K
          refine wpAnyT_one 11 0 (by kernel_rfl) rfl (by kernel_rfl) (fun K hK => ?_)
          go_simp
          refine hK _ _ ⟨trivial, fun _ => trivial⟩ (fun _ => ?_)
          clear hK K
          refine wpAnyT_over (by kernel_rfl) ?_
          have hA := DAt.new ((w.alloc (dC 0 0 0)).drew) Y M D
          have hZ1 : DAt (((w.alloc (dC 0 0 0)).drew).alloc (dC Y M D)) w.heap.size 0 0 0 := DAt.alloc (w := (w.alloc (dC 0 0 0)).drew) HZ.out (dC Y M D)
          have hB1 := HB.out.drew.alloc (by simp) (dC Y M D)
          rw [show ((w.alloc (dC 0 0 0)).drew).heap.size = w.heap.size + 1 by simp] at hA
          change Exit.then _ _ _ _ (((w.alloc (dC 0 0 0)).drew).alloc (dC Y M D))
          generalize ((w.alloc (dC 0 0 0)).drew).alloc (dC Y M D) = V at hA hZ1 hB1 ⊢
          have a0 := hA.c0
          have a1 := hA.c1
          have a2 := hA.c2
          go_wp2_with fail
          refine (HC.out _).mono ?_
          rintro e w2 ⟨rfl, hb2⟩
          have hA2 := hA.keep hb2 (Nat.le_refl _)
          have hZ2 := hZ1.keep hb2 (Nat.le_refl _)
          have hB2 := hB1.trans (hb2.mono hB1.size)
          have d0 := hA2.c0
          have d1 := hA2.c1
          have d2 := hA2.c2
          have z0 := hZ2.c0
          have z1 := hZ2.c1
          have z2 := hZ2.c2
          have g0 := hZ2.frozen 0
          have g1 := hZ2.frozen 1
          have g2 := hZ2.frozen 2
          by_cases hc : T = s
          · have HV := Lib.hid (HY.out hc)
            have hT : (T.toList == s.toList) = true := by rw [hc]; simp
            have HF := Lib.hid (((hZ2.s0 Y).s1 M).s2 D)
            have HBF := Lib.hid (((hB2.setCell (p := ⟨w.heap.size, 0, none⟩) (Nat.le_refl _) (.int .i64 Y)).setCell (p := ⟨w.heap.size, 1, none⟩) (Nat.le_refl _) (.int .i64 M)).setCell (p := ⟨w.heap.size, 2, none⟩) (Nat.le_refl _) (.int .i64 D))
            clear hA hA2 hZ1 hZ2 hB1 hB2 hb2 a0 a1 a2 hc
            go_wp2
            refine bodyPost_ret (results_date2 rfl _ _ _ _ _ _ _ rfl rfl HF.out) rfl ?_
            exact ⟨by rw [HV.out]; rfl, HBF.out⟩
          · have HV := Lib.hid (HN.out hc)
            have hT : (T.toList == s.toList) = false := by
              have : ¬ T.toList = s.toList := fun h => hc (str_eq7 h)
              simpa using this
            have HF := Lib.hid (((hZ2.s0 0).s1 0).s2 0)
            have HBF := Lib.hid (((hB2.setCell (p := ⟨w.heap.size, 0, none⟩) (Nat.le_refl _) (.int .i64 0)).setCell (p := ⟨w.heap.size, 1, none⟩) (Nat.le_refl _) (.int .i64 0)).setCell (p := ⟨w.heap.size, 2, none⟩) (Nat.le_refl _) (.int .i64 0))
            clear hA hA2 hZ1 hZ2 hB1 hB2 hb2 a0 a1 a2 hc
            go_wp2
            refine bodyPost_ret (results_date2 rfl _ _ _ _ _ _ _ rfl rfl HF.out) rfl ?_
            exact ⟨by rw [HV.out]; rfl, HBF.out⟩
        · go_simp
          refine hK _ _ ⟨trivial, fun _ => trivial⟩ (fun _ => ?_)
          clear hK K
          refine wpAnyT_one 8 2 (by kernel_rfl) rfl (by kernel_rfl) (fun K hK => ?_)
          go_simp
          refine (D3.out _).mono ?_
          rintro e v1 ⟨rfl, rfl⟩
          refine hK _ _ ⟨trivial, fun _ => trivial⟩ (fun _ => ?_)
          clear hK K
          refine wpAnyT_takesA (md := .any) 1 (by kernel_rfl) (by intro d v c a w h; cases d <;> exact h) [9] _ _ _ (by decide) (by kernel_rfl) ⟨trivial, fun _ => trivial⟩ ?_
          simp only [pick, List.filterMap_cons, List.filterMap_nil, List.getElem?_cons_zero, List.getElem?_cons_succ]
          refine wpIf_step (dV Y M D) (by kernel_rfl) (fun w hw => by go_simp) ?_
          refine wpIf_nil (fun _ => ?_)
          refine wpAnyT_one 11 0 (by kernel_rfl) rfl (by kernel_rfl) (fun K hK => ?_)
          go_simp
          refine hK _ _ ⟨trivial, fun _ => trivial⟩ (fun _ => ?_)
          clear hK K
          refine wpAnyT_over (by kernel_rfl) ?_
          have hA := DAt.new ((w.alloc (dC 0 0 0)).drew) Y M D
          have hZ1 : DAt (((w.alloc (dC 0 0 0)).drew).alloc (dC Y M D)) w.heap.size 0 0 0 := DAt.alloc (w := (w.alloc (dC 0 0 0)).drew) HZ.out (dC Y M D)
          have hB1 := HB.out.drew.alloc (by simp) (dC Y M D)
          rw [show ((w.alloc (dC 0 0 0)).drew).heap.size = w.heap.size + 1 by simp] at hA
          change Exit.then _ _ _ _ (((w.alloc (dC 0 0 0)).drew).alloc (dC Y M D))
          generalize ((w.alloc (dC 0 0 0)).drew).alloc (dC Y M D) = V at hA hZ1 hB1 ⊢
          have a0 := hA.c0
          have a1 := hA.c1
          have a2 := hA.c2
          go_wp2_with fail
          refine (HC.out _).mono ?_
          rintro e w2 ⟨rfl, hb2⟩
          have hA2 := hA.keep hb2 (Nat.le_refl _)
          have hZ2 := hZ1.keep hb2 (Nat.le_refl _)
          have hB2 := hB1.trans (hb2.mono hB1.size)
          have d0 := hA2.c0
          have d1 := hA2.c1
          have d2 := hA2.c2
          have z0 := hZ2.c0
          have z1 := hZ2.c1
          have z2 := hZ2.c2
          have g0 := hZ2.frozen 0
          have g1 := hZ2.frozen 1
          have g2 := hZ2.frozen 2
          by_cases hc : T = s
          · have HV := Lib.hid (HY.out hc)
            have hT : (T.toList == s.toList) = true := by rw [hc]; simp
            have HF := Lib.hid (((hZ2.s0 Y).s1 M).s2 D)
            have HBF := Lib.hid (((hB2.setCell (p := ⟨w.heap.size, 0, none⟩) (Nat.le_refl _) (.int .i64 Y)).setCell (p := ⟨w.heap.size, 1, none⟩) (Nat.le_refl _) (.int .i64 M)).setCell (p := ⟨w.heap.size, 2, none⟩) (Nat.le_refl _) (.int .i64 D))
            clear hA hA2 hZ1 hZ2 hB1 hB2 hb2 a0 a1 a2 hc
            go_wp2
            refine bodyPost_ret (results_date2 rfl _ _ _ _ _ _ _ rfl rfl HF.out) rfl ?_
            exact ⟨by rw [HV.out]; rfl, HBF.out⟩
          · have HV := Lib.hid (HN.out hc)
            have hT : (T.toList == s.toList) = false := by
              have : ¬ T.toList = s.toList := fun h => hc (str_eq7 h)
              simpa using this
            have HF := Lib.hid (((hZ2.s0 0).s1 0).s2 0)
            have HBF := Lib.hid (((hB2.setCell (p := ⟨w.heap.size, 0, none⟩) (Nat.le_refl _) (.int .i64 0)).setCell (p := ⟨w.heap.size, 1, none⟩) (Nat.le_refl _) (.int .i64 0)).setCell (p := ⟨w.heap.size, 2, none⟩) (Nat.le_refl _) (.int .i64 0))
            clear hA hA2 hZ1 hZ2 hB1 hB2 hb2 a0 a1 a2 hc
            go_wp2
            refine bodyPost_ret (results_date2 rfl _ _ _ _ _ _ _ rfl rfl HF.out) rfl ?_
            exact ⟨by rw [HV.out]; rfl, HBF.out⟩
      · go_simp
        refine hK _ _ ⟨trivial, fun _ => trivial⟩ (fun _ => ?_)
        clear hK K
        refine wpAnyT_one 5 3 (by kernel_rfl) rfl (by kernel_rfl) (fun K hK => ?_)
        go_simp
        refine (D2.out _).mono ?_
        rintro e v1 ⟨rfl, rfl⟩
        refine hK _ _ ⟨trivial, fun _ => trivial⟩ (fun _ => ?_)
        clear hK K
        refine wpAnyT_one 8 2 (by kernel_rfl) rfl (by kernel_rfl) (fun K hK => ?_)
        go_simp
        refine (D3.out _).mono ?_
        rintro e v1 ⟨rfl, rfl⟩
        refine hK _ _ ⟨trivial, fun _ => trivial⟩ (fun _ => ?_)
        clear hK K
        refine wpAnyT_takesA (md := .any) 1 (by kernel_rfl) (by intro d v c a w h; cases d <;> exact h) [9] _ _ _ (by decide) (by kernel_rfl) ⟨trivial, fun _ => trivial⟩ ?_
        simp only [pick, List.filterMap_cons, List.filterMap_nil, List.getElem?_cons_zero, List.getElem?_cons_succ]
        refine wpIf_step (dV Y M D) (by kernel_rfl) (fun w hw => by go_simp) ?_
        refine wpIf_nil (fun _ => ?_)
        refine wpAnyT_one 11 0 (by kernel_rfl) rfl (by kernel_rfl) (fun K hK => ?_)
        go_simp
        refine hK _ _ ⟨trivial, fun _ => trivial⟩ (fun _ => ?_)
        clear hK K
        refine wpAnyT_over (by kernel_rfl) ?_
        have hA := DAt.new ((w.alloc (dC 0 0 0)).drew) Y M D
        have hZ1 : DAt (((w.alloc (dC 0 0 0)).drew).alloc (dC Y M D)) w.heap.size 0 0 0 := DAt.alloc (w := (w.alloc (dC 0 0 0)).drew) HZ.out (dC Y M D)
        have hB1 := HB.out.drew.alloc (by simp) (dC Y M D)
        rw [show ((w.alloc (dC 0 0 0)).drew).heap.size = w.heap.size + 1 by simp] at hA
        change Exit.then _ _ _ _ (((w.alloc (dC 0 0 0)).drew).alloc (dC Y M D))
        generalize ((w.alloc (dC 0 0 0)).drew).alloc (dC Y M D) = V at hA hZ1 hB1 ⊢
        have a0 := hA.c0
        have a1 := hA.c1
        have a2 := hA.c2
        go_wp2_with fail
        refine (HC.out _).mono ?_
        rintro e w2 ⟨rfl, hb2⟩
        have hA2 := hA.keep hb2 (Nat.le_refl _)
        have hZ2 := hZ1.keep hb2 (Nat.le_refl _)
        have hB2 := hB1.trans (hb2.mono hB1.size)
        have d0 := hA2.c0
        have d1 := hA2.c1
        have d2 := hA2.c2
        have z0 := hZ2.c0
        have z1 := hZ2.c1
        have z2 := hZ2.c2
        have g0 := hZ2.frozen 0
        have g1 := hZ2.frozen 1
        have g2 := hZ2.frozen 2
        by_cases hc : T = s
        · have HV := Lib.hid (HY.out hc)
          have hT : (T.toList == s.toList) = true := by rw [hc]; simp
          have HF := Lib.hid (((hZ2.s0 Y).s1 M).s2 D)
          have HBF := Lib.hid (((hB2.setCell (p := ⟨w.heap.size, 0, none⟩) (Nat.le_refl _) (.int .i64 Y)).setCell (p := ⟨w.heap.size, 1, none⟩) (Nat.le_refl _) (.int .i64 M)).setCell (p := ⟨w.heap.size, 2, none⟩) (Nat.le_refl _) (.int .i64 D))
          clear hA hA2 hZ1 hZ2 hB1 hB2 hb2 a0 a1 a2 hc
          go_wp2
          refine bodyPost_ret (results_date2 rfl _ _ _ _ _ _ _ rfl rfl HF.out) rfl ?_
          exact ⟨by rw [HV.out]; rfl, HBF.out⟩
        · have HV := Lib.hid (HN.out hc)
          have hT : (T.toList == s.toList) = false := by
            have : ¬ T.toList = s.toList := fun h => hc (str_eq7 h)
            simpa using this
          have HF := Lib.hid (((hZ2.s0 0).s1 0).s2 0)
          have HBF := Lib.hid (((hB2.setCell (p := ⟨w.heap.size, 0, none⟩) (Nat.le_refl _) (.int .i64 0)).setCell (p := ⟨w.heap.size, 1, none⟩) (Nat.le_refl _) (.int .i64 0)).setCell (p := ⟨w.heap.size, 2, none⟩) (Nat.le_refl _) (.int .i64 0))
          clear hA hA2 hZ1 hZ2 hB1 hB2 hb2 a0 a1 a2 hc
          go_wp2
          refine bodyPost_ret (results_date2 rfl _ _ _ _ _ _ _ rfl rfl HF.out) rfl ?_
          exact ⟨by rw [HV.out]; rfl, HBF.out⟩
    · go_simp
      refine hK _ _ ⟨trivial, fun _ => trivial⟩ (fun _ => ?_)
      clear hK K
      refine wpAnyT_one 2 4 (by kernel_rfl) rfl (by kernel_rfl) (fun K hK => ?_)
      go_simp
      refine (D1.out _).mono ?_
      rintro e v1 ⟨rfl, rfl⟩
      refine hK _ _ ⟨trivial, fun _ => trivial⟩ (fun _ => ?_)
      clear hK K
      refine wpAnyT_one 5 3 (by kernel_rfl) rfl (by kernel_rfl) (fun K hK => ?_)
      go_simp
      refine (D2.out _).mono ?_
      rintro e v1 ⟨rfl, rfl⟩
      refine hK _ _ ⟨trivial, fun _ => trivial⟩ (fun _ => ?_)
      clear hK K
      refine wpAnyT_one 8 2 (by kernel_rfl) rfl (by kernel_rfl) (fun K hK => ?_)
      go_simp
      refine (D3.out _).mono ?_
      rintro e v1 ⟨rfl, rfl⟩
      refine hK _ _ ⟨trivial, fun _ => trivial⟩ (fun _ => ?_)
      clear hK K
      refine wpAnyT_takesA (md := .any) 1 (by kernel_rfl) (by intro d v c a w h; cases d <;> exact h) [9] _ _ _ (by decide) (by kernel_rfl) ⟨trivial, fun _ => trivial⟩ ?_
      simp only [pick, List.filterMap_cons, List.filterMap_nil, List.getElem?_cons_zero, List.getElem?_cons_succ]
      refine wpIf_step (dV Y M D) (by kernel_rfl) (fun w hw => by go_simp) ?_
      refine wpIf_nil (fun _ => ?_)
      refine wpAnyT_one 11 0 (by kernel_rfl) rfl (by kernel_rfl) (fun K hK => ?_)
      go_simp
      refine hK _ _ ⟨trivial, fun _ => trivial⟩ (fun _ => ?_)
      clear hK K
      refine wpAnyT_over (by kernel_rfl) ?_
      have hA := DAt.new ((w.alloc (dC 0 0 0)).drew) Y M D
      have hZ1 : DAt (((w.alloc (dC 0 0 0)).drew).alloc (dC Y M D)) w.heap.size 0 0 0 := DAt.alloc (w := (w.alloc (dC 0 0 0)).drew) HZ.out (dC Y M D)
      have hB1 := HB.out.drew.alloc (by simp) (dC Y M D)
      rw [show ((w.alloc (dC 0 0 0)).drew).heap.size = w.heap.size + 1 by simp] at hA
      change Exit.then _ _ _ _ (((w.alloc (dC 0 0 0)).drew).alloc (dC Y M D))
      generalize ((w.alloc (dC 0 0 0)).drew).alloc (dC Y M D) = V at hA hZ1 hB1 ⊢
      have a0 := hA.c0
      have a1 := hA.c1
      have a2 := hA.c2
      go_wp2_with fail
      refine (HC.out _).mono ?_
      rintro e w2 ⟨rfl, hb2⟩
      have hA2 := hA.keep hb2 (Nat.le_refl _)
      have hZ2 := hZ1.keep hb2 (Nat.le_refl _)
      have hB2 := hB1.trans (hb2.mono hB1.size)
      have d0 := hA2.c0
      have d1 := hA2.c1
      have d2 := hA2.c2
      have z0 := hZ2.c0
      have z1 := hZ2.c1
      have z2 := hZ2.c2
      have g0 := hZ2.frozen 0
      have g1 := hZ2.frozen 1
      have g2 := hZ2.frozen 2
      by_cases hc : T = s
      · have HV := Lib.hid (HY.out hc)
        have hT : (T.toList == s.toList) = true := by rw [hc]; simp
        have HF := Lib.hid (((hZ2.s0 Y).s1 M).s2 D)
        have HBF := Lib.hid (((hB2.setCell (p := ⟨w.heap.size, 0, none⟩) (Nat.le_refl _) (.int .i64 Y)).setCell (p := ⟨w.heap.size, 1, none⟩) (Nat.le_refl _) (.int .i64 M)).setCell (p := ⟨w.heap.size, 2, none⟩) (Nat.le_refl _) (.int .i64 D))
        clear hA hA2 hZ1 hZ2 hB1 hB2 hb2 a0 a1 a2 hc
        go_wp2
        refine bodyPost_ret (results_date2 rfl _ _ _ _ _ _ _ rfl rfl HF.out) rfl ?_
        exact ⟨by rw [HV.out]; rfl, HBF.out⟩
      · have HV := Lib.hid (HN.out hc)
        have hT : (T.toList == s.toList) = false := by
          have : ¬ T.toList = s.toList := fun h => hc (str_eq7 h)
          simpa using this
        have HF := Lib.hid (((hZ2.s0 0).s1 0).s2 0)
        have HBF := Lib.hid (((hB2.setCell (p := ⟨w.heap.size, 0, none⟩) (Nat.le_refl _) (.int .i64 0)).setCell (p := ⟨w.heap.size, 1, none⟩) (Nat.le_refl _) (.int .i64 0)).setCell (p := ⟨w.heap.size, 2, none⟩) (Nat.le_refl _) (.int .i64 0))
        clear hA hA2 hZ1 hZ2 hB1 hB2 hb2 a0 a1 a2 hc
        go_wp2
        refine bodyPost_ret (results_date2 rfl _ _ _ _ _ _ _ rfl rfl HF.out) rfl ?_
        exact ⟨by rw [HV.out]; rfl, HBF.out⟩
  · have HE := Lib.hid (rdV_not (s := s) (fun h => c1 h.1))
    rw [HE.out]
    have hn : ((s.size : Int) != 10) = true := by simp; omega
    clear HE
    go_enter Tryd.func21, Tryd.ntmps21
    go_wp2
    refine bodyPost_ret (results_date2 rfl _ _ _ _ _ _ _ rfl rfl HZ.out) rfl ?_
    exact ⟨rfl, HB.out⟩
end Go.Proofs.YtgimjfffdnopiaaDoor
