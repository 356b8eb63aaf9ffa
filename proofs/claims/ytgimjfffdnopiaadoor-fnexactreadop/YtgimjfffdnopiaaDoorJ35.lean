/- Joined: W11c. -/
import Derived.Test.YtgimjfffdnopiaaDoorJ34
/- W11c -/
namespace Go.Proofs.YtgimjfffdnopiaaDoor
open Go.ChangeShapes Go.WideShapes Go.ChangeAt Go.RowKit
set_option linter.unusedVariables false

set_option maxRecDepth 100000 in
set_option maxHeartbeats 1600000 in
theorem l11Word_any (k : Int) (w : World) (hk : k = 1 ∨ k = 2 ∨ k = 3 ∨ k = 4 ∨ k = 5 ∨ k = 6 ∨ k = 7 ∨ k = 8 ∨ k = 9) :
    Calls Tryd.prog 66 #[.int .i64 k] w fun e w' => e = .returned (.string (wdB k)) ∧ Below w.heap.size w w' := by
  rcases hk with rfl | rfl | rfl | rfl | rfl | rfl | rfl | rfl | rfl
  all_goals
    go_enter Tryd.func66, Tryd.ntmps66
    go_wp2
    go_ret
    exact ⟨rfl, (Below.refl _ _).alloc (Nat.le_refl _) _⟩

set_option maxRecDepth 100000 in
set_option maxHeartbeats 1600000 in
theorem specOpText_any (o : OpD) (x : Value) (w : World) (hI : ItAt w w.heap.size x o.its) (hz : OpSz o) :
    Calls Tryd.prog 67 #[opV o x] w fun e w' => e = .returned (.string (opX o)) ∧ Below w.heap.size w w' := by
  have HI := Lib.hid hI
  have HZ := Lib.hid hz
  obtain ⟨a, cap, rfl⟩ := hI.1.slice
  have HC := Lib.hid (fun w h => specOpOk_any o (.slice a o.its.length cap) w h HZ.out)
  clear hI hz
  have hB0 : Below w.heap.size w (w.alloc (.cells #[.int .i64 o.k, .string o.u, .string o.i, .int .i64 o.d, .string o.fu, .string o.ft, .slice a o.its.length cap] 44)) := (Below.refl _ _).alloc (Nat.le_refl _) _
  have hX0 := Box.new w #[.int .i64 o.k, .string o.u, .string o.i, .int .i64 o.d, .string o.fu, .string o.ft, .slice a o.its.length cap] 44
  cases hop : opB o with
  | false =>
    have HV : Hid (opX o = ⟨#[]⟩) := Lib.hid (by unfold opX; rw [if_neg (by rw [hop]; simp)])
    rw [hop] at HC
    rw [HV.out]
    clear hop HV
    go_enter Tryd.func67, Tryd.ntmps67
    go_wp2_with fail
    refine (HC.out _ ((HI.out.below hB0).mono hB0.size)).mono ?_
    rintro e w1 ⟨rfl, hb1⟩
    have hB1 := hB0.trans (hb1.mono hB0.size)
    clear hb1 hB0
    go_wp2
    go_ret
    exact ⟨rfl, hB1⟩
  | true =>
    have hk := op_kinds11 hop
    have HV : Hid (opX o = wdB o.k ++ ⟨#[32]⟩ ++ dpX o) := Lib.hid (by unfold opX; rw [if_pos hop])
    have hws := wdB_size o.k
    have HW := Lib.hid (fun w => l11Word_any o.k w hk)
    have HF := Lib.hid (fun (h3 : o.k = 3) w h => l8Text_any o.fu o.ft (.slice a o.its.length cap) o.its w h (op_f hop h3))
    have HFs : Hid (o.k = 3 → dpX o = fdX o.fu o.ft o.its) := Lib.hid (fun h => by unfold dpX; rw [if_pos h])
    have HDs : Hid (o.k = 9 → dpX o = dayT o.d) := Lib.hid (fun h => by unfold dpX; rw [if_neg (by omega), if_pos h])
    have HUs : Hid (o.k = 1 ∨ o.k = 2 ∨ o.k = 8 → dpX o = o.u ∧ o.u.size ≤ 20) := Lib.hid (fun h => ⟨by unfold dpX; rw [if_neg (by omega), if_neg (by omega), if_pos h], op_u hop (by omega)⟩)
    have HIs : Hid (o.k = 4 ∨ o.k = 5 ∨ o.k = 6 ∨ o.k = 7 → dpX o = o.u ++ ⟨#[32]⟩ ++ o.i ∧ o.u.size ≤ 20 ∧ o.i.size ≤ 8) := Lib.hid (fun h => ⟨by unfold dpX; rw [if_neg (by omega), if_neg (by omega), if_neg (by omega)], op_u hop (by omega), op_i hop h⟩)
    have HDd := Lib.hid (fun h => op_d hop h)
    have hds : (dpX o).size ≤ 3054 := by
      have h1 := opX_small o
      rw [HV.out, ByteArray.size_append] at h1
      omega
    rw [hop] at HC
    generalize wdB o.k = W at HV HW hws
    generalize dpX o = D at HV HFs HDs HUs HIs hds
    generalize opX o = R at HV ⊢
    obtain ⟨X1, hX1⟩ : ∃ X : ByteArray, W ++ ⟨#[32]⟩ = X := ⟨_, rfl⟩
    have hz1 : X1.size ≤ 7 := by rw [← hX1, ByteArray.size_append]; have l1 : (⟨#[32]⟩ : ByteArray).size = 1 := rfl; omega
    rw [hX1] at HV
    clear hop
    obtain ⟨k, u, i, d, fu, ft, its⟩ := o
    simp only at hk HC HI HZ HW HF HFs HDs HUs HIs HDd hB0 hX0 ⊢
    have hK3 : k = 3 ∨ k = 9 ∨ (k = 1 ∨ k = 2 ∨ k = 8) ∨ (k = 4 ∨ k = 5 ∨ k = 6 ∨ k = 7) := by omega
    clear hk
    rcases hK3 with hk | hk | hk | hk
    · obtain hD := HFs.out hk
      subst hk
      have HF3 := Lib.hid (fun w h => HF.out rfl w h)
      rw [← hD] at HF3
      have hX2 := HV.out.symm
      clear HFs HDs HUs HIs HF HDd HV hD
      go_enter Tryd.func67, Tryd.ntmps67
      go_wp2_with fail
      refine (HC.out _ ((HI.out.below hB0).mono hB0.size)).mono ?_
      rintro e w1 ⟨rfl, hb1⟩
      have hB1 := hB0.trans (hb1.mono hB0.size)
      have hX := hX0.keep hb1 hX0.lt
      have f0 := hX.cell 0 _ rfl
      clear hb1 hB0 hX0 HC
      go_wp2_with fail
      refine (HW.out _).mono ?_
      rintro e w2 ⟨rfl, hb2⟩
      have hB2 := hB1.trans (hb2.mono hB1.size)
      have hXb := hX.keep hb2 hX.lt
      have g0 := hXb.cell 0 _ rfl
      have g4 := hXb.cell 4 _ rfl
      have g5 := hXb.cell 5 _ rfl
      have g6 := hXb.cell 6 _ rfl
      clear hb2 hB1 f0 hX
      go_wp2_with fail
      refine (HF3.out _ ((HI.out.below hB2).mono hB2.size)).mono ?_
      rintro e w3 ⟨rfl, hb3⟩
      have hB3 := hB2.trans (hb3.mono hB2.size)
      clear hb3 hB2 g0 g4 g5 g6 hXb
      go_wp2
      go_ret
      exact ⟨rfl, hB3⟩
    · obtain hD := HDs.out hk
      obtain ⟨hd0, hd1⟩ := HDd.out hk
      subst hk
      have HL := Lib.hid (fun w => l7Date_any d w hd0 hd1)
      have hX2 := HV.out.symm
      clear HFs HDs HUs HIs HF HDd HV
      go_enter Tryd.func67, Tryd.ntmps67
      go_wp2_with fail
      refine (HC.out _ ((HI.out.below hB0).mono hB0.size)).mono ?_
      rintro e w1 ⟨rfl, hb1⟩
      have hB1 := hB0.trans (hb1.mono hB0.size)
      have hX := hX0.keep hb1 hX0.lt
      have f0 := hX.cell 0 _ rfl
      clear hb1 hB0 hX0 HC
      go_wp2_with fail
      refine (HW.out _).mono ?_
      rintro e w2 ⟨rfl, hb2⟩
      have hB2 := hB1.trans (hb2.mono hB1.size)
      have hXb := hX.keep hb2 hX.lt
      have g0 := hXb.cell 0 _ rfl
      have g3 := hXb.cell 3 _ rfl
      clear hb2 hB1 f0 hX
      go_wp2_with fail
      refine (HL.out _).mono ?_
      rintro e w3 ⟨y, m, dd, rfl, hid, hb3⟩
      have hB3 := hB2.trans (hb3.mono hB2.size)
      obtain ⟨yn, mn, dn, rfl, rfl, rfl, hy0, hy1, hmn, hdn, HDt⟩ := isD_nat hid hd0 hd1
      have HTx := Lib.hid (fun w => l7Text_any yn mn dn w hy0 hy1 hmn hdn)
      rw [← HDt, ← hD] at HTx
      clear hb3 hB2 g0 g3 hXb hid HDt hD hd0 hd1 hy0 hy1 hmn hdn HL
      go_wp2_with fail
      refine (HTx.out _).mono ?_
      rintro e w4 ⟨rfl, hb4⟩
      have hB4 := hB3.trans (hb4.mono hB3.size)
      clear hb4 hB3
      go_wp2
      go_ret
      exact ⟨rfl, hB4⟩
    · obtain ⟨hD, hus⟩ := HUs.out hk
      subst hD
      have hX2 := HV.out.symm
      clear HFs HDs HUs HIs HF HDd HV hds
      rcases hk with rfl | rfl | rfl
      all_goals
        go_enter Tryd.func67, Tryd.ntmps67
        go_wp2_with fail
        refine (HC.out _ ((HI.out.below hB0).mono hB0.size)).mono ?_
        rintro e w1 ⟨rfl, hb1⟩
        have hB1 := hB0.trans (hb1.mono hB0.size)
        have hX := hX0.keep hb1 hX0.lt
        have f0 := hX.cell 0 _ rfl
        clear hb1 hB0 hX0 HC
        go_wp2_with fail
        refine (HW.out _).mono ?_
        rintro e w2 ⟨rfl, hb2⟩
        have hB2 := hB1.trans (hb2.mono hB1.size)
        have hXb := hX.keep hb2 hX.lt
        have g0 := hXb.cell 0 _ rfl
        have g1 := hXb.cell 1 _ rfl
        clear hb2 hB1 f0 hX
        go_wp2
        go_ret
        exact ⟨rfl, hB2⟩
    · obtain ⟨hD, hus, his⟩ := HIs.out hk
      obtain ⟨Y1, hY1⟩ : ∃ X : ByteArray, X1 ++ u = X := ⟨_, rfl⟩
      have hy1 : Y1.size ≤ 27 := by rw [← hY1, ByteArray.size_append]; omega
      obtain ⟨Y2, hY2⟩ : ∃ X : ByteArray, Y1 ++ ⟨#[32]⟩ = X := ⟨_, rfl⟩
      have hy2 : Y2.size ≤ 28 := by rw [← hY2, ByteArray.size_append]; have l1 : (⟨#[32]⟩ : ByteArray).size = 1 := rfl; omega
      have hX2 : Y2 ++ i = R := by rw [HV.out, hD, ← hY2, ← hY1]; simp only [ByteArray.append_assoc]
      clear HFs HDs HUs HIs HF HDd HV hds hD
      rcases hk with rfl | rfl | rfl | rfl
      all_goals
        go_enter Tryd.func67, Tryd.ntmps67
        go_wp2_with fail
        refine (HC.out _ ((HI.out.below hB0).mono hB0.size)).mono ?_
        rintro e w1 ⟨rfl, hb1⟩
        have hB1 := hB0.trans (hb1.mono hB0.size)
        have hX := hX0.keep hb1 hX0.lt
        have f0 := hX.cell 0 _ rfl
        clear hb1 hB0 hX0 HC
        go_wp2_with fail
        refine (HW.out _).mono ?_
        rintro e w2 ⟨rfl, hb2⟩
        have hB2 := hB1.trans (hb2.mono hB1.size)
        have hXb := hX.keep hb2 hX.lt
        have g0 := hXb.cell 0 _ rfl
        have g1 := hXb.cell 1 _ rfl
        have g2 := hXb.cell 2 _ rfl
        clear hb2 hB1 f0 hX
        go_wp2
        go_ret
        exact ⟨rfl, hB2⟩
end Go.Proofs.YtgimjfffdnopiaaDoor
