/- BoxOf, of the program and of the reference. -/
import Derived.Test.YtfjaincogbdeiaaGreatDoorW12a
namespace Go.Proofs.YtfjaincogbdeiaaGreatDoor
open Go.ChangeShapes Go.WideShapes Go.ChangeAt Go.RowKit
set_option linter.unusedVariables false

/-- All tables that a box asks for. -/
def TabsB (w : World) : Prop := Tabs w ∧ FTab w ∧ KTab w
theorem TabsB.below {w w' : World} {B : Nat} (h : TabsB w) (hb : Below B w w') (hB : w.heap.size ≤ B) : TabsB w' := ⟨h.1.below hb hB, h.2.1.below hb hB, h.2.2.below hb hB⟩

set_option maxRecDepth 100000 in
set_option maxHeartbeats 3000000 in
theorem implBoxOf_any (key : ByteArray) (n : Int) (last : ByteArray) (o : OpD) (x : Value) (w : World) (hk : key.size ≤ maxLen) (hl : last.size ≤ maxLen) (hI : ItAt w w.heap.size x o.its) (hz : OpSz o) (hT : TabsB w) :
    Calls Tryz.prog 8 #[.string key, .int .i64 n, .string last, opV o x] w fun e w' => e = .returned (.string (bxR key n last o)) ∧ Below w.heap.size w w' := by
  have HI := Lib.hid hI
  have HT := Lib.hid hT
  obtain ⟨a, cap, rfl⟩ := hI.1.slice
  have HC := Lib.hid (fun w h => implOpOk_any o (.slice a o.its.length cap) w h hz)
  have HZ := Lib.hid hz
  have HKl := Lib.hid hk
  unfold maxLen at hk hl
  clear hI hT hz
  have hB0 : Below w.heap.size w (w.alloc (.cells #[.int .i64 o.k, .string o.u, .string o.i, .int .i64 o.d, .string o.fu, .string o.ft, .slice a o.its.length cap] 33)) := (Below.refl _ _).alloc (Nat.le_refl _) _
  have hX0 := Box.new w #[.int .i64 o.k, .string o.u, .string o.i, .int .i64 o.d, .string o.fu, .string o.ft, .slice a o.its.length cap] 33
  by_cases g1 : key.size = 32
  case neg =>
    have HV : Hid (bxR key n last o = ⟨#[]⟩) := Lib.hid (by unfold bxR; rw [if_neg (fun h => g1 h.1)])
    rw [HV.out]
    have d1 : ((key.size : Int) == 32) = false := beq_eq_false_iff_ne.2 (by omega)
    have d2 : ((key.size : Int) != 32) = true := by rw [bne, d1]; rfl
    clear g1 HV
    go_enter Tryz.func8, Tryz.ntmps8
    go_wp2
    go_ret
    exact ⟨rfl, hB0⟩
  have d1 : ((key.size : Int) == 32) = true := beq_iff_eq.2 (by omega)
  have d2 : ((key.size : Int) != 32) = false := by rw [bne, d1]; rfl
  by_cases g2 : 1 ≤ n
  case neg =>
    have HV : Hid (bxR key n last o = ⟨#[]⟩) := Lib.hid (by unfold bxR; rw [if_neg (fun h => g2 h.2.1)])
    rw [HV.out]
    have d3 : decide (n < 1) = true := decide_eq_true (by omega)
    clear g1 g2 HV
    go_enter Tryz.func8, Tryz.ntmps8
    go_wp2
    go_ret
    exact ⟨rfl, hB0⟩
  have d3 : decide (n < 1) = false := decide_eq_false (by omega)
  by_cases g3 : n ≤ 1000000
  case neg =>
    have HV : Hid (bxR key n last o = ⟨#[]⟩) := Lib.hid (by unfold bxR; rw [if_neg (fun h => g3 h.2.2.1)])
    rw [HV.out]
    have d4 : decide (1000000 < n) = true := decide_eq_true (by omega)
    clear g1 g2 g3 HV
    go_enter Tryz.func8, Tryz.ntmps8
    go_wp2
    go_ret
    exact ⟨rfl, hB0⟩
  have d4 : decide (1000000 < n) = false := decide_eq_false (by omega)
  by_cases g4 : last.size = 16
  case neg =>
    have HV : Hid (bxR key n last o = ⟨#[]⟩) := Lib.hid (by unfold bxR; rw [if_neg (fun h => g4 h.2.2.2.1)])
    rw [HV.out]
    have d5 : ((last.size : Int) == 16) = false := beq_eq_false_iff_ne.2 (by omega)
    have d6 : ((last.size : Int) != 16) = true := by rw [bne, d5]; rfl
    clear g1 g2 g3 g4 HV
    go_enter Tryz.func8, Tryz.ntmps8
    go_wp2
    go_ret
    exact ⟨rfl, hB0⟩
  have d5 : ((last.size : Int) == 16) = true := beq_iff_eq.2 (by omega)
  have d6 : ((last.size : Int) != 16) = false := by rw [bne, d5]; rfl
  cases hop : opB o with
  | false =>
    have HV : Hid (bxR key n last o = ⟨#[]⟩) := Lib.hid (by unfold bxR; rw [if_neg (fun h => by rw [hop] at h; exact absurd h.2.2.2.2 (by simp))])
    rw [HV.out]
    rw [hop] at HC
    clear g1 g2 g3 g4 HV hop
    go_enter Tryz.func8, Tryz.ntmps8
    go_wp2_with fail
    refine (HC.out _ ((HI.out.below hB0).mono hB0.size)).mono ?_
    rintro e w1 ⟨rfl, hb1⟩
    have hB1 := hB0.trans (hb1.mono hB0.size)
    clear hb1 hB0
    go_wp2
    go_ret
    exact ⟨rfl, hB1⟩
  | true =>
    obtain ⟨m, rfl⟩ : ∃ m : Nat, n = (m : Int) := ⟨n.toNat, by omega⟩
    have HV : Hid (bxR key (m : Int) last o = bxB key m last o) := Lib.hid (by unfold bxR; rw [if_pos ⟨g1, g2, g3, g4, hop⟩]; rfl)
    rw [HV.out]
    rw [hop] at HC
    have hos := opX_small o
    have HO := Lib.hid (fun w h hT => implOpText_any o (.slice a o.its.length cap) w h HZ.out hT)
    have HP := Lib.hid (fun w => implPadded_any (opX o) 64 w (by unfold maxLen; omega) (by decide))
    have HPe : Hid (padR (opX o) 64 = ptO o) := Lib.hid (by unfold padR; rw [if_pos ⟨by omega, by decide, by decide⟩]; rfl)
    rw [HPe.out] at HP
    have HW := Lib.hid (fun w => besideOf_any m last w (by omega) (by omega))
    have hbs := bsB_size m last
    have hps := ptO_size o
    have hxs : (bsB m last ++ ptO o).size ≤ 4000 := by rw [ByteArray.size_append]; omega
    have HH := Lib.hid (fun w hF hK => implHmac_any key (bsB m last ++ ptO o) w HKl.out (by unfold maxLen; omega) hF hK)
    have HHe : Hid (hmR key (bsB m last ++ ptO o) = hmB key (bsB m last ++ ptO o)) := Lib.hid (by unfold hmR; rw [if_pos ⟨by omega, hxs⟩])
    rw [HHe.out] at HH
    have hns := ncB_size key (bsB m last) (ptO o)
    have HNe : Hid (ncB key (bsB m last) (ptO o) = (hmB key (bsB m last ++ ptO o)).extract 0 12) := Lib.hid rfl
    have HS := Lib.hid (fun w => implSealed_any key (ncB key (bsB m last) (ptO o)) (bsB m last) (ptO o) w HKl.out (by unfold maxLen; omega) (by unfold maxLen; omega) (by unfold maxLen; omega))
    have HSe : Hid (slR key (ncB key (bsB m last) (ptO o)) (bsB m last) (ptO o) = sealB key (ncB key (bsB m last) (ptO o)) (bsB m last) (ptO o)) := Lib.hid (by unfold slR; rw [if_pos ⟨g1, hns, by omega, by omega⟩])
    rw [HSe.out] at HS
    have hss := sealB_size key (ncB key (bsB m last) (ptO o)) (bsB m last) (ptO o)
    have HE : Hid (bxB key m last o = ncB key (bsB m last) (ptO o) ++ sealB key (ncB key (bsB m last) (ptO o)) (bsB m last) (ptO o)) := Lib.hid rfl
    have hms := hmB_size key (bsB m last ++ ptO o)
    clear HPe HHe HSe
    generalize sealB key (ncB key (bsB m last) (ptO o)) (bsB m last) (ptO o) = SL at HS HE hss
    generalize ncB key (bsB m last) (ptO o) = NC at HS HE hns HNe
    obtain ⟨X, hX⟩ : ∃ X, bsB m last ++ ptO o = X := ⟨_, rfl⟩
    rw [hX] at hxs HH HNe hms
    generalize hmB key X = HM at HH HNe hms
    generalize bsB m last = BS at HW HS hbs hX
    generalize ptO o = PT at HP HS hps hss hX
    generalize opX o = OX at HO HP
    generalize bxB key m last o = R at HE ⊢
    have hn2 : NC.size ≤ 12 := by omega
    have hss2 : SL.size ≤ 5000 := by omega
    have hR := HE.out.symm
    have hNe := HNe.out.symm
    have hm1 : 32 ≤ HM.size := by omega
    have hm2 : HM.size ≤ 32 := by omega
    have hbs2 : BS.size ≤ 24 := by omega
    clear hns hbs hms hos HE HNe HV g1 g4 hop
    go_enter Tryz.func8, Tryz.ntmps8
    go_wp2_with fail
    refine (HC.out _ ((HI.out.below hB0).mono hB0.size)).mono ?_
    rintro e w1 ⟨rfl, hb1⟩
    have hB1 := hB0.trans (hb1.mono hB0.size)
    have hX1 := hX0.keep hb1 hX0.lt
    have f0 := hX1.cell 0 _ rfl
    have f1 := hX1.cell 1 _ rfl
    have f2 := hX1.cell 2 _ rfl
    have f3 := hX1.cell 3 _ rfl
    have f4 := hX1.cell 4 _ rfl
    have f5 := hX1.cell 5 _ rfl
    have f6 := hX1.cell 6 _ rfl
    clear hb1 hB0 hX0 hX1 HC
    go_wp2_with fail
    refine (HO.out _ ((HI.out.below hB1).mono hB1.size) (HT.out.below hB1 (Nat.le_refl _)).1).mono ?_
    rintro e w2 ⟨rfl, hb2⟩
    have hB2 := hB1.trans (hb2.mono hB1.size)
    clear hb2 hB1 f0 f1 f2 f3 f4 f5 f6
    go_wp2_with fail
    refine (HP.out _).mono ?_
    rintro e w3 ⟨rfl, hb3⟩
    have hB3 := hB2.trans (hb3.mono hB2.size)
    clear hb3 hB2
    go_wp2_with fail
    refine (HW.out _).mono ?_
    rintro e w4 ⟨rfl, hb4⟩
    have hB4 := hB3.trans (hb4.mono hB3.size)
    clear hb4 hB3
    go_wp2_with fail
    refine (HH.out _ (HT.out.below hB4 (Nat.le_refl _)).2.1 (HT.out.below hB4 (Nat.le_refl _)).2.2).mono ?_
    rintro e w5 ⟨rfl, hb5⟩
    have hB5 := hB4.trans (hb5.mono hB4.size)
    clear hb5 hB4
    go_wp2_with fail
    refine (HS.out _).mono ?_
    rintro e w6 ⟨rfl, hb6⟩
    have hB6 := hB5.trans (hb6.mono hB5.size)
    clear hb6 hB5
    go_wp2
    go_ret
    exact ⟨rfl, hB6⟩

set_option maxRecDepth 100000 in
set_option maxHeartbeats 3000000 in
theorem specBoxOf_any (key : ByteArray) (n : Int) (last : ByteArray) (o : OpD) (x : Value) (w : World) (hk : key.size ≤ maxLen) (hl : last.size ≤ maxLen) (hI : ItAt w w.heap.size x o.its) (hz : OpSz o) :
    Calls Tryz.prog 6 #[.string key, .int .i64 n, .string last, opV o x] w fun e w' => e = .returned (.string (bxR key n last o)) ∧ Below w.heap.size w w' := by
  have HI := Lib.hid hI
  obtain ⟨a, cap, rfl⟩ := hI.1.slice
  have HC := Lib.hid (fun w h => specOpOk_any o (.slice a o.its.length cap) w h hz)
  have HL := Lib.hid (fun w => l1In_any n 1 1000000 w)
  have HZ := Lib.hid hz
  unfold maxLen at hk hl
  clear hI hz
  have hB0 : Below w.heap.size w (w.alloc (.cells #[.int .i64 o.k, .string o.u, .string o.i, .int .i64 o.d, .string o.fu, .string o.ft, .slice a o.its.length cap] 33)) := (Below.refl _ _).alloc (Nat.le_refl _) _
  have hX0 := Box.new w #[.int .i64 o.k, .string o.u, .string o.i, .int .i64 o.d, .string o.fu, .string o.ft, .slice a o.its.length cap] 33
  by_cases g1 : key.size = 32
  case neg =>
    have HV : Hid (bxR key n last o = ⟨#[]⟩) := Lib.hid (by unfold bxR; rw [if_neg (fun h => g1 h.1)])
    rw [HV.out]
    have d1 : ((key.size : Int) == 32) = false := beq_eq_false_iff_ne.2 (by omega)
    have d2 : ((key.size : Int) != 32) = true := by rw [bne, d1]; rfl
    clear g1 HV
    go_enter Tryz.func6, Tryz.ntmps6
    go_wp2
    go_ret
    exact ⟨rfl, hB0⟩
  have d1 : ((key.size : Int) == 32) = true := beq_iff_eq.2 (by omega)
  have d2 : ((key.size : Int) != 32) = false := by rw [bne, d1]; rfl
  by_cases g2 : 1 ≤ n ∧ n ≤ 1000000
  case neg =>
    have HV : Hid (bxR key n last o = ⟨#[]⟩) := Lib.hid (by unfold bxR; rw [if_neg (fun h => g2 ⟨h.2.1, h.2.2.1⟩)])
    rw [HV.out]
    have hq : (decide (1 ≤ n) && decide (n ≤ 1000000)) = false := by
      rw [Bool.and_eq_false_iff]
      by_cases h : 1 ≤ n
      · right; exact decide_eq_false (by omega)
      · left; exact decide_eq_false h
    rw [hq] at HL
    clear g1 g2 HV hq
    go_enter Tryz.func6, Tryz.ntmps6
    go_wp2_with fail
    refine (HL.out _).mono ?_
    rintro e w1 ⟨rfl, rfl⟩
    go_wp2
    go_ret
    exact ⟨rfl, hB0⟩
  have hq : (decide (1 ≤ n) && decide (n ≤ 1000000)) = true := by rw [decide_eq_true g2.1, decide_eq_true g2.2]; rfl
  rw [hq] at HL
  clear hq
  by_cases g4 : last.size = 16
  case neg =>
    have HV : Hid (bxR key n last o = ⟨#[]⟩) := Lib.hid (by unfold bxR; rw [if_neg (fun h => g4 h.2.2.2.1)])
    rw [HV.out]
    have d5 : ((last.size : Int) == 16) = false := beq_eq_false_iff_ne.2 (by omega)
    have d6 : ((last.size : Int) != 16) = true := by rw [bne, d5]; rfl
    clear g1 g2 g4 HV
    go_enter Tryz.func6, Tryz.ntmps6
    go_wp2_with fail
    refine (HL.out _).mono ?_
    rintro e w1 ⟨rfl, rfl⟩
    go_wp2
    go_ret
    exact ⟨rfl, hB0⟩
  have d5 : ((last.size : Int) == 16) = true := beq_iff_eq.2 (by omega)
  have d6 : ((last.size : Int) != 16) = false := by rw [bne, d5]; rfl
  cases hop : opB o with
  | false =>
    have HV : Hid (bxR key n last o = ⟨#[]⟩) := Lib.hid (by unfold bxR; rw [if_neg (fun h => by rw [hop] at h; exact absurd h.2.2.2.2 (by simp))])
    rw [HV.out]
    rw [hop] at HC
    clear g1 g2 g4 HV hop
    go_enter Tryz.func6, Tryz.ntmps6
    go_wp2_with fail
    refine (HL.out _).mono ?_
    rintro e w1 ⟨rfl, rfl⟩
    go_wp2_with fail
    refine (HC.out _ ((HI.out.below hB0).mono hB0.size)).mono ?_
    rintro e w1 ⟨rfl, hb1⟩
    have hB1 := hB0.trans (hb1.mono hB0.size)
    clear hb1 hB0
    go_wp2
    go_ret
    exact ⟨rfl, hB1⟩
  | true =>
    obtain ⟨m, rfl⟩ : ∃ m : Nat, n = (m : Int) := ⟨n.toNat, by omega⟩
    have HV : Hid (bxR key (m : Int) last o = bxB key m last o) := Lib.hid (by unfold bxR; rw [if_pos ⟨g1, g2.1, g2.2, g4, hop⟩]; rfl)
    rw [HV.out]
    rw [hop] at HC
    have HX := Lib.hid (fun w h => l12Box_any key m last o (.slice a o.its.length cap) w g1 (by omega) g4 h HZ.out)
    generalize bxB key m last o = R at HX ⊢
    clear g1 g2 g4 HV hop
    go_enter Tryz.func6, Tryz.ntmps6
    go_wp2_with fail
    refine (HL.out _).mono ?_
    rintro e w1 ⟨rfl, rfl⟩
    go_wp2_with fail
    refine (HC.out _ ((HI.out.below hB0).mono hB0.size)).mono ?_
    rintro e w1 ⟨rfl, hb1⟩
    have hB1 := hB0.trans (hb1.mono hB0.size)
    have hX1 := hX0.keep hb1 hX0.lt
    have f0 := hX1.cell 0 _ rfl
    have f1 := hX1.cell 1 _ rfl
    have f2 := hX1.cell 2 _ rfl
    have f3 := hX1.cell 3 _ rfl
    have f4 := hX1.cell 4 _ rfl
    have f5 := hX1.cell 5 _ rfl
    have f6 := hX1.cell 6 _ rfl
    clear hb1 hB0 hX0 hX1 HC
    go_wp2_with fail
    refine (HX.out _ ((HI.out.below hB1).mono hB1.size)).mono ?_
    rintro e w2 ⟨rfl, hb2⟩
    have hB2 := hB1.trans (hb2.mono hB1.size)
    clear hb2 hB1 f0 f1 f2 f3 f4 f5 f6
    go_wp2
    go_ret
    exact ⟨rfl, hB2⟩
end Go.Proofs.YtfjaincogbdeiaaGreatDoor
