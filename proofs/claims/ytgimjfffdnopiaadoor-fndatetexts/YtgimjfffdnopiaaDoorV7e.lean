/- The walk of FnDateTexts. -/
import Derived.Test.YtgimjfffdnopiaaDoorV7d
namespace Go.Proofs.YtgimjfffdnopiaaDoor
open Go.ChangeShapes Go.WideShapes Go.ChangeAt Go.RowKit
set_option linter.unusedVariables false
set_option linter.unusedSimpArgs false

theorem rdV_back (y m d : Int) (h : dOk y m d = true) : rdV (dateT y m d) = .tuple #[dV y m d, .bool true] := by
  obtain ⟨h1, h2, h3, h4⟩ := rd_back y m d h
  rw [rdV_yes ((rdOk_iff _).1 h1), h2, h3, h4]
theorem rdV_none (s : ByteArray) (h : rdOk s = false) : rdV s = .tuple #[dV 0 0 0, .bool false] := rdV_not (fun hx => by rw [(rdOk_iff s).2 hx] at h; cases h)
theorem text_day (y m d : Int) (t : ByteArray) (h : dOk y m d = true) (ht : rdOk t = true) : Op.bytesLess (dateT y m d).toList t.toList = decide (dayR y m d < dayR (rY t) (rM t) (rD t)) := by
  obtain ⟨h1, h2, h3, h4⟩ := rd_back y m d h
  rw [text_less _ _ h1 ht, h2, h3, h4]
  have e1 : dayR y m d = dN y m d := by unfold dayR; rw [if_pos h]
  have e2 : dayR (rY t) (rM t) (rD t) = dN (rY t) (rM t) (rD t) := by unfold dayR; rw [if_pos ((rdOk_iff t).1 ht).2.2.2]
  rw [e1, e2]

set_option maxRecDepth 100000 in
set_option maxHeartbeats 8000000 in
theorem walk_FnDateTexts (a : Option Addr) (len cap : Nat) (z : List Int) (w : World) (h : IsRow .u8 w a len cap z) (hk : MTab w ∧ PTab w) :
    Calls Tryd.prog 4 #[.slice a len cap] w fun e w' => e = .returned (.bool true) ∧ Below w.heap.size w w' := by
  have hcd := Cd.of_row h
  obtain ⟨cv, hcv⟩ : ∃ cv : Value, cv = .slice a len cap := ⟨_, rfl⟩
  rw [← hcv] at hcd ⊢
  clear h hcv
  go_enter Tryd.func4, Tryd.ntmps4
  go_wp2_with fail
  refine (big_any _ cv _ hcd).mono ?_
  rintro e w1 ⟨⟨b, rfl⟩, rfl⟩
  cases b with
  | true =>
    go_wp2
    go_ret
    exact ⟨rfl, Below.refl _ _⟩
  | false =>
    go_wp2_with fail
    refine (drawDateText_any _ cv _ hcd).mono ?_
    rintro e v1 ⟨y, m, d, rfl, hd1⟩
    have HC := Lib.hid hcd
    have hM := hk.1.below hd1 (Nat.le_refl _)
    have hP := hk.2.below hd1 (Nat.le_refl _)
    have I0 := Lib.hid (fun w hM hP => implDateText_any y m d w hM hP)
    have S0 := Lib.hid (fun w => specDateText_any y m d w)
    have I1 := Lib.hid (fun w hM => implDayOf_any y m d w hM)
    have I3 := Lib.hid (fun w hM => implDateOk_any y m d w hM)
    have IR := Lib.hid (fun w hM => implReadDate_any (dateT y m d) w hM)
    have HT : Hid (dOk y m d = true → ∀ t, rdOk t = true → Op.bytesLess (dateT y m d).toList t.toList = decide (dayR y m d < dayR (rY t) (rM t) (rD t))) := Lib.hid (fun h t ht => text_day y m d t h ht)
    have HV1 : Hid (dOk y m d = true → rdV (dateT y m d) = .tuple #[dV y m d, .bool true]) := Lib.hid (fun h => rdV_back y m d h)
    have HV0 : Hid (dOk y m d = false → rdV (dateT y m d) = .tuple #[dV 0 0 0, .bool false]) := Lib.hid (fun h => rdV_none _ (rd_none y m d h))
    generalize dayR y m d = n at I1 HT
    generalize dOk y m d = O at I3 HT HV1 HV0
    generalize dateT y m d = s at I0 S0 IR HT HV1 HV0
    have hN := Box.new v1 #[.int .i64 y, .int .i64 m, .int .i64 d] 25
    have hB : Below w.heap.size w (v1.alloc (.cells #[.int .i64 y, .int .i64 m, .int .i64 d] 25)) := hd1.alloc hd1.size _
    replace hM : MTab (v1.alloc (.cells #[.int .i64 y, .int .i64 m, .int .i64 d] 25)) := hM.below ((Below.refl _ _).alloc (Nat.le_refl _) _) (Nat.le_refl _)
    replace hP : PTab (v1.alloc (.cells #[.int .i64 y, .int .i64 m, .int .i64 d] 25)) := hP.below ((Below.refl _ _).alloc (Nat.le_refl _) _) (Nat.le_refl _)
    clear hd1 hcd hk
    have n0 := hN.cell 0 _ rfl
    have n1 := hN.cell 1 _ rfl
    have n2 := hN.cell 2 _ rfl
    go_wp2_with fail
    clear n0 n1 n2
    generalize v1.alloc (.cells #[.int .i64 y, .int .i64 m, .int .i64 d] 25) = W1 at hN hM hP hB ⊢
    generalize v1.heap.size = G3 at hN ⊢
    refine (I0.out _ hM hP).mono ?_
    rintro e w2 ⟨rfl, hb⟩
    replace hN := hN.keep hb hN.lt
    replace hM := hM.below hb (Nat.le_refl _)
    replace hP := hP.below hb (Nat.le_refl _)
    replace hB := hB.trans (hb.mono hB.size)
    clear hb
    cases O with
    | false =>
      rw [HV0.out rfl] at IR
      clear HV1 HV0
      clear HT
      go_wp2_with fail
      refine (IR.out _ hM).mono ?_
      rintro e w3 ⟨rfl, hb⟩
      replace hN := hN.keep hb hN.lt
      replace hM := hM.below hb (Nat.le_refl _)
      replace hP := hP.below hb (Nat.le_refl _)
      replace hB := hB.trans (hb.mono hB.size)
      clear hb
      replace hN := hN.alloc (.cells #[.int .i64 0, .int .i64 0, .int .i64 0] 25)
      have hX := Box.new w3 #[.int .i64 0, .int .i64 0, .int .i64 0] 25
      replace hM : MTab (w3.alloc (.cells #[.int .i64 0, .int .i64 0, .int .i64 0] 25)) := hM.below ((Below.refl _ _).alloc (Nat.le_refl _) _) (Nat.le_refl _)
      replace hP : PTab (w3.alloc (.cells #[.int .i64 0, .int .i64 0, .int .i64 0] 25)) := hP.below ((Below.refl _ _).alloc (Nat.le_refl _) _) (Nat.le_refl _)
      replace hB := hB.alloc hB.size (.cells #[.int .i64 0, .int .i64 0, .int .i64 0] 25)
      go_wp2_with fail
      generalize w3.alloc (.cells #[.int .i64 0, .int .i64 0, .int .i64 0] 25) = W3 at hN hX hM hP hB ⊢
      generalize w3.heap.size = G5 at hX ⊢
      refine (drawReadDate_any _ cv _ (HC.out.below hB)).mono ?_
      rintro e w4 ⟨t, rfl, hb⟩
      replace hN := hN.keep hb hN.lt
      replace hX := hX.keep hb hX.lt
      replace hM := hM.below hb (Nat.le_refl _)
      replace hP := hP.below hb (Nat.le_refl _)
      replace hB := hB.trans (hb.mono hB.size)
      clear hb
      have IT := Lib.hid (fun w hM => implReadDate_any t w hM)
      have ST := Lib.hid (fun w => specReadDate_any t w)
      have HV1 : Hid (rdOk t = true → rdV t = .tuple #[dV (rY t) (rM t) (rD t), .bool true]) := Lib.hid (fun h => rdV_yes ((rdOk_iff t).1 h))
      have HV0 : Hid (rdOk t = false → rdV t = .tuple #[dV 0 0 0, .bool false]) := Lib.hid (fun h => rdV_none t h)
      have IB := Lib.hid (fun w hM hP => implDateText_any (rY t) (rM t) (rD t) w hM hP)
      have HBk : Hid (rdOk t = true → dateT (rY t) (rM t) (rD t) = t) := Lib.hid (fun h => rd_text t h)
      have I4 := Lib.hid (fun w hM => implDayOf_any (rY t) (rM t) (rD t) w hM)
      generalize dayR (rY t) (rM t) (rD t) = n2 at I4
      generalize dateT (rY t) (rM t) (rD t) = bk at IB HBk
      generalize rdV t = V at IT ST HV1 HV0
      generalize rdOk t = F at HV1 HV0 HBk
      generalize rY t = yt at HV1 IB I4
      generalize rM t = mt at HV1 IB I4
      generalize rD t = dt at HV1 IB I4
      cases F with
      | false =>
        obtain rfl := HV0.out rfl
        clear HV0 HV1
        go_wp2_with fail
        refine (IT.out _ hM).mono ?_
        rintro e w5 ⟨rfl, hb⟩
        replace hN := hN.keep hb hN.lt
        replace hX := hX.keep hb hX.lt
        replace hM := hM.below hb (Nat.le_refl _)
        replace hP := hP.below hb (Nat.le_refl _)
        replace hB := hB.trans (hb.mono hB.size)
        clear hb
        replace hN := hN.alloc (.cells #[.int .i64 0, .int .i64 0, .int .i64 0] 25)
        replace hX := hX.alloc (.cells #[.int .i64 0, .int .i64 0, .int .i64 0] 25)
        have hY := Box.new w5 #[.int .i64 0, .int .i64 0, .int .i64 0] 25
        replace hM : MTab (w5.alloc (.cells #[.int .i64 0, .int .i64 0, .int .i64 0] 25)) := hM.below ((Below.refl _ _).alloc (Nat.le_refl _) _) (Nat.le_refl _)
        replace hP : PTab (w5.alloc (.cells #[.int .i64 0, .int .i64 0, .int .i64 0] 25)) := hP.below ((Below.refl _ _).alloc (Nat.le_refl _) _) (Nat.le_refl _)
        replace hB := hB.alloc hB.size (.cells #[.int .i64 0, .int .i64 0, .int .i64 0] 25)
        go_wp2_with fail
        generalize w5.alloc (.cells #[.int .i64 0, .int .i64 0, .int .i64 0] 25) = W5 at hN hX hY hM hP hB ⊢
        generalize w5.heap.size = G8 at hY ⊢
        refine (ST.out _).mono ?_
        rintro e w6 ⟨rfl, hb⟩
        replace hN := hN.keep hb hN.lt
        replace hX := hX.keep hb hX.lt
        replace hY := hY.keep hb hY.lt
        replace hM := hM.below hb (Nat.le_refl _)
        replace hP := hP.below hb (Nat.le_refl _)
        replace hB := hB.trans (hb.mono hB.size)
        clear hb
        replace hN := hN.alloc (.cells #[.int .i64 0, .int .i64 0, .int .i64 0] 25)
        replace hX := hX.alloc (.cells #[.int .i64 0, .int .i64 0, .int .i64 0] 25)
        replace hY := hY.alloc (.cells #[.int .i64 0, .int .i64 0, .int .i64 0] 25)
        have hZ := Box.new w6 #[.int .i64 0, .int .i64 0, .int .i64 0] 25
        replace hM : MTab (w6.alloc (.cells #[.int .i64 0, .int .i64 0, .int .i64 0] 25)) := hM.below ((Below.refl _ _).alloc (Nat.le_refl _) _) (Nat.le_refl _)
        replace hP : PTab (w6.alloc (.cells #[.int .i64 0, .int .i64 0, .int .i64 0] 25)) := hP.below ((Below.refl _ _).alloc (Nat.le_refl _) _) (Nat.le_refl _)
        replace hB := hB.alloc hB.size (.cells #[.int .i64 0, .int .i64 0, .int .i64 0] 25)
        have n0 := hN.cell 0 _ rfl
        have n1 := hN.cell 1 _ rfl
        have n2 := hN.cell 2 _ rfl
        have x0 := hX.cell 0 _ rfl
        have x1 := hX.cell 1 _ rfl
        have x2 := hX.cell 2 _ rfl
        have u0 := hY.cell 0 _ rfl
        have u1 := hY.cell 1 _ rfl
        have u2 := hY.cell 2 _ rfl
        have v0 := hZ.cell 0 _ rfl
        have v1 := hZ.cell 1 _ rfl
        have v2 := hZ.cell 2 _ rfl
        go_wp2_with fail
        clear n0 n1 n2 x0 x1 x2 u0 u1 u2 v0 v1 v2
        generalize w6.alloc (.cells #[.int .i64 0, .int .i64 0, .int .i64 0] 25) = W6 at hN hX hY hZ hM hP hB ⊢
        generalize w6.heap.size = G10 at hZ ⊢
        clear hZ
        refine (S0.out _).mono ?_
        rintro e w7 ⟨rfl, hb⟩
        replace hN := hN.keep hb hN.lt
        replace hX := hX.keep hb hX.lt
        replace hY := hY.keep hb hY.lt
        replace hM := hM.below hb (Nat.le_refl _)
        replace hP := hP.below hb (Nat.le_refl _)
        replace hB := hB.trans (hb.mono hB.size)
        clear hb
        have n0 := hN.cell 0 _ rfl
        have n1 := hN.cell 1 _ rfl
        have n2 := hN.cell 2 _ rfl
        have x0 := hX.cell 0 _ rfl
        have x1 := hX.cell 1 _ rfl
        have x2 := hX.cell 2 _ rfl
        have u0 := hY.cell 0 _ rfl
        have u1 := hY.cell 1 _ rfl
        have u2 := hY.cell 2 _ rfl
        go_wp2_with fail
        clear n0 n1 n2 x0 x1 x2 u0 u1 u2
        refine (I3.out _ hM).mono ?_
        rintro e w8 ⟨rfl, hb⟩
        replace hN := hN.keep hb hN.lt
        replace hX := hX.keep hb hX.lt
        replace hY := hY.keep hb hY.lt
        replace hM := hM.below hb (Nat.le_refl _)
        replace hP := hP.below hb (Nat.le_refl _)
        replace hB := hB.trans (hb.mono hB.size)
        clear hb
        have n0 := hN.cell 0 _ rfl
        have n1 := hN.cell 1 _ rfl
        have n2 := hN.cell 2 _ rfl
        have x0 := hX.cell 0 _ rfl
        have x1 := hX.cell 1 _ rfl
        have x2 := hX.cell 2 _ rfl
        have u0 := hY.cell 0 _ rfl
        have u1 := hY.cell 1 _ rfl
        have u2 := hY.cell 2 _ rfl
        go_wp2
        clear n0 n1 n2 x0 x1 x2 u0 u1 u2
        refine wp_region_T (fun w' => Box w' G3 #[.int .i64 y, .int .i64 m, .int .i64 d] 25 ∧ Box w' G8 #[.int .i64 0, .int .i64 0, .int .i64 0] 25 ∧ MTab w' ∧ PTab w') (fun _ => True) 17 (by kernel_rfl) 18 rfl ?_
        replace hN : Box _ G3 _ _ := Box.drew hN
        replace hX : Box _ G5 _ _ := Box.drew hX
        replace hY : Box _ G8 _ _ := Box.drew hY
        replace hM := hM.drewN 1
        replace hP : PTab _ := hP.below (Below.drew (Below.refl _ _)) (Nat.le_refl _)
        replace hB := Below.drew hB
        refine wpAnyT_takesA (md := .any) 6 (by kernel_rfl) (by intro d v c a w h; cases d <;> exact h) [0, 1, 2, 3, 4, 5, 6, 7, 8, 9, 10, 12] _ _ _ (by decide) (by kernel_rfl) ⟨⟨hN, hY, hM, hP⟩, fun _ => trivial⟩ ?_
        simp only [pick, List.filterMap_cons, List.filterMap_nil, List.getElem?_cons_zero, List.getElem?_cons_succ]
        refine wpIf_step (.bool false) (by kernel_rfl) (fun w hw => by go_simp) ?_
        refine wpIf_step (.bool true) (by kernel_rfl) (fun w hw => by go_simp) ?_
        refine wpIf_step (.bool true) (by kernel_rfl) (fun w hw => by go_simp) ?_
        refine wpIf_skipP (by kernel_rfl) ?_
        refine wpIf_skipP (by kernel_rfl) ?_
        refine wpIf_step (.bool true) (by kernel_rfl) (fun w hw => by go_simp) ?_
        refine wpIf_step (.bool true) (by kernel_rfl) (fun w hw => by go_simp) ?_
        refine wpIf_skipP (by kernel_rfl) ?_
        refine wpIf_skipP (by kernel_rfl) ?_
        refine wpIf_skipP (by kernel_rfl) ?_
        refine wpIf_skipP (by kernel_rfl) ?_
        refine wpIf_skipP (by kernel_rfl) ?_
        refine wpIf_nil (fun hS => ?_)
        clear hS
        refine wpAnyT_skipP 11 5 (by kernel_rfl) rfl (by kernel_rfl) ⟨⟨hN, hY, hM, hP⟩, fun _ => trivial⟩ ?_
        refine wpAnyT_skipP 13 4 (by kernel_rfl) rfl (by kernel_rfl) ⟨⟨hN, hY, hM, hP⟩, fun _ => trivial⟩ ?_
        refine wpAnyT_takesA (md := .any) 1 (by kernel_rfl) (by intro d v c a w h; cases d <;> exact h) [14, 15, 16] _ _ _ (by decide) (by kernel_rfl) ⟨⟨hN, hY, hM, hP⟩, fun _ => trivial⟩ ?_
        simp only [pick, List.filterMap_cons, List.filterMap_nil, List.getElem?_cons_zero, List.getElem?_cons_succ]
        refine wpIf_skipP (by kernel_rfl) ?_
        refine wpIf_skipP (by kernel_rfl) ?_
        refine wpIf_step (.bool true) (by kernel_rfl) (fun w hw => by go_simp) ?_
        refine wpIf_nil (fun hS => ?_)
        clear hS
        refine wpAnyT_one 17 0 (by kernel_rfl) rfl (by kernel_rfl) (fun K hK => ?_)
        go_simp
        refine hK _ _ ⟨⟨hN, hY, hM, hP⟩, fun _ => trivial⟩ (fun hS => ?_)
        clear hK K hS
        refine wpAnyT_over (by kernel_rfl) ?_
        go_wp2
        go_ret
        exact ⟨rfl, hB⟩
      | true =>
        obtain rfl := HV1.out rfl
        clear HV0 HV1
        obtain rfl := HBk.out rfl
        clear HBk
        go_wp2_with fail
        refine (IT.out _ hM).mono ?_
        rintro e w5 ⟨rfl, hb⟩
        replace hN := hN.keep hb hN.lt
        replace hX := hX.keep hb hX.lt
        replace hM := hM.below hb (Nat.le_refl _)
        replace hP := hP.below hb (Nat.le_refl _)
        replace hB := hB.trans (hb.mono hB.size)
        clear hb
        replace hN := hN.alloc (.cells #[.int .i64 yt, .int .i64 mt, .int .i64 dt] 25)
        replace hX := hX.alloc (.cells #[.int .i64 yt, .int .i64 mt, .int .i64 dt] 25)
        have hY := Box.new w5 #[.int .i64 yt, .int .i64 mt, .int .i64 dt] 25
        replace hM : MTab (w5.alloc (.cells #[.int .i64 yt, .int .i64 mt, .int .i64 dt] 25)) := hM.below ((Below.refl _ _).alloc (Nat.le_refl _) _) (Nat.le_refl _)
        replace hP : PTab (w5.alloc (.cells #[.int .i64 yt, .int .i64 mt, .int .i64 dt] 25)) := hP.below ((Below.refl _ _).alloc (Nat.le_refl _) _) (Nat.le_refl _)
        replace hB := hB.alloc hB.size (.cells #[.int .i64 yt, .int .i64 mt, .int .i64 dt] 25)
        go_wp2_with fail
        generalize w5.alloc (.cells #[.int .i64 yt, .int .i64 mt, .int .i64 dt] 25) = W5 at hN hX hY hM hP hB ⊢
        generalize w5.heap.size = G8 at hY ⊢
        refine (ST.out _).mono ?_
        rintro e w6 ⟨rfl, hb⟩
        replace hN := hN.keep hb hN.lt
        replace hX := hX.keep hb hX.lt
        replace hY := hY.keep hb hY.lt
        replace hM := hM.below hb (Nat.le_refl _)
        replace hP := hP.below hb (Nat.le_refl _)
        replace hB := hB.trans (hb.mono hB.size)
        clear hb
        replace hN := hN.alloc (.cells #[.int .i64 yt, .int .i64 mt, .int .i64 dt] 25)
        replace hX := hX.alloc (.cells #[.int .i64 yt, .int .i64 mt, .int .i64 dt] 25)
        replace hY := hY.alloc (.cells #[.int .i64 yt, .int .i64 mt, .int .i64 dt] 25)
        have hZ := Box.new w6 #[.int .i64 yt, .int .i64 mt, .int .i64 dt] 25
        replace hM : MTab (w6.alloc (.cells #[.int .i64 yt, .int .i64 mt, .int .i64 dt] 25)) := hM.below ((Below.refl _ _).alloc (Nat.le_refl _) _) (Nat.le_refl _)
        replace hP : PTab (w6.alloc (.cells #[.int .i64 yt, .int .i64 mt, .int .i64 dt] 25)) := hP.below ((Below.refl _ _).alloc (Nat.le_refl _) _) (Nat.le_refl _)
        replace hB := hB.alloc hB.size (.cells #[.int .i64 yt, .int .i64 mt, .int .i64 dt] 25)
        have n0 := hN.cell 0 _ rfl
        have n1 := hN.cell 1 _ rfl
        have n2 := hN.cell 2 _ rfl
        have x0 := hX.cell 0 _ rfl
        have x1 := hX.cell 1 _ rfl
        have x2 := hX.cell 2 _ rfl
        have u0 := hY.cell 0 _ rfl
        have u1 := hY.cell 1 _ rfl
        have u2 := hY.cell 2 _ rfl
        have v0 := hZ.cell 0 _ rfl
        have v1 := hZ.cell 1 _ rfl
        have v2 := hZ.cell 2 _ rfl
        go_wp2_with fail
        clear n0 n1 n2 x0 x1 x2 u0 u1 u2 v0 v1 v2
        generalize w6.alloc (.cells #[.int .i64 yt, .int .i64 mt, .int .i64 dt] 25) = W6 at hN hX hY hZ hM hP hB ⊢
        generalize w6.heap.size = G10 at hZ ⊢
        clear hZ
        refine (S0.out _).mono ?_
        rintro e w7 ⟨rfl, hb⟩
        replace hN := hN.keep hb hN.lt
        replace hX := hX.keep hb hX.lt
        replace hY := hY.keep hb hY.lt
        replace hM := hM.below hb (Nat.le_refl _)
        replace hP := hP.below hb (Nat.le_refl _)
        replace hB := hB.trans (hb.mono hB.size)
        clear hb
        have n0 := hN.cell 0 _ rfl
        have n1 := hN.cell 1 _ rfl
        have n2 := hN.cell 2 _ rfl
        have x0 := hX.cell 0 _ rfl
        have x1 := hX.cell 1 _ rfl
        have x2 := hX.cell 2 _ rfl
        have u0 := hY.cell 0 _ rfl
        have u1 := hY.cell 1 _ rfl
        have u2 := hY.cell 2 _ rfl
        go_wp2_with fail
        clear n0 n1 n2 x0 x1 x2 u0 u1 u2
        refine (I3.out _ hM).mono ?_
        rintro e w8 ⟨rfl, hb⟩
        replace hN := hN.keep hb hN.lt
        replace hX := hX.keep hb hX.lt
        replace hY := hY.keep hb hY.lt
        replace hM := hM.below hb (Nat.le_refl _)
        replace hP := hP.below hb (Nat.le_refl _)
        replace hB := hB.trans (hb.mono hB.size)
        clear hb
        have n0 := hN.cell 0 _ rfl
        have n1 := hN.cell 1 _ rfl
        have n2 := hN.cell 2 _ rfl
        have x0 := hX.cell 0 _ rfl
        have x1 := hX.cell 1 _ rfl
        have x2 := hX.cell 2 _ rfl
        have u0 := hY.cell 0 _ rfl
        have u1 := hY.cell 1 _ rfl
        have u2 := hY.cell 2 _ rfl
        go_wp2_with fail
        clear n0 n1 n2 x0 x1 x2 u0 u1 u2
        refine (IB.out _ hM hP).mono ?_
        rintro e w9 ⟨rfl, hb⟩
        replace hN := hN.keep hb hN.lt
        replace hX := hX.keep hb hX.lt
        replace hY := hY.keep hb hY.lt
        replace hM := hM.below hb (Nat.le_refl _)
        replace hP := hP.below hb (Nat.le_refl _)
        replace hB := hB.trans (hb.mono hB.size)
        clear hb
        have n0 := hN.cell 0 _ rfl
        have n1 := hN.cell 1 _ rfl
        have n2 := hN.cell 2 _ rfl
        have x0 := hX.cell 0 _ rfl
        have x1 := hX.cell 1 _ rfl
        have x2 := hX.cell 2 _ rfl
        have u0 := hY.cell 0 _ rfl
        have u1 := hY.cell 1 _ rfl
        have u2 := hY.cell 2 _ rfl
        go_wp2
        clear n0 n1 n2 x0 x1 x2 u0 u1 u2
        refine wp_region_T (fun w' => Box w' G3 #[.int .i64 y, .int .i64 m, .int .i64 d] 25 ∧ Box w' G8 #[.int .i64 yt, .int .i64 mt, .int .i64 dt] 25 ∧ MTab w' ∧ PTab w') (fun _ => True) 17 (by kernel_rfl) 18 rfl ?_
        replace hN : Box _ G3 _ _ := Box.drew hN
        replace hX : Box _ G5 _ _ := Box.drew hX
        replace hY : Box _ G8 _ _ := Box.drew hY
        replace hM := hM.drewN 1
        replace hP : PTab _ := hP.below (Below.drew (Below.refl _ _)) (Nat.le_refl _)
        replace hB := Below.drew hB
        refine wpAnyT_takesA (md := .any) 6 (by kernel_rfl) (by intro d v c a w h; cases d <;> exact h) [0, 1, 2, 3, 4, 5, 6, 7, 8, 9, 10, 12] _ _ _ (by decide) (by kernel_rfl) ⟨⟨hN, hY, hM, hP⟩, fun _ => trivial⟩ ?_
        simp only [pick, List.filterMap_cons, List.filterMap_nil, List.getElem?_cons_zero, List.getElem?_cons_succ]
        refine wpIf_step (.bool false) (by kernel_rfl) (fun w hw => by go_simp) ?_
        refine wpIf_step (.bool true) (by kernel_rfl) (fun w hw => by go_simp) ?_
        refine wpIf_step (.bool true) (by kernel_rfl) (fun w hw => by go_simp) ?_
        refine wpIf_skipP (by kernel_rfl) ?_
        refine wpIf_skipP (by kernel_rfl) ?_
        refine wpIf_step (.bool true) (by kernel_rfl) (fun w hw => by go_simp) ?_
        refine wpIf_step (.bool true) (by kernel_rfl) (fun w hw => by go_simp) ?_
        refine wpIf_skipP (by kernel_rfl) ?_
        refine wpIf_skipP (by kernel_rfl) ?_
        refine wpIf_skipP (by kernel_rfl) ?_
        refine wpIf_skipP (by kernel_rfl) ?_
        refine wpIf_skipP (by kernel_rfl) ?_
        refine wpIf_nil (fun hS => ?_)
        clear hS
        refine wpAnyT_skipP 11 5 (by kernel_rfl) rfl (by kernel_rfl) ⟨⟨hN, hY, hM, hP⟩, fun _ => trivial⟩ ?_
        refine wpAnyT_skipP 13 4 (by kernel_rfl) rfl (by kernel_rfl) ⟨⟨hN, hY, hM, hP⟩, fun _ => trivial⟩ ?_
        refine wpAnyT_takesA (md := .any) 1 (by kernel_rfl) (by intro d v c a w h; cases d <;> exact h) [14, 15, 16] _ _ _ (by decide) (by kernel_rfl) ⟨⟨hN, hY, hM, hP⟩, fun _ => trivial⟩ ?_
        simp only [pick, List.filterMap_cons, List.filterMap_nil, List.getElem?_cons_zero, List.getElem?_cons_succ]
        refine wpIf_skipP (by kernel_rfl) ?_
        refine wpIf_skipP (by kernel_rfl) ?_
        refine wpIf_step (.bool true) (by kernel_rfl) (fun w hw => by go_simp) ?_
        refine wpIf_nil (fun hS => ?_)
        clear hS
        refine wpAnyT_one 17 0 (by kernel_rfl) rfl (by kernel_rfl) (fun K hK => ?_)
        go_simp
        refine hK _ _ ⟨⟨hN, hY, hM, hP⟩, fun _ => trivial⟩ (fun hS => ?_)
        clear hK K hS
        refine wpAnyT_over (by kernel_rfl) ?_
        go_wp2
        go_ret
        exact ⟨rfl, hB⟩
    | true =>
      rw [HV1.out rfl] at IR
      clear HV1 HV0
      have HT2 : Hid (∀ t, rdOk t = true → Op.bytesLess s.toList t.toList = decide (n < dayR (rY t) (rM t) (rD t))) := Lib.hid (HT.out rfl)
      clear HT
      go_wp2_with fail
      refine (IR.out _ hM).mono ?_
      rintro e w3 ⟨rfl, hb⟩
      replace hN := hN.keep hb hN.lt
      replace hM := hM.below hb (Nat.le_refl _)
      replace hP := hP.below hb (Nat.le_refl _)
      replace hB := hB.trans (hb.mono hB.size)
      clear hb
      replace hN := hN.alloc (.cells #[.int .i64 y, .int .i64 m, .int .i64 d] 25)
      have hX := Box.new w3 #[.int .i64 y, .int .i64 m, .int .i64 d] 25
      replace hM : MTab (w3.alloc (.cells #[.int .i64 y, .int .i64 m, .int .i64 d] 25)) := hM.below ((Below.refl _ _).alloc (Nat.le_refl _) _) (Nat.le_refl _)
      replace hP : PTab (w3.alloc (.cells #[.int .i64 y, .int .i64 m, .int .i64 d] 25)) := hP.below ((Below.refl _ _).alloc (Nat.le_refl _) _) (Nat.le_refl _)
      replace hB := hB.alloc hB.size (.cells #[.int .i64 y, .int .i64 m, .int .i64 d] 25)
      go_wp2_with fail
      generalize w3.alloc (.cells #[.int .i64 y, .int .i64 m, .int .i64 d] 25) = W3 at hN hX hM hP hB ⊢
      generalize w3.heap.size = G5 at hX ⊢
      refine (drawReadDate_any _ cv _ (HC.out.below hB)).mono ?_
      rintro e w4 ⟨t, rfl, hb⟩
      replace hN := hN.keep hb hN.lt
      replace hX := hX.keep hb hX.lt
      replace hM := hM.below hb (Nat.le_refl _)
      replace hP := hP.below hb (Nat.le_refl _)
      replace hB := hB.trans (hb.mono hB.size)
      clear hb
      have IT := Lib.hid (fun w hM => implReadDate_any t w hM)
      have ST := Lib.hid (fun w => specReadDate_any t w)
      have HV1 : Hid (rdOk t = true → rdV t = .tuple #[dV (rY t) (rM t) (rD t), .bool true]) := Lib.hid (fun h => rdV_yes ((rdOk_iff t).1 h))
      have HV0 : Hid (rdOk t = false → rdV t = .tuple #[dV 0 0 0, .bool false]) := Lib.hid (fun h => rdV_none t h)
      have IB := Lib.hid (fun w hM hP => implDateText_any (rY t) (rM t) (rD t) w hM hP)
      have HBk : Hid (rdOk t = true → dateT (rY t) (rM t) (rD t) = t) := Lib.hid (fun h => rd_text t h)
      have I4 := Lib.hid (fun w hM => implDayOf_any (rY t) (rM t) (rD t) w hM)
      replace HT2 : Hid (rdOk t = true → Op.bytesLess s.toList t.toList = decide (n < dayR (rY t) (rM t) (rD t))) := Lib.hid (HT2.out t)
      generalize dayR (rY t) (rM t) (rD t) = n2 at I4 HT2
      generalize dateT (rY t) (rM t) (rD t) = bk at IB HBk
      generalize rdV t = V at IT ST HV1 HV0
      generalize rdOk t = F at HV1 HV0 HBk HT2
      generalize rY t = yt at HV1 IB I4
      generalize rM t = mt at HV1 IB I4
      generalize rD t = dt at HV1 IB I4
      cases F with
      | false =>
        obtain rfl := HV0.out rfl
        clear HV0 HV1
        go_wp2_with fail
        refine (IT.out _ hM).mono ?_
        rintro e w5 ⟨rfl, hb⟩
        replace hN := hN.keep hb hN.lt
        replace hX := hX.keep hb hX.lt
        replace hM := hM.below hb (Nat.le_refl _)
        replace hP := hP.below hb (Nat.le_refl _)
        replace hB := hB.trans (hb.mono hB.size)
        clear hb
        replace hN := hN.alloc (.cells #[.int .i64 0, .int .i64 0, .int .i64 0] 25)
        replace hX := hX.alloc (.cells #[.int .i64 0, .int .i64 0, .int .i64 0] 25)
        have hY := Box.new w5 #[.int .i64 0, .int .i64 0, .int .i64 0] 25
        replace hM : MTab (w5.alloc (.cells #[.int .i64 0, .int .i64 0, .int .i64 0] 25)) := hM.below ((Below.refl _ _).alloc (Nat.le_refl _) _) (Nat.le_refl _)
        replace hP : PTab (w5.alloc (.cells #[.int .i64 0, .int .i64 0, .int .i64 0] 25)) := hP.below ((Below.refl _ _).alloc (Nat.le_refl _) _) (Nat.le_refl _)
        replace hB := hB.alloc hB.size (.cells #[.int .i64 0, .int .i64 0, .int .i64 0] 25)
        go_wp2_with fail
        generalize w5.alloc (.cells #[.int .i64 0, .int .i64 0, .int .i64 0] 25) = W5 at hN hX hY hM hP hB ⊢
        generalize w5.heap.size = G8 at hY ⊢
        refine (ST.out _).mono ?_
        rintro e w6 ⟨rfl, hb⟩
        replace hN := hN.keep hb hN.lt
        replace hX := hX.keep hb hX.lt
        replace hY := hY.keep hb hY.lt
        replace hM := hM.below hb (Nat.le_refl _)
        replace hP := hP.below hb (Nat.le_refl _)
        replace hB := hB.trans (hb.mono hB.size)
        clear hb
        replace hN := hN.alloc (.cells #[.int .i64 0, .int .i64 0, .int .i64 0] 25)
        replace hX := hX.alloc (.cells #[.int .i64 0, .int .i64 0, .int .i64 0] 25)
        replace hY := hY.alloc (.cells #[.int .i64 0, .int .i64 0, .int .i64 0] 25)
        have hZ := Box.new w6 #[.int .i64 0, .int .i64 0, .int .i64 0] 25
        replace hM : MTab (w6.alloc (.cells #[.int .i64 0, .int .i64 0, .int .i64 0] 25)) := hM.below ((Below.refl _ _).alloc (Nat.le_refl _) _) (Nat.le_refl _)
        replace hP : PTab (w6.alloc (.cells #[.int .i64 0, .int .i64 0, .int .i64 0] 25)) := hP.below ((Below.refl _ _).alloc (Nat.le_refl _) _) (Nat.le_refl _)
        replace hB := hB.alloc hB.size (.cells #[.int .i64 0, .int .i64 0, .int .i64 0] 25)
        have n0 := hN.cell 0 _ rfl
        have n1 := hN.cell 1 _ rfl
        have n2 := hN.cell 2 _ rfl
        have x0 := hX.cell 0 _ rfl
        have x1 := hX.cell 1 _ rfl
        have x2 := hX.cell 2 _ rfl
        have u0 := hY.cell 0 _ rfl
        have u1 := hY.cell 1 _ rfl
        have u2 := hY.cell 2 _ rfl
        have v0 := hZ.cell 0 _ rfl
        have v1 := hZ.cell 1 _ rfl
        have v2 := hZ.cell 2 _ rfl
        go_wp2_with fail
        clear n0 n1 n2 x0 x1 x2 u0 u1 u2 v0 v1 v2
        generalize w6.alloc (.cells #[.int .i64 0, .int .i64 0, .int .i64 0] 25) = W6 at hN hX hY hZ hM hP hB ⊢
        generalize w6.heap.size = G10 at hZ ⊢
        clear hZ
        refine (S0.out _).mono ?_
        rintro e w7 ⟨rfl, hb⟩
        replace hN := hN.keep hb hN.lt
        replace hX := hX.keep hb hX.lt
        replace hY := hY.keep hb hY.lt
        replace hM := hM.below hb (Nat.le_refl _)
        replace hP := hP.below hb (Nat.le_refl _)
        replace hB := hB.trans (hb.mono hB.size)
        clear hb
        have n0 := hN.cell 0 _ rfl
        have n1 := hN.cell 1 _ rfl
        have n2 := hN.cell 2 _ rfl
        have x0 := hX.cell 0 _ rfl
        have x1 := hX.cell 1 _ rfl
        have x2 := hX.cell 2 _ rfl
        have u0 := hY.cell 0 _ rfl
        have u1 := hY.cell 1 _ rfl
        have u2 := hY.cell 2 _ rfl
        go_wp2_with fail
        clear n0 n1 n2 x0 x1 x2 u0 u1 u2
        refine (I3.out _ hM).mono ?_
        rintro e w8 ⟨rfl, hb⟩
        replace hN := hN.keep hb hN.lt
        replace hX := hX.keep hb hX.lt
        replace hY := hY.keep hb hY.lt
        replace hM := hM.below hb (Nat.le_refl _)
        replace hP := hP.below hb (Nat.le_refl _)
        replace hB := hB.trans (hb.mono hB.size)
        clear hb
        have n0 := hN.cell 0 _ rfl
        have n1 := hN.cell 1 _ rfl
        have n2 := hN.cell 2 _ rfl
        have x0 := hX.cell 0 _ rfl
        have x1 := hX.cell 1 _ rfl
        have x2 := hX.cell 2 _ rfl
        have u0 := hY.cell 0 _ rfl
        have u1 := hY.cell 1 _ rfl
        have u2 := hY.cell 2 _ rfl
        go_wp2
        clear n0 n1 n2 x0 x1 x2 u0 u1 u2
        refine wp_region_T (fun w' => Box w' G3 #[.int .i64 y, .int .i64 m, .int .i64 d] 25 ∧ Box w' G8 #[.int .i64 0, .int .i64 0, .int .i64 0] 25 ∧ MTab w' ∧ PTab w') (fun _ => True) 17 (by kernel_rfl) 18 rfl ?_
        replace hN : Box _ G3 _ _ := Box.drew hN
        replace hX : Box _ G5 _ _ := Box.drew hX
        replace hY : Box _ G8 _ _ := Box.drew hY
        replace hM := hM.drewN 1
        replace hP : PTab _ := hP.below (Below.drew (Below.refl _ _)) (Nat.le_refl _)
        replace hB := Below.drew hB
        refine wpAnyT_takesA (md := .any) 6 (by kernel_rfl) (by intro d v c a w h; cases d <;> exact h) [0, 1, 2, 3, 4, 5, 6, 7, 8, 9, 10, 12] _ _ _ (by decide) (by kernel_rfl) ⟨⟨hN, hY, hM, hP⟩, fun _ => trivial⟩ ?_
        simp only [pick, List.filterMap_cons, List.filterMap_nil, List.getElem?_cons_zero, List.getElem?_cons_succ]
        refine wpIf_step (.bool true) (by kernel_rfl) (fun w hw => by go_simp) ?_
        refine wpIf_step (.bool false) (by kernel_rfl) (fun w hw => by go_simp) ?_
        refine wpIf_step (.bool false) (by kernel_rfl) (fun w hw => by go_simp) ?_
        refine wpIf_step (.bool false) (by kernel_rfl) (fun w hw => by go_simp) ?_
        refine wpIf_step (.bool true) (by kernel_rfl) (fun w hw => by go_simp) ?_
        refine wpIf_step (.bool true) (by kernel_rfl) (fun w hw => by go_simp) ?_
        refine wpIf_step (.bool true) (by kernel_rfl) (fun w hw => by go_simp) ?_
        refine wpIf_skipP (by kernel_rfl) ?_
        refine wpIf_skipP (by kernel_rfl) ?_
        refine wpIf_skipP (by kernel_rfl) ?_
        refine wpIf_skipP (by kernel_rfl) ?_
        refine wpIf_skipP (by kernel_rfl) ?_
        refine wpIf_nil (fun hS => ?_)
        clear hS
        refine wpAnyT_skipP 11 5 (by kernel_rfl) rfl (by kernel_rfl) ⟨⟨hN, hY, hM, hP⟩, fun _ => trivial⟩ ?_
        refine wpAnyT_skipP 13 4 (by kernel_rfl) rfl (by kernel_rfl) ⟨⟨hN, hY, hM, hP⟩, fun _ => trivial⟩ ?_
        refine wpAnyT_takesA (md := .any) 1 (by kernel_rfl) (by intro d v c a w h; cases d <;> exact h) [14, 15, 16] _ _ _ (by decide) (by kernel_rfl) ⟨⟨hN, hY, hM, hP⟩, fun _ => trivial⟩ ?_
        simp only [pick, List.filterMap_cons, List.filterMap_nil, List.getElem?_cons_zero, List.getElem?_cons_succ]
        refine wpIf_skipP (by kernel_rfl) ?_
        refine wpIf_skipP (by kernel_rfl) ?_
        refine wpIf_step (.bool true) (by kernel_rfl) (fun w hw => by go_simp) ?_
        refine wpIf_nil (fun hS => ?_)
        clear hS
        refine wpAnyT_one 17 0 (by kernel_rfl) rfl (by kernel_rfl) (fun K hK => ?_)
        go_simp
        refine hK _ _ ⟨⟨hN, hY, hM, hP⟩, fun _ => trivial⟩ (fun hS => ?_)
        clear hK K hS
        refine wpAnyT_over (by kernel_rfl) ?_
        go_wp2
        go_ret
        exact ⟨rfl, hB⟩
      | true =>
        obtain rfl := HV1.out rfl
        clear HV0 HV1
        obtain rfl := HBk.out rfl
        clear HBk
        replace HT2 := Lib.hid (HT2.out rfl)
        go_wp2_with fail
        refine (IT.out _ hM).mono ?_
        rintro e w5 ⟨rfl, hb⟩
        replace hN := hN.keep hb hN.lt
        replace hX := hX.keep hb hX.lt
        replace hM := hM.below hb (Nat.le_refl _)
        replace hP := hP.below hb (Nat.le_refl _)
        replace hB := hB.trans (hb.mono hB.size)
        clear hb
        replace hN := hN.alloc (.cells #[.int .i64 yt, .int .i64 mt, .int .i64 dt] 25)
        replace hX := hX.alloc (.cells #[.int .i64 yt, .int .i64 mt, .int .i64 dt] 25)
        have hY := Box.new w5 #[.int .i64 yt, .int .i64 mt, .int .i64 dt] 25
        replace hM : MTab (w5.alloc (.cells #[.int .i64 yt, .int .i64 mt, .int .i64 dt] 25)) := hM.below ((Below.refl _ _).alloc (Nat.le_refl _) _) (Nat.le_refl _)
        replace hP : PTab (w5.alloc (.cells #[.int .i64 yt, .int .i64 mt, .int .i64 dt] 25)) := hP.below ((Below.refl _ _).alloc (Nat.le_refl _) _) (Nat.le_refl _)
        replace hB := hB.alloc hB.size (.cells #[.int .i64 yt, .int .i64 mt, .int .i64 dt] 25)
        go_wp2_with fail
        generalize w5.alloc (.cells #[.int .i64 yt, .int .i64 mt, .int .i64 dt] 25) = W5 at hN hX hY hM hP hB ⊢
        generalize w5.heap.size = G8 at hY ⊢
        refine (ST.out _).mono ?_
        rintro e w6 ⟨rfl, hb⟩
        replace hN := hN.keep hb hN.lt
        replace hX := hX.keep hb hX.lt
        replace hY := hY.keep hb hY.lt
        replace hM := hM.below hb (Nat.le_refl _)
        replace hP := hP.below hb (Nat.le_refl _)
        replace hB := hB.trans (hb.mono hB.size)
        clear hb
        replace hN := hN.alloc (.cells #[.int .i64 yt, .int .i64 mt, .int .i64 dt] 25)
        replace hX := hX.alloc (.cells #[.int .i64 yt, .int .i64 mt, .int .i64 dt] 25)
        replace hY := hY.alloc (.cells #[.int .i64 yt, .int .i64 mt, .int .i64 dt] 25)
        have hZ := Box.new w6 #[.int .i64 yt, .int .i64 mt, .int .i64 dt] 25
        replace hM : MTab (w6.alloc (.cells #[.int .i64 yt, .int .i64 mt, .int .i64 dt] 25)) := hM.below ((Below.refl _ _).alloc (Nat.le_refl _) _) (Nat.le_refl _)
        replace hP : PTab (w6.alloc (.cells #[.int .i64 yt, .int .i64 mt, .int .i64 dt] 25)) := hP.below ((Below.refl _ _).alloc (Nat.le_refl _) _) (Nat.le_refl _)
        replace hB := hB.alloc hB.size (.cells #[.int .i64 yt, .int .i64 mt, .int .i64 dt] 25)
        have n0 := hN.cell 0 _ rfl
        have n1 := hN.cell 1 _ rfl
        have n2 := hN.cell 2 _ rfl
        have x0 := hX.cell 0 _ rfl
        have x1 := hX.cell 1 _ rfl
        have x2 := hX.cell 2 _ rfl
        have u0 := hY.cell 0 _ rfl
        have u1 := hY.cell 1 _ rfl
        have u2 := hY.cell 2 _ rfl
        have v0 := hZ.cell 0 _ rfl
        have v1 := hZ.cell 1 _ rfl
        have v2 := hZ.cell 2 _ rfl
        go_wp2_with fail
        clear n0 n1 n2 x0 x1 x2 u0 u1 u2 v0 v1 v2
        generalize w6.alloc (.cells #[.int .i64 yt, .int .i64 mt, .int .i64 dt] 25) = W6 at hN hX hY hZ hM hP hB ⊢
        generalize w6.heap.size = G10 at hZ ⊢
        clear hZ
        refine (S0.out _).mono ?_
        rintro e w7 ⟨rfl, hb⟩
        replace hN := hN.keep hb hN.lt
        replace hX := hX.keep hb hX.lt
        replace hY := hY.keep hb hY.lt
        replace hM := hM.below hb (Nat.le_refl _)
        replace hP := hP.below hb (Nat.le_refl _)
        replace hB := hB.trans (hb.mono hB.size)
        clear hb
        have n0 := hN.cell 0 _ rfl
        have n1 := hN.cell 1 _ rfl
        have n2 := hN.cell 2 _ rfl
        have x0 := hX.cell 0 _ rfl
        have x1 := hX.cell 1 _ rfl
        have x2 := hX.cell 2 _ rfl
        have u0 := hY.cell 0 _ rfl
        have u1 := hY.cell 1 _ rfl
        have u2 := hY.cell 2 _ rfl
        go_wp2_with fail
        clear n0 n1 n2 x0 x1 x2 u0 u1 u2
        refine (I3.out _ hM).mono ?_
        rintro e w8 ⟨rfl, hb⟩
        replace hN := hN.keep hb hN.lt
        replace hX := hX.keep hb hX.lt
        replace hY := hY.keep hb hY.lt
        replace hM := hM.below hb (Nat.le_refl _)
        replace hP := hP.below hb (Nat.le_refl _)
        replace hB := hB.trans (hb.mono hB.size)
        clear hb
        have n0 := hN.cell 0 _ rfl
        have n1 := hN.cell 1 _ rfl
        have n2 := hN.cell 2 _ rfl
        have x0 := hX.cell 0 _ rfl
        have x1 := hX.cell 1 _ rfl
        have x2 := hX.cell 2 _ rfl
        have u0 := hY.cell 0 _ rfl
        have u1 := hY.cell 1 _ rfl
        have u2 := hY.cell 2 _ rfl
        go_wp2_with fail
        clear n0 n1 n2 x0 x1 x2 u0 u1 u2
        refine (IB.out _ hM hP).mono ?_
        rintro e w9 ⟨rfl, hb⟩
        replace hN := hN.keep hb hN.lt
        replace hX := hX.keep hb hX.lt
        replace hY := hY.keep hb hY.lt
        replace hM := hM.below hb (Nat.le_refl _)
        replace hP := hP.below hb (Nat.le_refl _)
        replace hB := hB.trans (hb.mono hB.size)
        clear hb
        have n0 := hN.cell 0 _ rfl
        have n1 := hN.cell 1 _ rfl
        have n2 := hN.cell 2 _ rfl
        have x0 := hX.cell 0 _ rfl
        have x1 := hX.cell 1 _ rfl
        have x2 := hX.cell 2 _ rfl
        have u0 := hY.cell 0 _ rfl
        have u1 := hY.cell 1 _ rfl
        have u2 := hY.cell 2 _ rfl
        go_wp2
        clear n0 n1 n2 x0 x1 x2 u0 u1 u2
        clear hX
        refine wp_region_T (fun w' => Box w' G3 #[.int .i64 y, .int .i64 m, .int .i64 d] 25 ∧ Box w' G8 #[.int .i64 yt, .int .i64 mt, .int .i64 dt] 25 ∧ MTab w' ∧ PTab w') (fun _ => True) 17 (by kernel_rfl) 18 rfl ?_
        replace hN : Box _ G3 _ _ := Box.drew hN
        replace hY : Box _ G8 _ _ := Box.drew hY
        replace hM := hM.drewN 1
        replace hP : PTab _ := hP.below (Below.drew (Below.refl _ _)) (Nat.le_refl _)
        replace hB := Below.drew hB
        refine wpAnyT_takesA (md := .any) 6 (by kernel_rfl) (by intro d v c a w h; cases d <;> exact h) [0, 1, 2, 3, 4, 5, 6, 7, 8, 9, 10, 12] _ _ _ (by decide) (by kernel_rfl) ⟨⟨hN, hY, hM, hP⟩, fun _ => trivial⟩ ?_
        simp only [pick, List.filterMap_cons, List.filterMap_nil, List.getElem?_cons_zero, List.getElem?_cons_succ]
        refine wpIf_step (.bool true) (by kernel_rfl) (fun w hw => by go_simp) ?_
        refine wpIf_step (.bool false) (by kernel_rfl) (fun w hw => by go_simp) ?_
        refine wpIf_step (.bool false) (by kernel_rfl) (fun w hw => by go_simp) ?_
        refine wpIf_step (.bool true) (by kernel_rfl) (fun w hw => by go_simp) ?_
        refine wpIf_step (.bool false) (by kernel_rfl) (fun w hw => by go_simp) ?_
        refine wpIf_step (.bool false) (by kernel_rfl) (fun w hw => by go_simp) ?_
        refine wpIf_step (.bool false) (by kernel_rfl) (fun w hw => by go_simp) ?_
        refine wpIf_step (.string s) (by kernel_rfl) (fun w hw => by go_simp) ?_
        refine wpIf_step (.string bk) (by kernel_rfl) (fun w hw => by go_simp) ?_
        refine wpIf_step (.bool (Op.bytesLess s.toList bk.toList)) (by kernel_rfl) (fun w hw => by go_simp) ?_
        refine wpIf_step (.agg #[.int .i64 y, .int .i64 m, .int .i64 d]) (by kernel_rfl) (fun w hw => by have j0 := hw.1.cell 0 _ rfl; have j1 := hw.1.cell 1 _ rfl; have j2 := hw.1.cell 2 _ rfl; go_simp) ?_
        refine wpIf_step (.agg #[.int .i64 yt, .int .i64 mt, .int .i64 dt]) (by kernel_rfl) (fun w hw => by have j0 := hw.2.1.cell 0 _ rfl; have j1 := hw.2.1.cell 1 _ rfl; have j2 := hw.2.1.cell 2 _ rfl; go_simp) ?_
        refine wpIf_nil (fun hS => ?_)
        clear hS
        refine wpAnyT_one 11 5 (by kernel_rfl) rfl (by kernel_rfl) (fun K hK => ?_)
        go_simp
        refine (I1.out _ hM).mono ?_
        rintro e wn ⟨rfl, hb⟩
        replace hN := hN.keep hb hN.lt
        replace hY := hY.keep hb hY.lt
        replace hM := hM.below hb (Nat.le_refl _)
        replace hP := hP.below hb (Nat.le_refl _)
        replace hB := hB.trans (hb.mono hB.size)
        clear hb
        refine hK _ _ ⟨⟨hN, hY, hM, hP⟩, fun _ => trivial⟩ (fun hS => ?_)
        clear hK K hS
        refine wpAnyT_one 13 4 (by kernel_rfl) rfl (by kernel_rfl) (fun K hK => ?_)
        go_simp
        refine (I4.out _ hM).mono ?_
        rintro e wn ⟨rfl, hb⟩
        replace hN := hN.keep hb hN.lt
        replace hY := hY.keep hb hY.lt
        replace hM := hM.below hb (Nat.le_refl _)
        replace hP := hP.below hb (Nat.le_refl _)
        replace hB := hB.trans (hb.mono hB.size)
        clear hb
        refine hK _ _ ⟨⟨hN, hY, hM, hP⟩, fun _ => trivial⟩ (fun hS => ?_)
        clear hK K hS
        refine wpAnyT_takesA (md := .any) 1 (by kernel_rfl) (by intro d v c a w h; cases d <;> exact h) [14, 15, 16] _ _ _ (by decide) (by kernel_rfl) ⟨⟨hN, hY, hM, hP⟩, fun _ => trivial⟩ ?_
        simp only [pick, List.filterMap_cons, List.filterMap_nil, List.getElem?_cons_zero, List.getElem?_cons_succ]
        refine wpIf_step (.bool (decide (n < n2))) (by kernel_rfl) (fun w hw => by go_simp) ?_
        refine wpIf_step (.bool true) (by kernel_rfl) (fun w hw => by rw [HT2.out]; have h2 : ∀ x : Bool, (x == x) = true := (by intro x; cases x <;> rfl); go_simp) ?_
        refine wpIf_step (.bool true) (by kernel_rfl) (fun w hw => by go_simp) ?_
        refine wpIf_nil (fun hS => ?_)
        clear hS
        refine wpAnyT_one 17 0 (by kernel_rfl) rfl (by kernel_rfl) (fun K hK => ?_)
        go_simp
        refine hK _ _ ⟨⟨hN, hY, hM, hP⟩, fun _ => trivial⟩ (fun hS => ?_)
        clear hK K hS
        refine wpAnyT_over (by kernel_rfl) ?_
        go_wp2
        go_ret
        exact ⟨rfl, hB⟩
end Go.Proofs.YtgimjfffdnopiaaDoor
