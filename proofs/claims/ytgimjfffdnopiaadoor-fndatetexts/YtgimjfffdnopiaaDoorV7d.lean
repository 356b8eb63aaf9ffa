/- The walk of FnDates. -/
import Derived.Test.YtgimjfffdnopiaaDoorDraw22
import Derived.Test.YtgimjfffdnopiaaDoorV7a
import Derived.Test.YtgimjfffdnopiaaDoorPlainD3
namespace Go.Proofs.YtgimjfffdnopiaaDoor
open Go.ChangeShapes Go.WideShapes Go.ChangeAt Go.RowKit
set_option linter.unusedVariables false
set_option linter.unusedSimpArgs false

theorem wpIf_skipP {P : Program} {ops : Array Oper} {C : World → Prop} {R : Act → Prop} {o : Oper} {l : List Oper} {a : Act} (hw : Region.wanted o (yielded ops a.tmps) = false) (h : wpIf P ops C R l (a.put o.dst undef)) : wpIf P ops C R (o :: l) a := ⟨undef, .inr ⟨hw, rfl⟩, h⟩
theorem wpAnyT_skipP {P : Program} {md : Region.Mode} {Q : Exit → Act → World → Prop} {A B : World → Prop} {t : Nat} {l : List Oper} {L : Array Bool} {a : Act} {w : World} (i g : Nat) {o : Oper} (hr : Region.ready md l.toArray L = [i]) (ho : l[i]? = some o) (hw : Region.wanted o (yielded l.toArray a.tmps) = false)
    (hS : Sx A B t (L.setIfInBounds i true) w) (h : wpAnyT P md l.toArray Q A B t g (L.setIfInBounds i true) (a.put o.dst undef) w) : wpAnyT P md l.toArray Q A B t (g + 1) L a w := by
  refine ⟨fun h0 => (by rw [hr] at h0; cases h0), fun j hj => ?_⟩
  rw [hr] at hj
  have : j = i := by simpa using hj
  subst this
  unfold wpOp
  have ho' : l.toArray[j]? = some o := by simpa using ho
  simp only [ho']
  rw [if_neg (by rw [hw]; simp)]
  exact ⟨hS, h⟩

set_option maxRecDepth 100000 in
set_option maxHeartbeats 8000000 in
theorem walk_FnDates (a : Option Addr) (len cap : Nat) (z : List Int) (w : World) (h : IsRow .u8 w a len cap z) (hk : MTab w) :
    Calls Tryd.prog 3 #[.slice a len cap] w fun e w' => e = .returned (.bool true) ∧ Below w.heap.size w w' := by
  have hcd := Cd.of_row h
  obtain ⟨cv, hcv⟩ : ∃ cv : Value, cv = .slice a len cap := ⟨_, rfl⟩
  rw [← hcv] at hcd ⊢
  clear h hcv
  go_enter Tryd.func3, Tryd.ntmps3
  go_wp2_with fail
  refine (big_any _ cv _ hcd).mono ?_
  rintro e w1 ⟨⟨b, rfl⟩, rfl⟩
  cases b with
  | true =>
    go_wp2
    go_ret
    exact ⟨rfl, Below.refl _ _⟩
  | false =>
    go_wp2_with fail
    refine (drawDayOf_any _ cv _ hcd).mono ?_
    rintro e v1 ⟨y, m, d, rfl, hd1⟩
    have HC := Lib.hid hcd
    have hM := hk.below hd1 (Nat.le_refl _)
    have HD := Lib.hid (dayR_cases y m d)
    have I1 := Lib.hid (fun w hM => implDayOf_any y m d w hM)
    have S1 := Lib.hid (fun w => specDayOf_any y m d w)
    have I3 := Lib.hid (fun w hM => implDateOk_any y m d w hM)
    have S3 := Lib.hid (fun w => specDateOk_any y m d w)
    generalize dayR y m d = n at HD I1 S1
    generalize dOk y m d = O at HD I3 S3
    have hN := Box.new v1 #[.int .i64 y, .int .i64 m, .int .i64 d] 25
    have hB : Below w.heap.size w (v1.alloc (.cells #[.int .i64 y, .int .i64 m, .int .i64 d] 25)) := hd1.alloc hd1.size _
    replace hM : MTab (v1.alloc (.cells #[.int .i64 y, .int .i64 m, .int .i64 d] 25)) := hM.below ((Below.refl _ _).alloc (Nat.le_refl _) _) (Nat.le_refl _)
    clear hd1 hcd hk
    have n0 := hN.cell 0 _ rfl
    have n1 := hN.cell 1 _ rfl
    have n2 := hN.cell 2 _ rfl
    go_wp2_with fail
    clear n0 n1 n2
    generalize v1.alloc (.cells #[.int .i64 y, .int .i64 m, .int .i64 d] 25) = W1 at hN hM hB ⊢
    generalize v1.heap.size = G3 at hN ⊢
    refine (I1.out _ hM).mono ?_
    rintro e w2 ⟨rfl, hb⟩
    replace hN := hN.keep hb hN.lt
    replace hM := hM.below hb (Nat.le_refl _)
    replace hB := hB.trans (hb.mono hB.size)
    clear hb
    go_wp2_with fail
    refine (drawDateOf_any _ cv _ (HC.out.below hB)).mono ?_
    rintro e w3 ⟨x, rfl, hb⟩
    replace hN := hN.keep hb hN.lt
    replace hM := hM.below hb (Nat.le_refl _)
    replace hB := hB.trans (hb.mono hB.size)
    clear hb
    have I4 := Lib.hid (fun w hM => implDateOf_any x w hM)
    have S4 := Lib.hid (fun w => specDateOf_any x w)
    have HX : Hid (0 ≤ x → x < 200000 → ∃ y m d y' m' d', dateR x = (y, m, d) ∧ dateR (x + 1) = (y', m', d') ∧ dOk y m d = true ∧ dayR y m d = x ∧ (y < y' ∨ y = y' ∧ (m < m' ∨ m = m' ∧ d' = d + 1)) ∧ (m' = m ∨ d' = 1) ∧ 1 ≤ d ∧ d ≤ 31) := Lib.hid (fun h0 h1 => dateR_two x h0 h1)
    obtain ⟨ye, me, de, hde⟩ : ∃ a b c, dateR x = (a, b, c) := ⟨_, _, _, rfl⟩
    unfold dateV at I4 S4
    rw [hde] at I4 S4 HX
    clear hde
    dsimp only at I4 S4
    go_wp2_with fail
    refine (I4.out _ hM).mono ?_
    rintro e w4 ⟨rfl, hb⟩
    replace hN := hN.keep hb hN.lt
    replace hM := hM.below hb (Nat.le_refl _)
    replace hB := hB.trans (hb.mono hB.size)
    clear hb
    replace hN := hN.alloc (.cells #[.int .i64 ye, .int .i64 me, .int .i64 de] 25)
    have hE := Box.new w4 #[.int .i64 ye, .int .i64 me, .int .i64 de] 25
    replace hM : MTab (w4.alloc (.cells #[.int .i64 ye, .int .i64 me, .int .i64 de] 25)) := hM.below ((Below.refl _ _).alloc (Nat.le_refl _) _) (Nat.le_refl _)
    replace hB := hB.alloc hB.size (.cells #[.int .i64 ye, .int .i64 me, .int .i64 de] 25)
    have hbb : ∀ x : Bool, (x != x) = false := by intro x; cases x <;> rfl
    have HO : Hid (decide (0 ≤ n) = O) := Lib.hid (by rcases HD.out with ⟨rfl, h, _⟩ | ⟨rfl, rfl⟩ <;> simp [*])
    go_wp2
    generalize w4.alloc (.cells #[.int .i64 ye, .int .i64 me, .int .i64 de] 25) = W4 at hN hE hM hB ⊢
    generalize w4.heap.size = G6 at hE ⊢
    refine wp_region_T (fun w' => Box w' G3 #[.int .i64 y, .int .i64 m, .int .i64 d] 25 ∧ Box w' G6 #[.int .i64 ye, .int .i64 me, .int .i64 de] 25 ∧ MTab w') (fun _ => True) 23 (by kernel_rfl) 24 rfl ?_
    replace hN : Box _ G3 _ _ := Box.drew hN
    replace hE : Box _ G6 _ _ := Box.drew hE
    replace hM := hM.drewN 1
    replace hB := Below.drew hB
    refine wpAnyT_takesA (md := .any) 22 (by kernel_rfl) (by intro d v c a w h; cases d <;> exact h) [0, 1] _ _ _ (by decide) (by kernel_rfl) ⟨⟨hN, hE, hM⟩, fun _ => trivial⟩ ?_
    simp only [pick, List.filterMap_cons, List.filterMap_nil, List.getElem?_cons_zero, List.getElem?_cons_succ]
    refine wpIf_step (.int .i64 n) (by kernel_rfl) (fun w hw => by go_simp) ?_
    refine wpIf_step (.agg #[.int .i64 y, .int .i64 m, .int .i64 d]) (by kernel_rfl) (fun w hw => by have j0 := hw.1.cell 0 _ rfl; have j1 := hw.1.cell 1 _ rfl; have j2 := hw.1.cell 2 _ rfl; go_simp) ?_
    refine wpIf_nil (fun hS => ?_)
    clear hS
    refine wpAnyT_one 2 21 (by kernel_rfl) rfl (by kernel_rfl) (fun K hK => ?_)
    go_simp
    refine (S1.out _).mono ?_
    rintro e wn ⟨rfl, hb⟩
    replace hN := hN.keep hb hN.lt
    replace hE := hE.keep hb hE.lt
    replace hM := hM.below hb (Nat.le_refl _)
    replace hB := hB.trans (hb.mono hB.size)
    clear hb
    refine hK _ _ ⟨⟨hN, hE, hM⟩, fun _ => trivial⟩ (fun hS => ?_)
    clear hK K hS
    refine wpAnyT_takesA (md := .any) 17 (by kernel_rfl) (by intro d v c a w h; cases d <;> exact h) [3, 4, 5, 6] _ _ _ (by decide) (by kernel_rfl) ⟨⟨hN, hE, hM⟩, fun _ => trivial⟩ ?_
    simp only [pick, List.filterMap_cons, List.filterMap_nil, List.getElem?_cons_zero, List.getElem?_cons_succ]
    refine wpIf_step (.bool false) (by kernel_rfl) (fun w hw => by go_simp) ?_
    refine wpIf_step (.bool false) (by kernel_rfl) (fun w hw => by go_simp) ?_
    refine wpIf_step (.agg #[.int .i64 ye, .int .i64 me, .int .i64 de]) (by kernel_rfl) (fun w hw => by have j0 := hw.2.1.cell 0 _ rfl; have j1 := hw.2.1.cell 1 _ rfl; have j2 := hw.2.1.cell 2 _ rfl; go_simp) ?_
    refine wpIf_step (.int .i64 x) (by kernel_rfl) (fun w hw => by go_simp) ?_
    refine wpIf_nil (fun hS => ?_)
    clear hS
    refine wpAnyT_one 7 16 (by kernel_rfl) rfl (by kernel_rfl) (fun K hK => ?_)
    go_simp
    refine (S4.out _).mono ?_
    rintro e wn ⟨rfl, hb⟩
    replace hN := hN.keep hb hN.lt
    replace hE := hE.keep hb hE.lt
    replace hM := hM.below hb (Nat.le_refl _)
    replace hB := hB.trans (hb.mono hB.size)
    clear hb
    refine hK _ _ ⟨⟨hN, hE, hM⟩, fun _ => trivial⟩ (fun hS => ?_)
    clear hK K hS
    refine wpAnyT_takesA (md := .any) 11 (by kernel_rfl) (by intro d v c a w h; cases d <;> exact h) [8, 9, 10, 11, 13] _ _ _ (by decide) (by kernel_rfl) ⟨⟨hN, hE, hM⟩, fun _ => trivial⟩ ?_
    simp only [pick, List.filterMap_cons, List.filterMap_nil, List.getElem?_cons_zero, List.getElem?_cons_succ]
    refine wpIf_step (.bool false) (by kernel_rfl) (fun w hw => by go_simp) ?_
    refine wpIf_step (.bool false) (by kernel_rfl) (fun w hw => by go_simp) ?_
    refine wpIf_step (.bool false) (by kernel_rfl) (fun w hw => by go_simp) ?_
    refine wpIf_step (.agg #[.int .i64 y, .int .i64 m, .int .i64 d]) (by kernel_rfl) (fun w hw => by have j0 := hw.1.cell 0 _ rfl; have j1 := hw.1.cell 1 _ rfl; have j2 := hw.1.cell 2 _ rfl; go_simp) ?_
    refine wpIf_step (.agg #[.int .i64 y, .int .i64 m, .int .i64 d]) (by kernel_rfl) (fun w hw => by have j0 := hw.1.cell 0 _ rfl; have j1 := hw.1.cell 1 _ rfl; have j2 := hw.1.cell 2 _ rfl; go_simp) ?_
    refine wpIf_nil (fun hS => ?_)
    clear hS
    refine wpAnyT_one 12 10 (by kernel_rfl) rfl (by kernel_rfl) (fun K hK => ?_)
    go_simp
    refine (I3.out _ hM).mono ?_
    rintro e wn ⟨rfl, hb⟩
    replace hN := hN.keep hb hN.lt
    replace hE := hE.keep hb hE.lt
    replace hM := hM.below hb (Nat.le_refl _)
    replace hB := hB.trans (hb.mono hB.size)
    clear hb
    refine hK _ _ ⟨⟨hN, hE, hM⟩, fun _ => trivial⟩ (fun hS => ?_)
    clear hK K hS
    refine wpAnyT_one 14 9 (by kernel_rfl) rfl (by kernel_rfl) (fun K hK => ?_)
    go_simp
    refine (S3.out _).mono ?_
    rintro e wn ⟨rfl, hb⟩
    replace hN := hN.keep hb hN.lt
    replace hE := hE.keep hb hE.lt
    replace hM := hM.below hb (Nat.le_refl _)
    replace hB := hB.trans (hb.mono hB.size)
    clear hb
    refine hK _ _ ⟨⟨hN, hE, hM⟩, fun _ => trivial⟩ (fun hS => ?_)
    clear hK K hS
    refine wpAnyT_takesA (md := .any) 3 (by kernel_rfl) (by intro d v c a w h; cases d <;> exact h) [15, 16, 17, 18, 20, 21] _ _ _ (by decide) (by kernel_rfl) ⟨⟨hN, hE, hM⟩, fun _ => trivial⟩ ?_
    simp only [pick, List.filterMap_cons, List.filterMap_nil, List.getElem?_cons_zero, List.getElem?_cons_succ]
    refine wpIf_step (.bool false) (by kernel_rfl) (fun w hw => by have h1 := hbb O; go_simp) ?_
    refine wpIf_step (.bool false) (by kernel_rfl) (fun w hw => by go_simp) ?_
    refine wpIf_step (.bool false) (by kernel_rfl) (fun w hw => by go_simp) ?_
    refine wpIf_step (.agg #[.int .i64 y, .int .i64 m, .int .i64 d]) (by kernel_rfl) (fun w hw => by have j0 := hw.1.cell 0 _ rfl; have j1 := hw.1.cell 1 _ rfl; have j2 := hw.1.cell 2 _ rfl; go_simp) ?_
    refine wpIf_step (.int .i64 n) (by kernel_rfl) (fun w hw => by go_simp) ?_
    refine wpIf_step (.bool O) (by kernel_rfl) (fun w hw => by have h1 := HO.out; go_simp) ?_
    refine wpIf_nil (fun hS => ?_)
    clear hS
    refine wpAnyT_one 19 2 (by kernel_rfl) rfl (by kernel_rfl) (fun K hK => ?_)
    go_simp
    refine (I3.out _ hM).mono ?_
    rintro e wn ⟨rfl, hb⟩
    replace hN := hN.keep hb hN.lt
    replace hE := hE.keep hb hE.lt
    replace hM := hM.below hb (Nat.le_refl _)
    replace hB := hB.trans (hb.mono hB.size)
    clear hb
    refine hK _ _ ⟨⟨hN, hE, hM⟩, fun _ => trivial⟩ (fun hS => ?_)
    clear hK K hS
    refine wpAnyT_takesA (md := .any) 1 (by kernel_rfl) (by intro d v c a w h; cases d <;> exact h) [22] _ _ _ (by decide) (by kernel_rfl) ⟨⟨hN, hE, hM⟩, fun _ => trivial⟩ ?_
    simp only [pick, List.filterMap_cons, List.filterMap_nil, List.getElem?_cons_zero, List.getElem?_cons_succ]
    refine wpIf_step (.bool false) (by kernel_rfl) (fun w hw => by have h1 := hbb O; go_simp) ?_
    refine wpIf_nil (fun hS => ?_)
    clear hS
    refine wpAnyT_one 23 0 (by kernel_rfl) rfl (by kernel_rfl) (fun K hK => ?_)
    go_simp
    refine hK _ _ ⟨⟨hN, hE, hM⟩, fun _ => trivial⟩ (fun hS => ?_)
    clear hK K hS
    refine wpAnyT_over (by kernel_rfl) ?_
    have HI5 : Hid (O = true → ∀ w, MTab w → Calls Tryd.prog 12 #[.int .i64 n] w fun e w' => e = .returned (dV y m d) ∧ Below w.heap.size w w') := Lib.hid (fun hO w hM => by
      rcases HD.out with ⟨_, _, _, hdn⟩ | ⟨h, _⟩
      · have := implDateOf_any n w hM
        unfold dateV at this
        rw [hdn] at this
        exact this
      · rw [hO] at h; cases h)
    clear HD I1 S1 I3 S3 I4 S4
    cases O with
    | true =>
      have hn0 : 0 ≤ n := by simpa using HO.out
      go_wp2
      refine wp_region_T (fun w' => Box w' G3 #[.int .i64 y, .int .i64 m, .int .i64 d] 25 ∧ Box w' G6 #[.int .i64 ye, .int .i64 me, .int .i64 de] 25 ∧ MTab w') (fun _ => True) 7 (by kernel_rfl) 8 rfl ?_
      replace hN : Box _ G3 _ _ := Box.drew hN
      replace hE : Box _ G6 _ _ := Box.drew hE
      replace hM := hM.drewN 1
      replace hB := Below.drew hB
      refine wpAnyT_takesA (md := .any) 3 (by kernel_rfl) (by intro d v c a w h; cases d <;> exact h) [0, 1, 2, 3, 5] _ _ _ (by decide) (by kernel_rfl) ⟨⟨hN, hE, hM⟩, fun _ => trivial⟩ ?_
      simp only [pick, List.filterMap_cons, List.filterMap_nil, List.getElem?_cons_zero, List.getElem?_cons_succ]
      refine wpIf_step (.int .i64 n) (by kernel_rfl) (fun w hw => by go_simp) ?_
      refine wpIf_step (.bool true) (by kernel_rfl) (fun w hw => by have h1 := HO.out; go_simp) ?_
      refine wpIf_step (.bool true) (by kernel_rfl) (fun w hw => by go_simp) ?_
      refine wpIf_step (.int .i64 n) (by kernel_rfl) (fun w hw => by go_simp) ?_
      refine wpIf_step (.agg #[.int .i64 y, .int .i64 m, .int .i64 d]) (by kernel_rfl) (fun w hw => by have j0 := hw.1.cell 0 _ rfl; have j1 := hw.1.cell 1 _ rfl; have j2 := hw.1.cell 2 _ rfl; go_simp) ?_
      refine wpIf_nil (fun hS => ?_)
      clear hS
      refine wpAnyT_one 4 2 (by kernel_rfl) rfl (by kernel_rfl) (fun K hK => ?_)
      go_simp
      refine (HI5.out (by first | rfl | trivial) _ hM).mono ?_
      rintro e wn ⟨rfl, hb⟩
      replace hN := hN.keep hb hN.lt
      replace hE := hE.keep hb hE.lt
      replace hM := hM.below hb (Nat.le_refl _)
      replace hB := hB.trans (hb.mono hB.size)
      clear hb
      refine hK _ _ ⟨⟨hN, hE, hM⟩, fun _ => trivial⟩ (fun hS => ?_)
      clear hK K hS
      refine wpAnyT_takesA (md := .any) 1 (by kernel_rfl) (by intro d v c a w h; cases d <;> exact h) [6] _ _ _ (by decide) (by kernel_rfl) ⟨⟨hN, hE, hM⟩, fun _ => trivial⟩ ?_
      simp only [pick, List.filterMap_cons, List.filterMap_nil, List.getElem?_cons_zero, List.getElem?_cons_succ]
      refine wpIf_step (.bool false) (by kernel_rfl) (fun w hw => by go_simp) ?_
      refine wpIf_nil (fun hS => ?_)
      clear hS
      refine wpAnyT_one 7 0 (by kernel_rfl) rfl (by kernel_rfl) (fun K hK => ?_)
      go_simp
      refine hK _ _ ⟨⟨hN, hE, hM⟩, fun _ => trivial⟩ (fun hS => ?_)
      clear hK K hS
      refine wpAnyT_over (by kernel_rfl) ?_
      clear HI5 HO HC hN
      by_cases hx0 : x < 0
      case pos =>
        go_wp2
        go_ret
        exact ⟨rfl, hB⟩
      by_cases hx1 : 200000 ≤ x
      case pos =>
        go_wp2
        go_ret
        exact ⟨rfl, hB⟩
      obtain ⟨_, _, _, yf, mf, df, hq, hf, hok, hday, hlat, hfst, hd1, hd31⟩ := HX.out (by omega) (by omega)
      cases hq
      clear HX
      have IF := Lib.hid (fun w hM => implDateOf_any (x + 1) w hM)
      unfold dateV at IF
      rw [hf] at IF
      dsimp only at IF
      have IK := Lib.hid (fun w hM => implDateOk_any ye me de w hM)
      rw [hok] at IK
      have ID := Lib.hid (fun w hM => implDayOf_any ye me de w hM)
      rw [hday] at ID
      clear hf hok hday
      go_wp2_with fail
      refine (IF.out _ hM).mono ?_
      rintro e w5 ⟨rfl, hb⟩
      replace hE := hE.keep hb hE.lt
      replace hM := hM.below hb (Nat.le_refl _)
      replace hB := hB.trans (hb.mono hB.size)
      clear hb
      replace hE := hE.alloc (.cells #[.int .i64 yf, .int .i64 mf, .int .i64 df] 25)
      have hF := Box.new w5 #[.int .i64 yf, .int .i64 mf, .int .i64 df] 25
      replace hM : MTab (w5.alloc (.cells #[.int .i64 yf, .int .i64 mf, .int .i64 df] 25)) := hM.below ((Below.refl _ _).alloc (Nat.le_refl _) _) (Nat.le_refl _)
      replace hB := hB.alloc hB.size (.cells #[.int .i64 yf, .int .i64 mf, .int .i64 df] 25)
      have hlat2 := Lib.hid hlat
      have hfst2 := Lib.hid hfst
      have e0 := hE.cell 0 _ rfl
      have e1 := hE.cell 1 _ rfl
      have e2 := hE.cell 2 _ rfl
      have f0 := hF.cell 0 _ rfl
      have f1 := hF.cell 1 _ rfl
      have f2 := hF.cell 2 _ rfl
      rcases hlat with h1 | ⟨rfl, h1 | ⟨rfl, rfl⟩⟩
      ·
        clear hlat2 hfst2
        have h2 : ¬ yf = ye := by omega
        have h3 : ye < yf := h1
        go_wp2_with fail
        clear e0 e1 e2 f0 f1 f2
        generalize w5.alloc (.cells #[.int .i64 yf, .int .i64 mf, .int .i64 df] 25) = W5 at hE hF hM hB ⊢
        generalize w5.heap.size = G7 at hF ⊢
        refine (IK.out _ hM).mono ?_
        rintro e w6 ⟨rfl, hb⟩
        replace hE := hE.keep hb hE.lt
        replace hF := hF.keep hb hF.lt
        replace hM := hM.below hb (Nat.le_refl _)
        replace hB := hB.trans (hb.mono hB.size)
        clear hb
        have e0 := hE.cell 0 _ rfl
        have e1 := hE.cell 1 _ rfl
        have e2 := hE.cell 2 _ rfl
        have f0 := hF.cell 0 _ rfl
        have f1 := hF.cell 1 _ rfl
        have f2 := hF.cell 2 _ rfl
        go_wp2_with fail
        clear e0 e1 e2 f0 f1 f2
        refine (ID.out _ hM).mono ?_
        rintro e w7 ⟨rfl, hb⟩
        replace hE := hE.keep hb hE.lt
        replace hF := hF.keep hb hF.lt
        replace hM := hM.below hb (Nat.le_refl _)
        replace hB := hB.trans (hb.mono hB.size)
        clear hb
        have e0 := hE.cell 0 _ rfl
        have e1 := hE.cell 1 _ rfl
        have e2 := hE.cell 2 _ rfl
        have f0 := hF.cell 0 _ rfl
        have f1 := hF.cell 1 _ rfl
        have f2 := hF.cell 2 _ rfl
        by_cases h4 : mf = me
        case pos =>
          subst h4
          go_wp2
          go_ret
          exact ⟨rfl, hB⟩
        obtain rfl := hfst.resolve_left h4
        go_wp2
        go_ret
        exact ⟨rfl, hB⟩
      ·
        clear hlat2 hfst2
        go_wp2_with fail
        clear e0 e1 e2 f0 f1 f2
        generalize w5.alloc (.cells #[.int .i64 ye, .int .i64 mf, .int .i64 df] 25) = W5 at hE hF hM hB ⊢
        generalize w5.heap.size = G7 at hF ⊢
        refine (IK.out _ hM).mono ?_
        rintro e w6 ⟨rfl, hb⟩
        replace hE := hE.keep hb hE.lt
        replace hF := hF.keep hb hF.lt
        replace hM := hM.below hb (Nat.le_refl _)
        replace hB := hB.trans (hb.mono hB.size)
        clear hb
        have e0 := hE.cell 0 _ rfl
        have e1 := hE.cell 1 _ rfl
        have e2 := hE.cell 2 _ rfl
        have f0 := hF.cell 0 _ rfl
        have f1 := hF.cell 1 _ rfl
        have f2 := hF.cell 2 _ rfl
        go_wp2_with fail
        clear e0 e1 e2 f0 f1 f2
        refine (ID.out _ hM).mono ?_
        rintro e w7 ⟨rfl, hb⟩
        replace hE := hE.keep hb hE.lt
        replace hF := hF.keep hb hF.lt
        replace hM := hM.below hb (Nat.le_refl _)
        replace hB := hB.trans (hb.mono hB.size)
        clear hb
        have e0 := hE.cell 0 _ rfl
        have e1 := hE.cell 1 _ rfl
        have e2 := hE.cell 2 _ rfl
        have f0 := hF.cell 0 _ rfl
        have f1 := hF.cell 1 _ rfl
        have f2 := hF.cell 2 _ rfl
        have h4 : ¬ mf = me := by omega
        obtain rfl := hfst.resolve_left h4
        go_wp2
        go_ret
        exact ⟨rfl, hB⟩
      ·
        clear hlat2 hfst2
        clear hfst
        go_wp2_with fail
        clear e0 e1 e2 f0 f1 f2
        generalize w5.alloc (.cells #[.int .i64 ye, .int .i64 me, .int .i64 (de + 1)] 25) = W5 at hE hF hM hB ⊢
        generalize w5.heap.size = G7 at hF ⊢
        refine (IK.out _ hM).mono ?_
        rintro e w6 ⟨rfl, hb⟩
        replace hE := hE.keep hb hE.lt
        replace hF := hF.keep hb hF.lt
        replace hM := hM.below hb (Nat.le_refl _)
        replace hB := hB.trans (hb.mono hB.size)
        clear hb
        have e0 := hE.cell 0 _ rfl
        have e1 := hE.cell 1 _ rfl
        have e2 := hE.cell 2 _ rfl
        have f0 := hF.cell 0 _ rfl
        have f1 := hF.cell 1 _ rfl
        have f2 := hF.cell 2 _ rfl
        go_wp2_with fail
        clear e0 e1 e2 f0 f1 f2
        refine (ID.out _ hM).mono ?_
        rintro e w7 ⟨rfl, hb⟩
        replace hE := hE.keep hb hE.lt
        replace hF := hF.keep hb hF.lt
        replace hM := hM.below hb (Nat.le_refl _)
        replace hB := hB.trans (hb.mono hB.size)
        clear hb
        have e0 := hE.cell 0 _ rfl
        have e1 := hE.cell 1 _ rfl
        have e2 := hE.cell 2 _ rfl
        have f0 := hF.cell 0 _ rfl
        have f1 := hF.cell 1 _ rfl
        have f2 := hF.cell 2 _ rfl
        go_wp2
        go_ret
        exact ⟨rfl, hB⟩
    | false =>
      have hn0 : n < 0 := by simpa using HO.out
      go_wp2
      refine wp_region_T (fun w' => Box w' G3 #[.int .i64 y, .int .i64 m, .int .i64 d] 25 ∧ Box w' G6 #[.int .i64 ye, .int .i64 me, .int .i64 de] 25 ∧ MTab w') (fun _ => True) 7 (by kernel_rfl) 8 rfl ?_
      replace hN : Box _ G3 _ _ := Box.drew hN
      replace hE : Box _ G6 _ _ := Box.drew hE
      replace hM := hM.drewN 1
      replace hB := Below.drew hB
      refine wpAnyT_takesA (md := .any) 3 (by kernel_rfl) (by intro d v c a w h; cases d <;> exact h) [0, 1, 2, 3, 5] _ _ _ (by decide) (by kernel_rfl) ⟨⟨hN, hE, hM⟩, fun _ => trivial⟩ ?_
      simp only [pick, List.filterMap_cons, List.filterMap_nil, List.getElem?_cons_zero, List.getElem?_cons_succ]
      refine wpIf_step (.int .i64 n) (by kernel_rfl) (fun w hw => by go_simp) ?_
      refine wpIf_step (.bool false) (by kernel_rfl) (fun w hw => by have h1 := HO.out; go_simp) ?_
      refine wpIf_step (.bool false) (by kernel_rfl) (fun w hw => by go_simp) ?_
      refine wpIf_skipP (by kernel_rfl) ?_
      refine wpIf_skipP (by kernel_rfl) ?_
      refine wpIf_nil (fun hS => ?_)
      clear hS
      refine wpAnyT_skipP 4 2 (by kernel_rfl) rfl (by kernel_rfl) ⟨⟨hN, hE, hM⟩, fun _ => trivial⟩ ?_
      refine wpAnyT_takesA (md := .any) 1 (by kernel_rfl) (by intro d v c a w h; cases d <;> exact h) [6] _ _ _ (by decide) (by kernel_rfl) ⟨⟨hN, hE, hM⟩, fun _ => trivial⟩ ?_
      simp only [pick, List.filterMap_cons, List.filterMap_nil, List.getElem?_cons_zero, List.getElem?_cons_succ]
      refine wpIf_skipP (by kernel_rfl) ?_
      refine wpIf_nil (fun hS => ?_)
      clear hS
      refine wpAnyT_one 7 0 (by kernel_rfl) rfl (by kernel_rfl) (fun K hK => ?_)
      go_simp
      refine hK _ _ ⟨⟨hN, hE, hM⟩, fun _ => trivial⟩ (fun hS => ?_)
      clear hK K hS
      refine wpAnyT_over (by kernel_rfl) ?_
      clear HI5 HO HC hN
      by_cases hx0 : x < 0
      case pos =>
        go_wp2
        go_ret
        exact ⟨rfl, hB⟩
      by_cases hx1 : 200000 ≤ x
      case pos =>
        go_wp2
        go_ret
        exact ⟨rfl, hB⟩
      obtain ⟨_, _, _, yf, mf, df, hq, hf, hok, hday, hlat, hfst, hd1, hd31⟩ := HX.out (by omega) (by omega)
      cases hq
      clear HX
      have IF := Lib.hid (fun w hM => implDateOf_any (x + 1) w hM)
      unfold dateV at IF
      rw [hf] at IF
      dsimp only at IF
      have IK := Lib.hid (fun w hM => implDateOk_any ye me de w hM)
      rw [hok] at IK
      have ID := Lib.hid (fun w hM => implDayOf_any ye me de w hM)
      rw [hday] at ID
      clear hf hok hday
      go_wp2_with fail
      refine (IF.out _ hM).mono ?_
      rintro e w5 ⟨rfl, hb⟩
      replace hE := hE.keep hb hE.lt
      replace hM := hM.below hb (Nat.le_refl _)
      replace hB := hB.trans (hb.mono hB.size)
      clear hb
      replace hE := hE.alloc (.cells #[.int .i64 yf, .int .i64 mf, .int .i64 df] 25)
      have hF := Box.new w5 #[.int .i64 yf, .int .i64 mf, .int .i64 df] 25
      replace hM : MTab (w5.alloc (.cells #[.int .i64 yf, .int .i64 mf, .int .i64 df] 25)) := hM.below ((Below.refl _ _).alloc (Nat.le_refl _) _) (Nat.le_refl _)
      replace hB := hB.alloc hB.size (.cells #[.int .i64 yf, .int .i64 mf, .int .i64 df] 25)
      have hlat2 := Lib.hid hlat
      have hfst2 := Lib.hid hfst
      have e0 := hE.cell 0 _ rfl
      have e1 := hE.cell 1 _ rfl
      have e2 := hE.cell 2 _ rfl
      have f0 := hF.cell 0 _ rfl
      have f1 := hF.cell 1 _ rfl
      have f2 := hF.cell 2 _ rfl
      rcases hlat with h1 | ⟨rfl, h1 | ⟨rfl, rfl⟩⟩
      ·
        clear hlat2 hfst2
        have h2 : ¬ yf = ye := by omega
        have h3 : ye < yf := h1
        go_wp2_with fail
        clear e0 e1 e2 f0 f1 f2
        generalize w5.alloc (.cells #[.int .i64 yf, .int .i64 mf, .int .i64 df] 25) = W5 at hE hF hM hB ⊢
        generalize w5.heap.size = G7 at hF ⊢
        refine (IK.out _ hM).mono ?_
        rintro e w6 ⟨rfl, hb⟩
        replace hE := hE.keep hb hE.lt
        replace hF := hF.keep hb hF.lt
        replace hM := hM.below hb (Nat.le_refl _)
        replace hB := hB.trans (hb.mono hB.size)
        clear hb
        have e0 := hE.cell 0 _ rfl
        have e1 := hE.cell 1 _ rfl
        have e2 := hE.cell 2 _ rfl
        have f0 := hF.cell 0 _ rfl
        have f1 := hF.cell 1 _ rfl
        have f2 := hF.cell 2 _ rfl
        go_wp2_with fail
        clear e0 e1 e2 f0 f1 f2
        refine (ID.out _ hM).mono ?_
        rintro e w7 ⟨rfl, hb⟩
        replace hE := hE.keep hb hE.lt
        replace hF := hF.keep hb hF.lt
        replace hM := hM.below hb (Nat.le_refl _)
        replace hB := hB.trans (hb.mono hB.size)
        clear hb
        have e0 := hE.cell 0 _ rfl
        have e1 := hE.cell 1 _ rfl
        have e2 := hE.cell 2 _ rfl
        have f0 := hF.cell 0 _ rfl
        have f1 := hF.cell 1 _ rfl
        have f2 := hF.cell 2 _ rfl
        by_cases h4 : mf = me
        case pos =>
          subst h4
          go_wp2
          go_ret
          exact ⟨rfl, hB⟩
        obtain rfl := hfst.resolve_left h4
        go_wp2
        go_ret
        exact ⟨rfl, hB⟩
      ·
        clear hlat2 hfst2
        go_wp2_with fail
        clear e0 e1 e2 f0 f1 f2
        generalize w5.alloc (.cells #[.int .i64 ye, .int .i64 mf, .int .i64 df] 25) = W5 at hE hF hM hB ⊢
        generalize w5.heap.size = G7 at hF ⊢
        refine (IK.out _ hM).mono ?_
        rintro e w6 ⟨rfl, hb⟩
        replace hE := hE.keep hb hE.lt
        replace hF := hF.keep hb hF.lt
        replace hM := hM.below hb (Nat.le_refl _)
        replace hB := hB.trans (hb.mono hB.size)
        clear hb
        have e0 := hE.cell 0 _ rfl
        have e1 := hE.cell 1 _ rfl
        have e2 := hE.cell 2 _ rfl
        have f0 := hF.cell 0 _ rfl
        have f1 := hF.cell 1 _ rfl
        have f2 := hF.cell 2 _ rfl
        go_wp2_with fail
        clear e0 e1 e2 f0 f1 f2
        refine (ID.out _ hM).mono ?_
        rintro e w7 ⟨rfl, hb⟩
        replace hE := hE.keep hb hE.lt
        replace hF := hF.keep hb hF.lt
        replace hM := hM.below hb (Nat.le_refl _)
        replace hB := hB.trans (hb.mono hB.size)
        clear hb
        have e0 := hE.cell 0 _ rfl
        have e1 := hE.cell 1 _ rfl
        have e2 := hE.cell 2 _ rfl
        have f0 := hF.cell 0 _ rfl
        have f1 := hF.cell 1 _ rfl
        have f2 := hF.cell 2 _ rfl
        have h4 : ¬ mf = me := by omega
        obtain rfl := hfst.resolve_left h4
        go_wp2
        go_ret
        exact ⟨rfl, hB⟩
      ·
        clear hlat2 hfst2
        clear hfst
        go_wp2_with fail
        clear e0 e1 e2 f0 f1 f2
        generalize w5.alloc (.cells #[.int .i64 ye, .int .i64 me, .int .i64 (de + 1)] 25) = W5 at hE hF hM hB ⊢
        generalize w5.heap.size = G7 at hF ⊢
        refine (IK.out _ hM).mono ?_
        rintro e w6 ⟨rfl, hb⟩
        replace hE := hE.keep hb hE.lt
        replace hF := hF.keep hb hF.lt
        replace hM := hM.below hb (Nat.le_refl _)
        replace hB := hB.trans (hb.mono hB.size)
        clear hb
        have e0 := hE.cell 0 _ rfl
        have e1 := hE.cell 1 _ rfl
        have e2 := hE.cell 2 _ rfl
        have f0 := hF.cell 0 _ rfl
        have f1 := hF.cell 1 _ rfl
        have f2 := hF.cell 2 _ rfl
        go_wp2_with fail
        clear e0 e1 e2 f0 f1 f2
        refine (ID.out _ hM).mono ?_
        rintro e w7 ⟨rfl, hb⟩
        replace hE := hE.keep hb hE.lt
        replace hF := hF.keep hb hF.lt
        replace hM := hM.below hb (Nat.le_refl _)
        replace hB := hB.trans (hb.mono hB.size)
        clear hb
        have e0 := hE.cell 0 _ rfl
        have e1 := hE.cell 1 _ rfl
        have e2 := hE.cell 2 _ rfl
        have f0 := hF.cell 0 _ rfl
        have f1 := hF.cell 1 _ rfl
        have f2 := hF.cell 2 _ rfl
        go_wp2
        go_ret
        exact ⟨rfl, hB⟩
end Go.Proofs.YtgimjfffdnopiaaDoor
