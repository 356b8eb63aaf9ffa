/- Parts of the proof. -/
import Derived.Laws.ResultCell
import Derived.Test.YtffkakpbelknaaaGreatDoorO11
namespace Go.Proofs.YtffkakpbelknaaaGreatDoor
set_option maxHeartbeats 4000000
set_option maxRecDepth 100000
open Go.ChangeShapes Go.WideShapes Go.ChangeAt Go.RowKit
set_option linter.unusedVariables false
theorem results_date2 {fn : Func} {p u : Tmp} (h : fn.results = #[.cell p 74, .tmp u]) (tmps : Array Value) (w : World) (g : Nat) (y m d : Int) (v : Value)
  (hp : tmps.getD p undef = .pointer (some ⟨g, 0, none⟩)) (hu : tmps.getD u undef = v) (hA : DAt w g y m d) : (results fn tmps).run Tryz.prog w = .ok (.tuple #[dV y m d, v]) w := by
 rw [results_cell_tmp h, hp, hu]
 have := run_loadVar_row (P := Tryz.prog) w g _ 74 _ _ _ hA Tryz.underlying74 rfl Tryz.infD
 simp [asAddr, this, Result.andThen]
 rfl
theorem wpAnyT_two {P : Program} {md : Region.Mode} {Q : Exit -> Act -> World -> Prop} {A B : World -> Prop} {t : Nat} {l : List Oper} {L : Array Bool} {a : Act} {w : World} (i j g : Nat) {oi oj : Oper} (hr : Region.ready md l.toArray L = [i, j])
  (hoi : l[i]? = some oi) (hoj : l[j]? = some oj) (hwi : Region.wanted oi (yielded l.toArray a.tmps) = true) (hwj : Region.wanted oj (yielded l.toArray a.tmps) = true)
  (hi : ∀ K : Act -> World -> Prop, (∀ a w, Sx A B t (L.setIfInBounds i true) w -> (Sx A B t (L.setIfInBounds i true) w -> wpAnyT P md l.toArray Q A B t g (L.setIfInBounds i true) a w) -> K a w) -> oi.wp P a w K Q)
  (hj : ∀ K : Act -> World -> Prop, (∀ a w, Sx A B t (L.setIfInBounds j true) w -> (Sx A B t (L.setIfInBounds j true) w -> wpAnyT P md l.toArray Q A B t g (L.setIfInBounds j true) a w) -> K a w) -> oj.wp P a w K Q) : wpAnyT P md l.toArray Q A B t (g + 1) L a w := by
 refine ⟨fun h0 => (by rw [hr] at h0; cases h0), fun k hk => ?_⟩
 rw [hr] at hk
 have hk' : k = i \/ k = j := by simpa using hk
 rcases hk' with rfl | rfl
 ·unfold wpOp
  have ho' : l.toArray[k]? = some oi := by simpa using hoi
  simp only [ho']
  rw [if_pos hwi]
  exact .inl (hi _ (fun _ _ h1 h2 => ⟨h1, h2 h1⟩))
 ·unfold wpOp
  have ho' : l.toArray[k]? = some oj := by simpa using hoj
  simp only [ho']
  rw [if_pos hwj]
  exact .inl (hj _ (fun _ _ h1 h2 => ⟨h1, h2 h1⟩))
def rY (s : ByteArray) : Int := dgI (s.extract 0 4)
def rM (s : ByteArray) : Int := dgI (s.extract 5 7)
def rD (s : ByteArray) : Int := dgI (s.extract 8 10)
def byteAt7 (s : ByteArray) (k : Nat) : Nat := if h : k < s.size then s[k].toNat else 0
def rdOk (s : ByteArray) : Bool := decide (s.size = 10 /\ byteAt7 s 4 = 45 /\ byteAt7 s 7 = 45 /\ dOk (rY s) (rM s) (rD s) = true)
def rdV (s : ByteArray) : Value := if rdOk s = true then .tuple #[dV (rY s) (rM s) (rD s), .bool true] else .tuple #[dV 0 0 0, .bool false]
theorem rdV_not {s : ByteArray} (h : ¬ (s.size = 10 /\ byteAt7 s 4 = 45 /\ byteAt7 s 7 = 45 /\ dOk (rY s) (rM s) (rD s) = true)) : rdV s = .tuple #[dV 0 0 0, .bool false] := by
 unfold rdV rdOk
 rw [decide_eq_false h]; rfl
theorem rdV_yes {s : ByteArray} (h : s.size = 10 /\ byteAt7 s 4 = 45 /\ byteAt7 s 7 = 45 /\ dOk (rY s) (rM s) (rD s) = true) : rdV s = .tuple #[dV (rY s) (rM s) (rD s), .bool true] := by
 unfold rdV rdOk
 rw [decide_eq_true h]; rfl
theorem byteAt7_eq (s : ByteArray) (k : Nat) (h : k < s.size) : byteAt7 s k = s[k].toNat := dif_pos h
theorem implReadDate_any (s : ByteArray) (w : World) (hM : MTab w) :
  Calls Tryz.prog 84 #[.string s] w fun e w' => e = .returned (rdV s) /\ Below w.heap.size w w' := by
 have HZ := Lib.hid (DAt.new w 0 0 0)
 have HB : Hid (∀ n, Below w.heap.size w ((w.alloc (dC 0 0 0)).drewN n)) := Lib.hid (fun n => below_drewN ((Below.refl _ _).alloc (Nat.le_refl _) _) n)
 have HM := Lib.hid hM
 by_cases c1 : s.size = 10
 ·have i4 : (4 : Int) < (s.size : Int) := by omega
  have i7 : (7 : Int) < (s.size : Int) := by omega
  have b4 := byteAt7_eq s 4 (by omega)
  have b7 := byteAt7_eq s 7 (by omega)
  have hsI : (s.size : Int) = 10 := by omega
  by_cases c2 : s[4].toNat = 45
  ·by_cases c3 : s[7].toNat = 45
   ·have hn4 : ((s[4].toNat : Int) != (((⟨#[45]⟩ : ByteArray)[0]'(by decide)).toNat : Int)) = false := by show ((s[4].toNat : Int) != 45) = false; simp; omega
    have hn7 : ((s[7].toNat : Int) != (((⟨#[45]⟩ : ByteArray)[0]'(by decide)).toNat : Int)) = false := by show ((s[7].toNat : Int) != 45) = false; simp; omega
    have D1 := Lib.hid (fun w => digitsNumber_any (s.extract 0 4) w (by rw [ByteArray.size_extract]; omega))
    have D2 := Lib.hid (fun w => digitsNumber_any (s.extract 5 7) w (by rw [ByteArray.size_extract]; omega))
    have D3 := Lib.hid (fun w => digitsNumber_any (s.extract 8 10) w (by rw [ByteArray.size_extract]; omega))
    have HY : Hid (dOk (dgI (s.extract 0 4)) (dgI (s.extract 5 7)) (dgI (s.extract 8 10)) = true -> rdV s = .tuple #[dV (dgI (s.extract 0 4)) (dgI (s.extract 5 7)) (dgI (s.extract 8 10)), .bool true]) := Lib.hid (fun h => rdV_yes ⟨c1, b4.trans c2, b7.trans c3, h⟩)
    have HN : Hid (dOk (dgI (s.extract 0 4)) (dgI (s.extract 5 7)) (dgI (s.extract 8 10)) = false -> rdV s = .tuple #[dV 0 0 0, .bool false]) := Lib.hid (fun h => rdV_not (fun hx => by have := hx.2.2.2; unfold rY rM rD at this; rw [h] at this; cases this))
    generalize dgI (s.extract 0 4) = Y at D1 HY HN
    generalize dgI (s.extract 5 7) = M at D2 HY HN
    generalize dgI (s.extract 8 10) = D at D3 HY HN
    generalize rdV s = out at HY HN ⊢
    clear c2 c3 b4 b7 hM
    go_enter Tryz.func84, Tryz.ntmps84
    go_wp2
    go_quiet (fail)
    go_wp2
    refine wp_region_T (fun _ => True) (fun _ => True) 11 (by kernel_rfl) 12 rfl ?_
    refine wA 6 [0, 1, 3, 4, 6, 7] ⟨trivial, fun _ => trivial⟩ ?_
    simp only [pick, List.filterMap_cons, List.filterMap_nil, List.getElem?_cons_zero, List.getElem?_cons_succ]
    refine wS (.string s) (fun w hw => by go_simp) ?_
    refine wS (.string (s.extract 0 4)) (fun w hw => by go_simp) ?_
    refine wS (.string s) (fun w hw => by go_simp) ?_
    refine wS (.string (s.extract 5 7)) (fun w hw => by go_simp) ?_
    refine wS (.string s) (fun w hw => by go_simp) ?_
    refine wS (.string (s.extract 8 10)) (fun w hw => by go_simp) ?_
    refine wpIf_nil (fun _ => ?_)
    refine wpAnyT_two 2 10 5 (by kernel_rfl) rfl rfl (by kernel_rfl) (by kernel_rfl) (fun K hK => ?_) (fun K hK => ?_)
    ·go_simp
     refine (D1.out _).mono ?_
     rintro e v1 ⟨rfl, rfl⟩
     refine hK _ _ ⟨trivial, fun _ => trivial⟩ (fun _ => ?_)
     clear hK K
     refine wpAnyT_two 5 10 4 (by kernel_rfl) rfl rfl (by kernel_rfl) (by kernel_rfl) (fun K hK => ?_) (fun K hK => ?_)
     ·go_simp
      refine (D2.out _).mono ?_
      rintro e v1 ⟨rfl, rfl⟩
      refine hK _ _ ⟨trivial, fun _ => trivial⟩ (fun _ => ?_)
      clear hK K
      refine wpAnyT_two 8 10 3 (by kernel_rfl) rfl rfl (by kernel_rfl) (by kernel_rfl) (fun K hK => ?_) (fun K hK => ?_)
      ·go_simp
       refine (D3.out _).mono ?_
       rintro e v1 ⟨rfl, rfl⟩
       refine hK _ _ ⟨trivial, fun _ => trivial⟩ (fun _ => ?_)
       clear hK K
       refine wA 2 [9] ⟨trivial, fun _ => trivial⟩ ?_
       simp only [pick, List.filterMap_cons, List.filterMap_nil, List.getElem?_cons_zero, List.getElem?_cons_succ]
       refine wS (dV Y M D) (fun w hw => by go_simp) ?_
       refine wpIf_nil (fun _ => ?_)
       refine wO 10 1 (fun K hK => ?_)
       go_simp
       refine hK _ _ ⟨trivial, fun _ => trivial⟩ (fun _ => ?_)
       clear hK K
       refine wO 11 0 (fun K hK => ?_)
       go_simp
       refine hK _ _ ⟨trivial, fun _ => trivial⟩ (fun _ => ?_)
       clear hK K
       refine wpAnyT_over (by kernel_rfl) ?_
       have hA := DAt.new ((w.alloc (dC 0 0 0)).drewN (nq + 1)) Y M D
       have hZ1 : DAt (((w.alloc (dC 0 0 0)).drewN (nq + 1)).alloc (dC Y M D)) w.heap.size 0 0 0 := DAt.alloc (w := (w.alloc (dC 0 0 0)).drewN (nq + 1)) HZ.out (dC Y M D)
       have hB1 := (HB.out (nq + 1)).alloc (by simp) (dC Y M D)
       rw [show ((w.alloc (dC 0 0 0)).drewN (nq + 1)).heap.size = w.heap.size + 1 by simp] at hA
       have HM1 := Lib.hid (HM.out.below hB1 (Nat.le_refl _))
       change Exit.then _ _ _ _ (((w.alloc (dC 0 0 0)).drewN (nq + 1)).alloc (dC Y M D))
       generalize ((w.alloc (dC 0 0 0)).drewN (nq + 1)).alloc (dC Y M D) = V at hA hZ1 hB1 HM1 ⊢
       have HC := Lib.hid (implDateOk_any Y M D V HM1.out)
       have a0 := hA.c0
       have a1 := hA.c1
       have a2 := hA.c2
       go_wp2_with fail
       refine HC.out.mono ?_
       rintro e w2 ⟨rfl, hb2⟩
       have hA2 := hA.keep hb2 (Nat.le_refl _)
       have hZ2 := hZ1.keep hb2 (Nat.le_refl _)
       have hB2 := hB1.trans (hb2.mono hB1.size)
       have d0 := hA2.c0
       have d1 := hA2.c1
       have d2 := hA2.c2
       have z0 := hZ2.c0
       have z1 := hZ2.c1
       have z2 := hZ2.c2
       have g0 := hZ2.frozen 0
       have g1 := hZ2.frozen 1
       have g2 := hZ2.frozen 2
       cases hc : dOk Y M D with
       | true =>
        have HV := Lib.hid (HY.out hc)
        have HF := Lib.hid (((hZ2.s0 Y).s1 M).s2 D)
        have HBF := Lib.hid (((hB2.setCell (p := ⟨w.heap.size, 0, none⟩) (Nat.le_refl _) (.int .i64 Y)).setCell (p := ⟨w.heap.size, 1, none⟩) (Nat.le_refl _) (.int .i64 M)).setCell (p := ⟨w.heap.size, 2, none⟩) (Nat.le_refl _) (.int .i64 D))
        clear hA hA2 hZ1 hZ2 hB1 hB2 hb2 a0 a1 a2 hc
        go_wp2
        refine bodyPost_ret (results_date2 rfl _ _ _ _ _ _ _ rfl rfl HF.out) rfl ?_
        exact ⟨by rw [HV.out]; rfl, HBF.out⟩
       | false =>
        have HV := Lib.hid (HN.out hc)
        have HF := Lib.hid (((hZ2.s0 0).s1 0).s2 0)
        have HBF := Lib.hid (((hB2.setCell (p := ⟨w.heap.size, 0, none⟩) (Nat.le_refl _) (.int .i64 0)).setCell (p := ⟨w.heap.size, 1, none⟩) (Nat.le_refl _) (.int .i64 0)).setCell (p := ⟨w.heap.size, 2, none⟩) (Nat.le_refl _) (.int .i64 0))
        clear hA hA2 hZ1 hZ2 hB1 hB2 hb2 a0 a1 a2 hc
        go_wp2
        refine bodyPost_ret (results_date2 rfl _ _ _ _ _ _ _ rfl rfl HF.out) rfl ?_
        exact ⟨by rw [HV.out]; rfl, HBF.out⟩
      ·go_simp
       refine hK _ _ ⟨trivial, fun _ => trivial⟩ (fun _ => ?_)
       clear hK K
       refine wO 8 2 (fun K hK => ?_)
       go_simp
       refine (D3.out _).mono ?_
       rintro e v1 ⟨rfl, rfl⟩
       refine hK _ _ ⟨trivial, fun _ => trivial⟩ (fun _ => ?_)
       clear hK K
       refine wA 1 [9] ⟨trivial, fun _ => trivial⟩ ?_
       simp only [pick, List.filterMap_cons, List.filterMap_nil, List.getElem?_cons_zero, List.getElem?_cons_succ]
       refine wS (dV Y M D) (fun w hw => by go_simp) ?_
       refine wpIf_nil (fun _ => ?_)
       refine wO 11 0 (fun K hK => ?_)
       go_simp
       refine hK _ _ ⟨trivial, fun _ => trivial⟩ (fun _ => ?_)
       clear hK K
       refine wpAnyT_over (by kernel_rfl) ?_
       have hA := DAt.new ((w.alloc (dC 0 0 0)).drewN (nq + 1)) Y M D
       have hZ1 : DAt (((w.alloc (dC 0 0 0)).drewN (nq + 1)).alloc (dC Y M D)) w.heap.size 0 0 0 := DAt.alloc (w := (w.alloc (dC 0 0 0)).drewN (nq + 1)) HZ.out (dC Y M D)
       have hB1 := (HB.out (nq + 1)).alloc (by simp) (dC Y M D)
       rw [show ((w.alloc (dC 0 0 0)).drewN (nq + 1)).heap.size = w.heap.size + 1 by simp] at hA
       have HM1 := Lib.hid (HM.out.below hB1 (Nat.le_refl _))
       change Exit.then _ _ _ _ (((w.alloc (dC 0 0 0)).drewN (nq + 1)).alloc (dC Y M D))
       generalize ((w.alloc (dC 0 0 0)).drewN (nq + 1)).alloc (dC Y M D) = V at hA hZ1 hB1 HM1 ⊢
       have HC := Lib.hid (implDateOk_any Y M D V HM1.out)
       have a0 := hA.c0
       have a1 := hA.c1
       have a2 := hA.c2
       go_wp2_with fail
       refine HC.out.mono ?_
       rintro e w2 ⟨rfl, hb2⟩
       have hA2 := hA.keep hb2 (Nat.le_refl _)
       have hZ2 := hZ1.keep hb2 (Nat.le_refl _)
       have hB2 := hB1.trans (hb2.mono hB1.size)
       have d0 := hA2.c0
       have d1 := hA2.c1
       have d2 := hA2.c2
       have z0 := hZ2.c0
       have z1 := hZ2.c1
       have z2 := hZ2.c2
       have g0 := hZ2.frozen 0
       have g1 := hZ2.frozen 1
       have g2 := hZ2.frozen 2
       cases hc : dOk Y M D with
       | true =>
        have HV := Lib.hid (HY.out hc)
        have HF := Lib.hid (((hZ2.s0 Y).s1 M).s2 D)
        have HBF := Lib.hid (((hB2.setCell (p := ⟨w.heap.size, 0, none⟩) (Nat.le_refl _) (.int .i64 Y)).setCell (p := ⟨w.heap.size, 1, none⟩) (Nat.le_refl _) (.int .i64 M)).setCell (p := ⟨w.heap.size, 2, none⟩) (Nat.le_refl _) (.int .i64 D))
        clear hA hA2 hZ1 hZ2 hB1 hB2 hb2 a0 a1 a2 hc
        go_wp2
        refine bodyPost_ret (results_date2 rfl _ _ _ _ _ _ _ rfl rfl HF.out) rfl ?_
        exact ⟨by rw [HV.out]; rfl, HBF.out⟩
       | false =>
        have HV := Lib.hid (HN.out hc)
        have HF := Lib.hid (((hZ2.s0 0).s1 0).s2 0)
        have HBF := Lib.hid (((hB2.setCell (p := ⟨w.heap.size, 0, none⟩) (Nat.le_refl _) (.int .i64 0)).setCell (p := ⟨w.heap.size, 1, none⟩) (Nat.le_refl _) (.int .i64 0)).setCell (p := ⟨w.heap.size, 2, none⟩) (Nat.le_refl _) (.int .i64 0))
        clear hA hA2 hZ1 hZ2 hB1 hB2 hb2 a0 a1 a2 hc
        go_wp2
        refine bodyPost_ret (results_date2 rfl _ _ _ _ _ _ _ rfl rfl HF.out) rfl ?_
        exact ⟨by rw [HV.out]; rfl, HBF.out⟩
     ·go_simp
      refine hK _ _ ⟨trivial, fun _ => trivial⟩ (fun _ => ?_)
      clear hK K
      refine wO 5 3 (fun K hK => ?_)
      go_simp
      refine (D2.out _).mono ?_
      rintro e v1 ⟨rfl, rfl⟩
      refine hK _ _ ⟨trivial, fun _ => trivial⟩ (fun _ => ?_)
      clear hK K
      refine wO 8 2 (fun K hK => ?_)
      go_simp
      refine (D3.out _).mono ?_
      rintro e v1 ⟨rfl, rfl⟩
      refine hK _ _ ⟨trivial, fun _ => trivial⟩ (fun _ => ?_)
      clear hK K
      refine wA 1 [9] ⟨trivial, fun _ => trivial⟩ ?_
      simp only [pick, List.filterMap_cons, List.filterMap_nil, List.getElem?_cons_zero, List.getElem?_cons_succ]
      refine wS (dV Y M D) (fun w hw => by go_simp) ?_
      refine wpIf_nil (fun _ => ?_)
      refine wO 11 0 (fun K hK => ?_)
      go_simp
      refine hK _ _ ⟨trivial, fun _ => trivial⟩ (fun _ => ?_)
      clear hK K
      refine wpAnyT_over (by kernel_rfl) ?_
      have hA := DAt.new ((w.alloc (dC 0 0 0)).drewN (nq + 1)) Y M D
      have hZ1 : DAt (((w.alloc (dC 0 0 0)).drewN (nq + 1)).alloc (dC Y M D)) w.heap.size 0 0 0 := DAt.alloc (w := (w.alloc (dC 0 0 0)).drewN (nq + 1)) HZ.out (dC Y M D)
      have hB1 := (HB.out (nq + 1)).alloc (by simp) (dC Y M D)
      rw [show ((w.alloc (dC 0 0 0)).drewN (nq + 1)).heap.size = w.heap.size + 1 by simp] at hA
      have HM1 := Lib.hid (HM.out.below hB1 (Nat.le_refl _))
      change Exit.then _ _ _ _ (((w.alloc (dC 0 0 0)).drewN (nq + 1)).alloc (dC Y M D))
      generalize ((w.alloc (dC 0 0 0)).drewN (nq + 1)).alloc (dC Y M D) = V at hA hZ1 hB1 HM1 ⊢
      have HC := Lib.hid (implDateOk_any Y M D V HM1.out)
      have a0 := hA.c0
      have a1 := hA.c1
      have a2 := hA.c2
      go_wp2_with fail
      refine HC.out.mono ?_
      rintro e w2 ⟨rfl, hb2⟩
      have hA2 := hA.keep hb2 (Nat.le_refl _)
      have hZ2 := hZ1.keep hb2 (Nat.le_refl _)
      have hB2 := hB1.trans (hb2.mono hB1.size)
      have d0 := hA2.c0
      have d1 := hA2.c1
      have d2 := hA2.c2
      have z0 := hZ2.c0
      have z1 := hZ2.c1
      have z2 := hZ2.c2
      have g0 := hZ2.frozen 0
      have g1 := hZ2.frozen 1
      have g2 := hZ2.frozen 2
      cases hc : dOk Y M D with
      | true =>
       have HV := Lib.hid (HY.out hc)
       have HF := Lib.hid (((hZ2.s0 Y).s1 M).s2 D)
       have HBF := Lib.hid (((hB2.setCell (p := ⟨w.heap.size, 0, none⟩) (Nat.le_refl _) (.int .i64 Y)).setCell (p := ⟨w.heap.size, 1, none⟩) (Nat.le_refl _) (.int .i64 M)).setCell (p := ⟨w.heap.size, 2, none⟩) (Nat.le_refl _) (.int .i64 D))
       clear hA hA2 hZ1 hZ2 hB1 hB2 hb2 a0 a1 a2 hc
       go_wp2
       refine bodyPost_ret (results_date2 rfl _ _ _ _ _ _ _ rfl rfl HF.out) rfl ?_
       exact ⟨by rw [HV.out]; rfl, HBF.out⟩
      | false =>
       have HV := Lib.hid (HN.out hc)
       have HF := Lib.hid (((hZ2.s0 0).s1 0).s2 0)
       have HBF := Lib.hid (((hB2.setCell (p := ⟨w.heap.size, 0, none⟩) (Nat.le_refl _) (.int .i64 0)).setCell (p := ⟨w.heap.size, 1, none⟩) (Nat.le_refl _) (.int .i64 0)).setCell (p := ⟨w.heap.size, 2, none⟩) (Nat.le_refl _) (.int .i64 0))
       clear hA hA2 hZ1 hZ2 hB1 hB2 hb2 a0 a1 a2 hc
       go_wp2
       refine bodyPost_ret (results_date2 rfl _ _ _ _ _ _ _ rfl rfl HF.out) rfl ?_
       exact ⟨by rw [HV.out]; rfl, HBF.out⟩
    ·go_simp
     refine hK _ _ ⟨trivial, fun _ => trivial⟩ (fun _ => ?_)
     clear hK K
     refine wO 2 4 (fun K hK => ?_)
     go_simp
     refine (D1.out _).mono ?_
     rintro e v1 ⟨rfl, rfl⟩
     refine hK _ _ ⟨trivial, fun _ => trivial⟩ (fun _ => ?_)
     clear hK K
     refine wO 5 3 (fun K hK => ?_)
     go_simp
     refine (D2.out _).mono ?_
     rintro e v1 ⟨rfl, rfl⟩
     refine hK _ _ ⟨trivial, fun _ => trivial⟩ (fun _ => ?_)
     clear hK K
     refine wO 8 2 (fun K hK => ?_)
     go_simp
     refine (D3.out _).mono ?_
     rintro e v1 ⟨rfl, rfl⟩
     refine hK _ _ ⟨trivial, fun _ => trivial⟩ (fun _ => ?_)
     clear hK K
     refine wA 1 [9] ⟨trivial, fun _ => trivial⟩ ?_
     simp only [pick, List.filterMap_cons, List.filterMap_nil, List.getElem?_cons_zero, List.getElem?_cons_succ]
     refine wS (dV Y M D) (fun w hw => by go_simp) ?_
     refine wpIf_nil (fun _ => ?_)
     refine wO 11 0 (fun K hK => ?_)
     go_simp
     refine hK _ _ ⟨trivial, fun _ => trivial⟩ (fun _ => ?_)
     clear hK K
     refine wpAnyT_over (by kernel_rfl) ?_
     have hA := DAt.new ((w.alloc (dC 0 0 0)).drewN (nq + 1)) Y M D
     have hZ1 : DAt (((w.alloc (dC 0 0 0)).drewN (nq + 1)).alloc (dC Y M D)) w.heap.size 0 0 0 := DAt.alloc (w := (w.alloc (dC 0 0 0)).drewN (nq + 1)) HZ.out (dC Y M D)
     have hB1 := (HB.out (nq + 1)).alloc (by simp) (dC Y M D)
     rw [show ((w.alloc (dC 0 0 0)).drewN (nq + 1)).heap.size = w.heap.size + 1 by simp] at hA
     have HM1 := Lib.hid (HM.out.below hB1 (Nat.le_refl _))
     change Exit.then _ _ _ _ (((w.alloc (dC 0 0 0)).drewN (nq + 1)).alloc (dC Y M D))
     generalize ((w.alloc (dC 0 0 0)).drewN (nq + 1)).alloc (dC Y M D) = V at hA hZ1 hB1 HM1 ⊢
     have HC := Lib.hid (implDateOk_any Y M D V HM1.out)
     have a0 := hA.c0
     have a1 := hA.c1
     have a2 := hA.c2
     go_wp2_with fail
     refine HC.out.mono ?_
     rintro e w2 ⟨rfl, hb2⟩
     have hA2 := hA.keep hb2 (Nat.le_refl _)
     have hZ2 := hZ1.keep hb2 (Nat.le_refl _)
     have hB2 := hB1.trans (hb2.mono hB1.size)
     have d0 := hA2.c0
     have d1 := hA2.c1
     have d2 := hA2.c2
     have z0 := hZ2.c0
     have z1 := hZ2.c1
     have z2 := hZ2.c2
     have g0 := hZ2.frozen 0
     have g1 := hZ2.frozen 1
     have g2 := hZ2.frozen 2
     cases hc : dOk Y M D with
     | true =>
      have HV := Lib.hid (HY.out hc)
      have HF := Lib.hid (((hZ2.s0 Y).s1 M).s2 D)
      have HBF := Lib.hid (((hB2.setCell (p := ⟨w.heap.size, 0, none⟩) (Nat.le_refl _) (.int .i64 Y)).setCell (p := ⟨w.heap.size, 1, none⟩) (Nat.le_refl _) (.int .i64 M)).setCell (p := ⟨w.heap.size, 2, none⟩) (Nat.le_refl _) (.int .i64 D))
      clear hA hA2 hZ1 hZ2 hB1 hB2 hb2 a0 a1 a2 hc
      go_wp2
      refine bodyPost_ret (results_date2 rfl _ _ _ _ _ _ _ rfl rfl HF.out) rfl ?_
      exact ⟨by rw [HV.out]; rfl, HBF.out⟩
     | false =>
      have HV := Lib.hid (HN.out hc)
      have HF := Lib.hid (((hZ2.s0 0).s1 0).s2 0)
      have HBF := Lib.hid (((hB2.setCell (p := ⟨w.heap.size, 0, none⟩) (Nat.le_refl _) (.int .i64 0)).setCell (p := ⟨w.heap.size, 1, none⟩) (Nat.le_refl _) (.int .i64 0)).setCell (p := ⟨w.heap.size, 2, none⟩) (Nat.le_refl _) (.int .i64 0))
      clear hA hA2 hZ1 hZ2 hB1 hB2 hb2 a0 a1 a2 hc
      go_wp2
      refine bodyPost_ret (results_date2 rfl _ _ _ _ _ _ _ rfl rfl HF.out) rfl ?_
      exact ⟨by rw [HV.out]; rfl, HBF.out⟩
   ·have HE := Lib.hid (rdV_not (s := s) (fun h => c3 (b7 ▸ h.2.2.1)))
    rw [HE.out]
    have hn4 : ((s[4].toNat : Int) != (((⟨#[45]⟩ : ByteArray)[0]'(by decide)).toNat : Int)) = false := by show ((s[4].toNat : Int) != 45) = false; simp; omega
    have hn7 : ((s[7].toNat : Int) != (((⟨#[45]⟩ : ByteArray)[0]'(by decide)).toNat : Int)) = true := by show ((s[7].toNat : Int) != 45) = true; simp; omega
    clear c2 c3 b4 b7 HE hM
    go_enter Tryz.func84, Tryz.ntmps84
    go_wp2
    go_quiet (fail)
    go_wp2
    have hF : DAt ((w.alloc (dC 0 0 0)).drewN nq) w.heap.size 0 0 0 := HZ.out
    have hBF := (((HB.out nq).setCell (p := ⟨w.heap.size, 0, none⟩) (Nat.le_refl _) (.int .i64 0)).setCell (p := ⟨w.heap.size, 1, none⟩) (Nat.le_refl _) (.int .i64 0)).setCell (p := ⟨w.heap.size, 2, none⟩) (Nat.le_refl _) (.int .i64 0)
    refine bodyPost_ret (results_date2 rfl _ _ _ _ _ _ _ rfl rfl (((hF.s0 0).s1 0).s2 0)) rfl ?_
    exact ⟨rfl, hBF⟩
  ·have HE := Lib.hid (rdV_not (s := s) (fun h => c2 (b4 ▸ h.2.1)))
   rw [HE.out]
   have hn4 : ((s[4].toNat : Int) != (((⟨#[45]⟩ : ByteArray)[0]'(by decide)).toNat : Int)) = true := by show ((s[4].toNat : Int) != 45) = true; simp; omega
   clear c2 b4 b7 HE hM
   go_enter Tryz.func84, Tryz.ntmps84
   go_wp2
   go_quiet (fail)
   go_wp2
   have hF : DAt ((w.alloc (dC 0 0 0)).drewN nq) w.heap.size 0 0 0 := HZ.out
   have hBF := (((HB.out nq).setCell (p := ⟨w.heap.size, 0, none⟩) (Nat.le_refl _) (.int .i64 0)).setCell (p := ⟨w.heap.size, 1, none⟩) (Nat.le_refl _) (.int .i64 0)).setCell (p := ⟨w.heap.size, 2, none⟩) (Nat.le_refl _) (.int .i64 0)
   refine bodyPost_ret (results_date2 rfl _ _ _ _ _ _ _ rfl rfl (((hF.s0 0).s1 0).s2 0)) rfl ?_
   exact ⟨rfl, hBF⟩
 ·have HE := Lib.hid (rdV_not (s := s) (fun h => c1 h.1))
  rw [HE.out]
  have hn : ((s.size : Int) != 10) = true := by simp; omega
  clear HE hM
  go_enter Tryz.func84, Tryz.ntmps84
  go_wp2
  go_quiet (fail)
  go_wp2
  have hF : DAt ((w.alloc (dC 0 0 0)).drewN nq) w.heap.size 0 0 0 := HZ.out
  have hBF := (((HB.out nq).setCell (p := ⟨w.heap.size, 0, none⟩) (Nat.le_refl _) (.int .i64 0)).setCell (p := ⟨w.heap.size, 1, none⟩) (Nat.le_refl _) (.int .i64 0)).setCell (p := ⟨w.heap.size, 2, none⟩) (Nat.le_refl _) (.int .i64 0)
  refine bodyPost_ret (results_date2 rfl _ _ _ _ _ _ _ rfl rfl (((hF.s0 0).s1 0).s2 0)) rfl ?_
  exact ⟨rfl, hBF⟩
end Go.Proofs.YtffkakpbelknaaaGreatDoor
namespace Go.Proofs.YtffkakpbelknaaaGreatDoor
set_option linter.unusedVariables false
theorem dg_back (b : UInt8) (n : Nat) (h : isDg b = true) (hn : n = b.toNat - 48) : UInt8.ofNat (48 + n) = b := by
 unfold isDg at h
 simp at h
 rw [hn, show 48 + (b.toNat - 48) = b.toNat by omega]
 exact UInt8.ofNat_toNat
theorem dg_lt (b : UInt8) (h : isDg b = true) : 48 <= b.toNat /\ b.toNat - 48 < 10 := by
 unfold isDg at h
 simp at h
 omega
theorem val2 (a b : UInt8) : valL [a, b] = 10 * (a.toNat - 48) + (b.toNat - 48) := by simp [valL]
theorem val4 (a b c d : UInt8) : valL [a, b, c, d] = 1000 * (a.toNat - 48) + 100 * (b.toNat - 48) + 10 * (c.toNat - 48) + (d.toNat - 48) := by simp [valL]; omega
theorem two_back (a b : UInt8) (ha : isDg a = true) (hb : isDg b = true) : twoL (valL [a, b]) = [a, b] := by
 have h1 := dg_lt a ha
 have h2 := dg_lt b hb
 unfold twoL
 rw [val2, dg_back a _ ha (by omega), dg_back b _ hb (by omega)]
theorem four_back (a b c d : UInt8) (ha : isDg a = true) (hb : isDg b = true) (hc : isDg c = true) (hd : isDg d = true) (h : 1000 <= valL [a, b, c, d]) : Lib.decDigits (valL [a, b, c, d]) = [a, b, c, d] := by
 have h1 := dg_lt a ha
 have h2 := dg_lt b hb
 have h3 := dg_lt c hc
 have h4 := dg_lt d hd
 rw [val4] at h ⊢
 generalize hA : a.toNat - 48 = A at *
 generalize hB : b.toNat - 48 = B at *
 generalize hC : c.toNat - 48 = C at *
 generalize hD : d.toNat - 48 = D at *
 rw [Lib.decDigits.eq_def, dif_neg (by omega), Lib.decDigits.eq_def, dif_neg (by omega), Lib.decDigits.eq_def, dif_neg (by omega), Lib.decDigits.eq_def, dif_pos (by omega)]
 rw [dg_back a _ ha (by omega), dg_back b _ hb (by omega), dg_back c _ hc (by omega), dg_back d _ hd (by omega)]
 rfl
theorem dgI_list (s : ByteArray) (l : List UInt8) (h : s.data.toList = l) : dgI s = if l.all isDg = true then (valL l : Int) else -1 := by unfold dgI; rw [h]
theorem dgI_pos (s : ByteArray) (l : List UInt8) (h : s.data.toList = l) (hp : 0 <= dgI s) : l.all isDg = true /\ dgI s = (valL l : Int) := by
 rw [dgI_list s l h] at hp ⊢
 split at hp
 ·rename_i ha
  exact ⟨ha, if_pos ha⟩
 ·omega
theorem ten_bytes (s : ByteArray) (h : s.size = 10) : ∃ b0 b1 b2 b3 b4 b5 b6 b7 b8 b9, s.data.toList = [b0, b1, b2, b3, b4, b5, b6, b7, b8, b9] := by
 have hl : s.data.toList.length = 10 := by simpa using h
 match hs : s.data.toList, hl with
 | [b0, b1, b2, b3, b4, b5, b6, b7, b8, b9], _ => exact ⟨b0, b1, b2, b3, b4, b5, b6, b7, b8, b9, rfl⟩
theorem ext_part (s : ByteArray) (l : List UInt8) (a b : Nat) (h : s.data.toList = l) : (s.extract a b).data.toList = (l.take b).drop a := by
 rw [ByteArray.data_extract, Array.toList_extract, h]; simp [List.extract, List.take_drop]
 by_cases hab : a <= b
 ·rw [show a + (b - a) = b by omega]
 ·rw [show a + (b - a) = a by omega]
  rw [List.drop_eq_nil_of_le (by simp; omega), List.drop_eq_nil_of_le (by simp; omega)]
theorem byte_list (s : ByteArray) (l : List UInt8) (k : Nat) (h : s.data.toList = l) (hk : k < l.length) : byteAt7 s k = (l[k]).toNat := by
 have hs : k < s.size := by rw [<- h] at hk; simpa using hk
 rw [byteAt7_eq s k hs]
 subst h
 simp; rfl
theorem dtB_list (y m d : Nat) : (dtB y m d).data.toList = Lib.decDigits y ++ [45] ++ twoL m ++ [45] ++ twoL d := by
 unfold dtB
 rw [app7, app7, app7, app7]
 unfold decB twoB
 simp
theorem rd_iff (s : ByteArray) (hs : s.size = 10) : dateT (rY s) (rM s) (rD s) = s ↔ (byteAt7 s 4 = 45 /\ byteAt7 s 7 = 45 /\ dOk (rY s) (rM s) (rD s) = true) := by
 obtain ⟨b0, b1, b2, b3, b4, b5, b6, b7, b8, b9, hl⟩ := ten_bytes s hs
 have e1 : (s.extract 0 4).data.toList = [b0, b1, b2, b3] := ext_part s _ 0 4 hl
 have e2 : (s.extract 5 7).data.toList = [b5, b6] := ext_part s _ 5 7 hl
 have e3 : (s.extract 8 10).data.toList = [b8, b9] := ext_part s _ 8 10 hl
 have k4 : byteAt7 s 4 = b4.toNat := byte_list s _ 4 hl (by simp)
 have k7 : byteAt7 s 7 = b7.toNat := byte_list s _ 7 hl (by simp)
 constructor
 ·intro he
  have hok : dOk (rY s) (rM s) (rD s) = true := by
   cases hc : dOk (rY s) (rM s) (rD s) with
   | true => rfl
   | false =>
    exfalso
    unfold dateT at he
    rw [hc] at he
    have : s.size = 0 := by rw [<- he]; rfl
    omega
  obtain ⟨c1, c2, c3, c4, c5, c6, c7⟩ := (dOk_iff _ _ _).1 hok
  have hd : (dateT (rY s) (rM s) (rD s)).data.toList = s.data.toList := congrArg (fun b : ByteArray => b.data.toList) he
  unfold dateT at hd
  rw [if_pos hok, dtB_list, hl] at hd
  have h4 : (Lib.decDigits (rY s).toNat).length = 4 := by rw [Lib.decDigits_length, Lib.nDigits_unique 3 _ (by omega) (by omega)]
  obtain ⟨x0, x1, x2, x3, hx⟩ : ∃ x0 x1 x2 x3, Lib.decDigits (rY s).toNat = [x0, x1, x2, x3] := by
   match hq : Lib.decDigits (rY s).toNat, h4 with
   | [x0, x1, x2, x3], _ => exact ⟨x0, x1, x2, x3, rfl⟩
  rw [hx] at hd
  simp [twoL] at hd
  refine ⟨?_, ?_, hok⟩
  ·rw [k4, <- hd.2.2.2.2.1]; rfl
  ·rw [k7, <- hd.2.2.2.2.2.2.2.1]; rfl
 ·rintro ⟨h4, h7, hok⟩
  obtain ⟨c1, c2, c3, c4, c5, c6, c7⟩ := (dOk_iff _ _ _).1 hok
  unfold dateT
  rw [if_pos hok]
  apply ba_eq
  rw [dtB_list, hl]
  obtain ⟨a1, v1⟩ := dgI_pos (s.extract 0 4) _ e1 (show 0 <= rY s by omega)
  obtain ⟨a2, v2⟩ := dgI_pos (s.extract 5 7) _ e2 (show 0 <= rM s by omega)
  obtain ⟨a3, v3⟩ := dgI_pos (s.extract 8 10) _ e3 (show 0 <= rD s by omega)
  simp only [List.all_cons, List.all_nil, Bool.and_eq_true, Bool.and_true] at a1 a2 a3
  have hy : rY s = (valL [b0, b1, b2, b3] : Int) := v1
  have hm : rM s = (valL [b5, b6] : Int) := v2
  have hd : rD s = (valL [b8, b9] : Int) := v3
  rw [hy] at c1
  rw [hy, hm, hd, Int.toNat_natCast, Int.toNat_natCast, Int.toNat_natCast, four_back b0 b1 b2 b3 a1.1 a1.2.1 a1.2.2.1 a1.2.2.2 (by omega), two_back b5 b6 a2.1 a2.2, two_back b8 b9 a3.1 a3.2]
  have q4 : b4 = 45 := UInt8.toNat_inj.1 (by rw [<- k4, h4]; rfl)
  have q7 : b7 = 45 := UInt8.toNat_inj.1 (by rw [<- k7, h7]; rfl)
  rw [q4, q7]; rfl
end Go.Proofs.YtffkakpbelknaaaGreatDoor
namespace Go.Proofs.YtffkakpbelknaaaGreatDoor
open Go.ChangeShapes Go.WideShapes Go.ChangeAt Go.RowKit
set_option linter.unusedVariables false
theorem str_eq7 {a b : ByteArray} (h : a.toList = b.toList) : a = b := by
 apply ba_eq
 rw [ByteArray.toList_eq, ByteArray.toList_eq] at h
 exact h
theorem specReadDate_any (s : ByteArray) (w : World) :
  Calls Tryz.prog 50 #[.string s] w fun e w' => e = .returned (rdV s) /\ Below w.heap.size w w' := by
 have HZ := Lib.hid (DAt.new w 0 0 0)
 have HB : Hid (Below w.heap.size w (w.alloc (dC 0 0 0))) := Lib.hid ((Below.refl _ _).alloc (Nat.le_refl _) _)
 by_cases c1 : s.size = 10
 ·have hsI : (s.size : Int) = 10 := by omega
  have HIF := Lib.hid (rd_iff s c1)
  have D1 := Lib.hid (fun w => l7Digits_any (s.extract 0 4) w (by rw [ByteArray.size_extract]; omega))
  have D2 := Lib.hid (fun w => l7Digits_any (s.extract 5 7) w (by rw [ByteArray.size_extract]; omega))
  have D3 := Lib.hid (fun w => l7Digits_any (s.extract 8 10) w (by rw [ByteArray.size_extract]; omega))
  have HC := Lib.hid (fun w => specDateText_any (dgI (s.extract 0 4)) (dgI (s.extract 5 7)) (dgI (s.extract 8 10)) w)
  have HY : Hid (dateT (dgI (s.extract 0 4)) (dgI (s.extract 5 7)) (dgI (s.extract 8 10)) = s -> rdV s = .tuple #[dV (dgI (s.extract 0 4)) (dgI (s.extract 5 7)) (dgI (s.extract 8 10)), .bool true]) := Lib.hid (fun h => rdV_yes ⟨c1, HIF.out.1 h⟩)
  have HN : Hid (¬ dateT (dgI (s.extract 0 4)) (dgI (s.extract 5 7)) (dgI (s.extract 8 10)) = s -> rdV s = .tuple #[dV 0 0 0, .bool false]) := Lib.hid (fun h => rdV_not (fun hx => h (HIF.out.2 hx.2)))
  generalize dateT (dgI (s.extract 0 4)) (dgI (s.extract 5 7)) (dgI (s.extract 8 10)) = T at HC HY HN
  generalize dgI (s.extract 0 4) = Y at D1 HY HN HC
  generalize dgI (s.extract 5 7) = M at D2 HY HN HC
  generalize dgI (s.extract 8 10) = D at D3 HY HN HC
  generalize rdV s = out at HY HN ⊢
  clear HIF
  go_enter Tryz.func50, Tryz.ntmps50
  go_wp2
  refine wp_region_T (fun _ => True) (fun _ => True) 11 (by kernel_rfl) 12 rfl ?_
  refine wA 6 [0, 1, 3, 4, 6, 7] ⟨trivial, fun _ => trivial⟩ ?_
  simp only [pick, List.filterMap_cons, List.filterMap_nil, List.getElem?_cons_zero, List.getElem?_cons_succ]
  refine wS (.string s) (fun w hw => by go_simp) ?_
  refine wS (.string (s.extract 0 4)) (fun w hw => by go_simp) ?_
  refine wS (.string s) (fun w hw => by go_simp) ?_
  refine wS (.string (s.extract 5 7)) (fun w hw => by go_simp) ?_
  refine wS (.string s) (fun w hw => by go_simp) ?_
  refine wS (.string (s.extract 8 10)) (fun w hw => by go_simp) ?_
  refine wpIf_nil (fun _ => ?_)
  refine wpAnyT_two 2 10 5 (by kernel_rfl) rfl rfl (by kernel_rfl) (by kernel_rfl) (fun K hK => ?_) (fun K hK => ?_)
  ·go_simp
   refine (D1.out _).mono ?_
   rintro e v1 ⟨rfl, rfl⟩
   refine hK _ _ ⟨trivial, fun _ => trivial⟩ (fun _ => ?_)
   clear hK K
   refine wpAnyT_two 5 10 4 (by kernel_rfl) rfl rfl (by kernel_rfl) (by kernel_rfl) (fun K hK => ?_) (fun K hK => ?_)
   ·go_simp
    refine (D2.out _).mono ?_
    rintro e v1 ⟨rfl, rfl⟩
    refine hK _ _ ⟨trivial, fun _ => trivial⟩ (fun _ => ?_)
    clear hK K
    refine wpAnyT_two 8 10 3 (by kernel_rfl) rfl rfl (by kernel_rfl) (by kernel_rfl) (fun K hK => ?_) (fun K hK => ?_)
    ·go_simp
     refine (D3.out _).mono ?_
     rintro e v1 ⟨rfl, rfl⟩
     refine hK _ _ ⟨trivial, fun _ => trivial⟩ (fun _ => ?_)
     clear hK K
     refine wA 2 [9] ⟨trivial, fun _ => trivial⟩ ?_
     simp only [pick, List.filterMap_cons, List.filterMap_nil, List.getElem?_cons_zero, List.getElem?_cons_succ]
     refine wS (dV Y M D) (fun w hw => by go_simp) ?_
     refine wpIf_nil (fun _ => ?_)
     refine wO 10 1 (fun K hK => ?_)
     go_simp
     refine hK _ _ ⟨trivial, fun _ => trivial⟩ (fun _ => ?_)
     clear hK K
     refine wO 11 0 (fun K hK => ?_)
     go_simp
     refine hK _ _ ⟨trivial, fun _ => trivial⟩ (fun _ => ?_)
     clear hK K
     refine wpAnyT_over (by kernel_rfl) ?_
     have hA := DAt.new ((w.alloc (dC 0 0 0)).drew) Y M D
     have hZ1 : DAt (((w.alloc (dC 0 0 0)).drew).alloc (dC Y M D)) w.heap.size 0 0 0 := DAt.alloc (w := (w.alloc (dC 0 0 0)).drew) HZ.out (dC Y M D)
     have hB1 := HB.out.drew.alloc (by simp) (dC Y M D)
     rw [show ((w.alloc (dC 0 0 0)).drew).heap.size = w.heap.size + 1 by simp] at hA
     change Exit.then _ _ _ _ (((w.alloc (dC 0 0 0)).drew).alloc (dC Y M D))
     generalize ((w.alloc (dC 0 0 0)).drew).alloc (dC Y M D) = V at hA hZ1 hB1 ⊢
     have a0 := hA.c0
     have a1 := hA.c1
     have a2 := hA.c2
     go_wp2_with fail
     refine (HC.out _).mono ?_
     rintro e w2 ⟨rfl, hb2⟩
     have hA2 := hA.keep hb2 (Nat.le_refl _)
     have hZ2 := hZ1.keep hb2 (Nat.le_refl _)
     have hB2 := hB1.trans (hb2.mono hB1.size)
     have d0 := hA2.c0
     have d1 := hA2.c1
     have d2 := hA2.c2
     have z0 := hZ2.c0
     have z1 := hZ2.c1
     have z2 := hZ2.c2
     have g0 := hZ2.frozen 0
     have g1 := hZ2.frozen 1
     have g2 := hZ2.frozen 2
     by_cases hc : T = s
     ·have HV := Lib.hid (HY.out hc)
      have hT : (T.toList == s.toList) = true := by rw [hc]; simp
      have HF := Lib.hid (((hZ2.s0 Y).s1 M).s2 D)
      have HBF := Lib.hid (((hB2.setCell (p := ⟨w.heap.size, 0, none⟩) (Nat.le_refl _) (.int .i64 Y)).setCell (p := ⟨w.heap.size, 1, none⟩) (Nat.le_refl _) (.int .i64 M)).setCell (p := ⟨w.heap.size, 2, none⟩) (Nat.le_refl _) (.int .i64 D))
      clear hA hA2 hZ1 hZ2 hB1 hB2 hb2 a0 a1 a2 hc
      go_wp2
      refine bodyPost_ret (results_date2 rfl _ _ _ _ _ _ _ rfl rfl HF.out) rfl ?_
      exact ⟨by rw [HV.out]; rfl, HBF.out⟩
     ·have HV := Lib.hid (HN.out hc)
      have hT : (T.toList == s.toList) = false := by
       have : ¬ T.toList = s.toList := fun h => hc (str_eq7 h)
       simpa using this
      have HF := Lib.hid (((hZ2.s0 0).s1 0).s2 0)
      have HBF := Lib.hid (((hB2.setCell (p := ⟨w.heap.size, 0, none⟩) (Nat.le_refl _) (.int .i64 0)).setCell (p := ⟨w.heap.size, 1, none⟩) (Nat.le_refl _) (.int .i64 0)).setCell (p := ⟨w.heap.size, 2, none⟩) (Nat.le_refl _) (.int .i64 0))
      clear hA hA2 hZ1 hZ2 hB1 hB2 hb2 a0 a1 a2 hc
      go_wp2
      refine bodyPost_ret (results_date2 rfl _ _ _ _ _ _ _ rfl rfl HF.out) rfl ?_
      exact ⟨by rw [HV.out]; rfl, HBF.out⟩
    ·go_simp
     refine hK _ _ ⟨trivial, fun _ => trivial⟩ (fun _ => ?_)
     clear hK K
     refine wO 8 2 (fun K hK => ?_)
     go_simp
     refine (D3.out _).mono ?_
     rintro e v1 ⟨rfl, rfl⟩
     refine hK _ _ ⟨trivial, fun _ => trivial⟩ (fun _ => ?_)
     clear hK K
     refine wA 1 [9] ⟨trivial, fun _ => trivial⟩ ?_
     simp only [pick, List.filterMap_cons, List.filterMap_nil, List.getElem?_cons_zero, List.getElem?_cons_succ]
     refine wS (dV Y M D) (fun w hw => by go_simp) ?_
     refine wpIf_nil (fun _ => ?_)
     refine wO 11 0 (fun K hK => ?_)
     go_simp
     refine hK _ _ ⟨trivial, fun _ => trivial⟩ (fun _ => ?_)
     clear hK K
     refine wpAnyT_over (by kernel_rfl) ?_
     have hA := DAt.new ((w.alloc (dC 0 0 0)).drew) Y M D
     have hZ1 : DAt (((w.alloc (dC 0 0 0)).drew).alloc (dC Y M D)) w.heap.size 0 0 0 := DAt.alloc (w := (w.alloc (dC 0 0 0)).drew) HZ.out (dC Y M D)
     have hB1 := HB.out.drew.alloc (by simp) (dC Y M D)
     rw [show ((w.alloc (dC 0 0 0)).drew).heap.size = w.heap.size + 1 by simp] at hA
     change Exit.then _ _ _ _ (((w.alloc (dC 0 0 0)).drew).alloc (dC Y M D))
     generalize ((w.alloc (dC 0 0 0)).drew).alloc (dC Y M D) = V at hA hZ1 hB1 ⊢
     have a0 := hA.c0
     have a1 := hA.c1
     have a2 := hA.c2
     go_wp2_with fail
     refine (HC.out _).mono ?_
     rintro e w2 ⟨rfl, hb2⟩
     have hA2 := hA.keep hb2 (Nat.le_refl _)
     have hZ2 := hZ1.keep hb2 (Nat.le_refl _)
     have hB2 := hB1.trans (hb2.mono hB1.size)
     have d0 := hA2.c0
     have d1 := hA2.c1
     have d2 := hA2.c2
     have z0 := hZ2.c0
     have z1 := hZ2.c1
     have z2 := hZ2.c2
     have g0 := hZ2.frozen 0
     have g1 := hZ2.frozen 1
     have g2 := hZ2.frozen 2
     by_cases hc : T = s
     ·have HV := Lib.hid (HY.out hc)
      have hT : (T.toList == s.toList) = true := by rw [hc]; simp
      have HF := Lib.hid (((hZ2.s0 Y).s1 M).s2 D)
      have HBF := Lib.hid (((hB2.setCell (p := ⟨w.heap.size, 0, none⟩) (Nat.le_refl _) (.int .i64 Y)).setCell (p := ⟨w.heap.size, 1, none⟩) (Nat.le_refl _) (.int .i64 M)).setCell (p := ⟨w.heap.size, 2, none⟩) (Nat.le_refl _) (.int .i64 D))
      clear hA hA2 hZ1 hZ2 hB1 hB2 hb2 a0 a1 a2 hc
      go_wp2
      refine bodyPost_ret (results_date2 rfl _ _ _ _ _ _ _ rfl rfl HF.out) rfl ?_
      exact ⟨by rw [HV.out]; rfl, HBF.out⟩
     ·have HV := Lib.hid (HN.out hc)
      have hT : (T.toList == s.toList) = false := by
       have : ¬ T.toList = s.toList := fun h => hc (str_eq7 h)
       simpa using this
      have HF := Lib.hid (((hZ2.s0 0).s1 0).s2 0)
      have HBF := Lib.hid (((hB2.setCell (p := ⟨w.heap.size, 0, none⟩) (Nat.le_refl _) (.int .i64 0)).setCell (p := ⟨w.heap.size, 1, none⟩) (Nat.le_refl _) (.int .i64 0)).setCell (p := ⟨w.heap.size, 2, none⟩) (Nat.le_refl _) (.int .i64 0))
      clear hA hA2 hZ1 hZ2 hB1 hB2 hb2 a0 a1 a2 hc
      go_wp2
      refine bodyPost_ret (results_date2 rfl _ _ _ _ _ _ _ rfl rfl HF.out) rfl ?_
      exact ⟨by rw [HV.out]; rfl, HBF.out⟩
   ·go_simp
    refine hK _ _ ⟨trivial, fun _ => trivial⟩ (fun _ => ?_)
    clear hK K
    refine wO 5 3 (fun K hK => ?_)
    go_simp
    refine (D2.out _).mono ?_
    rintro e v1 ⟨rfl, rfl⟩
    refine hK _ _ ⟨trivial, fun _ => trivial⟩ (fun _ => ?_)
    clear hK K
    refine wO 8 2 (fun K hK => ?_)
    go_simp
    refine (D3.out _).mono ?_
    rintro e v1 ⟨rfl, rfl⟩
    refine hK _ _ ⟨trivial, fun _ => trivial⟩ (fun _ => ?_)
    clear hK K
    refine wA 1 [9] ⟨trivial, fun _ => trivial⟩ ?_
    simp only [pick, List.filterMap_cons, List.filterMap_nil, List.getElem?_cons_zero, List.getElem?_cons_succ]
    refine wS (dV Y M D) (fun w hw => by go_simp) ?_
    refine wpIf_nil (fun _ => ?_)
    refine wO 11 0 (fun K hK => ?_)
    go_simp
    refine hK _ _ ⟨trivial, fun _ => trivial⟩ (fun _ => ?_)
    clear hK K
    refine wpAnyT_over (by kernel_rfl) ?_
    have hA := DAt.new ((w.alloc (dC 0 0 0)).drew) Y M D
    have hZ1 : DAt (((w.alloc (dC 0 0 0)).drew).alloc (dC Y M D)) w.heap.size 0 0 0 := DAt.alloc (w := (w.alloc (dC 0 0 0)).drew) HZ.out (dC Y M D)
    have hB1 := HB.out.drew.alloc (by simp) (dC Y M D)
    rw [show ((w.alloc (dC 0 0 0)).drew).heap.size = w.heap.size + 1 by simp] at hA
    change Exit.then _ _ _ _ (((w.alloc (dC 0 0 0)).drew).alloc (dC Y M D))
    generalize ((w.alloc (dC 0 0 0)).drew).alloc (dC Y M D) = V at hA hZ1 hB1 ⊢
    have a0 := hA.c0
    have a1 := hA.c1
    have a2 := hA.c2
    go_wp2_with fail
    refine (HC.out _).mono ?_
    rintro e w2 ⟨rfl, hb2⟩
    have hA2 := hA.keep hb2 (Nat.le_refl _)
    have hZ2 := hZ1.keep hb2 (Nat.le_refl _)
    have hB2 := hB1.trans (hb2.mono hB1.size)
    have d0 := hA2.c0
    have d1 := hA2.c1
    have d2 := hA2.c2
    have z0 := hZ2.c0
    have z1 := hZ2.c1
    have z2 := hZ2.c2
    have g0 := hZ2.frozen 0
    have g1 := hZ2.frozen 1
    have g2 := hZ2.frozen 2
    by_cases hc : T = s
    ·have HV := Lib.hid (HY.out hc)
     have hT : (T.toList == s.toList) = true := by rw [hc]; simp
     have HF := Lib.hid (((hZ2.s0 Y).s1 M).s2 D)
     have HBF := Lib.hid (((hB2.setCell (p := ⟨w.heap.size, 0, none⟩) (Nat.le_refl _) (.int .i64 Y)).setCell (p := ⟨w.heap.size, 1, none⟩) (Nat.le_refl _) (.int .i64 M)).setCell (p := ⟨w.heap.size, 2, none⟩) (Nat.le_refl _) (.int .i64 D))
     clear hA hA2 hZ1 hZ2 hB1 hB2 hb2 a0 a1 a2 hc
     go_wp2
     refine bodyPost_ret (results_date2 rfl _ _ _ _ _ _ _ rfl rfl HF.out) rfl ?_
     exact ⟨by rw [HV.out]; rfl, HBF.out⟩
    ·have HV := Lib.hid (HN.out hc)
     have hT : (T.toList == s.toList) = false := by
      have : ¬ T.toList = s.toList := fun h => hc (str_eq7 h)
      simpa using this
     have HF := Lib.hid (((hZ2.s0 0).s1 0).s2 0)
     have HBF := Lib.hid (((hB2.setCell (p := ⟨w.heap.size, 0, none⟩) (Nat.le_refl _) (.int .i64 0)).setCell (p := ⟨w.heap.size, 1, none⟩) (Nat.le_refl _) (.int .i64 0)).setCell (p := ⟨w.heap.size, 2, none⟩) (Nat.le_refl _) (.int .i64 0))
     clear hA hA2 hZ1 hZ2 hB1 hB2 hb2 a0 a1 a2 hc
     go_wp2
     refine bodyPost_ret (results_date2 rfl _ _ _ _ _ _ _ rfl rfl HF.out) rfl ?_
     exact ⟨by rw [HV.out]; rfl, HBF.out⟩
  ·go_simp
   refine hK _ _ ⟨trivial, fun _ => trivial⟩ (fun _ => ?_)
   clear hK K
   refine wO 2 4 (fun K hK => ?_)
   go_simp
   refine (D1.out _).mono ?_
   rintro e v1 ⟨rfl, rfl⟩
   refine hK _ _ ⟨trivial, fun _ => trivial⟩ (fun _ => ?_)
   clear hK K
   refine wO 5 3 (fun K hK => ?_)
   go_simp
   refine (D2.out _).mono ?_
   rintro e v1 ⟨rfl, rfl⟩
   refine hK _ _ ⟨trivial, fun _ => trivial⟩ (fun _ => ?_)
   clear hK K
   refine wO 8 2 (fun K hK => ?_)
   go_simp
   refine (D3.out _).mono ?_
   rintro e v1 ⟨rfl, rfl⟩
   refine hK _ _ ⟨trivial, fun _ => trivial⟩ (fun _ => ?_)
   clear hK K
   refine wA 1 [9] ⟨trivial, fun _ => trivial⟩ ?_
   simp only [pick, List.filterMap_cons, List.filterMap_nil, List.getElem?_cons_zero, List.getElem?_cons_succ]
   refine wS (dV Y M D) (fun w hw => by go_simp) ?_
   refine wpIf_nil (fun _ => ?_)
   refine wO 11 0 (fun K hK => ?_)
   go_simp
   refine hK _ _ ⟨trivial, fun _ => trivial⟩ (fun _ => ?_)
   clear hK K
   refine wpAnyT_over (by kernel_rfl) ?_
   have hA := DAt.new ((w.alloc (dC 0 0 0)).drew) Y M D
   have hZ1 : DAt (((w.alloc (dC 0 0 0)).drew).alloc (dC Y M D)) w.heap.size 0 0 0 := DAt.alloc (w := (w.alloc (dC 0 0 0)).drew) HZ.out (dC Y M D)
   have hB1 := HB.out.drew.alloc (by simp) (dC Y M D)
   rw [show ((w.alloc (dC 0 0 0)).drew).heap.size = w.heap.size + 1 by simp] at hA
   change Exit.then _ _ _ _ (((w.alloc (dC 0 0 0)).drew).alloc (dC Y M D))
   generalize ((w.alloc (dC 0 0 0)).drew).alloc (dC Y M D) = V at hA hZ1 hB1 ⊢
   have a0 := hA.c0
   have a1 := hA.c1
   have a2 := hA.c2
   go_wp2_with fail
   refine (HC.out _).mono ?_
   rintro e w2 ⟨rfl, hb2⟩
   have hA2 := hA.keep hb2 (Nat.le_refl _)
   have hZ2 := hZ1.keep hb2 (Nat.le_refl _)
   have hB2 := hB1.trans (hb2.mono hB1.size)
   have d0 := hA2.c0
   have d1 := hA2.c1
   have d2 := hA2.c2
   have z0 := hZ2.c0
   have z1 := hZ2.c1
   have z2 := hZ2.c2
   have g0 := hZ2.frozen 0
   have g1 := hZ2.frozen 1
   have g2 := hZ2.frozen 2
   by_cases hc : T = s
   ·have HV := Lib.hid (HY.out hc)
    have hT : (T.toList == s.toList) = true := by rw [hc]; simp
    have HF := Lib.hid (((hZ2.s0 Y).s1 M).s2 D)
    have HBF := Lib.hid (((hB2.setCell (p := ⟨w.heap.size, 0, none⟩) (Nat.le_refl _) (.int .i64 Y)).setCell (p := ⟨w.heap.size, 1, none⟩) (Nat.le_refl _) (.int .i64 M)).setCell (p := ⟨w.heap.size, 2, none⟩) (Nat.le_refl _) (.int .i64 D))
    clear hA hA2 hZ1 hZ2 hB1 hB2 hb2 a0 a1 a2 hc
    go_wp2
    refine bodyPost_ret (results_date2 rfl _ _ _ _ _ _ _ rfl rfl HF.out) rfl ?_
    exact ⟨by rw [HV.out]; rfl, HBF.out⟩
   ·have HV := Lib.hid (HN.out hc)
    have hT : (T.toList == s.toList) = false := by
     have : ¬ T.toList = s.toList := fun h => hc (str_eq7 h)
     simpa using this
    have HF := Lib.hid (((hZ2.s0 0).s1 0).s2 0)
    have HBF := Lib.hid (((hB2.setCell (p := ⟨w.heap.size, 0, none⟩) (Nat.le_refl _) (.int .i64 0)).setCell (p := ⟨w.heap.size, 1, none⟩) (Nat.le_refl _) (.int .i64 0)).setCell (p := ⟨w.heap.size, 2, none⟩) (Nat.le_refl _) (.int .i64 0))
    clear hA hA2 hZ1 hZ2 hB1 hB2 hb2 a0 a1 a2 hc
    go_wp2
    refine bodyPost_ret (results_date2 rfl _ _ _ _ _ _ _ rfl rfl HF.out) rfl ?_
    exact ⟨by rw [HV.out]; rfl, HBF.out⟩
 ·have HE := Lib.hid (rdV_not (s := s) (fun h => c1 h.1))
  rw [HE.out]
  have hn : ((s.size : Int) != 10) = true := by simp; omega
  clear HE
  go_enter Tryz.func50, Tryz.ntmps50
  go_wp2
  refine bodyPost_ret (results_date2 rfl _ _ _ _ _ _ _ rfl rfl HZ.out) rfl ?_
  exact ⟨rfl, HB.out⟩
end Go.Proofs.YtffkakpbelknaaaGreatDoor
namespace Go.Proofs.YtffkakpbelknaaaGreatDoor
set_option linter.unusedVariables false
set_option linter.unusedSimpArgs false
theorem isD_next {n y m d : Int} (h : IsD n y m d) :
  ∃ y' m' d', IsD (n + 1) y' m' d' /\ (y < y' \/ y = y' /\ (m < m' \/ m = m' /\ d' = d + 1)) /\ (m' = m \/ d' = 1) := by
 obtain ⟨h0, h1, h2, h3, h4, h5⟩ := h
 unfold dN at h5
 by_cases e : d < dIM y m
 ·refine ⟨y, m, d + 1, ⟨h0, h1, h2, by omega, by omega, by unfold dN; omega⟩, Or.inr ⟨rfl, Or.inr ⟨rfl, rfl⟩⟩, Or.inl rfl⟩
 ·have b := mS_last y m h1
  by_cases e2 : m < 12
  ·have hd := dIM_bd y (m + 1)
   refine ⟨y, m + 1, 1, ⟨h0, by omega, by omega, by omega, by omega, ?_⟩, Or.inr ⟨rfl, Or.inl (by omega)⟩, Or.inr rfl⟩
   unfold dN
   rw [show (m + 1).toNat - 1 = m.toNat by omega]
   omega
  ·have hm : m = 12 := by omega
   subst hm
   have hd := dIM_bd (y + 1) 1
   have c := mS_year y
   have f := yS_succ y
   refine ⟨y + 1, 1, 1, ⟨by omega, by omega, by omega, by omega, by omega, ?_⟩, Or.inl (by omega), Or.inr rfl⟩
   show yS (y + 1) + (1 - 1) + 0 = n + 1
   have t : (12 : Int).toNat = 12 := rfl
   rw [t] at b h5
   omega
theorem isD_ex : ∀ n : Nat, ∃ y m d, IsD (n : Int) y m d
 | 0 => ⟨1970, 1, 1, by omega, by omega, by omega, by omega, by decide, by decide⟩
 | n + 1 => by
  obtain ⟨y, m, d, h⟩ := isD_ex n
  obtain ⟨y', m', d', h', _⟩ := isD_next h
  exact ⟨y', m', d', by simpa using h'⟩
theorem isD_ok {n y m d : Int} (h : IsD n y m d) (hn : n <= 200000) : dOk y m d = true := by
 obtain ⟨h0, h1, h2, h3, h4, h5⟩ := h
 rw [dOk_iff]
 refine ⟨h0, ?_, h1, h2, h3, h4, by omega⟩
 by_cases e : y <= 2517
 ·exact e
 ·have := late_year y m d (by omega) h3
  omega
theorem dOk_isD {y m d : Int} (h : dOk y m d = true) : IsD (dN y m d) y m d /\ 0 <= dN y m d /\ dN y m d <= 200000 := by
 obtain ⟨h0, h1, h2, h3, h4, h5, h6⟩ := (dOk_iff y m d).1 h
 have hb := dIM_bd y m
 have := dN_bd y m d h0 (by omega) h3 h4 (by omega)
 exact ⟨⟨h0, h2, h3, h4, h5, rfl⟩, this.1, h6⟩
theorem rdOk_iff (s : ByteArray) : rdOk s = true ↔ (s.size = 10 /\ byteAt7 s 4 = 45 /\ byteAt7 s 7 = 45 /\ dOk (rY s) (rM s) (rD s) = true) := by unfold rdOk; simp
theorem rd_parts (s : ByteArray) (h : rdOk s = true) : ∃ b0 b1 b2 b3 b5 b6 b8 b9, s.data.toList = [b0, b1, b2, b3] ++ (45 :: ([b5, b6] ++ (45 :: [b8, b9]))) /\
  isDg b0 = true /\ isDg b1 = true /\ isDg b2 = true /\ isDg b3 = true /\ isDg b5 = true /\ isDg b6 = true /\ isDg b8 = true /\ isDg b9 = true /\
  rY s = (valL [b0, b1, b2, b3] : Int) /\ rM s = (valL [b5, b6] : Int) /\ rD s = (valL [b8, b9] : Int) := by
 obtain ⟨hs, h4, h7, hok⟩ := (rdOk_iff s).1 h
 obtain ⟨b0, b1, b2, b3, b4, b5, b6, b7, b8, b9, hl⟩ := ten_bytes s hs
 have e1 : (s.extract 0 4).data.toList = [b0, b1, b2, b3] := ext_part s _ 0 4 hl
 have e2 : (s.extract 5 7).data.toList = [b5, b6] := ext_part s _ 5 7 hl
 have e3 : (s.extract 8 10).data.toList = [b8, b9] := ext_part s _ 8 10 hl
 have k4 : byteAt7 s 4 = b4.toNat := byte_list s _ 4 hl (by simp)
 have k7 : byteAt7 s 7 = b7.toNat := byte_list s _ 7 hl (by simp)
 have q4 : b4 = 45 := UInt8.toNat_inj.1 (by rw [<- k4, h4]; rfl)
 have q7 : b7 = 45 := UInt8.toNat_inj.1 (by rw [<- k7, h7]; rfl)
 obtain ⟨c1, c2, c3, c4, c5, c6, c7⟩ := (dOk_iff _ _ _).1 hok
 obtain ⟨a1, v1⟩ := dgI_pos (s.extract 0 4) _ e1 (show 0 <= rY s by omega)
 obtain ⟨a2, v2⟩ := dgI_pos (s.extract 5 7) _ e2 (show 0 <= rM s by omega)
 obtain ⟨a3, v3⟩ := dgI_pos (s.extract 8 10) _ e3 (show 0 <= rD s by omega)
 simp only [List.all_cons, List.all_nil, Bool.and_eq_true, Bool.and_true] at a1 a2 a3
 rw [q4, q7] at hl
 exact ⟨b0, b1, b2, b3, b5, b6, b8, b9, hl, a1.1, a1.2.1, a1.2.2.1, a1.2.2.2, a2.1, a2.2, a3.1, a3.2, v1, v2, v3⟩
theorem dec_four_list (n : Nat) (h0 : 1000 <= n) (h1 : n <= 9999) : Lib.decDigits n = [UInt8.ofNat (48 + n / 1000), UInt8.ofNat (48 + n / 100 % 10), UInt8.ofNat (48 + n / 10 % 10), UInt8.ofNat (48 + n % 10)] := by
 rw [Lib.decDigits.eq_def, dif_neg (by omega), Lib.decDigits.eq_def, dif_neg (by omega), Lib.decDigits.eq_def, dif_neg (by omega), Lib.decDigits.eq_def, dif_pos (by omega)]
 rw [show n / 10 / 10 / 10 = n / 1000 by omega, show n / 10 / 10 = n / 100 by omega]
 rfl
theorem dg_of (k : Nat) (h : k < 10) : isDg (UInt8.ofNat (48 + k)) = true /\ (UInt8.ofNat (48 + k)).toNat - 48 = k := by
 have e : (UInt8.ofNat (48 + k)).toNat = 48 + k := ofNat_toNat7 _ (by omega)
 unfold isDg
 rw [e]
 exact ⟨by simp; omega, by omega⟩
theorem rd_back (y m d : Int) (h : dOk y m d = true) : rdOk (dateT y m d) = true /\ rY (dateT y m d) = y /\ rM (dateT y m d) = m /\ rD (dateT y m d) = d := by
 obtain ⟨c1, c2, c3, c4, c5, c6, c7⟩ := (dOk_iff _ _ _).1 h
 have hb := dIM_bd y m
 obtain ⟨Y, rfl⟩ := Int.eq_ofNat_of_zero_le (show 0 <= y by omega)
 obtain ⟨M, rfl⟩ := Int.eq_ofNat_of_zero_le (show 0 <= m by omega)
 obtain ⟨D, rfl⟩ := Int.eq_ofNat_of_zero_le (show 0 <= d by omega)
 have hl : (dateT Y M D).data.toList = [UInt8.ofNat (48 + Y / 1000), UInt8.ofNat (48 + Y / 100 % 10), UInt8.ofNat (48 + Y / 10 % 10), UInt8.ofNat (48 + Y % 10), 45, UInt8.ofNat (48 + M / 10), UInt8.ofNat (48 + M % 10), 45, UInt8.ofNat (48 + D / 10), UInt8.ofNat (48 + D % 10)] := by
  unfold dateT
  rw [if_pos h, dtB_list, Int.toNat_natCast, Int.toNat_natCast, Int.toNat_natCast, dec_four_list Y (by omega) (by omega)]
  rfl
 generalize dateT Y M D = s at hl ⊢
 have hs : s.size = 10 := by
  have : s.data.toList.length = 10 := by rw [hl]; rfl
  simpa using this
 have e1 : (s.extract 0 4).data.toList = _ := ext_part s _ 0 4 hl
 have e2 : (s.extract 5 7).data.toList = _ := ext_part s _ 5 7 hl
 have e3 : (s.extract 8 10).data.toList = _ := ext_part s _ 8 10 hl
 have k4 : byteAt7 s 4 = 45 := byte_list s _ 4 hl (by simp)
 have k7 : byteAt7 s 7 = 45 := byte_list s _ 7 hl (by simp)
 have g1 := dg_of (Y / 1000) (by omega)
 have g2 := dg_of (Y / 100 % 10) (by omega)
 have g3 := dg_of (Y / 10 % 10) (by omega)
 have g4 := dg_of (Y % 10) (by omega)
 have g5 := dg_of (M / 10) (by omega)
 have g6 := dg_of (M % 10) (by omega)
 have g7 := dg_of (D / 10) (by omega)
 have g8 := dg_of (D % 10) (by omega)
 have y1 : rY s = (Y : Int) := by
  unfold rY
  rw [dgI_list _ _ e1]
  simp only [List.take_succ_cons, List.take_zero, List.drop_zero, List.all_cons, List.all_nil, g1.1, g2.1, g3.1, g4.1, Bool.and_self, if_true]
  rw [val4, g1.2, g2.2, g3.2, g4.2]
  omega
 have m1 : rM s = (M : Int) := by
  unfold rM
  rw [dgI_list _ _ e2]
  simp only [List.take_succ_cons, List.take_zero, List.drop_succ_cons, List.drop_zero, List.all_cons, List.all_nil, g5.1, g6.1, Bool.and_self, if_true]
  rw [val2, g5.2, g6.2]
  omega
 have d1 : rD s = (D : Int) := by
  unfold rD
  rw [dgI_list _ _ e3]
  simp only [List.take_succ_cons, List.take_zero, List.drop_succ_cons, List.drop_zero, List.all_cons, List.all_nil, g7.1, g8.1, Bool.and_self, if_true]
  rw [val2, g7.2, g8.2]
  omega
 refine ⟨(rdOk_iff s).2 ⟨hs, k4, k7, by rw [y1, m1, d1]; exact h⟩, y1, m1, d1⟩
theorem rd_text (t : ByteArray) (h : rdOk t = true) : dateT (rY t) (rM t) (rD t) = t := by
 obtain ⟨hs, h4, h7, hok⟩ := (rdOk_iff t).1 h
 exact (rd_iff t hs).2 ⟨h4, h7, hok⟩
end Go.Proofs.YtffkakpbelknaaaGreatDoor
