/- Joined: W7k. -/
import Derived.Laws.ResultCell
import Derived.Test.YtffkakpbelknaaaGreatDoorF11
/- W7k -/
namespace Go.Proofs.YtffkakpbelknaaaGreatDoor
open Go.ChangeShapes Go.WideShapes Go.ChangeAt Go.RowKit
set_option linter.unusedVariables false

theorem results_date2 {fn : Func} {p u : Tmp} (h : fn.results = #[.cell p 74, .tmp u]) (tmps : Array Value) (w : World) (g : Nat) (y m d : Int) (v : Value)
    (hp : tmps.getD p undef = .pointer (some ⟨g, 0, none⟩)) (hu : tmps.getD u undef = v) (hA : DAt w g y m d) : (results fn tmps).run Tryz.prog w = .ok (.tuple #[dV y m d, v]) w := by
  rw [results_cell_tmp h, hp, hu]
  have := run_loadVar_row (P := Tryz.prog) w g _ 74 _ _ _ hA Tryz.underlying74 rfl Tryz.infD
  simp [asAddr, this, Result.andThen]
  rfl

/-- One of two operations can come up first. -/
theorem wpAnyT_two {P : Program} {md : Region.Mode} {Q : Exit → Act → World → Prop} {A B : World → Prop} {t : Nat} {l : List Oper} {L : Array Bool} {a : Act} {w : World} (i j g : Nat) {oi oj : Oper} (hr : Region.ready md l.toArray L = [i, j])
    (hoi : l[i]? = some oi) (hoj : l[j]? = some oj) (hwi : Region.wanted oi (yielded l.toArray a.tmps) = true) (hwj : Region.wanted oj (yielded l.toArray a.tmps) = true)
    (hi : ∀ K : Act → World → Prop, (∀ a w, Sx A B t (L.setIfInBounds i true) w → (Sx A B t (L.setIfInBounds i true) w → wpAnyT P md l.toArray Q A B t g (L.setIfInBounds i true) a w) → K a w) → oi.wp P a w K Q)
    (hj : ∀ K : Act → World → Prop, (∀ a w, Sx A B t (L.setIfInBounds j true) w → (Sx A B t (L.setIfInBounds j true) w → wpAnyT P md l.toArray Q A B t g (L.setIfInBounds j true) a w) → K a w) → oj.wp P a w K Q) : wpAnyT P md l.toArray Q A B t (g + 1) L a w := by
  refine ⟨fun h0 => (by rw [hr] at h0; cases h0), fun k hk => ?_⟩
  rw [hr] at hk
  have hk' : k = i ∨ k = j := by simpa using hk
  rcases hk' with rfl | rfl
  · unfold wpOp
    have ho' : l.toArray[k]? = some oi := by simpa using hoi
    simp only [ho']
    rw [if_pos hwi]
    exact .inl (hi _ (fun _ _ h1 h2 => ⟨h1, h2 h1⟩))
  · unfold wpOp
    have ho' : l.toArray[k]? = some oj := by simpa using hoj
    simp only [ho']
    rw [if_pos hwj]
    exact .inl (hj _ (fun _ _ h1 h2 => ⟨h1, h2 h1⟩))

/-- The parts of a date's text as numbers. -/
def rY (s : ByteArray) : Int := dgI (s.extract 0 4)
def rM (s : ByteArray) : Int := dgI (s.extract 5 7)
def rD (s : ByteArray) : Int := dgI (s.extract 8 10)
def byteAt7 (s : ByteArray) (k : Nat) : Nat := if h : k < s.size then s[k].toNat else 0
def rdOk (s : ByteArray) : Bool := decide (s.size = 10 ∧ byteAt7 s 4 = 45 ∧ byteAt7 s 7 = 45 ∧ dOk (rY s) (rM s) (rD s) = true)
/-- What ReadDate answers. -/
def rdV (s : ByteArray) : Value := if rdOk s = true then .tuple #[dV (rY s) (rM s) (rD s), .bool true] else .tuple #[dV 0 0 0, .bool false]
theorem rdV_not {s : ByteArray} (h : ¬ (s.size = 10 ∧ byteAt7 s 4 = 45 ∧ byteAt7 s 7 = 45 ∧ dOk (rY s) (rM s) (rD s) = true)) : rdV s = .tuple #[dV 0 0 0, .bool false] := by
  unfold rdV rdOk
  rw [decide_eq_false h]; rfl
theorem rdV_yes {s : ByteArray} (h : s.size = 10 ∧ byteAt7 s 4 = 45 ∧ byteAt7 s 7 = 45 ∧ dOk (rY s) (rM s) (rD s) = true) : rdV s = .tuple #[dV (rY s) (rM s) (rD s), .bool true] := by
  unfold rdV rdOk
  rw [decide_eq_true h]; rfl
theorem byteAt7_eq (s : ByteArray) (k : Nat) (h : k < s.size) : byteAt7 s k = s[k].toNat := dif_pos h

set_option maxRecDepth 100000 in
set_option maxHeartbeats 3000000 in
theorem implReadDate_any (s : ByteArray) (w : World) (hM : MTab w) :
    Calls Tryz.prog 84 #[.string s] w fun e w' => e = .returned (rdV s) ∧ Below w.heap.size w w' := by
  have HZ := Lib.hid (DAt.new w 0 0 0)
  have HB : Hid (∀ n, Below w.heap.size w ((w.alloc (dC 0 0 0)).drewN n)) := Lib.hid (fun n => below_drewN ((Below.refl _ _).alloc (Nat.le_refl _) _) n)
  have HM := Lib.hid hM
  by_cases c1 : s.size = 10
  · have i4 : (4 : Int) < (s.size : Int) := by omega
    have i7 : (7 : Int) < (s.size : Int) := by omega
    have b4 := byteAt7_eq s 4 (by omega)
    have b7 := byteAt7_eq s 7 (by omega)
    have hsI : (s.size : Int) = 10 := by omega
    by_cases c2 : s[4].toNat = 45
    · by_cases c3 : s[7].toNat = 45
      · have hn4 : ((s[4].toNat : Int) != (((⟨#[45]⟩ : ByteArray)[0]'(by decide)).toNat : Int)) = false := by show ((s[4].toNat : Int) != 45) = false; simp; omega
        have hn7 : ((s[7].toNat : Int) != (((⟨#[45]⟩ : ByteArray)[0]'(by decide)).toNat : Int)) = false := by show ((s[7].toNat : Int) != 45) = false; simp; omega
        have D1 := Lib.hid (fun w => digitsNumber_any (s.extract 0 4) w (by rw [ByteArray.size_extract]; omega))
        have D2 := Lib.hid (fun w => digitsNumber_any (s.extract 5 7) w (by rw [ByteArray.size_extract]; omega))
        have D3 := Lib.hid (fun w => digitsNumber_any (s.extract 8 10) w (by rw [ByteArray.size_extract]; omega))
        have HY : Hid (dOk (dgI (s.extract 0 4)) (dgI (s.extract 5 7)) (dgI (s.extract 8 10)) = true → rdV s = .tuple #[dV (dgI (s.extract 0 4)) (dgI (s.extract 5 7)) (dgI (s.extract 8 10)), .bool true]) := Lib.hid (fun h => rdV_yes ⟨c1, b4.trans c2, b7.trans c3, h⟩)
        have HN : Hid (dOk (dgI (s.extract 0 4)) (dgI (s.extract 5 7)) (dgI (s.extract 8 10)) = false → rdV s = .tuple #[dV 0 0 0, .bool false]) := Lib.hid (fun h => rdV_not (fun hx => by have := hx.2.2.2; unfold rY rM rD at this; rw [h] at this; cases this))
        generalize dgI (s.extract 0 4) = Y at D1 HY HN
        generalize dgI (s.extract 5 7) = M at D2 HY HN
        generalize dgI (s.extract 8 10) = D at D3 HY HN
        generalize rdV s = out at HY HN ⊢
        clear c2 c3 b4 b7 hM
        go_enter Tryz.func84, Tryz.ntmps84
        go_wp2
        go_quiet (fail)
        go_wp2
        refine wp_region_T (fun _ => True) (fun _ => True) 11 (by kernel_rfl) 12 rfl ?_
        refine wpAnyT_takesA (md := .any) 6 (by kernel_rfl) (by intro d v c a w h; cases d <;> exact h) [0, 1, 3, 4, 6, 7] _ _ _ (by decide) (by kernel_rfl) ⟨trivial, fun _ => trivial⟩ ?_
        simp only [pick, List.filterMap_cons, List.filterMap_nil, List.getElem?_cons_zero, List.getElem?_cons_succ]
        refine wpIf_step (.string s) (by kernel_rfl) (fun w hw => by go_simp) ?_
        refine wpIf_step (.string (s.extract 0 4)) (by kernel_rfl) (fun w hw => by go_simp) ?_
        refine wpIf_step (.string s) (by kernel_rfl) (fun w hw => by go_simp) ?_
        refine wpIf_step (.string (s.extract 5 7)) (by kernel_rfl) (fun w hw => by go_simp) ?_
        refine wpIf_step (.string s) (by kernel_rfl) (fun w hw => by go_simp) ?_
        refine wpIf_step (.string (s.extract 8 10)) (by kernel_rfl) (fun w hw => by go_simp) ?_
        refine wpIf_nil (fun _ => ?_)
        refine wpAnyT_two 2 10 5 (by kernel_rfl) rfl rfl (by kernel_rfl) (by kernel_rfl) (fun K hK => ?_) (fun K hK => ?_)
        · go_simp
          refine (D1.out _).mono ?_
          rintro e v1 ⟨rfl, rfl⟩
          refine hK _ _ ⟨trivial, fun _ => trivial⟩ (fun _ => ?_)
          clear hK K
          refine wpAnyT_two 5 10 4 (by kernel_rfl) rfl rfl (by kernel_rfl) (by kernel_rfl) (fun K hK => ?_) (fun K hK => ?_)
          · go_simp
            refine (D2.out _).mono ?_
            rintro e v1 ⟨rfl, rfl⟩
            refine hK _ _ ⟨trivial, fun _ => trivial⟩ (fun _ => ?_)
            clear hK K
            refine wpAnyT_two 8 10 3 (by kernel_rfl) rfl rfl (by kernel_rfl) (by kernel_rfl) (fun K hK => ?_) (fun K hK => ?_)
            · go_simp
              refine (D3.out _).mono ?_
              rintro e v1 ⟨rfl, rfl⟩
              refine hK _ _ ⟨trivial, fun _ => trivial⟩ (fun _ => ?_)
              clear hK K
              refine wpAnyT_takesA (md := .any) 2 (by kernel_rfl) (by intro d v c a w h; cases d <;> exact h) [9] _ _ _ (by decide) (by kernel_rfl) ⟨trivial, fun _ => trivial⟩ ?_
              simp only [pick, List.filterMap_cons, List.filterMap_nil, List.getElem?_cons_zero, List.getElem?_cons_succ]
              refine wpIf_step (dV Y M D) (by kernel_rfl) (fun w hw => by go_simp) ?_
              refine wpIf_nil (fun _ => ?_)
              refine wpAnyT_one 10 1 (by kernel_rfl) rfl (by kernel_rfl) (fun K hK => ?_)
              go_simp
              refine hK _ _ ⟨trivial, fun _ => trivial⟩ (fun _ => ?_)
              clear hK K
              refine wpAnyT_one 11 0 (by kernel_rfl) rfl (by kernel_rfl) (fun K hK => ?_)
              go_simp
              refine hK _ _ ⟨trivial, fun _ => trivial⟩ (fun _ => ?_)
              clear hK K
              refine wpAnyT_over (by kernel_rfl) ?_
              have hA := DAt.new ((w.alloc (dC 0 0 0)).drewN (nq + 1)) Y M D
              have hZ1 : DAt (((w.alloc (dC 0 0 0)).drewN (nq + 1)).alloc (dC Y M D)) w.heap.size 0 0 0 := DAt.alloc (w := (w.alloc (dC 0 0 0)).drewN (nq + 1)) HZ.out (dC Y M D)
              have hB1 := (HB.out (nq + 1)).alloc (by simp) (dC Y M D)
              rw [show ((w.alloc (dC 0 0 0)).drewN (nq + 1)).heap.size = w.heap.size + 1 by simp] at hA
              have HM1 := Lib.hid (HM.out.below hB1 (Nat.le_refl _))
              change Exit.then _ _ _ _ (((w.alloc (dC 0 0 0)).drewN (nq + 1)).alloc (dC Y M D))
              generalize ((w.alloc (dC 0 0 0)).drewN (nq + 1)).alloc (dC Y M D) = V at hA hZ1 hB1 HM1 ⊢
              have HC := Lib.hid (implDateOk_any Y M D V HM1.out)
              have a0 := hA.c0
              have a1 := hA.c1
              have a2 := hA.c2
              go_wp2_with fail
              refine HC.out.mono ?_
              rintro e w2 ⟨rfl, hb2⟩
              have hA2 := hA.keep hb2 (Nat.le_refl _)
              have hZ2 := hZ1.keep hb2 (Nat.le_refl _)
              have hB2 := hB1.trans (hb2.mono hB1.size)
              have d0 := hA2.c0
              have d1 := hA2.c1
              have d2 := hA2.c2
              have z0 := hZ2.c0
              have z1 := hZ2.c1
              have z2 := hZ2.c2
              have g0 := hZ2.frozen 0
              have g1 := hZ2.frozen 1
              have g2 := hZ2.frozen 2
              cases hc : dOk Y M D with
              | true =>
                have HV := Lib.hid (HY.out hc)
                have HF := Lib.hid (((hZ2.s0 Y).s1 M).s2 D)
                have HBF := Lib.hid (((hB2.setCell (p := ⟨w.heap.size, 0, none⟩) (Nat.le_refl _) (.int .i64 Y)).setCell (p := ⟨w.heap.size, 1, none⟩) (Nat.le_refl _) (.int .i64 M)).setCell (p := ⟨w.heap.size, 2, none⟩) (Nat.le_refl _) (.int .i64 D))
                clear hA hA2 hZ1 hZ2 hB1 hB2 hb2 a0 a1 a2 hc
                go_wp2
                refine bodyPost_ret (results_date2 rfl _ _ _ _ _ _ _ rfl rfl HF.out) rfl ?_
                exact ⟨by rw [HV.out]; rfl, HBF.out⟩
              | false =>
                have HV := Lib.hid (HN.out hc)
                have HF := Lib.hid (((hZ2.s0 0).s1 0).s2 0)
                have HBF := Lib.hid (((hB2.setCell (p := ⟨w.heap.size, 0, none⟩) (Nat.le_refl _) (.int .i64 0)).setCell (p := ⟨w.heap.size, 1, none⟩) (Nat.le_refl _) (.int .i64 0)).setCell (p := ⟨w.heap.size, 2, none⟩) (Nat.le_refl _) (.int .i64 0))
                clear hA hA2 hZ1 hZ2 hB1 hB2 hb2 a0 a1 a2 hc
                go_wp2
                refine bodyPost_ret (results_date2 rfl _ _ _ _ _ _ _ rfl rfl HF.out) rfl ?_
                exact ⟨by rw [HV.out]; rfl, HBF.out⟩
            · go_simp
              refine hK _ _ ⟨trivial, fun _ => trivial⟩ (fun _ => ?_)
              clear hK K
              refine wpAnyT_one 8 2 (by kernel_rfl) rfl (by kernel_rfl) (fun K hK => ?_)
              go_simp
              refine (D3.out _).mono ?_
              rintro e v1 ⟨rfl, rfl⟩
              refine hK _ _ ⟨trivial, fun _ => trivial⟩ (fun _ => ?_)
              clear hK K
              refine wpAnyT_takesA (md := .any) 1 (by kernel_rfl) (by intro d v c a w h; cases d <;> exact h) [9] _ _ _ (by decide) (by kernel_rfl) ⟨trivial, fun _ => trivial⟩ ?_
              simp only [pick, List.filterMap_cons, List.filterMap_nil, List.getElem?_cons_zero, List.getElem?_cons_succ]
              refine wpIf_step (dV Y M D) (by kernel_rfl) (fun w hw => by go_simp) ?_
              refine wpIf_nil (fun _ => ?_)
              refine wpAnyT_one 11 0 (by kernel_rfl) rfl (by kernel_rfl) (fun K hK => ?_)
              go_simp
              refine hK _ _ ⟨trivial, fun _ => trivial⟩ (fun _ => ?_)
              clear hK K
              refine wpAnyT_over (by kernel_rfl) ?_
              have hA := DAt.new ((w.alloc (dC 0 0 0)).drewN (nq + 1)) Y M D
              have hZ1 : DAt (((w.alloc (dC 0 0 0)).drewN (nq + 1)).alloc (dC Y M D)) w.heap.size 0 0 0 := DAt.alloc (w := (w.alloc (dC 0 0 0)).drewN (nq + 1)) HZ.out (dC Y M D)
              have hB1 := (HB.out (nq + 1)).alloc (by simp) (dC Y M D)
              rw [show ((w.alloc (dC 0 0 0)).drewN (nq + 1)).heap.size = w.heap.size + 1 by simp] at hA
              have HM1 := Lib.hid (HM.out.below hB1 (Nat.le_refl _))
              change Exit.then _ _ _ _ (((w.alloc (dC 0 0 0)).drewN (nq + 1)).alloc (dC Y M D))
              generalize ((w.alloc (dC 0 0 0)).drewN (nq + 1)).alloc (dC Y M D) = V at hA hZ1 hB1 HM1 ⊢
              have HC := Lib.hid (implDateOk_any Y M D V HM1.out)
              have a0 := hA.c0
              have a1 := hA.c1
              have a2 := hA.c2
              go_wp2_with fail
              refine HC.out.mono ?_
              rintro e w2 ⟨rfl, hb2⟩
              have hA2 := hA.keep hb2 (Nat.le_refl _)
              have hZ2 := hZ1.keep hb2 (Nat.le_refl _)
              have hB2 := hB1.trans (hb2.mono hB1.size)
              have d0 := hA2.c0
              have d1 := hA2.c1
              have d2 := hA2.c2
              have z0 := hZ2.c0
              have z1 := hZ2.c1
              have z2 := hZ2.c2
              have g0 := hZ2.frozen 0
              have g1 := hZ2.frozen 1
              have g2 := hZ2.frozen 2
              cases hc : dOk Y M D with
              | true =>
                have HV := Lib.hid (HY.out hc)
                have HF := Lib.hid (((hZ2.s0 Y).s1 M).s2 D)
                have HBF := Lib.hid (((hB2.setCell (p := ⟨w.heap.size, 0, none⟩) (Nat.le_refl _) (.int .i64 Y)).setCell (p := ⟨w.heap.size, 1, none⟩) (Nat.le_refl _) (.int .i64 M)).setCell (p := ⟨w.heap.size, 2, none⟩) (Nat.le_refl _) (.int .i64 D))
                clear hA hA2 hZ1 hZ2 hB1 hB2 hb2 a0 a1 a2 hc
                go_wp2
                refine bodyPost_ret (results_date2 rfl _ _ _ _ _ _ _ rfl rfl HF.out) rfl ?_
                exact ⟨by rw [HV.out]; rfl, HBF.out⟩
              | false =>
                have HV := Lib.hid (HN.out hc)
                have HF := Lib.hid (((hZ2.s0 0).s1 0).s2 0)
                have HBF := Lib.hid (((hB2.setCell (p := ⟨w.heap.size, 0, none⟩) (Nat.le_refl _) (.int .i64 0)).setCell (p := ⟨w.heap.size, 1, none⟩) (Nat.le_refl _) (.int .i64 0)).setCell (p := ⟨w.heap.size, 2, none⟩) (Nat.le_refl _) (.int .i64 0))
                clear hA hA2 hZ1 hZ2 hB1 hB2 hb2 a0 a1 a2 hc
                go_wp2
                refine bodyPost_ret (results_date2 rfl _ _ _ _ _ _ _ rfl rfl HF.out) rfl ?_
                exact ⟨by rw [HV.out]; rfl, HBF.out⟩
          · go_simp
            refine hK _ _ ⟨trivial, fun _ => trivial⟩ (fun _ => ?_)
            clear hK K
            refine wpAnyT_one 5 3 (by kernel_rfl) rfl (by kernel_rfl) (fun K hK => ?_)
            go_simp
            refine (D2.out _).mono ?_
            rintro e v1 ⟨rfl, rfl⟩
            refine hK _ _ ⟨trivial, fun _ => trivial⟩ (fun _ => ?_)
            clear hK K
            refine wpAnyT_one 8 2 (by kernel_rfl) rfl (by kernel_rfl) (fun K hK => ?_)
            go_simp
            refine (D3.out _).mono ?_
            rintro e v1 ⟨rfl, rfl⟩
            refine hK _ _ ⟨trivial, fun _ => trivial⟩ (fun _ => ?_)
            clear hK K
            refine wpAnyT_takesA (md := .any) 1 (by kernel_rfl) (by intro d v c a w h; cases d <;> exact h) [9] _ _ _ (by decide) (by kernel_rfl) ⟨trivial, fun _ => trivial⟩ ?_
            simp only [pick, List.filterMap_cons, List.filterMap_nil, List.getElem?_cons_zero, List.getElem?_cons_succ]
            refine wpIf_step (dV Y M D) (by kernel_rfl) (fun w hw => by go_simp) ?_
            refine wpIf_nil (fun _ => ?_)
            refine wpAnyT_one 11 0 (by kernel_rfl) rfl (by kernel_rfl) (fun K hK => ?_)
            go_simp
            refine hK _ _ ⟨trivial, fun _ => trivial⟩ (fun _ => ?_)
            clear hK K
            refine wpAnyT_over (by kernel_rfl) ?_
            have hA := DAt.new ((w.alloc (dC 0 0 0)).drewN (nq + 1)) Y M D
            have hZ1 : DAt (((w.alloc (dC 0 0 0)).drewN (nq + 1)).alloc (dC Y M D)) w.heap.size 0 0 0 := DAt.alloc (w := (w.alloc (dC 0 0 0)).drewN (nq + 1)) HZ.out (dC Y M D)
            have hB1 := (HB.out (nq + 1)).alloc (by simp) (dC Y M D)
            rw [show ((w.alloc (dC 0 0 0)).drewN (nq + 1)).heap.size = w.heap.size + 1 by simp] at hA
            have HM1 := Lib.hid (HM.out.below hB1 (Nat.le_refl _))
            change Exit.then _ _ _ _ (((w.alloc (dC 0 0 0)).drewN (nq + 1)).alloc (dC Y M D))
            generalize ((w.alloc (dC 0 0 0)).drewN (nq + 1)).alloc (dC Y M D) = V at hA hZ1 hB1 HM1 ⊢
            have HC := Lib.hid (implDateOk_any Y M D V HM1.out)
            have a0 := hA.c0
            have a1 := hA.c1
            have a2 := hA.c2
            go_wp2_with fail
            refine HC.out.mono ?_
            rintro e w2 ⟨rfl, hb2⟩
            have hA2 := hA.keep hb2 (Nat.le_refl _)
            have hZ2 := hZ1.keep hb2 (Nat.le_refl _)
            have hB2 := hB1.trans (hb2.mono hB1.size)
            have d0 := hA2.c0
            have d1 := hA2.c1
            have d2 := hA2.c2
            have z0 := hZ2.c0
            have z1 := hZ2.c1
            have z2 := hZ2.c2
            have g0 := hZ2.frozen 0
            have g1 := hZ2.frozen 1
            have g2 := hZ2.frozen 2
            cases hc : dOk Y M D with
            | true =>
              have HV := Lib.hid (HY.out hc)
              have HF := Lib.hid (((hZ2.s0 Y).s1 M).s2 D)
              have HBF := Lib.hid (((hB2.setCell (p := ⟨w.heap.size, 0, none⟩) (Nat.le_refl _) (.int .i64 Y)).setCell (p := ⟨w.heap.size, 1, none⟩) (Nat.le_refl _) (.int .i64 M)).setCell (p := ⟨w.heap.size, 2, none⟩) (Nat.le_refl _) (.int .i64 D))
              clear hA hA2 hZ1 hZ2 hB1 hB2 hb2 a0 a1 a2 hc
              go_wp2
              refine bodyPost_ret (results_date2 rfl _ _ _ _ _ _ _ rfl rfl HF.out) rfl ?_
              exact ⟨by rw [HV.out]; rfl, HBF.out⟩
            | false =>
              have HV := Lib.hid (HN.out hc)
              have HF := Lib.hid (((hZ2.s0 0).s1 0).s2 0)
              have HBF := Lib.hid (((hB2.setCell (p := ⟨w.heap.size, 0, none⟩) (Nat.le_refl _) (.int .i64 0)).setCell (p := ⟨w.heap.size, 1, none⟩) (Nat.le_refl _) (.int .i64 0)).setCell (p := ⟨w.heap.size, 2, none⟩) (Nat.le_refl _) (.int .i64 0))
              clear hA hA2 hZ1 hZ2 hB1 hB2 hb2 a0 a1 a2 hc
              go_wp2
              refine bodyPost_ret (results_date2 rfl _ _ _ _ _ _ _ rfl rfl HF.out) rfl ?_
              exact ⟨by rw [HV.out]; rfl, HBF.out⟩
        · go_simp
          refine hK _ _ ⟨trivial, fun _ => trivial⟩ (fun _ => ?_)
          clear hK K
          refine wpAnyT_one 2 4 (by kernel_rfl) rfl (by kernel_rfl) (fun K hK => ?_)
          go_simp
          refine (D1.out _).mono ?_
          rintro e v1 ⟨rfl, rfl⟩
          refine hK _ _ ⟨trivial, fun _ => trivial⟩ (fun _ => ?_)
          clear hK K
          refine wpAnyT_one 5 3 (by kernel_rfl) rfl (by kernel_rfl) (fun K hK => ?_)
          go_simp
          refine (D2.out _).mono ?_
          rintro e v1 ⟨rfl, rfl⟩
          refine hK _ _ ⟨trivial, fun _ => trivial⟩ (fun _ => ?_)
          clear hK K
          refine wpAnyT_one 8 2 (by kernel_rfl) rfl (by kernel_rfl) (fun K hK => ?_)
          go_simp
          refine (D3.out _).mono ?_
          rintro e v1 ⟨rfl, rfl⟩
          refine hK _ _ ⟨trivial, fun _ => trivial⟩ (fun _ => ?_)
          clear hK K
          refine wpAnyT_takesA (md := .any) 1 (by kernel_rfl) (by intro d v c a w h; cases d <;> exact h) [9] _ _ _ (by decide) (by kernel_rfl) ⟨trivial, fun _ => trivial⟩ ?_
          simp only [pick, List.filterMap_cons, List.filterMap_nil, List.getElem?_cons_zero, List.getElem?_cons_succ]
          refine wpIf_step (dV Y M D) (by kernel_rfl) (fun w hw => by go_simp) ?_
          refine wpIf_nil (fun _ => ?_)
          refine wpAnyT_one 11 0 (by kernel_rfl) rfl (by kernel_rfl) (fun K hK => ?_)
          go_simp
          refine hK _ _ ⟨trivial, fun _ => trivial⟩ (fun _ => ?_)
          clear hK K
          refine wpAnyT_over (by kernel_rfl) ?_
          have hA := DAt.new ((w.alloc (dC 0 0 0)).drewN (nq + 1)) Y M D
          have hZ1 : DAt (((w.alloc (dC 0 0 0)).drewN (nq + 1)).alloc (dC Y M D)) w.heap.size 0 0 0 := DAt.alloc (w := (w.alloc (dC 0 0 0)).drewN (nq + 1)) HZ.out (dC Y M D)
          have hB1 := (HB.out (nq + 1)).alloc (by simp) (dC Y M D)
          rw [show ((w.alloc (dC 0 0 0)).drewN (nq + 1)).heap.size = w.heap.size + 1 by simp] at hA
          have HM1 := Lib.hid (HM.out.below hB1 (Nat.le_refl _))
          change Exit.then _ _ _ _ (((w.alloc (dC 0 0 0)).drewN (nq + 1)).alloc (dC Y M D))
          generalize ((w.alloc (dC 0 0 0)).drewN (nq + 1)).alloc (dC Y M D) = V at hA hZ1 hB1 HM1 ⊢
          have HC := Lib.hid (implDateOk_any Y M D V HM1.out)
          have a0 := hA.c0
          have a1 := hA.c1
          have a2 := hA.c2
          go_wp2_with fail
          refine HC.out.mono ?_
          rintro e w2 ⟨rfl, hb2⟩
          have hA2 := hA.keep hb2 (Nat.le_refl _)
          have hZ2 := hZ1.keep hb2 (Nat.le_refl _)
          have hB2 := hB1.trans (hb2.mono hB1.size)
          have d0 := hA2.c0
          have d1 := hA2.c1
          have d2 := hA2.c2
          have z0 := hZ2.c0
          have z1 := hZ2.c1
          have z2 := hZ2.c2
          have g0 := hZ2.frozen 0
          have g1 := hZ2.frozen 1
          have g2 := hZ2.frozen 2
          cases hc : dOk Y M D with
          | true =>
            have HV := Lib.hid (HY.out hc)
            have HF := Lib.hid (((hZ2.s0 Y).s1 M).s2 D)
            have HBF := Lib.hid (((hB2.setCell (p := ⟨w.heap.size, 0, none⟩) (Nat.le_refl _) (.int .i64 Y)).setCell (p := ⟨w.heap.size, 1, none⟩) (Nat.le_refl _) (.int .i64 M)).setCell (p := ⟨w.heap.size, 2, none⟩) (Nat.le_refl _) (.int .i64 D))
            clear hA hA2 hZ1 hZ2 hB1 hB2 hb2 a0 a1 a2 hc
            go_wp2
            refine bodyPost_ret (results_date2 rfl _ _ _ _ _ _ _ rfl rfl HF.out) rfl ?_
            exact ⟨by rw [HV.out]; rfl, HBF.out⟩
          | false =>
            have HV := Lib.hid (HN.out hc)
            have HF := Lib.hid (((hZ2.s0 0).s1 0).s2 0)
            have HBF := Lib.hid (((hB2.setCell (p := ⟨w.heap.size, 0, none⟩) (Nat.le_refl _) (.int .i64 0)).setCell (p := ⟨w.heap.size, 1, none⟩) (Nat.le_refl _) (.int .i64 0)).setCell (p := ⟨w.heap.size, 2, none⟩) (Nat.le_refl _) (.int .i64 0))
            clear hA hA2 hZ1 hZ2 hB1 hB2 hb2 a0 a1 a2 hc
            go_wp2
            refine bodyPost_ret (results_date2 rfl _ _ _ _ _ _ _ rfl rfl HF.out) rfl ?_
            exact ⟨by rw [HV.out]; rfl, HBF.out⟩
      · have HE := Lib.hid (rdV_not (s := s) (fun h => c3 (b7 ▸ h.2.2.1)))
        rw [HE.out]
        have hn4 : ((s[4].toNat : Int) != (((⟨#[45]⟩ : ByteArray)[0]'(by decide)).toNat : Int)) = false := by show ((s[4].toNat : Int) != 45) = false; simp; omega
        have hn7 : ((s[7].toNat : Int) != (((⟨#[45]⟩ : ByteArray)[0]'(by decide)).toNat : Int)) = true := by show ((s[7].toNat : Int) != 45) = true; simp; omega
        clear c2 c3 b4 b7 HE hM
        go_enter Tryz.func84, Tryz.ntmps84
        go_wp2
        go_quiet (fail)
        go_wp2
        have hF : DAt ((w.alloc (dC 0 0 0)).drewN nq) w.heap.size 0 0 0 := HZ.out
        have hBF := (((HB.out nq).setCell (p := ⟨w.heap.size, 0, none⟩) (Nat.le_refl _) (.int .i64 0)).setCell (p := ⟨w.heap.size, 1, none⟩) (Nat.le_refl _) (.int .i64 0)).setCell (p := ⟨w.heap.size, 2, none⟩) (Nat.le_refl _) (.int .i64 0)
        refine bodyPost_ret (results_date2 rfl _ _ _ _ _ _ _ rfl rfl (((hF.s0 0).s1 0).s2 0)) rfl ?_
        exact ⟨rfl, hBF⟩
    · have HE := Lib.hid (rdV_not (s := s) (fun h => c2 (b4 ▸ h.2.1)))
      rw [HE.out]
      have hn4 : ((s[4].toNat : Int) != (((⟨#[45]⟩ : ByteArray)[0]'(by decide)).toNat : Int)) = true := by show ((s[4].toNat : Int) != 45) = true; simp; omega
      clear c2 b4 b7 HE hM
      go_enter Tryz.func84, Tryz.ntmps84
      go_wp2
      go_quiet (fail)
      go_wp2
      have hF : DAt ((w.alloc (dC 0 0 0)).drewN nq) w.heap.size 0 0 0 := HZ.out
      have hBF := (((HB.out nq).setCell (p := ⟨w.heap.size, 0, none⟩) (Nat.le_refl _) (.int .i64 0)).setCell (p := ⟨w.heap.size, 1, none⟩) (Nat.le_refl _) (.int .i64 0)).setCell (p := ⟨w.heap.size, 2, none⟩) (Nat.le_refl _) (.int .i64 0)
      refine bodyPost_ret (results_date2 rfl _ _ _ _ _ _ _ rfl rfl (((hF.s0 0).s1 0).s2 0)) rfl ?_
      exact ⟨rfl, hBF⟩
  · have HE := Lib.hid (rdV_not (s := s) (fun h => c1 h.1))
    rw [HE.out]
    have hn : ((s.size : Int) != 10) = true := by simp; omega
    clear HE hM
    go_enter Tryz.func84, Tryz.ntmps84
    go_wp2
    go_quiet (fail)
    go_wp2
    have hF : DAt ((w.alloc (dC 0 0 0)).drewN nq) w.heap.size 0 0 0 := HZ.out
    have hBF := (((HB.out nq).setCell (p := ⟨w.heap.size, 0, none⟩) (Nat.le_refl _) (.int .i64 0)).setCell (p := ⟨w.heap.size, 1, none⟩) (Nat.le_refl _) (.int .i64 0)).setCell (p := ⟨w.heap.size, 2, none⟩) (Nat.le_refl _) (.int .i64 0)
    refine bodyPost_ret (results_date2 rfl _ _ _ _ _ _ _ rfl rfl (((hF.s0 0).s1 0).s2 0)) rfl ?_
    exact ⟨rfl, hBF⟩
end Go.Proofs.YtffkakpbelknaaaGreatDoor
