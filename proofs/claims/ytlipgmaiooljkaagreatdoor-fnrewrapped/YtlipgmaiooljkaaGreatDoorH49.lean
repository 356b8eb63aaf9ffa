/- Joined: W17c, W17d. -/
import Derived.Test.YtlipgmaiooljkaaGreatDoorH43
import Derived.Test.YtlipgmaiooljkaaGreatDoorH48
/- W17c -/
namespace Go.Proofs.YtlipgmaiooljkaaGreatDoor
open Go.ChangeShapes Go.WideShapes Go.ChangeAt Go.RowKit
set_option linter.unusedVariables false
set_option linter.unusedSimpArgs false

set_option maxRecDepth 100000 in
set_option maxHeartbeats 3000000 in
theorem specSlotOf_any (pass sa : ByteArray) (ro : Int) (no key : ByteArray) (w : World) (z0 : pass.size ≤ 1048576) (z1 : sa.size ≤ 1048576) (z2 : no.size ≤ 1048576) (z3 : key.size ≤ 1048576) (hro : (Lit.int .i64 ro).wf = true) :
    Calls Tryz.prog 8 #[.string pass, .string sa, .int .i64 ro, .string no, .string key] w fun e w' => e = .returned (.tuple #[slV (soV pass sa ro no key), .bool (soO pass sa ro no key)]) ∧ Below w.heap.size w w' := by
  have HL := Lib.hid (fun w => l1In_any ro 1 50 w)
  have HT := Lib.hid (fun h => soV_true (pass := pass) (sa := sa) (ro := ro) (no := no) (key := key) h)
  have HN := Lib.hid (fun h => soV_false (pass := pass) (sa := sa) (ro := ro) (no := no) (key := key) h)
  have HE : Hid (soO pass sa ro no key = (decide (pass.size ≤ 100) && decide (sa.size = 16 ∧ 1 ≤ ro ∧ ro ≤ 50 ∧ no.size = 12) && decide (key.size = 32))) := Lib.hid rfl
  have HS := Lib.hid (fun w => specStretched_any pass sa ro w (by unfold maxLen; omega) (by unfold maxLen; omega) hro)
  have HZ := Lib.hid (fun h1 h2 h3 h4 => srR_size (pass := pass) (sa := sa) (ro := ro) h1 h2 h3 h4)
  have HB := Lib.hid (fun w h1 h2 => l17With_any sa ro w z1 h1 h2)
  have HD : Hid (soD pass sa ro no key = ⟨sa, ro, no, sealB (srR pass sa ro) no (bkT sa ro) key⟩) := Lib.hid rfl
  have HBz := Lib.hid (bkT_size sa ro)
  generalize soV pass sa ro no key = V at HT HN ⊢
  generalize soD pass sa ro no key = D at HT HD
  generalize soO pass sa ro no key = O at HT HN HE ⊢
  generalize srR pass sa ro = R at HS HZ HD
  generalize bkT sa ro = BK at HB HD HBz
  have hr := Box.new w sl0C 23
  have hB0 : Below w.heap.size w (w.alloc (.cells sl0C 23)) := (Below.refl _ _).alloc (Nat.le_refl _) _
  have hCt : 1 ≤ ro → ro ≤ 50 → (decide (1 ≤ ro) && decide (ro ≤ 50)) = true := by intro h1 h2; simp; omega
  have hCf : ¬ (1 ≤ ro ∧ ro ≤ 50) → (decide (1 ≤ ro) && decide (ro ≤ 50)) = false := by intro h; simp; omega
  have HCt := Lib.hid hCt
  have HCf := Lib.hid hCf
  generalize (decide (1 ≤ ro) && decide (ro ≤ 50)) = C at HL HCt HCf
  clear hCt hCf hro
  by_cases h1 : pass.size ≤ 100
  case neg =>
    have hO := Lib.hid (show O = false by rw [HE.out]; simp; omega)
    go_enter Tryz.func8, Tryz.ntmps8
    go_wp2
    refine bodyPost_ret (results_sl2 rfl _ _ w.heap.size sl0C _ rfl rfl rfl hr) rfl ?_
    exact ⟨by rw [HN.out hO.out, hO.out]; rfl, hB0⟩
  by_cases h2 : sa.size = 16
  case neg =>
    have hO := Lib.hid (show O = false by rw [HE.out]; simp; omega)
    have hd : ((sa.size : Int) != 16) = true := by simp; omega
    go_enter Tryz.func8, Tryz.ntmps8
    go_wp2
    refine bodyPost_ret (results_sl2 rfl _ _ w.heap.size sl0C _ rfl rfl rfl hr) rfl ?_
    exact ⟨by rw [HN.out hO.out, hO.out]; rfl, hB0⟩
  have eh2 : ((sa.size : Int) != 16) = false := by simp; omega
  by_cases h3 : 1 ≤ ro ∧ ro ≤ 50
  case neg =>
    have hO := Lib.hid (show O = false by rw [HE.out]; simp; omega)
    obtain rfl := HCf.out h3
    go_enter Tryz.func8, Tryz.ntmps8
    go_wp2_with fail
    refine (HL.out _).mono ?_
    rintro e w1 ⟨rfl, rfl⟩
    go_wp2
    refine bodyPost_ret (results_sl2 rfl _ _ w.heap.size sl0C _ rfl rfl rfl hr) rfl ?_
    exact ⟨by rw [HN.out hO.out, hO.out]; rfl, hB0⟩
  by_cases h4 : no.size = 12
  case neg =>
    have hO := Lib.hid (show O = false by rw [HE.out]; simp; omega)
    have hd : ((no.size : Int) != 12) = true := by simp; omega
    obtain rfl := HCt.out h3.1 h3.2
    go_enter Tryz.func8, Tryz.ntmps8
    go_wp2_with fail
    refine (HL.out _).mono ?_
    rintro e w1 ⟨rfl, rfl⟩
    go_wp2
    refine bodyPost_ret (results_sl2 rfl _ _ w.heap.size sl0C _ rfl rfl rfl hr) rfl ?_
    exact ⟨by rw [HN.out hO.out, hO.out]; rfl, hB0⟩
  have eh4 : ((no.size : Int) != 12) = false := by simp; omega
  by_cases h5 : key.size = 32
  case neg =>
    have hO := Lib.hid (show O = false by rw [HE.out]; simp; omega)
    have hd : ((key.size : Int) != 32) = true := by simp; omega
    obtain rfl := HCt.out h3.1 h3.2
    go_enter Tryz.func8, Tryz.ntmps8
    go_wp2_with fail
    refine (HL.out _).mono ?_
    rintro e w1 ⟨rfl, rfl⟩
    go_wp2
    refine bodyPost_ret (results_sl2 rfl _ _ w.heap.size sl0C _ rfl rfl rfl hr) rfl ?_
    exact ⟨by rw [HN.out hO.out, hO.out]; rfl, hB0⟩
  have eh5 : ((key.size : Int) != 32) = false := by simp; omega
  have hO := Lib.hid (show O = true by rw [HE.out]; simp; omega)
  have hDD := Lib.hid (HT.out hO.out)
  obtain rfl := HCt.out h3.1 h3.2
  obtain ⟨i2, i3⟩ := h3
  have hRz := HZ.out (by omega) (by omega) i2 i3
  have HSL := Lib.hid (fun w => l4Seal_any R no BK key w hRz h4 (by rw [HBz.out]; omega) (by omega))
  generalize sealB R no BK key = SB at HSL HD
  have HB2 := Lib.hid (fun w => HB.out w i2 i3)
  clear HT HN HE HZ HBz HB hRz h2 h4 h5 HCt HCf
  generalize hW : w.alloc (.cells sl0C 23) = W0 at hr hB0
  go_enter Tryz.func8, Tryz.ntmps8
  go_wp2_with fail
  refine (HL.out _).mono ?_
  rintro e w1 ⟨rfl, rfl⟩
  go_wp2_with fail
  clear hW
  refine (HS.out _).mono ?_
  rintro e w2 ⟨rfl, hb2⟩
  replace hr := hr.keep hb2 hr.lt
  replace hB0 := hB0.trans (hb2.mono hB0.size)
  clear hb2
  go_wp2_with fail
  refine (HB2.out _).mono ?_
  rintro e w3 ⟨rfl, hb3⟩
  replace hr := hr.keep hb3 hr.lt
  replace hB0 := hB0.trans (hb3.mono hB0.size)
  clear hb3
  go_wp2_with fail
  refine (HSL.out _).mono ?_
  rintro e w4 ⟨rfl, hb4⟩
  replace hr := hr.keep hb4 hr.lt
  replace hB0 := hB0.trans (hb4.mono hB0.size)
  clear hb4
  have r0 := hr.cell 0 _ rfl
  have r1 := hr.cell 1 _ rfl
  have r2 := hr.cell 2 _ rfl
  have r3 := hr.cell 3 _ rfl
  have g0 := hr.free 0
  have g1 := hr.free 1
  have g2 := hr.free 2
  have g3 := hr.free 3
  go_wp2
  refine bodyPost_ret (results_sl2 rfl _ _ _ _ _ rfl rfl rfl (hr.put4 rfl _ _ _ _)) rfl ?_
  exact ⟨by rw [hDD.out, hO.out, HD.out]; rfl, hB0.trans (below4 _ _ _ (Nat.le_refl _) _ _ _ _)⟩

set_option maxRecDepth 100000 in
set_option maxHeartbeats 3000000 in
theorem implKeyIn_any (s : SlotD) (pass : ByteArray) (w : World) (gt : TypeId) (gx : Value) (hz : SlSz s) (z0 : pass.size ≤ 1048576) (hF : FTab w) (hK : KTab w) (hg : Gives w gt gx) :
    Calls Tryz.prog 14 #[slV s, .string pass] w fun e w' => e = .returned (.tuple #[.string (kiT s pass), .bool (kiO s pass)]) ∧ Below w.heap.size w w' := by
  have HF := Lib.hid hF
  have HK := Lib.hid hK
  have HG := Lib.hid hg
  clear hF hK hg
  have HP := Lib.hid (fun w => slotOk_any s w hz)
  obtain ⟨sa, ro, no, bx⟩ := s
  obtain ⟨z1, z2, z3, hro⟩ := hz
  dsimp only at z1 z2 z3 hro HP
  have HI : Hid (skB ⟨sa, ro, no, bx⟩ = true → sa.size = 16 ∧ 1 ≤ ro ∧ ro ≤ 50 ∧ no.size = 12 ∧ bx.size = 48) := Lib.hid (fun h => by unfold skB spB at h; simp at h; omega)
  have HE : Hid (kiO ⟨sa, ro, no, bx⟩ pass = (skB ⟨sa, ro, no, bx⟩ && decide (pass.size ≤ 100) && opOk (srR pass sa ro) no (bkT sa ro) bx)) := Lib.hid rfl
  have HV : Hid (kiT ⟨sa, ro, no, bx⟩ pass = if (skB ⟨sa, ro, no, bx⟩ && decide (pass.size ≤ 100)) = true then opT (srR pass sa ro) no (bkT sa ro) bx else ⟨#[]⟩) := Lib.hid rfl
  generalize kiT ⟨sa, ro, no, bx⟩ pass = T at HV ⊢
  generalize kiO ⟨sa, ro, no, bx⟩ pass = O at HE ⊢
  generalize skB ⟨sa, ro, no, bx⟩ = A at HP HI HE HV
  have HS := Lib.hid (fun w h1 h2 => implStretched_any pass sa ro w (by unfold maxLen; omega) (by unfold maxLen; omega) hro h1 h2)
  have HB := Lib.hid (fun w h1 h2 => besideKey_any ⟨sa, ro, no, bx⟩ w z1 h1 h2)
  dsimp only at HB
  have HZ := Lib.hid (fun h1 h2 h3 h4 => srR_size (pass := pass) (sa := sa) (ro := ro) h1 h2 h3 h4)
  have HBz := Lib.hid (bkT_size sa ro)
  generalize srR pass sa ro = R at HS HZ HE HV
  generalize bkT sa ro = BK at HB HBz HE HV
  have hx := Box.new w #[.string sa, .int .i64 ro, .string no, .string bx] 23
  have hB0 : Below w.heap.size w (w.alloc (.cells #[.string sa, .int .i64 ro, .string no, .string bx] 23)) := (Below.refl _ _).alloc (Nat.le_refl _) _
  go_enter Tryz.func14, Tryz.ntmps14
  go_wp2_with fail
  generalize w.alloc (.cells #[.string sa, .int .i64 ro, .string no, .string bx] 23) = W0 at hx hB0 ⊢
  refine (HP.out _).mono ?_
  rintro e W1 ⟨rfl, hb1⟩
  replace hx := hx.keep hb1 hx.lt
  replace hB0 := hB0.trans (hb1.mono hB0.size)
  clear hb1 HP
  cases A with
  | false =>
    have hO := Lib.hid (show O = false by rw [HE.out]; rfl)
    have hT := Lib.hid (show T = ⟨#[]⟩ by rw [HV.out]; rfl)
    go_wp2
    go_ret2
    exact ⟨by rw [hO.out, hT.out]; rfl, hB0⟩
  | true =>
    obtain ⟨i1, i2, i3, i4, i5⟩ := HI.out rfl
    by_cases h1 : pass.size ≤ 100
    case neg =>
      have hO := Lib.hid (show O = false by rw [HE.out, decide_eq_false h1]; rfl)
      have hT := Lib.hid (show T = ⟨#[]⟩ by rw [HV.out, decide_eq_false h1]; rfl)
      go_wp2
      go_ret2
      exact ⟨by rw [hO.out, hT.out]; rfl, hB0⟩
    have hRz := HZ.out (by omega) (by omega) i2 i3
    rw [decide_eq_true h1] at HE HV
    have HOP := Lib.hid (fun w hv => implOpened_any R no BK bx w gt gx hv (by omega) (by omega) (by rw [HBz.out]; omega) (by omega))
    generalize opT R no BK bx = OT at HOP HV
    generalize opOk R no BK bx = OO at HOP HE
    have hO := Lib.hid (show O = OO by rw [HE.out]; rfl)
    have hT := Lib.hid (show T = OT by rw [HV.out]; rfl)
    have HB2 := Lib.hid (fun w => HB.out w i2 i3)
    clear HE HV HI HZ HBz HB hRz i1 i4 i5
    have hxl := hx.lt
    go_wp2
    refine wp_region_T (fun _ => True) (fun _ => True) 16 (by kernel_rfl) 17 rfl ?_
    refine wpAnyT_flo2 (fun i => decide (i < 15)) (by kernel_rfl) (by kernel_rfl) 2 (fun L a wr => ∃ (cQ : Nat → Bool) (sQ : Nat → Value), L = #[cQ 0, cQ 1, cQ 2, cQ 3, cQ 4, cQ 5, cQ 6, cQ 7, cQ 8, cQ 9, cQ 10, cQ 11, cQ 12, cQ 13, cQ 14, false, false] ∧ a = { tmps := #[slV { sa := sa, ro := ro, no := no, bx := bx }, Value.string pass, Value.pointer (some { block := w.heap.size, off := 0 }), undef, Value.string { data := #[] }, Value.bool false, Value.agg #[Value.string sa, Value.int IntKind.i64 ro, Value.string no, Value.string bx], Value.bool true, Value.bool false, Value.bool false, Value.string pass, Value.int IntKind.i64 ((pass.size : Nat) : Int), Value.bool (decide (100 < ((pass.size : Nat) : Int))), Value.bool (decide (100 < ((pass.size : Nat) : Int))), sl cQ sQ 0, sl cQ sQ 1, sl cQ sQ 2, sl cQ sQ 3, sl cQ sQ 4, sl cQ sQ 5, sl cQ sQ 6, sl cQ sQ 7, sl cQ sQ 8, sl cQ sQ 9, sl cQ sQ 10, sl cQ sQ 11, sl cQ sQ 12, sl cQ sQ 13, sl cQ sQ 14], defers := [] } ∧ FloS (FixQ W1.heap.size (fun i => ([.val (.string pass), .val (.pointer (some ⟨w.heap.size, 0, none⟩)), .val (.string sa), .val (.pointer (some ⟨w.heap.size, 1, none⟩)), .val (.int .i64 ro), .val (.string R), .val (.pointer (some ⟨w.heap.size, 2, none⟩)), .val (.string no), .val (slV ⟨sa, ro, no, bx⟩), .val (.string BK), .val (.pointer (some ⟨w.heap.size, 3, none⟩)), .val (.string bx), .val (.tuple #[.string OT, .bool OO]), .val (.string OT), .val (.bool OO), .val (undef), .val (undef)] : List Kd).getD i (.val undef))) (fun wr => Below W1.heap.size W1 wr) cQ sQ wr) ?_ ?_ ?_ ?_ 15 _ _ _ ?_ ?_
    · rintro L a wr ⟨cQ, sQ, rfl, _, _⟩
      rfl
    · rintro L a wr ⟨cQ, sQ, rfl, _, _⟩ i hi hfi
      have hi' : i < 17 := hi
      rcases (show i = 0 ∨ i = 1 ∨ i = 2 ∨ i = 3 ∨ i = 4 ∨ i = 5 ∨ i = 6 ∨ i = 7 ∨ i = 8 ∨ i = 9 ∨ i = 10 ∨ i = 11 ∨ i = 12 ∨ i = 13 ∨ i = 14 ∨ i = 15 ∨ i = 16 by omega) with rfl | rfl | rfl | rfl | rfl | rfl | rfl | rfl | rfl | rfl | rfl | rfl | rfl | rfl | rfl | rfl | rfl
      · exact absurd hfi (by decide)
      · exact absurd hfi (by decide)
      · exact absurd hfi (by decide)
      · exact absurd hfi (by decide)
      · exact absurd hfi (by decide)
      · exact absurd hfi (by decide)
      · exact absurd hfi (by decide)
      · exact absurd hfi (by decide)
      · exact absurd hfi (by decide)
      · exact absurd hfi (by decide)
      · exact absurd hfi (by decide)
      · exact absurd hfi (by decide)
      · exact absurd hfi (by decide)
      · exact absurd hfi (by decide)
      · exact absurd hfi (by decide)
      · rfl
      · rfl
    · rintro L a wr i o ⟨cQ, sQ, rfl, rfl, hF⟩ ho hfl hL hdep
      have hB := hF.fr
      have hi : i < 15 := of_decide_eq_true hfl
      rcases (show i = 0 ∨ i = 1 ∨ i = 2 ∨ i = 3 ∨ i = 4 ∨ i = 5 ∨ i = 6 ∨ i = 7 ∨ i = 8 ∨ i = 9 ∨ i = 10 ∨ i = 11 ∨ i = 12 ∨ i = 13 ∨ i = 14 by omega) with rfl | rfl | rfl | rfl | rfl | rfl | rfl | rfl | rfl | rfl | rfl | rfl | rfl | rfl | rfl
      · have ho' := Option.some.inj ho
        subst ho'
        refine ⟨by kernel_rfl, ?_⟩
        go_simp
        exact ⟨up cQ 0 true, by simp [up], up sQ 0 (.string pass), by simp [up, sl], hF.step 0 (.string pass) _ hB (fun j u h => h) rfl⟩
      · have ho' := Option.some.inj ho
        subst ho'
        refine ⟨by kernel_rfl, ?_⟩
        go_simp
        exact ⟨up cQ 1 true, by simp [up], up sQ 1 (.pointer (some ⟨w.heap.size, 0, none⟩)), by simp [up, sl], hF.step 1 (.pointer (some ⟨w.heap.size, 0, none⟩)) _ hB (fun j u h => h) rfl⟩
      · have ho' := Option.some.inj ho
        subst ho'
        have h1 : cQ 1 = true := hdep ⟨1, .data⟩ (by simp) rfl
        have e1 : sQ 1 = .pointer (some ⟨w.heap.size, 0, none⟩) := hF.k 1 h1
        refine ⟨by kernel_rfl, ?_⟩
        rw [sl_on h1, e1]
        have hxx := hx.keep hB hxl
        have x0 := hxx.cell 0 _ rfl
        have x1 := hxx.cell 1 _ rfl
        have x2 := hxx.cell 2 _ rfl
        have x3 := hxx.cell 3 _ rfl
        go_simp
        exact ⟨up cQ 2 true, by simp [up, h1, e1], up sQ 2 (.string sa), by simp [up, sl, h1, e1], hF.step 2 (.string sa) _ hB (fun j u h => h) rfl⟩
      · have ho' := Option.some.inj ho
        subst ho'
        refine ⟨by kernel_rfl, ?_⟩
        go_simp
        exact ⟨up cQ 3 true, by simp [up], up sQ 3 (.pointer (some ⟨w.heap.size, 1, none⟩)), by simp [up, sl], hF.step 3 (.pointer (some ⟨w.heap.size, 1, none⟩)) _ hB (fun j u h => h) rfl⟩
      · have ho' := Option.some.inj ho
        subst ho'
        have h3 : cQ 3 = true := hdep ⟨3, .data⟩ (by simp) rfl
        have e3 : sQ 3 = .pointer (some ⟨w.heap.size, 1, none⟩) := hF.k 3 h3
        refine ⟨by kernel_rfl, ?_⟩
        rw [sl_on h3, e3]
        have hxx := hx.keep hB hxl
        have x0 := hxx.cell 0 _ rfl
        have x1 := hxx.cell 1 _ rfl
        have x2 := hxx.cell 2 _ rfl
        have x3 := hxx.cell 3 _ rfl
        go_simp
        exact ⟨up cQ 4 true, by simp [up, h3, e3], up sQ 4 (.int .i64 ro), by simp [up, sl, h3, e3], hF.step 4 (.int .i64 ro) _ hB (fun j u h => h) rfl⟩
      · have ho' := Option.some.inj ho
        subst ho'
        have h0 : cQ 0 = true := hdep ⟨0, .data⟩ (by simp) rfl
        have e0 : sQ 0 = .string pass := hF.k 0 h0
        have h2 : cQ 2 = true := hdep ⟨2, .data⟩ (by simp) rfl
        have e2 : sQ 2 = .string sa := hF.k 2 h2
        have h4 : cQ 4 = true := hdep ⟨4, .data⟩ (by simp) rfl
        have e4 : sQ 4 = .int .i64 ro := hF.k 4 h4
        refine ⟨by kernel_rfl, ?_⟩
        rw [sl_on h0, sl_on h2, sl_on h4, e0, e2, e4]
        go_simp
        refine (HS.out _ (HF.out.below (hB0.trans (hB.mono hB0.size)) (Nat.le_refl _)) (HK.out.below (hB0.trans (hB.mono hB0.size)) (Nat.le_refl _))).mono ?_
        rintro e w2 ⟨rfl, hb⟩
        go_simp
        exact ⟨up cQ 5 true, by simp [up, h0, h2, h4, e0, e2, e4], up sQ 5 (.string R), by simp [up, sl, h0, h2, h4, e0, e2, e4], hF.step 5 (.string R) _ (hB.trans (hb.mono hB.size)) (FixQ.keep hb) rfl⟩
      · have ho' := Option.some.inj ho
        subst ho'
        refine ⟨by kernel_rfl, ?_⟩
        go_simp
        exact ⟨up cQ 6 true, by simp [up], up sQ 6 (.pointer (some ⟨w.heap.size, 2, none⟩)), by simp [up, sl], hF.step 6 (.pointer (some ⟨w.heap.size, 2, none⟩)) _ hB (fun j u h => h) rfl⟩
      · have ho' := Option.some.inj ho
        subst ho'
        have h6 : cQ 6 = true := hdep ⟨6, .data⟩ (by simp) rfl
        have e6 : sQ 6 = .pointer (some ⟨w.heap.size, 2, none⟩) := hF.k 6 h6
        refine ⟨by kernel_rfl, ?_⟩
        rw [sl_on h6, e6]
        have hxx := hx.keep hB hxl
        have x0 := hxx.cell 0 _ rfl
        have x1 := hxx.cell 1 _ rfl
        have x2 := hxx.cell 2 _ rfl
        have x3 := hxx.cell 3 _ rfl
        go_simp
        exact ⟨up cQ 7 true, by simp [up, h6, e6], up sQ 7 (.string no), by simp [up, sl, h6, e6], hF.step 7 (.string no) _ hB (fun j u h => h) rfl⟩
      · have ho' := Option.some.inj ho
        subst ho'
        refine ⟨by kernel_rfl, ?_⟩
        have hxx := hx.keep hB hxl
        have x0 := hxx.cell 0 _ rfl
        have x1 := hxx.cell 1 _ rfl
        have x2 := hxx.cell 2 _ rfl
        have x3 := hxx.cell 3 _ rfl
        go_simp
        exact ⟨up cQ 8 true, by simp [up], up sQ 8 (slV ⟨sa, ro, no, bx⟩), by simp [up, sl], hF.step 8 (slV ⟨sa, ro, no, bx⟩) _ hB (fun j u h => h) rfl⟩
      · have ho' := Option.some.inj ho
        subst ho'
        have h8 : cQ 8 = true := hdep ⟨8, .data⟩ (by simp) rfl
        have e8 : sQ 8 = slV ⟨sa, ro, no, bx⟩ := hF.k 8 h8
        refine ⟨by kernel_rfl, ?_⟩
        rw [sl_on h8, e8]
        go_simp
        refine (HB2.out _).mono ?_
        rintro e w2 ⟨rfl, hb⟩
        go_simp
        exact ⟨up cQ 9 true, by simp [up, h8, e8], up sQ 9 (.string BK), by simp [up, sl, h8, e8], hF.step 9 (.string BK) _ (hB.trans (hb.mono hB.size)) (FixQ.keep hb) rfl⟩
      · have ho' := Option.some.inj ho
        subst ho'
        refine ⟨by kernel_rfl, ?_⟩
        go_simp
        exact ⟨up cQ 10 true, by simp [up], up sQ 10 (.pointer (some ⟨w.heap.size, 3, none⟩)), by simp [up, sl], hF.step 10 (.pointer (some ⟨w.heap.size, 3, none⟩)) _ hB (fun j u h => h) rfl⟩
      · have ho' := Option.some.inj ho
        subst ho'
        have h10 : cQ 10 = true := hdep ⟨10, .data⟩ (by simp) rfl
        have e10 : sQ 10 = .pointer (some ⟨w.heap.size, 3, none⟩) := hF.k 10 h10
        refine ⟨by kernel_rfl, ?_⟩
        rw [sl_on h10, e10]
        have hxx := hx.keep hB hxl
        have x0 := hxx.cell 0 _ rfl
        have x1 := hxx.cell 1 _ rfl
        have x2 := hxx.cell 2 _ rfl
        have x3 := hxx.cell 3 _ rfl
        go_simp
        exact ⟨up cQ 11 true, by simp [up, h10, e10], up sQ 11 (.string bx), by simp [up, sl, h10, e10], hF.step 11 (.string bx) _ hB (fun j u h => h) rfl⟩
      · have ho' := Option.some.inj ho
        subst ho'
        have h5 : cQ 5 = true := hdep ⟨5, .data⟩ (by simp) rfl
        have e5 : sQ 5 = .string R := hF.k 5 h5
        have h7 : cQ 7 = true := hdep ⟨7, .data⟩ (by simp) rfl
        have e7 : sQ 7 = .string no := hF.k 7 h7
        have h9 : cQ 9 = true := hdep ⟨9, .data⟩ (by simp) rfl
        have e9 : sQ 9 = .string BK := hF.k 9 h9
        have h11 : cQ 11 = true := hdep ⟨11, .data⟩ (by simp) rfl
        have e11 : sQ 11 = .string bx := hF.k 11 h11
        refine ⟨by kernel_rfl, ?_⟩
        rw [sl_on h5, sl_on h7, sl_on h9, sl_on h11, e5, e7, e9, e11]
        go_simp
        refine (HOP.out _ (HG.out.below (hB0.trans (hB.mono hB0.size)) (Nat.le_refl _))).mono ?_
        rintro e w2 ⟨rfl, hb⟩
        go_simp
        exact ⟨up cQ 12 true, by simp [up, h5, h7, h9, h11, e5, e7, e9, e11], up sQ 12 (.tuple #[.string OT, .bool OO]), by simp [up, sl, h5, h7, h9, h11, e5, e7, e9, e11], hF.step 12 (.tuple #[.string OT, .bool OO]) _ (hB.trans (hb.mono hB.size)) (FixQ.keep hb) rfl⟩
      · have ho' := Option.some.inj ho
        subst ho'
        have h12 : cQ 12 = true := hdep ⟨12, .data⟩ (by simp) rfl
        have e12 : sQ 12 = .tuple #[.string OT, .bool OO] := hF.k 12 h12
        refine ⟨by kernel_rfl, ?_⟩
        rw [sl_on h12, e12]
        go_simp
        exact ⟨up cQ 13 true, by simp [up, h12, e12], up sQ 13 (.string OT), by simp [up, sl, h12, e12], hF.step 13 (.string OT) _ hB (fun j u h => h) rfl⟩
      · have ho' := Option.some.inj ho
        subst ho'
        have h12 : cQ 12 = true := hdep ⟨12, .data⟩ (by simp) rfl
        have e12 : sQ 12 = .tuple #[.string OT, .bool OO] := hF.k 12 h12
        refine ⟨by kernel_rfl, ?_⟩
        rw [sl_on h12, e12]
        go_simp
        exact ⟨up cQ 14 true, by simp [up, h12, e12], up sQ 14 (.bool OO), by simp [up, sl, h12, e12], hF.step 14 (.bool OO) _ hB (fun j u h => h) rfl⟩
    · rintro L a wr ⟨cQ, sQ, rfl, rfl, hF⟩ hall
      have hB := hF.fr
      have h0 : cQ 0 = true := hall 0 (by decide) rfl
      have h1 : cQ 1 = true := hall 1 (by decide) rfl
      have h2 : cQ 2 = true := hall 2 (by decide) rfl
      have h3 : cQ 3 = true := hall 3 (by decide) rfl
      have h4 : cQ 4 = true := hall 4 (by decide) rfl
      have h5 : cQ 5 = true := hall 5 (by decide) rfl
      have h6 : cQ 6 = true := hall 6 (by decide) rfl
      have h7 : cQ 7 = true := hall 7 (by decide) rfl
      have h8 : cQ 8 = true := hall 8 (by decide) rfl
      have h9 : cQ 9 = true := hall 9 (by decide) rfl
      have h10 : cQ 10 = true := hall 10 (by decide) rfl
      have h11 : cQ 11 = true := hall 11 (by decide) rfl
      have h12 : cQ 12 = true := hall 12 (by decide) rfl
      have h13 : cQ 13 = true := hall 13 (by decide) rfl
      have h14 : cQ 14 = true := hall 14 (by decide) rfl
      have e13 : sQ 13 = .string OT := hF.k 13 h13
      have e14 : sQ 14 = .bool OO := hF.k 14 h14
      rw [h0, h1, h2, h3, h4, h5, h6, h7, h8, h9, h10, h11, h12, h13, h14, sl_on h13, sl_on h14, e13, e14]
      clear hall hF   h0 h1 h2 h3 h4 h5 h6 h7 h8 h9 h10 h11 h12 h13 h14 e13 e14
      generalize sl cQ sQ 0 = s0
      generalize sl cQ sQ 1 = s1
      generalize sl cQ sQ 2 = s2
      generalize sl cQ sQ 3 = s3
      generalize sl cQ sQ 4 = s4
      generalize sl cQ sQ 5 = s5
      generalize sl cQ sQ 6 = s6
      generalize sl cQ sQ 7 = s7
      generalize sl cQ sQ 8 = s8
      generalize sl cQ sQ 9 = s9
      generalize sl cQ sQ 10 = s10
      generalize sl cQ sQ 11 = s11
      generalize sl cQ sQ 12 = s12
      refine wpAnyT_one 15 1 (by kernel_rfl) rfl (by kernel_rfl) ?_
      intro K hK
      go_simp
      refine hK _ _ ⟨trivial, fun _ => trivial⟩ (fun hS => ?_)
      clear hK K hS
      refine wpAnyT_one 16 0 (by kernel_rfl) rfl (by kernel_rfl) ?_
      intro K hK
      go_simp
      refine hK _ _ ⟨trivial, fun _ => trivial⟩ (fun hS => ?_)
      clear hK K hS
      refine wpAnyT_over (by kernel_rfl) ?_
      go_wp2
      go_ret2
      exact ⟨by rw [hO.out, hT.out]; rfl, hB0.trans (hB.mono hB0.size)⟩
    · exact ⟨fun _ => false, fun _ => undef, rfl, rfl, below_drewN (Below.refl _ _) 1, fun i hi => by cases hi⟩
    · decide

set_option maxRecDepth 100000 in
set_option maxHeartbeats 3000000 in
theorem specKeyIn_any (s : SlotD) (pass : ByteArray) (w : World) (hz : SlSz s) (z0 : pass.size ≤ 1048576) :
    Calls Tryz.prog 12 #[slV s, .string pass] w fun e w' => e = .returned (.tuple #[.string (kiT s pass), .bool (kiO s pass)]) ∧ Below w.heap.size w w' := by
  have HP := Lib.hid (fun w => l17Slot_any s w hz)
  obtain ⟨sa, ro, no, bx⟩ := s
  obtain ⟨z1, z2, z3, hro⟩ := hz
  dsimp only at z1 z2 z3 hro HP
  have HI : Hid (skB ⟨sa, ro, no, bx⟩ = true → sa.size = 16 ∧ 1 ≤ ro ∧ ro ≤ 50 ∧ no.size = 12 ∧ bx.size = 48) := Lib.hid (fun h => by unfold skB spB at h; simp at h; omega)
  have HE : Hid (kiO ⟨sa, ro, no, bx⟩ pass = (skB ⟨sa, ro, no, bx⟩ && decide (pass.size ≤ 100) && opOk (srR pass sa ro) no (bkT sa ro) bx)) := Lib.hid rfl
  have HV : Hid (kiT ⟨sa, ro, no, bx⟩ pass = if (skB ⟨sa, ro, no, bx⟩ && decide (pass.size ≤ 100)) = true then opT (srR pass sa ro) no (bkT sa ro) bx else ⟨#[]⟩) := Lib.hid rfl
  generalize kiT ⟨sa, ro, no, bx⟩ pass = T at HV ⊢
  generalize kiO ⟨sa, ro, no, bx⟩ pass = O at HE ⊢
  generalize skB ⟨sa, ro, no, bx⟩ = A at HP HI HE HV
  have HS := Lib.hid (fun w => specStretched_any pass sa ro w (by unfold maxLen; omega) (by unfold maxLen; omega) hro)
  have HB := Lib.hid (fun w h1 h2 => l17With_any sa ro w z1 h1 h2)
  have HZ := Lib.hid (fun h1 h2 h3 h4 => srR_size (pass := pass) (sa := sa) (ro := ro) h1 h2 h3 h4)
  have HBz := Lib.hid (bkT_size sa ro)
  generalize srR pass sa ro = R at HS HZ HE HV
  generalize bkT sa ro = BK at HB HBz HE HV
  have hx := Box.new w #[.string sa, .int .i64 ro, .string no, .string bx] 23
  have hB0 : Below w.heap.size w (w.alloc (.cells #[.string sa, .int .i64 ro, .string no, .string bx] 23)) := (Below.refl _ _).alloc (Nat.le_refl _) _
  go_enter Tryz.func12, Tryz.ntmps12
  go_wp2_with fail
  generalize w.alloc (.cells #[.string sa, .int .i64 ro, .string no, .string bx] 23) = W0 at hx hB0 ⊢
  refine (HP.out _).mono ?_
  rintro e W1 ⟨rfl, hb1⟩
  replace hx := hx.keep hb1 hx.lt
  replace hB0 := hB0.trans (hb1.mono hB0.size)
  clear hb1 HP
  cases A with
  | false =>
    have hO := Lib.hid (show O = false by rw [HE.out]; rfl)
    have hT := Lib.hid (show T = ⟨#[]⟩ by rw [HV.out]; rfl)
    go_wp2
    go_ret2
    exact ⟨by rw [hO.out, hT.out]; rfl, hB0⟩
  | true =>
    obtain ⟨i1, i2, i3, i4, i5⟩ := HI.out rfl
    by_cases h1 : pass.size ≤ 100
    case neg =>
      have hO := Lib.hid (show O = false by rw [HE.out, decide_eq_false h1]; rfl)
      have hT := Lib.hid (show T = ⟨#[]⟩ by rw [HV.out, decide_eq_false h1]; rfl)
      go_wp2
      go_ret2
      exact ⟨by rw [hO.out, hT.out]; rfl, hB0⟩
    have hRz := HZ.out (by omega) (by omega) i2 i3
    rw [decide_eq_true h1] at HE HV
    have HOP := Lib.hid (fun w => l4Open_any R no BK bx w hRz i4 (by rw [HBz.out]; omega) (by omega))
    generalize opT R no BK bx = OT at HOP HV
    generalize opOk R no BK bx = OO at HOP HE
    have hO := Lib.hid (show O = OO by rw [HE.out]; rfl)
    have hT := Lib.hid (show T = OT by rw [HV.out]; rfl)
    have HB2 := Lib.hid (fun w => HB.out w i2 i3)
    clear HE HV HI HZ HBz HB hRz i1 i4 i5
    have hxl := hx.lt
    go_wp2
    refine wp_region_T (fun _ => True) (fun _ => True) 19 (by kernel_rfl) 20 rfl ?_
    refine wpAnyT_flo2 (fun i => decide (i < 18)) (by kernel_rfl) (by kernel_rfl) 2 (fun L a wr => ∃ (cQ : Nat → Bool) (sQ : Nat → Value), L = #[cQ 0, cQ 1, cQ 2, cQ 3, cQ 4, cQ 5, cQ 6, cQ 7, cQ 8, cQ 9, cQ 10, cQ 11, cQ 12, cQ 13, cQ 14, cQ 15, cQ 16, cQ 17, false, false] ∧ a = { tmps := #[slV { sa := sa, ro := ro, no := no, bx := bx }, Value.string pass, Value.pointer (some { block := w.heap.size, off := 0 }), undef, Value.string { data := #[] }, Value.bool false, Value.agg #[Value.string sa, Value.int IntKind.i64 ro, Value.string no, Value.string bx], Value.bool true, Value.bool false, Value.bool false, Value.string pass, Value.int IntKind.i64 ((pass.size : Nat) : Int), Value.bool (decide (100 < ((pass.size : Nat) : Int))), Value.bool (decide (100 < ((pass.size : Nat) : Int))), sl cQ sQ 0, sl cQ sQ 1, sl cQ sQ 2, sl cQ sQ 3, sl cQ sQ 4, sl cQ sQ 5, sl cQ sQ 6, sl cQ sQ 7, sl cQ sQ 8, sl cQ sQ 9, sl cQ sQ 10, sl cQ sQ 11, sl cQ sQ 12, sl cQ sQ 13, sl cQ sQ 14, sl cQ sQ 15, sl cQ sQ 16, sl cQ sQ 17], defers := [] } ∧ FloS (FixQ W1.heap.size (fun i => ([.val (.string pass), .val (.pointer (some ⟨w.heap.size, 0, none⟩)), .val (.string sa), .val (.pointer (some ⟨w.heap.size, 1, none⟩)), .val (.int .i64 ro), .val (.string R), .val (.pointer (some ⟨w.heap.size, 2, none⟩)), .val (.string no), .val (.pointer (some ⟨w.heap.size, 0, none⟩)), .val (.string sa), .val (.pointer (some ⟨w.heap.size, 1, none⟩)), .val (.int .i64 ro), .val (.string BK), .val (.pointer (some ⟨w.heap.size, 3, none⟩)), .val (.string bx), .val (.tuple #[.string OT, .bool OO]), .val (.string OT), .val (.bool OO), .val (undef), .val (undef)] : List Kd).getD i (.val undef))) (fun wr => Below W1.heap.size W1 wr) cQ sQ wr) ?_ ?_ ?_ ?_ 18 _ _ _ ?_ ?_
    · rintro L a wr ⟨cQ, sQ, rfl, _, _⟩
      rfl
    · rintro L a wr ⟨cQ, sQ, rfl, _, _⟩ i hi hfi
      have hi' : i < 20 := hi
      rcases (show i = 0 ∨ i = 1 ∨ i = 2 ∨ i = 3 ∨ i = 4 ∨ i = 5 ∨ i = 6 ∨ i = 7 ∨ i = 8 ∨ i = 9 ∨ i = 10 ∨ i = 11 ∨ i = 12 ∨ i = 13 ∨ i = 14 ∨ i = 15 ∨ i = 16 ∨ i = 17 ∨ i = 18 ∨ i = 19 by omega) with rfl | rfl | rfl | rfl | rfl | rfl | rfl | rfl | rfl | rfl | rfl | rfl | rfl | rfl | rfl | rfl | rfl | rfl | rfl | rfl
      · exact absurd hfi (by decide)
      · exact absurd hfi (by decide)
      · exact absurd hfi (by decide)
      · exact absurd hfi (by decide)
      · exact absurd hfi (by decide)
      · exact absurd hfi (by decide)
      · exact absurd hfi (by decide)
      · exact absurd hfi (by decide)
      · exact absurd hfi (by decide)
      · exact absurd hfi (by decide)
      · exact absurd hfi (by decide)
      · exact absurd hfi (by decide)
      · exact absurd hfi (by decide)
      · exact absurd hfi (by decide)
      · exact absurd hfi (by decide)
      · exact absurd hfi (by decide)
      · exact absurd hfi (by decide)
      · exact absurd hfi (by decide)
      · rfl
      · rfl
    · rintro L a wr i o ⟨cQ, sQ, rfl, rfl, hF⟩ ho hfl hL hdep
      have hB := hF.fr
      have hi : i < 18 := of_decide_eq_true hfl
      rcases (show i = 0 ∨ i = 1 ∨ i = 2 ∨ i = 3 ∨ i = 4 ∨ i = 5 ∨ i = 6 ∨ i = 7 ∨ i = 8 ∨ i = 9 ∨ i = 10 ∨ i = 11 ∨ i = 12 ∨ i = 13 ∨ i = 14 ∨ i = 15 ∨ i = 16 ∨ i = 17 by omega) with rfl | rfl | rfl | rfl | rfl | rfl | rfl | rfl | rfl | rfl | rfl | rfl | rfl | rfl | rfl | rfl | rfl | rfl
      · have ho' := Option.some.inj ho
        subst ho'
        refine ⟨by kernel_rfl, ?_⟩
        go_simp
        exact ⟨up cQ 0 true, by simp [up], up sQ 0 (.string pass), by simp [up, sl], hF.step 0 (.string pass) _ hB (fun j u h => h) rfl⟩
      · have ho' := Option.some.inj ho
        subst ho'
        refine ⟨by kernel_rfl, ?_⟩
        go_simp
        exact ⟨up cQ 1 true, by simp [up], up sQ 1 (.pointer (some ⟨w.heap.size, 0, none⟩)), by simp [up, sl], hF.step 1 (.pointer (some ⟨w.heap.size, 0, none⟩)) _ hB (fun j u h => h) rfl⟩
      · have ho' := Option.some.inj ho
        subst ho'
        have h1 : cQ 1 = true := hdep ⟨1, .data⟩ (by simp) rfl
        have e1 : sQ 1 = .pointer (some ⟨w.heap.size, 0, none⟩) := hF.k 1 h1
        refine ⟨by kernel_rfl, ?_⟩
        rw [sl_on h1, e1]
        have hxx := hx.keep hB hxl
        have x0 := hxx.cell 0 _ rfl
        have x1 := hxx.cell 1 _ rfl
        have x2 := hxx.cell 2 _ rfl
        have x3 := hxx.cell 3 _ rfl
        go_simp
        exact ⟨up cQ 2 true, by simp [up, h1, e1], up sQ 2 (.string sa), by simp [up, sl, h1, e1], hF.step 2 (.string sa) _ hB (fun j u h => h) rfl⟩
      · have ho' := Option.some.inj ho
        subst ho'
        refine ⟨by kernel_rfl, ?_⟩
        go_simp
        exact ⟨up cQ 3 true, by simp [up], up sQ 3 (.pointer (some ⟨w.heap.size, 1, none⟩)), by simp [up, sl], hF.step 3 (.pointer (some ⟨w.heap.size, 1, none⟩)) _ hB (fun j u h => h) rfl⟩
      · have ho' := Option.some.inj ho
        subst ho'
        have h3 : cQ 3 = true := hdep ⟨3, .data⟩ (by simp) rfl
        have e3 : sQ 3 = .pointer (some ⟨w.heap.size, 1, none⟩) := hF.k 3 h3
        refine ⟨by kernel_rfl, ?_⟩
        rw [sl_on h3, e3]
        have hxx := hx.keep hB hxl
        have x0 := hxx.cell 0 _ rfl
        have x1 := hxx.cell 1 _ rfl
        have x2 := hxx.cell 2 _ rfl
        have x3 := hxx.cell 3 _ rfl
        go_simp
        exact ⟨up cQ 4 true, by simp [up, h3, e3], up sQ 4 (.int .i64 ro), by simp [up, sl, h3, e3], hF.step 4 (.int .i64 ro) _ hB (fun j u h => h) rfl⟩
      · have ho' := Option.some.inj ho
        subst ho'
        have h0 : cQ 0 = true := hdep ⟨0, .data⟩ (by simp) rfl
        have e0 : sQ 0 = .string pass := hF.k 0 h0
        have h2 : cQ 2 = true := hdep ⟨2, .data⟩ (by simp) rfl
        have e2 : sQ 2 = .string sa := hF.k 2 h2
        have h4 : cQ 4 = true := hdep ⟨4, .data⟩ (by simp) rfl
        have e4 : sQ 4 = .int .i64 ro := hF.k 4 h4
        refine ⟨by kernel_rfl, ?_⟩
        rw [sl_on h0, sl_on h2, sl_on h4, e0, e2, e4]
        go_simp
        refine (HS.out _).mono ?_
        rintro e w2 ⟨rfl, hb⟩
        go_simp
        exact ⟨up cQ 5 true, by simp [up, h0, h2, h4, e0, e2, e4], up sQ 5 (.string R), by simp [up, sl, h0, h2, h4, e0, e2, e4], hF.step 5 (.string R) _ (hB.trans (hb.mono hB.size)) (FixQ.keep hb) rfl⟩
      · have ho' := Option.some.inj ho
        subst ho'
        refine ⟨by kernel_rfl, ?_⟩
        go_simp
        exact ⟨up cQ 6 true, by simp [up], up sQ 6 (.pointer (some ⟨w.heap.size, 2, none⟩)), by simp [up, sl], hF.step 6 (.pointer (some ⟨w.heap.size, 2, none⟩)) _ hB (fun j u h => h) rfl⟩
      · have ho' := Option.some.inj ho
        subst ho'
        have h6 : cQ 6 = true := hdep ⟨6, .data⟩ (by simp) rfl
        have e6 : sQ 6 = .pointer (some ⟨w.heap.size, 2, none⟩) := hF.k 6 h6
        refine ⟨by kernel_rfl, ?_⟩
        rw [sl_on h6, e6]
        have hxx := hx.keep hB hxl
        have x0 := hxx.cell 0 _ rfl
        have x1 := hxx.cell 1 _ rfl
        have x2 := hxx.cell 2 _ rfl
        have x3 := hxx.cell 3 _ rfl
        go_simp
        exact ⟨up cQ 7 true, by simp [up, h6, e6], up sQ 7 (.string no), by simp [up, sl, h6, e6], hF.step 7 (.string no) _ hB (fun j u h => h) rfl⟩
      · have ho' := Option.some.inj ho
        subst ho'
        refine ⟨by kernel_rfl, ?_⟩
        go_simp
        exact ⟨up cQ 8 true, by simp [up], up sQ 8 (.pointer (some ⟨w.heap.size, 0, none⟩)), by simp [up, sl], hF.step 8 (.pointer (some ⟨w.heap.size, 0, none⟩)) _ hB (fun j u h => h) rfl⟩
      · have ho' := Option.some.inj ho
        subst ho'
        have h8 : cQ 8 = true := hdep ⟨8, .data⟩ (by simp) rfl
        have e8 : sQ 8 = .pointer (some ⟨w.heap.size, 0, none⟩) := hF.k 8 h8
        refine ⟨by kernel_rfl, ?_⟩
        rw [sl_on h8, e8]
        have hxx := hx.keep hB hxl
        have x0 := hxx.cell 0 _ rfl
        have x1 := hxx.cell 1 _ rfl
        have x2 := hxx.cell 2 _ rfl
        have x3 := hxx.cell 3 _ rfl
        go_simp
        exact ⟨up cQ 9 true, by simp [up, h8, e8], up sQ 9 (.string sa), by simp [up, sl, h8, e8], hF.step 9 (.string sa) _ hB (fun j u h => h) rfl⟩
      · have ho' := Option.some.inj ho
        subst ho'
        refine ⟨by kernel_rfl, ?_⟩
        go_simp
        exact ⟨up cQ 10 true, by simp [up], up sQ 10 (.pointer (some ⟨w.heap.size, 1, none⟩)), by simp [up, sl], hF.step 10 (.pointer (some ⟨w.heap.size, 1, none⟩)) _ hB (fun j u h => h) rfl⟩
      · have ho' := Option.some.inj ho
        subst ho'
        have h10 : cQ 10 = true := hdep ⟨10, .data⟩ (by simp) rfl
        have e10 : sQ 10 = .pointer (some ⟨w.heap.size, 1, none⟩) := hF.k 10 h10
        refine ⟨by kernel_rfl, ?_⟩
        rw [sl_on h10, e10]
        have hxx := hx.keep hB hxl
        have x0 := hxx.cell 0 _ rfl
        have x1 := hxx.cell 1 _ rfl
        have x2 := hxx.cell 2 _ rfl
        have x3 := hxx.cell 3 _ rfl
        go_simp
        exact ⟨up cQ 11 true, by simp [up, h10, e10], up sQ 11 (.int .i64 ro), by simp [up, sl, h10, e10], hF.step 11 (.int .i64 ro) _ hB (fun j u h => h) rfl⟩
      · have ho' := Option.some.inj ho
        subst ho'
        have h9 : cQ 9 = true := hdep ⟨9, .data⟩ (by simp) rfl
        have e9 : sQ 9 = .string sa := hF.k 9 h9
        have h11 : cQ 11 = true := hdep ⟨11, .data⟩ (by simp) rfl
        have e11 : sQ 11 = .int .i64 ro := hF.k 11 h11
        refine ⟨by kernel_rfl, ?_⟩
        rw [sl_on h9, sl_on h11, e9, e11]
        go_simp
        refine (HB2.out _).mono ?_
        rintro e w2 ⟨rfl, hb⟩
        go_simp
        exact ⟨up cQ 12 true, by simp [up, h9, h11, e9, e11], up sQ 12 (.string BK), by simp [up, sl, h9, h11, e9, e11], hF.step 12 (.string BK) _ (hB.trans (hb.mono hB.size)) (FixQ.keep hb) rfl⟩
      · have ho' := Option.some.inj ho
        subst ho'
        refine ⟨by kernel_rfl, ?_⟩
        go_simp
        exact ⟨up cQ 13 true, by simp [up], up sQ 13 (.pointer (some ⟨w.heap.size, 3, none⟩)), by simp [up, sl], hF.step 13 (.pointer (some ⟨w.heap.size, 3, none⟩)) _ hB (fun j u h => h) rfl⟩
      · have ho' := Option.some.inj ho
        subst ho'
        have h13 : cQ 13 = true := hdep ⟨13, .data⟩ (by simp) rfl
        have e13 : sQ 13 = .pointer (some ⟨w.heap.size, 3, none⟩) := hF.k 13 h13
        refine ⟨by kernel_rfl, ?_⟩
        rw [sl_on h13, e13]
        have hxx := hx.keep hB hxl
        have x0 := hxx.cell 0 _ rfl
        have x1 := hxx.cell 1 _ rfl
        have x2 := hxx.cell 2 _ rfl
        have x3 := hxx.cell 3 _ rfl
        go_simp
        exact ⟨up cQ 14 true, by simp [up, h13, e13], up sQ 14 (.string bx), by simp [up, sl, h13, e13], hF.step 14 (.string bx) _ hB (fun j u h => h) rfl⟩
      · have ho' := Option.some.inj ho
        subst ho'
        have h5 : cQ 5 = true := hdep ⟨5, .data⟩ (by simp) rfl
        have e5 : sQ 5 = .string R := hF.k 5 h5
        have h7 : cQ 7 = true := hdep ⟨7, .data⟩ (by simp) rfl
        have e7 : sQ 7 = .string no := hF.k 7 h7
        have h12 : cQ 12 = true := hdep ⟨12, .data⟩ (by simp) rfl
        have e12 : sQ 12 = .string BK := hF.k 12 h12
        have h14 : cQ 14 = true := hdep ⟨14, .data⟩ (by simp) rfl
        have e14 : sQ 14 = .string bx := hF.k 14 h14
        refine ⟨by kernel_rfl, ?_⟩
        rw [sl_on h5, sl_on h7, sl_on h12, sl_on h14, e5, e7, e12, e14]
        go_simp
        refine (HOP.out _).mono ?_
        rintro e w2 ⟨rfl, hb⟩
        go_simp
        exact ⟨up cQ 15 true, by simp [up, h5, h7, h12, h14, e5, e7, e12, e14], up sQ 15 (.tuple #[.string OT, .bool OO]), by simp [up, sl, h5, h7, h12, h14, e5, e7, e12, e14], hF.step 15 (.tuple #[.string OT, .bool OO]) _ (hB.trans (hb.mono hB.size)) (FixQ.keep hb) rfl⟩
      · have ho' := Option.some.inj ho
        subst ho'
        have h15 : cQ 15 = true := hdep ⟨15, .data⟩ (by simp) rfl
        have e15 : sQ 15 = .tuple #[.string OT, .bool OO] := hF.k 15 h15
        refine ⟨by kernel_rfl, ?_⟩
        rw [sl_on h15, e15]
        go_simp
        exact ⟨up cQ 16 true, by simp [up, h15, e15], up sQ 16 (.string OT), by simp [up, sl, h15, e15], hF.step 16 (.string OT) _ hB (fun j u h => h) rfl⟩
      · have ho' := Option.some.inj ho
        subst ho'
        have h15 : cQ 15 = true := hdep ⟨15, .data⟩ (by simp) rfl
        have e15 : sQ 15 = .tuple #[.string OT, .bool OO] := hF.k 15 h15
        refine ⟨by kernel_rfl, ?_⟩
        rw [sl_on h15, e15]
        go_simp
        exact ⟨up cQ 17 true, by simp [up, h15, e15], up sQ 17 (.bool OO), by simp [up, sl, h15, e15], hF.step 17 (.bool OO) _ hB (fun j u h => h) rfl⟩
    · rintro L a wr ⟨cQ, sQ, rfl, rfl, hF⟩ hall
      have hB := hF.fr
      have h0 : cQ 0 = true := hall 0 (by decide) rfl
      have h1 : cQ 1 = true := hall 1 (by decide) rfl
      have h2 : cQ 2 = true := hall 2 (by decide) rfl
      have h3 : cQ 3 = true := hall 3 (by decide) rfl
      have h4 : cQ 4 = true := hall 4 (by decide) rfl
      have h5 : cQ 5 = true := hall 5 (by decide) rfl
      have h6 : cQ 6 = true := hall 6 (by decide) rfl
      have h7 : cQ 7 = true := hall 7 (by decide) rfl
      have h8 : cQ 8 = true := hall 8 (by decide) rfl
      have h9 : cQ 9 = true := hall 9 (by decide) rfl
      have h10 : cQ 10 = true := hall 10 (by decide) rfl
      have h11 : cQ 11 = true := hall 11 (by decide) rfl
      have h12 : cQ 12 = true := hall 12 (by decide) rfl
      have h13 : cQ 13 = true := hall 13 (by decide) rfl
      have h14 : cQ 14 = true := hall 14 (by decide) rfl
      have h15 : cQ 15 = true := hall 15 (by decide) rfl
      have h16 : cQ 16 = true := hall 16 (by decide) rfl
      have h17 : cQ 17 = true := hall 17 (by decide) rfl
      have e16 : sQ 16 = .string OT := hF.k 16 h16
      have e17 : sQ 17 = .bool OO := hF.k 17 h17
      rw [h0, h1, h2, h3, h4, h5, h6, h7, h8, h9, h10, h11, h12, h13, h14, h15, h16, h17, sl_on h16, sl_on h17, e16, e17]
      clear hall hF   h0 h1 h2 h3 h4 h5 h6 h7 h8 h9 h10 h11 h12 h13 h14 h15 h16 h17 e16 e17
      generalize sl cQ sQ 0 = s0
      generalize sl cQ sQ 1 = s1
      generalize sl cQ sQ 2 = s2
      generalize sl cQ sQ 3 = s3
      generalize sl cQ sQ 4 = s4
      generalize sl cQ sQ 5 = s5
      generalize sl cQ sQ 6 = s6
      generalize sl cQ sQ 7 = s7
      generalize sl cQ sQ 8 = s8
      generalize sl cQ sQ 9 = s9
      generalize sl cQ sQ 10 = s10
      generalize sl cQ sQ 11 = s11
      generalize sl cQ sQ 12 = s12
      generalize sl cQ sQ 13 = s13
      generalize sl cQ sQ 14 = s14
      generalize sl cQ sQ 15 = s15
      refine wpAnyT_one 18 1 (by kernel_rfl) rfl (by kernel_rfl) ?_
      intro K hK
      go_simp
      refine hK _ _ ⟨trivial, fun _ => trivial⟩ (fun hS => ?_)
      clear hK K hS
      refine wpAnyT_one 19 0 (by kernel_rfl) rfl (by kernel_rfl) ?_
      intro K hK
      go_simp
      refine hK _ _ ⟨trivial, fun _ => trivial⟩ (fun hS => ?_)
      clear hK K hS
      refine wpAnyT_over (by kernel_rfl) ?_
      go_wp2
      go_ret2
      exact ⟨by rw [hO.out, hT.out]; rfl, hB0.trans (hB.mono hB0.size)⟩
    · exact ⟨fun _ => false, fun _ => undef, rfl, rfl, below_drewN (Below.refl _ _) 1, fun i hi => by cases hi⟩
    · decide
end Go.Proofs.YtlipgmaiooljkaaGreatDoor

/- W17d -/
namespace Go.Proofs.YtlipgmaiooljkaaGreatDoor
open Go.ChangeShapes Go.WideShapes Go.ChangeAt Go.RowKit
set_option linter.unusedVariables false
set_option linter.unusedSimpArgs false

def rwO (s : SlotD) (old pass sa no : ByteArray) : Bool := kiO s old && soO pass sa s.ro no (kiT s old)
def rwV (s : SlotD) (old pass sa no : ByteArray) : SlotD := if kiO s old = true then soV pass sa s.ro no (kiT s old) else sl0
theorem opT_le (k n w b : ByteArray) : (opT k n w b).size ≤ b.size := by
  unfold opT
  split
  · rw [strB_size, ByteArray.size_extract]; omega
  · exact Nat.zero_le _
theorem kiT_le (s : SlotD) (pass : ByteArray) : (kiT s pass).size ≤ s.bx.size := by
  unfold kiT
  split
  · exact opT_le _ _ _ _
  · exact Nat.zero_le _

set_option maxRecDepth 100000 in
set_option maxHeartbeats 3000000 in
theorem implRewrapped_any (s : SlotD) (old pass sa' no' : ByteArray) (w : World) (gt : TypeId) (gx : Value) (hz : SlSz s) (z0 : old.size ≤ 1048576) (z1 : pass.size ≤ 1048576) (z2 : sa'.size ≤ 1048576) (z3 : no'.size ≤ 1048576) (hF : FTab w) (hK : KTab w) (hg : Gives w gt gx) :
    Calls Tryz.prog 16 #[slV s, .string old, .string pass, .string sa', .string no'] w fun e w' => e = .returned (.tuple #[slV (rwV s old pass sa' no'), .bool (rwO s old pass sa' no')]) ∧ Below w.heap.size w w' := by
  have HF := Lib.hid hF
  have HK := Lib.hid hK
  have HG := Lib.hid hg
  clear hF hK hg
  have HKI := Lib.hid (fun w h1 h2 h3 => implKeyIn_any s old w gt gx hz z0 h1 h2 h3)
  have hkl := kiT_le s old
  have HSO := Lib.hid (fun w h1 h2 => implSlotOf_any pass sa' s.ro no' (kiT s old) w z1 z2 z3 (by have := hz.2.2.1; omega) hz.2.2.2 h1 h2)
  have HE : Hid (rwO s old pass sa' no' = (kiO s old && soO pass sa' s.ro no' (kiT s old))) := Lib.hid rfl
  have HV : Hid (rwV s old pass sa' no' = if kiO s old = true then soV pass sa' s.ro no' (kiT s old) else sl0) := Lib.hid rfl
  generalize rwO s old pass sa' no' = O at HE ⊢
  generalize rwV s old pass sa' no' = V at HV ⊢
  generalize kiO s old = A at HKI HE HV
  generalize soO pass sa' s.ro no' (kiT s old) = B at HSO HE
  generalize soV pass sa' s.ro no' (kiT s old) = q at HSO HV
  generalize kiT s old = T at HKI HSO
  obtain ⟨sa, ro, no, bx⟩ := s
  obtain ⟨qa, qr, qn, qb⟩ := q
  dsimp only at HSO
  clear hz hkl
  have hx : Box ((w.alloc (.cells #[.string sa, .int .i64 ro, .string no, .string bx] 23)).alloc (.cells sl0C 23)) w.heap.size #[.string sa, .int .i64 ro, .string no, .string bx] 23 := (Box.new w _ _).alloc _
  have hr : Box ((w.alloc (.cells #[.string sa, .int .i64 ro, .string no, .string bx] 23)).alloc (.cells sl0C 23)) (w.heap.size + 1) sl0C 23 := by
    have := Box.new (w.alloc (.cells #[.string sa, .int .i64 ro, .string no, .string bx] 23)) sl0C 23
    simpa using this
  have hB : Below w.heap.size w ((w.alloc (.cells #[.string sa, .int .i64 ro, .string no, .string bx] 23)).alloc (.cells sl0C 23)) := ((Below.refl _ _).alloc (Nat.le_refl _) _).alloc (by simp) _
  go_enter Tryz.func16, Tryz.ntmps16
  go_wp2_with fail
  generalize (w.alloc (.cells #[.string sa, .int .i64 ro, .string no, .string bx] 23)).alloc (.cells sl0C 23) = W0 at hx hr hB ⊢
  refine (HKI.out _ (HF.out.below hB (Nat.le_refl _)) (HK.out.below hB (Nat.le_refl _)) (HG.out.below hB (Nat.le_refl _))).mono ?_
  rintro e w1 ⟨rfl, hb1⟩
  replace hx := hx.keep hb1 hx.lt
  replace hr := hr.keep hb1 hr.lt
  replace hB := hB.trans (hb1.mono hB.size)
  clear hb1 HKI
  have r0 := hr.cell 0 _ rfl
  have r1 := hr.cell 1 _ rfl
  have r2 := hr.cell 2 _ rfl
  have r3 := hr.cell 3 _ rfl
  have g0 := hr.free 0
  have g1 := hr.free 1
  have g2 := hr.free 2
  have g3 := hr.free 3
  have x0 := hx.cell 0 _ rfl
  have x1 := hx.cell 1 _ rfl
  have x2 := hx.cell 2 _ rfl
  have x3 := hx.cell 3 _ rfl
  cases A with
  | false =>
    have hO := Lib.hid (show O = false by rw [HE.out]; rfl)
    have hV := Lib.hid (show V = sl0 by rw [HV.out]; rfl)
    go_wp2
    exact out_sl0 rfl _ _ _ _ _ rfl rfl rfl hr hB (by omega) _ _ hV.out hO.out
  | true =>
    have hO := Lib.hid (show O = B by rw [HE.out]; rfl)
    have hV := Lib.hid (show V = ⟨qa, qr, qn, qb⟩ by rw [HV.out]; rfl)
    clear HE HV
    go_wp2_with fail
    refine (HSO.out _ (HF.out.below hB (Nat.le_refl _)) (HK.out.below hB (Nat.le_refl _))).mono ?_
    rintro e w2 ⟨rfl, hb2⟩
    replace hr := hr.keep hb2 hr.lt
    replace hB := hB.trans (hb2.mono hB.size)
    clear hb2 HSO hx r0 r1 r2 r3 g0 g1 g2 g3 x0 x1 x2 x3
    have r0 := hr.cell 0 _ rfl
    have r1 := hr.cell 1 _ rfl
    have r2 := hr.cell 2 _ rfl
    have r3 := hr.cell 3 _ rfl
    have g0 := hr.free 0
    have g1 := hr.free 1
    have g2 := hr.free 2
    have g3 := hr.free 3
    go_wp2
    refine bodyPost_ret (results_sl2 rfl _ _ _ _ _ rfl rfl rfl (hr.put4 rfl _ _ _ _)) rfl ?_
    exact ⟨by rw [hO.out, hV.out]; rfl, hB.trans (below4 _ _ _ (by omega) _ _ _ _)⟩

set_option maxRecDepth 100000 in
set_option maxHeartbeats 3000000 in
theorem specRewrapped_any (s : SlotD) (old pass sa' no' : ByteArray) (w : World) (hz : SlSz s) (z0 : old.size ≤ 1048576) (z1 : pass.size ≤ 1048576) (z2 : sa'.size ≤ 1048576) (z3 : no'.size ≤ 1048576) :
    Calls Tryz.prog 15 #[slV s, .string old, .string pass, .string sa', .string no'] w fun e w' => e = .returned (.tuple #[slV (rwV s old pass sa' no'), .bool (rwO s old pass sa' no')]) ∧ Below w.heap.size w w' := by
  have HKI := Lib.hid (fun w => specKeyIn_any s old w hz z0)
  have hkl := kiT_le s old
  have HSO := Lib.hid (fun w => specSlotOf_any pass sa' s.ro no' (kiT s old) w z1 z2 z3 (by have := hz.2.2.1; omega) hz.2.2.2)
  have HE : Hid (rwO s old pass sa' no' = (kiO s old && soO pass sa' s.ro no' (kiT s old))) := Lib.hid rfl
  have HV : Hid (rwV s old pass sa' no' = if kiO s old = true then soV pass sa' s.ro no' (kiT s old) else sl0) := Lib.hid rfl
  generalize rwO s old pass sa' no' = O at HE ⊢
  generalize rwV s old pass sa' no' = V at HV ⊢
  generalize kiO s old = A at HKI HE HV
  generalize soO pass sa' s.ro no' (kiT s old) = B at HSO HE
  generalize soV pass sa' s.ro no' (kiT s old) = q at HSO HV
  generalize kiT s old = T at HKI HSO
  obtain ⟨sa, ro, no, bx⟩ := s
  obtain ⟨qa, qr, qn, qb⟩ := q
  dsimp only at HSO
  clear hz hkl
  have hx : Box ((w.alloc (.cells #[.string sa, .int .i64 ro, .string no, .string bx] 23)).alloc (.cells sl0C 23)) w.heap.size #[.string sa, .int .i64 ro, .string no, .string bx] 23 := (Box.new w _ _).alloc _
  have hr : Box ((w.alloc (.cells #[.string sa, .int .i64 ro, .string no, .string bx] 23)).alloc (.cells sl0C 23)) (w.heap.size + 1) sl0C 23 := by
    have := Box.new (w.alloc (.cells #[.string sa, .int .i64 ro, .string no, .string bx] 23)) sl0C 23
    simpa using this
  have hB : Below w.heap.size w ((w.alloc (.cells #[.string sa, .int .i64 ro, .string no, .string bx] 23)).alloc (.cells sl0C 23)) := ((Below.refl _ _).alloc (Nat.le_refl _) _).alloc (by simp) _
  go_enter Tryz.func15, Tryz.ntmps15
  go_wp2_with fail
  generalize (w.alloc (.cells #[.string sa, .int .i64 ro, .string no, .string bx] 23)).alloc (.cells sl0C 23) = W0 at hx hr hB ⊢
  refine (HKI.out _).mono ?_
  rintro e w1 ⟨rfl, hb1⟩
  replace hx := hx.keep hb1 hx.lt
  replace hr := hr.keep hb1 hr.lt
  replace hB := hB.trans (hb1.mono hB.size)
  clear hb1 HKI
  have r0 := hr.cell 0 _ rfl
  have r1 := hr.cell 1 _ rfl
  have r2 := hr.cell 2 _ rfl
  have r3 := hr.cell 3 _ rfl
  have g0 := hr.free 0
  have g1 := hr.free 1
  have g2 := hr.free 2
  have g3 := hr.free 3
  have x0 := hx.cell 0 _ rfl
  have x1 := hx.cell 1 _ rfl
  have x2 := hx.cell 2 _ rfl
  have x3 := hx.cell 3 _ rfl
  cases A with
  | false =>
    have hO := Lib.hid (show O = false by rw [HE.out]; rfl)
    have hV := Lib.hid (show V = sl0 by rw [HV.out]; rfl)
    go_wp2
    exact out_sl0 rfl _ _ _ _ _ rfl rfl rfl hr hB (by omega) _ _ hV.out hO.out
  | true =>
    have hO := Lib.hid (show O = B by rw [HE.out]; rfl)
    have hV := Lib.hid (show V = ⟨qa, qr, qn, qb⟩ by rw [HV.out]; rfl)
    clear HE HV
    go_wp2_with fail
    refine (HSO.out _).mono ?_
    rintro e w2 ⟨rfl, hb2⟩
    replace hr := hr.keep hb2 hr.lt
    replace hB := hB.trans (hb2.mono hB.size)
    clear hb2 HSO hx r0 r1 r2 r3 g0 g1 g2 g3 x0 x1 x2 x3
    have r0 := hr.cell 0 _ rfl
    have r1 := hr.cell 1 _ rfl
    have r2 := hr.cell 2 _ rfl
    have r3 := hr.cell 3 _ rfl
    have g0 := hr.free 0
    have g1 := hr.free 1
    have g2 := hr.free 2
    have g3 := hr.free 3
    go_wp2
    refine bodyPost_ret (results_sl2 rfl _ _ _ _ _ rfl rfl rfl (hr.put4 rfl _ _ _ _)) rfl ?_
    exact ⟨by rw [hO.out, hV.out]; rfl, hB.trans (below4 _ _ _ (by omega) _ _ _ _)⟩

theorem Box.third17 (w : World) (x y : Obj) (cs : Array Value) (t : TypeId) : Box (((w.alloc x).alloc y).alloc (.cells cs t)) (w.heap.size + 1 + 1) cs t := by
  have := Box.new ((w.alloc x).alloc y) cs t
  simpa using this
theorem below3c (w : World) (x y z : Obj) : Below w.heap.size w (((w.alloc x).alloc y).alloc z) := (((Below.refl _ _).alloc (Nat.le_refl _) _).alloc (by simp) _).alloc (by simp; omega) _

set_option maxRecDepth 100000 in
set_option maxHeartbeats 1600000 in
theorem toSlot_any (s : SlotD) (w : World) : Calls Tryz.prog 13 #[slV s] w fun e w' => e = .returned (slV s) ∧ Below w.heap.size w w' := by
  obtain ⟨sa, ro, no, bx⟩ := s
  go_enter Tryz.func13, Tryz.ntmps13
  go_wp2
  have hA := (Box.new (w.alloc (.cells #[.string sa, .int .i64 ro, .string no, .string bx] 28)) #[.string sa, .int .i64 ro, .string no, .string bx] 23).alloc (.cells #[.string sa, .int .i64 ro, .string no, .string bx] 23)
  rw [World.size_alloc] at hA
  exact bodyPost_ret (results_sl rfl _ _ _ _ rfl rfl hA) rfl ⟨rfl, below3c _ _ _ _⟩

set_option maxRecDepth 100000 in
set_option maxHeartbeats 1600000 in
theorem eqSlot_same (s : SlotD) (w : World) : Calls Tryz.prog 10 #[slV s, slV s] w fun e w' => e = .returned (.bool true) ∧ Below w.heap.size w w' := by
  obtain ⟨sa, ro, no, bx⟩ := s
  have HB := Lib.hid (((Below.refl w.heap.size w).alloc (Nat.le_refl _) (.cells #[.string sa, .int .i64 ro, .string no, .string bx] 23)).alloc (by simp) (.cells #[.string sa, .int .i64 ro, .string no, .string bx] 23))
  go_enter Tryz.func10, Tryz.ntmps10
  go_wp2
  go_ret
  exact ⟨rfl, HB.out⟩

set_option maxRecDepth 100000 in
set_option maxHeartbeats 1600000 in
theorem szSlot_any (s : SlotD) (w : World) (z1 : s.sa.size ≤ maxLen) (z2 : s.no.size ≤ maxLen) (z3 : s.bx.size ≤ maxLen) :
    Calls Tryz.prog 11 #[slV s, .int .i64 1048576] w fun e w' => ∃ r : Int, e = .returned (.int .i64 r) ∧ -1 ≤ r ∧ (0 ≤ r → s.sa.size ≤ 1048576 ∧ s.no.size ≤ 1048576 ∧ s.bx.size ≤ 1048576) ∧ Below w.heap.size w w' := by
  obtain ⟨sa, ro, no, bx⟩ := s
  unfold maxLen at z1 z2 z3
  dsimp only at z1 z2 z3 ⊢
  have hB := (Below.refl w.heap.size w).alloc (Nat.le_refl _) (.cells #[.string sa, .int .i64 ro, .string no, .string bx] 28)
  by_cases c1 : 1048576 - (sa.size : Int) < 0
  · go_enter Tryz.func11, Tryz.ntmps11
    go_wp2
    go_ret
    exact ⟨-1, rfl, by omega, by omega, hB⟩
  by_cases c2 : 1048576 - (sa.size : Int) - no.size < 0
  · go_enter Tryz.func11, Tryz.ntmps11
    go_wp2
    go_ret
    exact ⟨-1, rfl, by omega, by omega, hB⟩
  by_cases c3 : 1048576 - (sa.size : Int) - no.size - bx.size < 0
  · go_enter Tryz.func11, Tryz.ntmps11
    go_wp2
    go_ret
    exact ⟨-1, rfl, by omega, by omega, hB⟩
  go_enter Tryz.func11, Tryz.ntmps11
  go_wp2
  go_ret
  exact ⟨_, rfl, by omega, fun _ => by omega, hB⟩
end Go.Proofs.YtlipgmaiooljkaaGreatDoor
