/- Joined: W17b. -/
import Derived.Test.YtlipgmaiooljkaaGreatDoorH41
import Derived.Test.YtlipgmaiooljkaaGreatDoorH44
import Derived.Test.YtlipgmaiooljkaaGreatDoorH46
import Derived.Test.YtlipgmaiooljkaaGreatDoorH47
/- W17b -/
namespace Go.Proofs.YtlipgmaiooljkaaGreatDoor
open Go.ChangeShapes Go.WideShapes Go.ChangeAt Go.RowKit
set_option linter.unusedVariables false
set_option linter.unusedSimpArgs false

theorem soV_true {pass sa no key : ByteArray} {ro : Int} (h : soO pass sa ro no key = true) : soV pass sa ro no key = soD pass sa ro no key := if_pos h
theorem soV_false {pass sa no key : ByteArray} {ro : Int} (h : soO pass sa ro no key = false) : soV pass sa ro no key = sl0 := if_neg (by rw [h]; simp)
/-- The end of a refusal: the result's box is emptied. -/
theorem out_sl0 {fn : Func} {p u : Tmp} (h : fn.results = #[.cell p 23, .tmp u]) (tmps : Array Value) (w W : World) (g : Nat) (cs : Array Value) (hz : cs.size = 4)
    (hp : tmps.getD p undef = .pointer (some ⟨g, 0, none⟩)) (hu : tmps.getD u undef = .bool false) (hA : Box W g cs 23) (hB : Below w.heap.size w W) (hg : w.heap.size ≤ g) (q : SlotD) (b : Bool) (hq : q = sl0) (hb : b = false) :
    bodyPost Tryz.prog fn (fun e w'' => e = .returned (.tuple #[slV q, .bool b]) ∧ Below w.heap.size w w'') Exit.ret ⟨tmps, []⟩ ((((W.setCell ⟨g, 0, none⟩ (.string ⟨#[]⟩)).setCell ⟨g, 1, none⟩ (.int .i64 0)).setCell ⟨g, 2, none⟩ (.string ⟨#[]⟩)).setCell ⟨g, 3, none⟩ (.string ⟨#[]⟩)) := by
  subst hq hb
  exact bodyPost_ret (results_sl2 h _ _ _ _ _ rfl hp hu (hA.put4 hz _ _ _ _)) rfl ⟨rfl, hB.trans (below4 _ _ _ hg _ _ _ _)⟩

set_option maxRecDepth 100000 in
set_option maxHeartbeats 3000000 in
theorem implSlotOf_any (pass sa : ByteArray) (ro : Int) (no key : ByteArray) (w : World) (z0 : pass.size ≤ 1048576) (z1 : sa.size ≤ 1048576) (z2 : no.size ≤ 1048576) (z3 : key.size ≤ 1048576) (hro : (Lit.int .i64 ro).wf = true) (hF : FTab w) (hK : KTab w) :
    Calls Tryz.prog 9 #[.string pass, .string sa, .int .i64 ro, .string no, .string key] w fun e w' => e = .returned (.tuple #[slV (soV pass sa ro no key), .bool (soO pass sa ro no key)]) ∧ Below w.heap.size w w' := by
  have HF := Lib.hid hF
  have HK := Lib.hid hK
  have HP := Lib.hid (fun w => slotPartsOk_any ⟨sa, ro, no, ⟨#[]⟩⟩ w ⟨z1, z2, Nat.zero_le _, hro⟩)
  have HT := Lib.hid (fun h => soV_true (pass := pass) (sa := sa) (ro := ro) (no := no) (key := key) h)
  have HN := Lib.hid (fun h => soV_false (pass := pass) (sa := sa) (ro := ro) (no := no) (key := key) h)
  have HE : Hid (soO pass sa ro no key = (decide (pass.size ≤ 100) && spB sa no ro && decide (key.size = 32))) := Lib.hid rfl
  have HI := Lib.hid (fun h => spB_inv (sa := sa) (no := no) (ro := ro) h)
  have HS := Lib.hid (fun w h1 h2 => implStretched_any pass sa ro w (by unfold maxLen; omega) (by unfold maxLen; omega) hro h1 h2)
  have HZ := Lib.hid (fun h1 h2 h3 h4 => srR_size (pass := pass) (sa := sa) (ro := ro) h1 h2 h3 h4)
  have HB := Lib.hid (fun bx w h1 h2 => besideKey_any ⟨sa, ro, no, bx⟩ w z1 h1 h2)
  have HD : Hid (soD pass sa ro no key = ⟨sa, ro, no, sealB (srR pass sa ro) no (bkT sa ro) key⟩) := Lib.hid rfl
  have HBz := Lib.hid (bkT_size sa ro)
  dsimp only at HP HB
  generalize soV pass sa ro no key = V at HT HN ⊢
  generalize soD pass sa ro no key = D at HT HD
  generalize soO pass sa ro no key = O at HT HN HE ⊢
  generalize spB sa no ro = A at HP HE HI
  generalize srR pass sa ro = R at HS HZ HD
  generalize bkT sa ro = BK at HB HD HBz
  have hxC := fun cs : Array Value => Box.new w cs 23
  obtain ⟨W0, hW0⟩ : ∃ W0, W0 = (w.alloc (.cells sl0C 23)).alloc (.cells #[.string sa, .int .i64 ro, .string no, .string ⟨#[]⟩] 23) := ⟨_, rfl⟩
  have hB0 : Below w.heap.size w W0 := by rw [hW0]; exact ((Below.refl _ _).alloc (Nat.le_refl _) _).alloc (by simp) _
  have hr : Box W0 w.heap.size sl0C 23 := by rw [hW0]; exact (Box.new w _ _).alloc _
  have hx : Box W0 (w.heap.size + 1) #[.string sa, .int .i64 ro, .string no, .string ⟨#[]⟩] 23 := by
    rw [hW0]
    have := Box.new (w.alloc (.cells sl0C 23)) #[.string sa, .int .i64 ro, .string no, .string ⟨#[]⟩] 23
    simpa using this
  clear hF hK hro hxC
  by_cases h1 : pass.size ≤ 100
  case neg =>
    have hO := Lib.hid (by rw [HE.out, decide_eq_false h1]; rfl : O = false)
    rw [hW0] at hr hB0
    go_enter Tryz.func9, Tryz.ntmps9
    go_wp2
    refine bodyPost_ret (results_sl2 rfl _ _ w.heap.size sl0C _ rfl rfl rfl hr) rfl ?_
    exact ⟨by rw [HN.out hO.out, hO.out]; rfl, hB0⟩
  go_enter Tryz.func9, Tryz.ntmps9
  go_wp2_with fail
  rw [← hW0]
  clear hW0
  refine (HP.out _).mono ?_
  rintro e W1 ⟨rfl, hb1⟩
  replace hx := hx.keep hb1 hx.lt
  replace hr := hr.keep hb1 hr.lt
  replace hB0 := hB0.trans (hb1.mono hB0.size)
  clear hb1 HP
  have r0 := hr.cell 0 _ rfl
  have r1 := hr.cell 1 _ rfl
  have r2 := hr.cell 2 _ rfl
  have r3 := hr.cell 3 _ rfl
  have g0 := hr.free 0
  have g1 := hr.free 1
  have g2 := hr.free 2
  have g3 := hr.free 3
  have x0 := hx.cell 0 _ rfl
  have x1 := hx.cell 1 _ rfl
  have x2 := hx.cell 2 _ rfl
  have x3 := hx.cell 3 _ rfl
  cases A with
  | false =>
    have hO := Lib.hid (by rw [HE.out]; simp : O = false)
    go_wp2
    refine out_sl0 rfl _ _ _ _ _ rfl rfl rfl hr hB0 (Nat.le_refl _) _ _ (HN.out hO.out) hO.out
  | true =>
    obtain ⟨i1, i2, i3, i4⟩ := HI.out rfl
    by_cases h2 : key.size = 32
    case neg =>
      have hO := Lib.hid (by rw [HE.out, decide_eq_false h2]; simp : O = false)
      have hd : ((key.size : Int) != 32) = true := by simp; omega
      clear h2 i1 i4
      go_wp2
      refine out_sl0 rfl _ _ _ _ _ rfl rfl rfl hr hB0 (Nat.le_refl _) _ _ (HN.out hO.out) hO.out
    have hO := Lib.hid (by rw [HE.out, decide_eq_true h1, decide_eq_true h2]; rfl : O = true)
    have hd : ((key.size : Int) != 32) = false := by simp; omega
    have hDD := Lib.hid (HT.out hO.out)
    have hRz := HZ.out (by omega) (by omega) i2 i3
    have HSL := Lib.hid (fun w => implSealed_any R no BK key w (by unfold maxLen; omega) (by unfold maxLen; omega) (by rw [HBz.out]; unfold maxLen; omega) (by unfold maxLen; omega))
    have HSQ : Hid (slR R no BK key = sealB R no BK key) := Lib.hid (if_pos ⟨hRz, i4, by rw [HBz.out]; omega, by omega⟩)
    rw [HSQ.out] at HSL
    generalize sealB R no BK key = SB at HSL HD
    have HB2 := Lib.hid (fun w => HB.out ⟨#[]⟩ w i2 i3)
    clear HI HT HN HE HZ HBz HSQ HB h2 i1 i4 hRz r0 r1 r2 r3 g0 g1 g2 g3 x0 x1 x2 x3
    have hxl := hx.lt
    have hrl := hr.lt
    go_wp2
    refine wp_region_T (fun _ => True) (fun _ => True) 10 (by kernel_rfl) 11 rfl ?_
    refine wpAnyT_flo2 (fun i => decide (i < 10)) (by kernel_rfl) (by kernel_rfl) 1 (fun L a wr => ∃ (cQ : Nat → Bool) (sQ : Nat → Value), L = #[cQ 0, cQ 1, cQ 2, cQ 3, cQ 4, cQ 5, cQ 6, cQ 7, cQ 8, cQ 9, false] ∧ a = { tmps := #[Value.string pass, Value.string sa, Value.int IntKind.i64 ro, Value.string no, Value.string key, undef, undef, undef, undef, undef, Value.pointer (some { block := w.heap.size, off := 0 }), Value.bool false, Value.pointer (some { block := w.heap.size + 1, off := 0 }), Value.string sa, Value.int IntKind.i64 ro, Value.string no, Value.agg #[Value.string sa, Value.int IntKind.i64 ro, Value.string no, Value.string { data := #[] }], Value.string pass, Value.int IntKind.i64 ((pass.size : Nat) : Int), Value.bool (decide (100 < ((pass.size : Nat) : Int))), Value.bool (decide (100 < ((pass.size : Nat) : Int))), Value.agg #[Value.string sa, Value.int IntKind.i64 ro, Value.string no, Value.string { data := #[] }], Value.bool true, Value.bool false, Value.bool (decide (100 < ((pass.size : Nat) : Int))), Value.bool (decide (100 < ((pass.size : Nat) : Int))), Value.string key, Value.int IntKind.i64 ((key.size : Nat) : Int), Value.bool false, Value.bool (decide (100 < ((pass.size : Nat) : Int))), undef, sl cQ sQ 0, sl cQ sQ 1, sl cQ sQ 2, sl cQ sQ 3, sl cQ sQ 4, sl cQ sQ 5, sl cQ sQ 6, sl cQ sQ 7, sl cQ sQ 8, sl cQ sQ 9, undef], defers := [] } ∧ FloS (FixQ W1.heap.size (fun i => ([.val (.string pass), .val (.string sa), .val (.int .i64 ro), .val (.string R), .val (.string no), .val (slV ⟨sa, ro, no, ⟨#[]⟩⟩), .val (.string BK), .val (.string key), .val (.string SB), .val (.pointer (some ⟨w.heap.size + 1, 3, none⟩)), .val (undef)] : List Kd).getD i (.val undef))) (fun wr => Below W1.heap.size W1 wr) cQ sQ wr) ?_ ?_ ?_ ?_ 10 _ _ _ ?_ ?_
    · rintro L a wr ⟨cQ, sQ, rfl, _, _⟩
      rfl
    · rintro L a wr ⟨cQ, sQ, rfl, _, _⟩ i hi hfi
      have hi' : i < 11 := hi
      rcases (show i = 0 ∨ i = 1 ∨ i = 2 ∨ i = 3 ∨ i = 4 ∨ i = 5 ∨ i = 6 ∨ i = 7 ∨ i = 8 ∨ i = 9 ∨ i = 10 by omega) with rfl | rfl | rfl | rfl | rfl | rfl | rfl | rfl | rfl | rfl | rfl
      · exact absurd hfi (by decide)
      · exact absurd hfi (by decide)
      · exact absurd hfi (by decide)
      · exact absurd hfi (by decide)
      · exact absurd hfi (by decide)
      · exact absurd hfi (by decide)
      · exact absurd hfi (by decide)
      · exact absurd hfi (by decide)
      · exact absurd hfi (by decide)
      · exact absurd hfi (by decide)
      · rfl
    · rintro L a wr i o ⟨cQ, sQ, rfl, rfl, hF⟩ ho hfl hL hdep
      have hB := hF.fr
      have hi : i < 10 := of_decide_eq_true hfl
      rcases (show i = 0 ∨ i = 1 ∨ i = 2 ∨ i = 3 ∨ i = 4 ∨ i = 5 ∨ i = 6 ∨ i = 7 ∨ i = 8 ∨ i = 9 by omega) with rfl | rfl | rfl | rfl | rfl | rfl | rfl | rfl | rfl | rfl
      · have ho' := Option.some.inj ho
        subst ho'
        refine ⟨by kernel_rfl, ?_⟩
        go_simp
        exact ⟨up cQ 0 true, by simp [up], up sQ 0 (.string pass), by simp [up, sl], hF.step 0 (.string pass) _ hB (fun j u h => h) rfl⟩
      · have ho' := Option.some.inj ho
        subst ho'
        refine ⟨by kernel_rfl, ?_⟩
        go_simp
        exact ⟨up cQ 1 true, by simp [up], up sQ 1 (.string sa), by simp [up, sl], hF.step 1 (.string sa) _ hB (fun j u h => h) rfl⟩
      · have ho' := Option.some.inj ho
        subst ho'
        refine ⟨by kernel_rfl, ?_⟩
        go_simp
        exact ⟨up cQ 2 true, by simp [up], up sQ 2 (.int .i64 ro), by simp [up, sl], hF.step 2 (.int .i64 ro) _ hB (fun j u h => h) rfl⟩
      · have ho' := Option.some.inj ho
        subst ho'
        have h0 : cQ 0 = true := hdep ⟨0, .data⟩ (by simp) rfl
        have e0 : sQ 0 = .string pass := hF.k 0 h0
        have h1 : cQ 1 = true := hdep ⟨1, .data⟩ (by simp) rfl
        have e1 : sQ 1 = .string sa := hF.k 1 h1
        have h2 : cQ 2 = true := hdep ⟨2, .data⟩ (by simp) rfl
        have e2 : sQ 2 = .int .i64 ro := hF.k 2 h2
        refine ⟨by kernel_rfl, ?_⟩
        rw [sl_on h0, sl_on h1, sl_on h2, e0, e1, e2]
        go_simp
        refine (HS.out _ (HF.out.below (hB0.trans (hB.mono hB0.size)) (Nat.le_refl _)) (HK.out.below (hB0.trans (hB.mono hB0.size)) (Nat.le_refl _))).mono ?_
        rintro e w2 ⟨rfl, hb⟩
        go_simp
        exact ⟨up cQ 3 true, by simp [up, h0, h1, h2, e0, e1, e2], up sQ 3 (.string R), by simp [up, sl, h0, h1, h2, e0, e1, e2], hF.step 3 (.string R) _ (hB.trans (hb.mono hB.size)) (FixQ.keep hb) rfl⟩
      · have ho' := Option.some.inj ho
        subst ho'
        refine ⟨by kernel_rfl, ?_⟩
        go_simp
        exact ⟨up cQ 4 true, by simp [up], up sQ 4 (.string no), by simp [up, sl], hF.step 4 (.string no) _ hB (fun j u h => h) rfl⟩
      · have ho' := Option.some.inj ho
        subst ho'
        refine ⟨by kernel_rfl, ?_⟩
        have hxx := hx.keep hB hxl
        have x0 := hxx.cell 0 _ rfl
        have x1 := hxx.cell 1 _ rfl
        have x2 := hxx.cell 2 _ rfl
        have x3 := hxx.cell 3 _ rfl
        go_simp
        exact ⟨up cQ 5 true, by simp [up], up sQ 5 (slV ⟨sa, ro, no, ⟨#[]⟩⟩), by simp [up, sl], hF.step 5 (slV ⟨sa, ro, no, ⟨#[]⟩⟩) _ hB (fun j u h => h) rfl⟩
      · have ho' := Option.some.inj ho
        subst ho'
        have h5 : cQ 5 = true := hdep ⟨5, .data⟩ (by simp) rfl
        have e5 : sQ 5 = slV ⟨sa, ro, no, ⟨#[]⟩⟩ := hF.k 5 h5
        refine ⟨by kernel_rfl, ?_⟩
        rw [sl_on h5, e5]
        go_simp
        refine (HB2.out _).mono ?_
        rintro e w2 ⟨rfl, hb⟩
        go_simp
        exact ⟨up cQ 6 true, by simp [up, h5, e5], up sQ 6 (.string BK), by simp [up, sl, h5, e5], hF.step 6 (.string BK) _ (hB.trans (hb.mono hB.size)) (FixQ.keep hb) rfl⟩
      · have ho' := Option.some.inj ho
        subst ho'
        refine ⟨by kernel_rfl, ?_⟩
        go_simp
        exact ⟨up cQ 7 true, by simp [up], up sQ 7 (.string key), by simp [up, sl], hF.step 7 (.string key) _ hB (fun j u h => h) rfl⟩
      · have ho' := Option.some.inj ho
        subst ho'
        have h3 : cQ 3 = true := hdep ⟨3, .data⟩ (by simp) rfl
        have e3 : sQ 3 = .string R := hF.k 3 h3
        have h4 : cQ 4 = true := hdep ⟨4, .data⟩ (by simp) rfl
        have e4 : sQ 4 = .string no := hF.k 4 h4
        have h6 : cQ 6 = true := hdep ⟨6, .data⟩ (by simp) rfl
        have e6 : sQ 6 = .string BK := hF.k 6 h6
        have h7 : cQ 7 = true := hdep ⟨7, .data⟩ (by simp) rfl
        have e7 : sQ 7 = .string key := hF.k 7 h7
        refine ⟨by kernel_rfl, ?_⟩
        rw [sl_on h3, sl_on h4, sl_on h6, sl_on h7, e3, e4, e6, e7]
        go_simp
        refine (HSL.out _).mono ?_
        rintro e w2 ⟨rfl, hb⟩
        go_simp
        exact ⟨up cQ 8 true, by simp [up, h3, h4, h6, h7, e3, e4, e6, e7], up sQ 8 (.string SB), by simp [up, sl, h3, h4, h6, h7, e3, e4, e6, e7], hF.step 8 (.string SB) _ (hB.trans (hb.mono hB.size)) (FixQ.keep hb) rfl⟩
      · have ho' := Option.some.inj ho
        subst ho'
        refine ⟨by kernel_rfl, ?_⟩
        go_simp
        exact ⟨up cQ 9 true, by simp [up], up sQ 9 (.pointer (some ⟨w.heap.size + 1, 3, none⟩)), by simp [up, sl], hF.step 9 (.pointer (some ⟨w.heap.size + 1, 3, none⟩)) _ hB (fun j u h => h) rfl⟩
    · rintro L a wr ⟨cQ, sQ, rfl, rfl, hF⟩ hall
      have hB := hF.fr
      have h0 : cQ 0 = true := hall 0 (by decide) rfl
      have h1 : cQ 1 = true := hall 1 (by decide) rfl
      have h2 : cQ 2 = true := hall 2 (by decide) rfl
      have h3 : cQ 3 = true := hall 3 (by decide) rfl
      have h4 : cQ 4 = true := hall 4 (by decide) rfl
      have h5 : cQ 5 = true := hall 5 (by decide) rfl
      have h6 : cQ 6 = true := hall 6 (by decide) rfl
      have h7 : cQ 7 = true := hall 7 (by decide) rfl
      have h8 : cQ 8 = true := hall 8 (by decide) rfl
      have h9 : cQ 9 = true := hall 9 (by decide) rfl
      have e8 : sQ 8 = .string SB := hF.k 8 h8
      have e9 : sQ 9 = .pointer (some ⟨w.heap.size + 1, 3, none⟩) := hF.k 9 h9
      rw [h0, h1, h2, h3, h4, h5, h6, h7, h8, h9, sl_on h8, sl_on h9, e8, e9]
      clear hall hF   h0 h1 h2 h3 h4 h5 h6 h7 h8 h9 e8 e9
      generalize sl cQ sQ 0 = s0
      generalize sl cQ sQ 1 = s1
      generalize sl cQ sQ 2 = s2
      generalize sl cQ sQ 3 = s3
      generalize sl cQ sQ 4 = s4
      generalize sl cQ sQ 5 = s5
      generalize sl cQ sQ 6 = s6
      generalize sl cQ sQ 7 = s7
      replace hx := hx.keep hB hxl
      replace hr := hr.keep hB hrl
      have hBn := hB0.trans (hB.mono hB0.size)
      have x0 := hx.cell 0 _ rfl
      have x1 := hx.cell 1 _ rfl
      have x2 := hx.cell 2 _ rfl
      have x3 := hx.cell 3 _ rfl
      have f0 := hx.free 0
      have f1 := hx.free 1
      have f2 := hx.free 2
      have f3 := hx.free 3
      refine wpAnyT_one 10 0 (by kernel_rfl) rfl (by kernel_rfl) ?_
      intro K hK
      go_simp
      have hk := hx.set 3 (.string SB)
      change Box _ (w.heap.size + 1) #[.string sa, .int .i64 ro, .string no, .string SB] _ at hk
      have hbk : Below (w.heap.size + 1) wr (wr.setCell ⟨w.heap.size + 1, 3, none⟩ (.string SB)) := (Below.refl _ wr).setCell (p := ⟨w.heap.size + 1, 3, none⟩) (Nat.le_refl _) _
      replace hr := hr.keep hbk (by omega)
      replace hBn := hBn.trans (hbk.mono (by omega))
      clear x0 x1 x2 x3 f0 f1 f2 f3
      generalize wr.setCell ⟨w.heap.size + 1, 3, none⟩ (.string SB) = W3 at hk hbk hr hBn ⊢
      refine hK _ _ ⟨trivial, fun _ => trivial⟩ (fun hS => ?_)
      clear hK K hS hx hB hbk
      refine wpAnyT_over (by kernel_rfl) ?_
      have x0 := hk.cell 0 _ rfl
      have x1 := hk.cell 1 _ rfl
      have x2 := hk.cell 2 _ rfl
      have x3 := hk.cell 3 _ rfl
      have r0 := hr.cell 0 _ rfl
      have r1 := hr.cell 1 _ rfl
      have r2 := hr.cell 2 _ rfl
      have r3 := hr.cell 3 _ rfl
      have g0 := hr.free 0
      have g1 := hr.free 1
      have g2 := hr.free 2
      have g3 := hr.free 3
      go_wp2
      refine bodyPost_ret (results_sl2 rfl _ _ _ _ _ rfl rfl rfl (hr.put4 rfl _ _ _ _)) rfl ?_
      exact ⟨by rw [hDD.out, hO.out, HD.out]; rfl, hBn.trans (below4 _ _ _ (Nat.le_refl _) _ _ _ _)⟩
    · exact ⟨fun _ => false, fun _ => undef, rfl, rfl, below_drewN (Below.refl _ _) 1, fun i hi => by cases hi⟩
    · decide
end Go.Proofs.YtlipgmaiooljkaaGreatDoor
