/- Joined: V9f. -/
import Derived.Test.YtfgdbpjmjeaolaaH16
import Derived.Test.YtfgdbpjmjeaolaaH28
import Derived.Test.YtfgdbpjmjeaolaaH51
import Derived.Test.YtfgdbpjmjeaolaaH53
/- V9f -/
namespace Go.Proofs.Ytfgdbpjmjeaolaa
open Go.ChangeShapes Go.WideShapes Go.ChangeAt Go.RowKit
set_option linter.unusedVariables false

theorem fdV_rd (os : List OpD) : rdB (fdV os).1 = true := by
  have h : ∀ (l : List OpD) (r : List Sb), rdB r = true → rdB (fdG r l).1 = true := by
    intro l
    induction l with
    | nil => intro r h; exact h
    | cons o l ih =>
      intro r h
      cases hd : doV r o with
      | none => rw [fdG_none hd]; exact h
      | some r2 => rw [fdG_some hd]; exact ih r2 (doV_rd hd)
  exact h _ _ rdB_nil

set_option maxRecDepth 100000 in
set_option maxHeartbeats 8000000 in
theorem walk_FnExactFolded (v : Value) (os : List OpD) (w : World) (h : OpsAt w w.heap.size v os) :
    Calls Try.prog 3 #[v] w fun e w' => e = .returned (.bool true) ∧ Below w.heap.size w w' := by
  have HSz := Lib.hid h.size
  have HI := Lib.hid h
  have HRd := Lib.hid (fdV_rd os)
  obtain ⟨RS, hRS⟩ : ∃ RS, RS = (fdV os).1 := ⟨_, rfl⟩
  obtain ⟨N, hNe⟩ : ∃ N : Int, N = ((fdV os).2 : Int) := ⟨_, rfl⟩
  have HSp := Lib.hid (fun v1 (w : World) (h1 : OpsAt w w.heap.size v1 os) => specFolded_any v1 os w h1)
  have HIm := Lib.hid (fun v1 (w : World) (h1 : OpsAt w w.heap.size v1 os) => implFolded_any v1 os w h1)
  unfold OutFo at HSp HIm
  rw [← hRS] at HRd HSp HIm
  rw [← hNe] at HSp HIm
  have HRz := Lib.hid (rd_sz HRd.out)
  have HRl := Lib.hid (rd_lens HRd.out)
  obtain ⟨va, vc, hv, _, _, _⟩ := h.raw
  subst hv
  clear hRS hNe h
  have HA0 : Hid (∀ W, Below w.heap.size w W → OpsAt W W.heap.size (.slice va os.length vc) os) := Lib.hid (fun W hW => (HI.out.below hW).mono hW.size)
  clear HI
  have hNN : (N != N) = false := by simp
  go_enter Try.func3, Try.ntmps3
  go_wp2_with fail
  refine (szOpS_any _ os 1048576 _ (HA0.out _ (Below.refl _ _)) (by decide) (by decide)).mono ?_
  rintro e w1 ⟨r, rfl, hr0, hr1, hr2, hB⟩
  by_cases hr : r < 0
  · clear hr2
    go_wp2
    go_ret
    exact ⟨rfl, hB⟩
  have HN : Hid (os.length ≤ 1048576 ∧ ∀ s ∈ os, s.its.length ≤ 1048576) := Lib.hid ⟨by have := (hr2 (by omega)).1; omega, fun s hs => by have := (hr2 (by omega)).2 s hs; omega⟩
  clear hr2
  have HTo := Lib.hid (fun (w : World) (h : OpsAt w w.heap.size (.slice va os.length vc) os) => toOpS_any _ os w h HN.out.1 HN.out.2)
  unfold OutOs at HTo
  have hr3 : decide (r < 0) = false := decide_eq_false hr
  go_wp2_with fail
  refine (HTo.out _ (HA0.out _ hB)).mono ?_
  rintro e w2 ⟨x2, rfl, hx2, hb2⟩
  have HX2 := Lib.hid (OwnO.at hx2 HSz.out)
  replace hB := hB.trans (hb2.mono hB.size)
  clear hb2 hx2 hr3
  go_wp2_with fail
  refine (HSp.out _ _ HX2.out).mono ?_
  rintro e w3 ⟨V6, q6, rfl, hq6, hD6, hb3⟩
  obtain ⟨Va6, Vc6, hVe⟩ := hD6.1.slice
  obtain ⟨Vn6, hVn⟩ : ∃ n, n = q6.length := ⟨_, rfl⟩
  rw [← hVn] at hVe
  clear hVn
  subst hVe
  have HW6a := Lib.hid (hD6.at hq6 HRz.out)
  replace hB := hB.trans (hb3.mono hB.size)
  clear hq6 hD6 hb3 HX2 HSp
  have h6 := Box.new w3 #[.slice Va6 Vn6 Vc6] 26
  have hba : Below w3.heap.size w3 (w3.alloc (.cells #[.slice Va6 Vn6 Vc6] 26)) := (Below.refl _ _).alloc (Nat.le_refl _) _
  have HW6b := Lib.hid ((HW6a.out.below hba).mono hba.size)
  replace hB := hB.trans (hba.mono hB.size)
  clear hba HW6a
  go_wp2_with fail
  obtain ⟨g6, hg6⟩ : ∃ g, g = w3.heap.size := ⟨_, rfl⟩
  rw [← hg6] at h6 ⊢
  clear hg6
  generalize w3.alloc (.cells #[.slice Va6 Vn6 Vc6] 26) = wc at h6 HW6b hB ⊢
  have hwc0 := hB.size
  have h6c := h6.lt
  have hcs : wc.heap.size ≤ wc.heap.size := Nat.le_refl _
  have HW6 := Lib.hid HW6b.out
  clear HW6b
  refine (toOpS_D _ os _ (HA0.out _ hB) HN.out.1 HN.out.2).mono ?_
  rintro e w4 ⟨V8, q8, rfl, hq8, hD8, hb4⟩
  obtain ⟨Va8, Vc8, hVe⟩ := hD8.1.slice
  obtain ⟨Vn8, hVn⟩ : ∃ n, n = q8.length := ⟨_, rfl⟩
  rw [← hVn] at hVe
  clear hVn
  subst hVe
  have HQ8 := Lib.hid hq8
  have HD8 := Lib.hid hD8
  have HL8 := Lib.hid hD8.lt
  have hs4 := hb4.size
  replace h6 := h6.keep hb4 h6.lt
  replace HW6 := Lib.hid (HW6.out.below (hb4.mono hcs))
  replace hB := hB.trans (hb4.mono hB.size)
  replace hcs : wc.heap.size ≤ w4.heap.size := hs4
  clear hb4 hq8 hD8
  go_wp2_with fail
  refine (HIm.out _ _ (HD8.out.at HQ8.out HSz.out)).mono ?_
  rintro e w5 ⟨V1, q1, rfl, hq1, hD1, hb5⟩
  obtain ⟨Va1, Vc1, hVe⟩ := hD1.1.slice
  obtain ⟨Vn1, hVn⟩ : ∃ n, n = q1.length := ⟨_, rfl⟩
  rw [← hVn] at hVe
  clear hVn
  subst hVe
  have HQ10 := Lib.hid hq1
  have HD10 := Lib.hid hD1
  have HL10 := Lib.hid hD1.lt
  have hs5 := hb5.size
  replace h6 := h6.keep hb5 h6.lt
  replace HW6 := Lib.hid (HW6.out.below (hb5.mono hcs))
  replace HD8 := Lib.hid (HD8.out.keep hb5 (Nat.le_refl _))
  replace hB := hB.trans (hb5.mono hB.size)
  replace hcs : wc.heap.size ≤ w5.heap.size := Nat.le_trans hcs hs5
  clear hb5 hq1 hD1
  have hba : Below w5.heap.size w5 (w5.alloc (.cells #[.slice Va1 Vn1 Vc1] 26)) := (Below.refl _ _).alloc (Nat.le_refl _) _
  have h10 := Box.new w5 #[.slice Va1 Vn1 Vc1] 26
  replace h6 := h6.keep hba h6.lt
  replace HW6 := Lib.hid (HW6.out.below (hba.mono hcs))
  replace HD8 := Lib.hid (HD8.out.keep hba (Nat.le_refl _))
  replace HD10 := Lib.hid (HD10.out.keep hba (Nat.le_refl _))
  replace hB := hB.trans (hba.mono hB.size)
  replace hcs : wc.heap.size ≤ (w5.alloc (.cells #[.slice Va1 Vn1 Vc1] 26)).heap.size := Nat.le_trans hcs hba.size
  have hs6 : w5.heap.size < (w5.alloc (.cells #[.slice Va1 Vn1 Vc1] 26)).heap.size := h10.lt
  clear hba
  have e0 : (w5.alloc (.cells #[.slice Va1 Vn1 Vc1] 26)).cell? ⟨w5.heap.size, 0, none⟩ = some (.slice Va1 Vn1 Vc1) := h10.cell 0 _ rfl
  have e1 : (w5.alloc (.cells #[.slice Va1 Vn1 Vc1] 26)).cell? ⟨g6, 0, none⟩ = some (.slice Va6 Vn6 Vc6) := h6.cell 0 _ rfl
  go_wp2_with fail
  clear e0 e1
  generalize (w5.alloc (.cells #[.slice Va1 Vn1 Vc1] 26)) = W5 at h6 h10 HD8 HD10 HW6 hcs hs6 hB ⊢
  refine (eqReader_same _ _ RS W5 (HD10.out.at HQ10.out HRz.out) (HW6.out.mono hcs)).mono ?_
  rintro e w6 ⟨rfl, hb6⟩
  have hs7 := hb6.size
  replace h6 := h6.keep hb6 h6.lt
  replace h10 := h10.keep hb6 h10.lt
  replace HW6 := Lib.hid (HW6.out.below (hb6.mono hcs))
  replace HD8 := Lib.hid (HD8.out.keep hb6 (Nat.le_refl _))
  replace HD10 := Lib.hid (HD10.out.keep hb6 (Nat.le_refl _))
  replace hB := hB.trans (hb6.mono hB.size)
  replace hcs : wc.heap.size ≤ w6.heap.size := Nat.le_trans hcs hs7
  clear hb6
  go_wp2_with fail
  refine (HTo.out _ (HA0.out _ hB)).mono ?_
  rintro e w7 ⟨x7, rfl, hx7, hb7⟩
  have H7 := Lib.hid (OwnO.at hx7 HSz.out)
  have hs8 := hb7.size
  replace h6 := h6.keep hb7 h6.lt
  replace h10 := h10.keep hb7 h10.lt
  replace HW6 := Lib.hid (HW6.out.below (hb7.mono hcs))
  replace HD8 := Lib.hid (HD8.out.keep hb7 (Nat.le_refl _))
  replace HD10 := Lib.hid (HD10.out.keep hb7 (Nat.le_refl _))
  replace hB := hB.trans (hb7.mono hB.size)
  replace hcs : wc.heap.size ≤ w7.heap.size := Nat.le_trans hcs hs8
  clear hb7 hx7
  go_wp2_with fail
  refine (eqOpS_same _ _ os w7 (HD8.out.at HQ8.out HSz.out) H7.out).mono ?_
  rintro e w8 ⟨rfl, hb8⟩
  have hs9 := hb8.size
  replace h6 := h6.keep hb8 h6.lt
  replace h10 := h10.keep hb8 h10.lt
  replace HW6 := Lib.hid (HW6.out.below (hb8.mono hcs))
  replace HD8 := Lib.hid (HD8.out.keep hb8 (Nat.le_refl _))
  replace HD10 := Lib.hid (HD10.out.keep hb8 (Nat.le_refl _))
  replace hB := hB.trans (hb8.mono hB.size)
  replace hcs : wc.heap.size ≤ w8.heap.size := Nat.le_trans hcs hs9
  clear hb8 H7
  have hMo := Lib.hid (naOk_one HN.out.1 HN.out.2)
  go_wp2_with fail
  refine (markOpS_any _ q8 os wc.heap.size w4.heap.size 1 w8 HD8.out HQ8.out hcs HL8.out.1 HL8.out.2 hMo.out HN.out.1).mono ?_
  rintro e w9 ⟨rfl, hM9⟩
  obtain ⟨hm1a, hm1b⟩ := naN_pos hMo.out
  generalize naN os 1 = M1 at hm1a hm1b ⊢
  have hk0 : decide (M1 < 0) = false := decide_eq_false (by omega)
  replace h10 := h10.mid hM9 (.inr (by omega))
  replace h6 := h6.mid hM9 (.inl h6c)
  replace HD10 := Lib.hid (HD10.out.mid hM9 (by omega))
  replace HW6 := Lib.hid (HW6.out.mid hM9 (Nat.le_refl _))
  have hwc : w.heap.size ≤ wc.heap.size := hwc0
  replace hB := hB.trans (hM9.1.mono hwc)
  have hs10 := hM9.1.size
  clear hM9 HD8
  have hcs9 : wc.heap.size ≤ w9.heap.size := by omega
  clear hcs
  have hcs := hcs9
  clear hcs9
  have e0 : w9.cell? ⟨w5.heap.size, 0, none⟩ = some (.slice Va1 Vn1 Vc1) := h10.cell 0 _ rfl
  have e1 : w9.cell? ⟨g6, 0, none⟩ = some (.slice Va6 Vn6 Vc6) := h6.cell 0 _ rfl
  go_wp2_with fail
  clear e0 e1
  refine (eqReader_same _ _ RS w9 (HD10.out.at HQ10.out HRz.out) (HW6.out.mono hcs)).mono ?_
  rintro e w10 ⟨rfl, hb10⟩
  have hs11 := hb10.size
  replace h6 := h6.keep hb10 h6.lt
  replace h10 := h10.keep hb10 h10.lt
  replace HD10 := Lib.hid (HD10.out.keep hb10 (Nat.le_refl _))
  replace HW6 := Lib.hid (HW6.out.below (hb10.mono hcs))
  replace hB := hB.trans (hb10.mono hB.size)
  replace hcs : wc.heap.size ≤ w10.heap.size := Nat.le_trans hcs hs11
  clear hb10
  have e0 : w10.cell? ⟨w5.heap.size, 0, none⟩ = some (.slice Va1 Vn1 Vc1) := h10.cell 0 _ rfl
  have hMr := Lib.hid (maOk_one HRl.out.1 HRl.out.2)
  go_wp2_with fail
  clear e0
  refine (markReader_any _ q1 RS w4.heap.size w5.heap.size 1 w10 HD10.out HQ10.out (by omega) (by omega) HL10.out.1 HL10.out.2 hMr.out HRl.out.1).mono ?_
  rintro e w11 ⟨q10b, rfl, hqb, hDb, hM11⟩
  have HDb := Lib.hid (hDb.at hqb (maS_sz RS 1))
  clear hqb hDb
  have HHd := Lib.hid (fun (w : World) (h : SbAt w w.heap.size (.slice Va1 Vn1 Vc1) (maS RS 1)) => heldReader_any _ RS 1 w h hMr.out HRl.out.1)
  obtain ⟨hm3a, hm3b⟩ := maN_pos hMr.out
  clear hMr
  generalize maN RS 1 = M3 at hm3a hm3b HHd ⊢
  replace h10 := h10.mid hM11 (.inr (Nat.le_refl _))
  replace h6 := h6.mid hM11 (.inl (by omega))
  replace HW6 := Lib.hid (HW6.out.mid hM11 (by omega))
  replace hB := hB.trans (hM11.1.mono (by omega))
  have hs12 := hM11.1.size
  clear hM11 HD10
  have hcs9 : wc.heap.size ≤ w11.heap.size := by omega
  clear hcs
  have hcs := hcs9
  clear hcs9
  have hn3 : decide (M3 < 0) = false := decide_eq_false (by omega)
  have hne3 : (M3 != M3) = false := by simp
  have e0 : w11.cell? ⟨w5.heap.size, 0, none⟩ = some (.slice Va1 Vn1 Vc1) := h10.cell 0 _ rfl
  go_wp2_with fail
  clear e0
  refine (HHd.out w11 HDb.out).mono ?_
  rintro e w12 ⟨rfl, hb12⟩
  have hs13 := hb12.size
  replace HDb := Lib.hid ((HDb.out.below hb12).mono hs13)
  replace h6 := h6.keep hb12 h6.lt
  replace h10 := h10.keep hb12 h10.lt
  replace HW6 := Lib.hid (HW6.out.below (hb12.mono hcs))
  replace hB := hB.trans (hb12.mono hB.size)
  replace hcs : wc.heap.size ≤ w12.heap.size := Nat.le_trans hcs hs13
  clear hb12
  go_wp2_with fail
  refine (HTo.out _ (HA0.out _ hB)).mono ?_
  rintro e w13 ⟨x13, rfl, hx13, hb13⟩
  have H13 := Lib.hid (OwnO.at hx13 HSz.out)
  have hs14 := hb13.size
  replace HDb := Lib.hid ((HDb.out.below hb13).mono hs14)
  replace h6 := h6.keep hb13 h6.lt
  replace h10 := h10.keep hb13 h10.lt
  replace HW6 := Lib.hid (HW6.out.below (hb13.mono hcs))
  replace hB := hB.trans (hb13.mono hB.size)
  replace hcs : wc.heap.size ≤ w13.heap.size := Nat.le_trans hcs hs14
  clear hb13 hx13
  go_wp2_with fail
  refine (HIm.out _ _ H13.out).mono ?_
  rintro e w14 ⟨V15, q15, rfl, hq15, hD15, hb14⟩
  obtain ⟨Va15, Vc15, hVe⟩ := hD15.1.slice
  obtain ⟨Vn15, hVn⟩ : ∃ n, n = q15.length := ⟨_, rfl⟩
  rw [← hVn] at hVe
  clear hVn
  subst hVe
  have hs15 := hb14.size
  replace HDb := Lib.hid ((HDb.out.below hb14).mono hs15)
  replace h6 := h6.keep hb14 h6.lt
  replace h10 := h10.keep hb14 h10.lt
  replace HW6 := Lib.hid (HW6.out.below (hb14.mono hcs))
  replace hB := hB.trans (hb14.mono hB.size)
  replace hcs : wc.heap.size ≤ w14.heap.size := Nat.le_trans hcs hs15
  clear hb14 H13
  have hba : Below w14.heap.size w14 (w14.alloc (.cells #[.slice Va15 Vn15 Vc15] 26)) := (Below.refl _ _).alloc (Nat.le_refl _) _
  have h15 := Box.new w14 #[.slice Va15 Vn15 Vc15] 26
  have H15 := Lib.hid ((hD15.keep hba (Nat.le_refl _)).at hq15 HRz.out)
  replace HDb := Lib.hid ((HDb.out.below hba).mono hba.size)
  replace h6 := h6.keep hba h6.lt
  replace h10 := h10.keep hba h10.lt
  replace HW6 := Lib.hid (HW6.out.below (hba.mono hcs))
  replace hB := hB.trans (hba.mono hB.size)
  replace hcs : wc.heap.size ≤ (w14.alloc (.cells #[.slice Va15 Vn15 Vc15] 26)).heap.size := Nat.le_trans hcs hba.size
  clear hba hq15 hD15
  have e0 : (w14.alloc (.cells #[.slice Va15 Vn15 Vc15] 26)).cell? ⟨w14.heap.size, 0, none⟩ = some (.slice Va15 Vn15 Vc15) := h15.cell 0 _ rfl
  have e1 : (w14.alloc (.cells #[.slice Va15 Vn15 Vc15] 26)).cell? ⟨g6, 0, none⟩ = some (.slice Va6 Vn6 Vc6) := h6.cell 0 _ rfl
  go_wp2_with fail
  clear e0 e1
  generalize (w14.alloc (.cells #[.slice Va15 Vn15 Vc15] 26)) = W14 at h6 h10 h15 H15 HDb HW6 hcs hB ⊢
  refine (eqReader_same _ _ RS _ H15.out (HW6.out.mono hcs)).mono ?_
  rintro e w17 ⟨rfl, hb17⟩
  have hs17 := hb17.size
  replace HDb := Lib.hid ((HDb.out.below hb17).mono hs17)
  replace h10 := h10.keep hb17 h10.lt
  replace hB := hB.trans (hb17.mono hB.size)
  clear hb17 H15 HW6
  have e0 : w17.cell? ⟨w5.heap.size, 0, none⟩ = some (.slice Va1 Vn1 Vc1) := h10.cell 0 _ rfl
  go_wp2_with fail
  clear e0
  refine (HHd.out w17 HDb.out).mono ?_
  rintro e w18 ⟨rfl, hb18⟩
  replace hB := hB.trans (hb18.mono hB.size)
  clear hb18
  go_wp2
  go_ret
  exact ⟨rfl, hB⟩
end Go.Proofs.Ytfgdbpjmjeaolaa
