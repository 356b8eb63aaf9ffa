/- Joined: W7i. -/
import Derived.Test.YtgimjfffdnopiaaDoorH16
/- W7i -/
namespace Go.Proofs.YtgimjfffdnopiaaDoor
open Go.ChangeShapes Go.WideShapes Go.ChangeAt Go.RowKit
set_option linter.unusedVariables false

set_option maxRecDepth 100000 in
set_option maxHeartbeats 3000000 in
theorem l7Text_any (y m d : Nat) (w : World) (hy0 : 1000 ≤ y) (hy1 : y ≤ 9999) (hm : m < 100) (hd : d < 100) :
    Calls Tryd.prog 55 #[dV (y : Int) (m : Int) (d : Int)] w fun e w' => e = .returned (.string (dtB y m d)) ∧ Below w.heap.size w w' := by
  have C1 := Lib.hid (fun w => l1Dec_any y w (by omega))
  have C2 := Lib.hid (fun w => l7Two_any m w hm)
  have C3 := Lib.hid (fun w => l7Two_any d w hd)
  have HE : Hid (dtB y m d = decB y ++ ⟨#[45]⟩ ++ twoB m ++ ⟨#[45]⟩ ++ twoB d) := Lib.hid rfl
  have hs1 := dec_four y (by omega) (by omega)
  have hs2 := twoB_size m
  have hs3 := twoB_size d
  generalize decB y = D1 at C1 HE hs1
  generalize twoB m = D2 at C2 HE hs2
  generalize twoB d = D3 at C3 HE hs3
  obtain ⟨X1, hX1⟩ : ∃ X : ByteArray, D1 ++ ⟨#[45]⟩ = X := ⟨_, rfl⟩
  have hz1 : X1.size = 5 := by rw [← hX1, ByteArray.size_append, hs1]; rfl
  rw [hX1] at HE
  obtain ⟨X2, hX2⟩ : ∃ X : ByteArray, X1 ++ D2 = X := ⟨_, rfl⟩
  have hz2 : X2.size = 7 := by rw [← hX2, ByteArray.size_append, hs2, hz1]
  rw [hX2] at HE
  obtain ⟨X3, hX3⟩ : ∃ X : ByteArray, X2 ++ ⟨#[45]⟩ = X := ⟨_, rfl⟩
  have hz3 : X3.size = 8 := by rw [← hX3, ByteArray.size_append, hz2]; rfl
  rw [hX3] at HE
  have hO := HE.out.symm
  generalize dtB y m d = O at hO ⊢
  have k1 : D1.size ≤ 100 := by omega
  have k2 : X1.size ≤ 100 := by omega
  have k3 : X2.size ≤ 100 := by omega
  have k4 : X3.size ≤ 100 := by omega
  have k5 : D2.size ≤ 100 := by omega
  have k6 : D3.size ≤ 100 := by omega
  clear HE hz3 hz2 hz1 hs1 hs2 hs3
  have hA := DAt.new w (y : Int) (m : Int) (d : Int)
  have hB0 : Below w.heap.size w (w.alloc (dC (y : Int) (m : Int) (d : Int))) := (Below.refl _ _).alloc (Nat.le_refl _) _
  go_enter Tryd.func55, Tryd.ntmps55
  go_wp2
  generalize w.alloc (dC (y : Int) (m : Int) (d : Int)) = W at hA hB0 ⊢
  clear hy0 hy1 hm hd
  have hA1 : DAt W.drew w.heap.size (y : Int) (m : Int) (d : Int) := hA
  have hB1 := hB0.drew
  clear hA hB0
  refine wp_region_T (fun w' => DAt w' w.heap.size (y : Int) (m : Int) (d : Int)) (fun _ => True) 13 (by kernel_rfl) 14 rfl ?_
  refine wpAnyT_takesA (md := .any) 8 (by kernel_rfl) (by intro d v c a w h; cases d <;> exact h) [0, 1, 4, 5, 9, 10] _ _ _ (by decide) (by kernel_rfl) ⟨hA1, fun _ => trivial⟩ ?_
  simp only [pick, List.filterMap_cons, List.filterMap_nil, List.getElem?_cons_zero, List.getElem?_cons_succ]
  iterate 1 (refine wpIf_step ?_ (by kernel_rfl) ?_ ?_; rotate_left; (intro w _; go_simp); try with_reducible rfl)
  refine wpIf_step (.int .i64 (y : Int)) (by kernel_rfl) (fun w hw => by have h0 := hw.c0; go_simp) ?_
  iterate 1 (refine wpIf_step ?_ (by kernel_rfl) ?_ ?_; rotate_left; (intro w _; go_simp); try with_reducible rfl)
  refine wpIf_step (.int .i64 (m : Int)) (by kernel_rfl) (fun w hw => by have h0 := hw.c1; go_simp) ?_
  iterate 1 (refine wpIf_step ?_ (by kernel_rfl) ?_ ?_; rotate_left; (intro w _; go_simp); try with_reducible rfl)
  refine wpIf_step (.int .i64 (d : Int)) (by kernel_rfl) (fun w hw => by have h0 := hw.c2; go_simp) ?_
  refine wpIf_nil (fun hS => ?_)
  refine wpAnyT_one 2 7 (by kernel_rfl) rfl (by kernel_rfl) (fun K hK => ?_)
  go_simp
  refine (C1.out _).mono ?_
  rintro e v1 ⟨rfl, hb1⟩
  have hA2 := hA1.keep hb1 (Nat.le_refl _)
  have hB2 := hB1.trans (hb1.mono hB1.size)
  refine hK _ _ ⟨hA2, fun _ => trivial⟩ (fun hS3 => ?_)
  clear hK K hS hb1 hA1 hB1
  refine wpAnyT_takesA (md := .any) 6 (by kernel_rfl) (by intro d v c a w h; cases d <;> exact h) [3] _ _ _ (by decide) (by kernel_rfl) hS3 ?_
  simp only [pick, List.filterMap_cons, List.filterMap_nil, List.getElem?_cons_zero, List.getElem?_cons_succ]
  refine wpIf_step (.string X1) (by kernel_rfl) (fun w hw => by go_simp; try omega) ?_
  refine wpIf_nil (fun hS => ?_)
  clear hS3
  refine wpAnyT_one 6 5 (by kernel_rfl) rfl (by kernel_rfl) (fun K hK => ?_)
  go_simp
  refine (C2.out _).mono ?_
  rintro e v2 ⟨rfl, hb2⟩
  have hA3 := hA2.keep hb2 (Nat.le_refl _)
  have hB3 := hB2.trans (hb2.mono hB2.size)
  refine hK _ _ ⟨hA3, fun _ => trivial⟩ (fun hS3 => ?_)
  clear hK K hS hb2 hA2 hB2
  refine wpAnyT_takesA (md := .any) 3 (by kernel_rfl) (by intro d v c a w h; cases d <;> exact h) [7, 8] _ _ _ (by decide) (by kernel_rfl) hS3 ?_
  simp only [pick, List.filterMap_cons, List.filterMap_nil, List.getElem?_cons_zero, List.getElem?_cons_succ]
  refine wpIf_step (.string X2) (by kernel_rfl) (fun w hw => by go_simp; try omega) ?_
  refine wpIf_step (.string X3) (by kernel_rfl) (fun w hw => by go_simp; try omega) ?_
  refine wpIf_nil (fun hS => ?_)
  clear hS3
  refine wpAnyT_one 11 2 (by kernel_rfl) rfl (by kernel_rfl) (fun K hK => ?_)
  go_simp
  refine (C3.out _).mono ?_
  rintro e v3 ⟨rfl, hb3⟩
  have hA4 := hA3.keep hb3 (Nat.le_refl _)
  have hB4 := hB3.trans (hb3.mono hB3.size)
  refine hK _ _ ⟨hA4, fun _ => trivial⟩ (fun hS3 => ?_)
  clear hK K hS hb3 hA3 hB3
  refine wpAnyT_takesA (md := .any) 1 (by kernel_rfl) (by intro d v c a w h; cases d <;> exact h) [12] _ _ _ (by decide) (by kernel_rfl) hS3 ?_
  simp only [pick, List.filterMap_cons, List.filterMap_nil, List.getElem?_cons_zero, List.getElem?_cons_succ]
  refine wpIf_step (.string O) (by kernel_rfl) (fun w hw => by go_simp; try omega) ?_
  refine wpIf_nil (fun hS => ?_)
  clear hS3
  refine wpAnyT_one 13 0 (by kernel_rfl) rfl (by kernel_rfl) (fun K hK => ?_)
  go_simp
  refine hK _ _ ⟨hA4, fun _ => trivial⟩ (fun hS4 => ?_)
  clear hK K
  refine wpAnyT_over (by kernel_rfl) ?_
  go_wp2
  go_ret
  exact ⟨rfl, hB4⟩

set_option maxRecDepth 100000 in
set_option maxHeartbeats 1600000 in
theorem specDateText_any (y m d : Int) (w : World) :
    Calls Tryd.prog 22 #[dV y m d] w fun e w' => e = .returned (.string (dateT y m d)) ∧ Below w.heap.size w w' := by
  have HI := Lib.hid (fun w => specDateOk_any y m d w)
  have hB0 : Below w.heap.size w (w.alloc (dC y m d)) := (Below.refl _ _).alloc (Nat.le_refl _) _
  have HA0 := Lib.hid (DAt.new w y m d)
  cases hc : dOk y m d with
  | true =>
    rw [hc] at HI
    obtain ⟨c1, c2, c3, c4, c5, c6, c7⟩ := (dOk_iff y m d).1 hc
    have hd31 := dIM_bd y m
    obtain ⟨y, rfl⟩ := Int.eq_ofNat_of_zero_le (show 0 ≤ y by omega)
    obtain ⟨m, rfl⟩ := Int.eq_ofNat_of_zero_le (show 0 ≤ m by omega)
    obtain ⟨d, rfl⟩ := Int.eq_ofNat_of_zero_le (show 0 ≤ d by omega)
    have HN := Lib.hid (fun w => l7Text_any y m d w (by omega) (by omega) (by omega) (by omega))
    have HE : Hid (dateT (y : Int) (m : Int) (d : Int) = dtB y m d) := Lib.hid (by unfold dateT; rw [if_pos hc]; rfl)
    rw [HE.out]
    generalize dtB y m d = N at HN ⊢
    clear hc c1 c2 c3 c4 c5 c6 hd31 c7 HE
    go_enter Tryd.func22, Tryd.ntmps22
    go_wp2_with fail
    refine (HI.out _).mono ?_
    rintro e w1 ⟨rfl, hb1⟩
    have hA1 := HA0.out.keep hb1 (Nat.le_refl _)
    have k0 := hA1.c0
    have k1 := hA1.c1
    have k2 := hA1.c2
    have hB1 := hB0.trans (hb1.mono hB0.size)
    clear hb1 HI hA1
    go_wp2_with fail
    refine (HN.out _).mono ?_
    rintro e w2 ⟨rfl, hb2⟩
    have hB2 := hB1.trans (hb2.mono hB1.size)
    clear hb2
    go_wp2
    go_ret
    exact ⟨rfl, hB2⟩
  | false =>
    rw [hc] at HI
    have HE : Hid (dateT y m d = ⟨#[]⟩) := Lib.hid (by unfold dateT; rw [hc]; rfl)
    rw [HE.out]
    clear hc HE
    go_enter Tryd.func22, Tryd.ntmps22
    go_wp2_with fail
    refine (HI.out _).mono ?_
    rintro e w1 ⟨rfl, hb1⟩
    have hB1 := hB0.trans (hb1.mono hB0.size)
    go_wp2
    go_ret
    exact ⟨rfl, hB1⟩

set_option maxRecDepth 100000 in
set_option maxHeartbeats 3000000 in
theorem implDateText_any (y m d : Int) (w : World) (hM : MTab w) (hP : PTab w) :
    Calls Tryd.prog 18 #[dV y m d] w fun e w' => e = .returned (.string (dateT y m d)) ∧ Below w.heap.size w w' := by
  have HM := Lib.hid (hM.alloc (dC y m d))
  have HP := Lib.hid hP
  have HI := Lib.hid (implDateOk_any y m d _ HM.out)
  have hB0 : Below w.heap.size w (w.alloc (dC y m d)) := (Below.refl _ _).alloc (Nat.le_refl _) _
  have HA0 := Lib.hid (DAt.new w y m d)
  cases hc : dOk y m d with
  | true =>
    rw [hc] at HI
    obtain ⟨c1, c2, c3, c4, c5, c6, c7⟩ := (dOk_iff y m d).1 hc
    have hd31 := dIM_bd y m
    obtain ⟨y, rfl⟩ := Int.eq_ofNat_of_zero_le (show 0 ≤ y by omega)
    obtain ⟨m, rfl⟩ := Int.eq_ofNat_of_zero_le (show 0 ≤ m by omega)
    obtain ⟨d, rfl⟩ := Int.eq_ofNat_of_zero_le (show 0 ≤ d by omega)
    have HEE : Hid (dateT (y : Int) (m : Int) (d : Int) = dtB y m d) := Lib.hid (by unfold dateT; rw [if_pos hc]; rfl)
    rw [HEE.out]
    have C1 := Lib.hid (fun w hP => fixed4_any y w (by omega) (by omega) hP)
    have C2 := Lib.hid (fun w => fixed2_any m w (by omega))
    have C3 := Lib.hid (fun w => fixed2_any d w (by omega))
    have HE : Hid (dtB y m d = decB y ++ ⟨#[45]⟩ ++ twoB m ++ ⟨#[45]⟩ ++ twoB d) := Lib.hid rfl
    have hs1 := dec_four y (by omega) (by omega)
    have hs2 := twoB_size m
    have hs3 := twoB_size d
    generalize decB y = D1 at C1 HE hs1
    generalize twoB m = D2 at C2 HE hs2
    generalize twoB d = D3 at C3 HE hs3
    obtain ⟨X1, hX1⟩ : ∃ X : ByteArray, D1 ++ ⟨#[45]⟩ = X := ⟨_, rfl⟩
    have hz1 : X1.size = 5 := by rw [← hX1, ByteArray.size_append, hs1]; rfl
    rw [hX1] at HE
    obtain ⟨X2, hX2⟩ : ∃ X : ByteArray, X1 ++ D2 = X := ⟨_, rfl⟩
    have hz2 : X2.size = 7 := by rw [← hX2, ByteArray.size_append, hs2, hz1]
    rw [hX2] at HE
    obtain ⟨X3, hX3⟩ : ∃ X : ByteArray, X2 ++ ⟨#[45]⟩ = X := ⟨_, rfl⟩
    have hz3 : X3.size = 8 := by rw [← hX3, ByteArray.size_append, hz2]; rfl
    rw [hX3] at HE
    have hO := HE.out.symm
    generalize dtB y m d = O at hO ⊢
    have k1 : D1.size ≤ 100 := by omega
    have k2 : X1.size ≤ 100 := by omega
    have k3 : X2.size ≤ 100 := by omega
    have k4 : X3.size ≤ 100 := by omega
    have k5 : D2.size ≤ 100 := by omega
    have k6 : D3.size ≤ 100 := by omega
    clear HE hz3 hz2 hz1 hs1 hs2 hs3
    clear hc c1 c2 c3 c4 c5 c6 hd31 c7 HEE hM hP
    go_enter Tryd.func18, Tryd.ntmps18
    go_wp2_with fail
    refine HI.out.mono ?_
    rintro e w1 ⟨rfl, hb1⟩
    have hA := HA0.out.keep hb1 (Nat.le_refl _)
    have hB00 := hB0.trans (hb1.mono hB0.size)
    have HPP := Lib.hid (HP.out.below hB00.drew (Nat.le_refl _))
    clear hb1 HI hB0
    go_wp2
    generalize w1 = W at hA hB00 HPP ⊢
    have hB0 := hB00
    clear hB00
    have hA1 : DAt W.drew w.heap.size (y : Int) (m : Int) (d : Int) := hA
    have hB1 := hB0.drew
    clear hA hB0
    refine wp_region_T (fun w' => DAt w' w.heap.size (y : Int) (m : Int) (d : Int)) (fun _ => True) 13 (by kernel_rfl) 14 rfl ?_
    refine wpAnyT_takesA (md := .any) 8 (by kernel_rfl) (by intro d v c a w h; cases d <;> exact h) [0, 1, 4, 5, 9, 10] _ _ _ (by decide) (by kernel_rfl) ⟨hA1, fun _ => trivial⟩ ?_
    simp only [pick, List.filterMap_cons, List.filterMap_nil, List.getElem?_cons_zero, List.getElem?_cons_succ]
    iterate 1 (refine wpIf_step ?_ (by kernel_rfl) ?_ ?_; rotate_left; (intro w _; go_simp); try with_reducible rfl)
    refine wpIf_step (.int .i64 (y : Int)) (by kernel_rfl) (fun w hw => by have h0 := hw.c0; go_simp) ?_
    iterate 1 (refine wpIf_step ?_ (by kernel_rfl) ?_ ?_; rotate_left; (intro w _; go_simp); try with_reducible rfl)
    refine wpIf_step (.int .i64 (m : Int)) (by kernel_rfl) (fun w hw => by have h0 := hw.c1; go_simp) ?_
    iterate 1 (refine wpIf_step ?_ (by kernel_rfl) ?_ ?_; rotate_left; (intro w _; go_simp); try with_reducible rfl)
    refine wpIf_step (.int .i64 (d : Int)) (by kernel_rfl) (fun w hw => by have h0 := hw.c2; go_simp) ?_
    refine wpIf_nil (fun hS => ?_)
    refine wpAnyT_one 2 7 (by kernel_rfl) rfl (by kernel_rfl) (fun K hK => ?_)
    go_simp
    refine (C1.out _ HPP.out).mono ?_
    rintro e v1 ⟨rfl, hb1⟩
    have hA2 := hA1.keep hb1 (Nat.le_refl _)
    have hB2 := hB1.trans (hb1.mono hB1.size)
    refine hK _ _ ⟨hA2, fun _ => trivial⟩ (fun hS3 => ?_)
    clear hK K hS hb1 hA1 hB1
    refine wpAnyT_takesA (md := .any) 6 (by kernel_rfl) (by intro d v c a w h; cases d <;> exact h) [3] _ _ _ (by decide) (by kernel_rfl) hS3 ?_
    simp only [pick, List.filterMap_cons, List.filterMap_nil, List.getElem?_cons_zero, List.getElem?_cons_succ]
    refine wpIf_step (.string X1) (by kernel_rfl) (fun w hw => by go_simp; try omega) ?_
    refine wpIf_nil (fun hS => ?_)
    clear hS3
    refine wpAnyT_one 6 5 (by kernel_rfl) rfl (by kernel_rfl) (fun K hK => ?_)
    go_simp
    refine (C2.out _).mono ?_
    rintro e v2 ⟨rfl, hb2⟩
    have hA3 := hA2.keep hb2 (Nat.le_refl _)
    have hB3 := hB2.trans (hb2.mono hB2.size)
    refine hK _ _ ⟨hA3, fun _ => trivial⟩ (fun hS3 => ?_)
    clear hK K hS hb2 hA2 hB2
    refine wpAnyT_takesA (md := .any) 3 (by kernel_rfl) (by intro d v c a w h; cases d <;> exact h) [7, 8] _ _ _ (by decide) (by kernel_rfl) hS3 ?_
    simp only [pick, List.filterMap_cons, List.filterMap_nil, List.getElem?_cons_zero, List.getElem?_cons_succ]
    refine wpIf_step (.string X2) (by kernel_rfl) (fun w hw => by go_simp; try omega) ?_
    refine wpIf_step (.string X3) (by kernel_rfl) (fun w hw => by go_simp; try omega) ?_
    refine wpIf_nil (fun hS => ?_)
    clear hS3
    refine wpAnyT_one 11 2 (by kernel_rfl) rfl (by kernel_rfl) (fun K hK => ?_)
    go_simp
    refine (C3.out _).mono ?_
    rintro e v3 ⟨rfl, hb3⟩
    have hA4 := hA3.keep hb3 (Nat.le_refl _)
    have hB4 := hB3.trans (hb3.mono hB3.size)
    refine hK _ _ ⟨hA4, fun _ => trivial⟩ (fun hS3 => ?_)
    clear hK K hS hb3 hA3 hB3
    refine wpAnyT_takesA (md := .any) 1 (by kernel_rfl) (by intro d v c a w h; cases d <;> exact h) [12] _ _ _ (by decide) (by kernel_rfl) hS3 ?_
    simp only [pick, List.filterMap_cons, List.filterMap_nil, List.getElem?_cons_zero, List.getElem?_cons_succ]
    refine wpIf_step (.string O) (by kernel_rfl) (fun w hw => by go_simp; try omega) ?_
    refine wpIf_nil (fun hS => ?_)
    clear hS3
    refine wpAnyT_one 13 0 (by kernel_rfl) rfl (by kernel_rfl) (fun K hK => ?_)
    go_simp
    refine hK _ _ ⟨hA4, fun _ => trivial⟩ (fun hS4 => ?_)
    clear hK K
    refine wpAnyT_over (by kernel_rfl) ?_
    go_wp2
    go_ret
    exact ⟨rfl, hB4⟩
  | false =>
    rw [hc] at HI
    have HE : Hid (dateT y m d = ⟨#[]⟩) := Lib.hid (by unfold dateT; rw [hc]; rfl)
    rw [HE.out]
    clear hc HE hM hP
    go_enter Tryd.func18, Tryd.ntmps18
    go_wp2_with fail
    refine HI.out.mono ?_
    rintro e w1 ⟨rfl, hb1⟩
    have hB1 := hB0.trans (hb1.mono hB0.size)
    go_wp2
    go_ret
    exact ⟨rfl, hB1⟩
end Go.Proofs.YtgimjfffdnopiaaDoor
