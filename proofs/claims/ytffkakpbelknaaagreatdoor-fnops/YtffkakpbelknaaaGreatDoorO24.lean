/- Parts of the proof. -/
import Derived.Test.YtffkakpbelknaaaGreatDoorO8
import Derived.Test.YtffkakpbelknaaaGreatDoorO11
import Derived.Test.YtffkakpbelknaaaGreatDoorO13
import Derived.Test.YtffkakpbelknaaaGreatDoorO17
namespace Go.Proofs.YtffkakpbelknaaaGreatDoor
set_option maxHeartbeats 4000000
set_option maxRecDepth 100000
open Go.ChangeShapes Go.WideShapes Go.ChangeAt Go.RowKit
set_option linter.unusedVariables false
theorem dateT_size (y m d : Int) : (dateT y m d).size <= 10 := by
 unfold dateT
 by_cases h : dOk y m d = true
 ·rw [if_pos h]
  obtain ⟨c1, c2, c3, c4, c5, c6, c7⟩ := (dOk_iff y m d).1 h
  have h4 := dec_four y.toNat (by omega) (by omega)
  unfold dtB
  simp only [ByteArray.size_append, twoB_size, h4]
  exact Nat.le_refl _
 ·rw [if_neg h]
  exact Nat.zero_le _
theorem escR_le (s : ByteArray) : (escR s).size <= 1200 := by
 unfold escR
 split
 ·have h1 := escL_len s.data.toList
  have h2 : s.data.toList.length = s.size := by simp
  show (escL s.data.toList).toArray.size <= 1200
  rw [List.size_toArray]
  omega
 ·exact Nat.zero_le _
def iS1 : ByteArray := ⟨#[60, 105, 116, 101, 109, 32, 105, 100, 61, 34]⟩
def iS2 : ByteArray := ⟨#[34, 32, 100, 97, 116, 101, 61, 34]⟩
def iS3 : ByteArray := ⟨#[34, 62]⟩
def iS4 : ByteArray := ⟨#[60, 47, 105, 116, 101, 109, 62]⟩
noncomputable def dayT (n : Int) : ByteArray := dateT (dateR n).1 (dateR n).2.1 (dateR n).2.2
noncomputable def itT (s t : ByteArray) (n : Int) : ByteArray := ⟨#[60, 105, 116, 101, 109, 32, 105, 100, 61, 34]⟩ ++ escR s ++ ⟨#[34, 32, 100, 97, 116, 101, 61, 34]⟩ ++ dayT n ++ ⟨#[34, 62]⟩ ++ escR t ++ ⟨#[60, 47, 105, 116, 101, 109, 62]⟩
theorem dayText_any (n : Int) (w : World) (hM : MTab w) (hP : PTab w) :
  Calls Tryz.prog 65 #[.int .i64 n] w fun e w' => e = .returned (.string (dayT n)) /\ Below w.heap.size w w' := by
 have C2 := Lib.hid (fun w hM => implDateOf_any n w hM)
 have C3 := Lib.hid (fun w hM hP => implDateText_any (dateR n).1 (dateR n).2.1 (dateR n).2.2 w hM hP)
 have HE : Hid (dayT n = dateT (dateR n).1 (dateR n).2.1 (dateR n).2.2) := Lib.hid rfl
 rw [HE.out]
 unfold dateV at C2
 generalize dateT (dateR n).1 (dateR n).2.1 (dateR n).2.2 = D2 at C3 ⊢
 generalize dV (dateR n).1 (dateR n).2.1 (dateR n).2.2 = DV at C2 C3
 have HMt := Lib.hid hM
 have HPt := Lib.hid hP
 clear hM hP HE
 go_enter Tryz.func65, Tryz.ntmps65
 go_wp2_with fail
 refine (C2.out _ HMt.out).mono ?_
 rintro e w1 ⟨rfl, hb1⟩
 go_wp2_with fail
 refine (C3.out _ (HMt.out.below hb1 (Nat.le_refl _)) (HPt.out.below hb1 (Nat.le_refl _))).mono ?_
 rintro e w2 ⟨rfl, hb2⟩
 have hB2 := hb1.trans (hb2.mono hb1.size)
 clear hb1 hb2
 go_wp2
 go_ret
 exact ⟨rfl, hB2⟩
theorem itemText_any (s t : ByteArray) (n : Int) (w : World) (hE : ETab w) (hM : MTab w) (hP : PTab w) :
  Calls Tryz.prog 34 #[itV s t n] w fun e w' => e = .returned (.string (itT s t n)) /\ Below w.heap.size w w' := by
 have C1 := Lib.hid (fun w hE => implEscaped_any s w hE)
 have C3 := Lib.hid (fun w hM hP => dayText_any n w hM hP)
 have C4 := Lib.hid (fun w hE => implEscaped_any t w hE)
 have HE : Hid (itT s t n = ⟨#[60, 105, 116, 101, 109, 32, 105, 100, 61, 34]⟩ ++ escR s ++ ⟨#[34, 32, 100, 97, 116, 101, 61, 34]⟩ ++ dayT n ++ ⟨#[34, 62]⟩ ++ escR t ++ ⟨#[60, 47, 105, 116, 101, 109, 62]⟩) := Lib.hid rfl
 have hs1 := escR_le s
 have hs2 : (dayT n).size <= 10 := dateT_size (dateR n).1 (dateR n).2.1 (dateR n).2.2
 have hs3 := escR_le t
 generalize escR s = D1 at C1 HE hs1
 generalize dayT n = D2 at C3 HE hs2
 generalize escR t = D3 at C4 HE hs3
 obtain ⟨X1, hX1⟩ : ∃ X : ByteArray, ⟨#[60, 105, 116, 101, 109, 32, 105, 100, 61, 34]⟩ ++ D1 = X := ⟨_, rfl⟩
 have hz1 : X1.size <= 1300 := by
  rw [<- hX1, ByteArray.size_append]
  have l1 : (⟨#[60, 105, 116, 101, 109, 32, 105, 100, 61, 34]⟩ : ByteArray).size = 10 := rfl
  have l2 : (⟨#[34, 32, 100, 97, 116, 101, 61, 34]⟩ : ByteArray).size = 8 := rfl
  have l3 : (⟨#[34, 62]⟩ : ByteArray).size = 2 := rfl
  omega
 rw [hX1] at HE
 obtain ⟨X2, hX2⟩ : ∃ X : ByteArray, X1 ++ ⟨#[34, 32, 100, 97, 116, 101, 61, 34]⟩ = X := ⟨_, rfl⟩
 have hz2 : X2.size <= 1400 := by
  rw [<- hX2, ByteArray.size_append]
  have l1 : (⟨#[60, 105, 116, 101, 109, 32, 105, 100, 61, 34]⟩ : ByteArray).size = 10 := rfl
  have l2 : (⟨#[34, 32, 100, 97, 116, 101, 61, 34]⟩ : ByteArray).size = 8 := rfl
  have l3 : (⟨#[34, 62]⟩ : ByteArray).size = 2 := rfl
  omega
 rw [hX2] at HE
 obtain ⟨X3, hX3⟩ : ∃ X : ByteArray, X2 ++ D2 = X := ⟨_, rfl⟩
 have hz3 : X3.size <= 1500 := by
  rw [<- hX3, ByteArray.size_append]
  have l1 : (⟨#[60, 105, 116, 101, 109, 32, 105, 100, 61, 34]⟩ : ByteArray).size = 10 := rfl
  have l2 : (⟨#[34, 32, 100, 97, 116, 101, 61, 34]⟩ : ByteArray).size = 8 := rfl
  have l3 : (⟨#[34, 62]⟩ : ByteArray).size = 2 := rfl
  omega
 rw [hX3] at HE
 obtain ⟨X4, hX4⟩ : ∃ X : ByteArray, X3 ++ ⟨#[34, 62]⟩ = X := ⟨_, rfl⟩
 have hz4 : X4.size <= 1600 := by
  rw [<- hX4, ByteArray.size_append]
  have l1 : (⟨#[60, 105, 116, 101, 109, 32, 105, 100, 61, 34]⟩ : ByteArray).size = 10 := rfl
  have l2 : (⟨#[34, 32, 100, 97, 116, 101, 61, 34]⟩ : ByteArray).size = 8 := rfl
  have l3 : (⟨#[34, 62]⟩ : ByteArray).size = 2 := rfl
  omega
 rw [hX4] at HE
 obtain ⟨X5, hX5⟩ : ∃ X : ByteArray, X4 ++ D3 = X := ⟨_, rfl⟩
 have hz5 : X5.size <= 2900 := by
  rw [<- hX5, ByteArray.size_append]
  have l1 : (⟨#[60, 105, 116, 101, 109, 32, 105, 100, 61, 34]⟩ : ByteArray).size = 10 := rfl
  have l2 : (⟨#[34, 32, 100, 97, 116, 101, 61, 34]⟩ : ByteArray).size = 8 := rfl
  have l3 : (⟨#[34, 62]⟩ : ByteArray).size = 2 := rfl
  omega
 rw [hX5] at HE
 have hO := HE.out.symm
 generalize itT s t n = O at hO ⊢
 clear HE
 have HEt := Lib.hid hE
 have HMt := Lib.hid hM
 have HPt := Lib.hid hP
 have hA := IAt.new w s t n
 have hB0 : Below w.heap.size w (w.alloc (iC s t n)) := (Below.refl _ _).alloc (Nat.le_refl _) _
 clear hE hM hP
 go_enter Tryz.func34, Tryz.ntmps34
 go_wp2
 generalize w.alloc (iC s t n) = W at hA hB0 ⊢
 have hA1 : IAt W.drew w.heap.size s t n := hA
 have hB1 := hB0.drew
 clear hA hB0
 refine wp_region_T (fun w' => IAt w' w.heap.size s t n) (fun _ => True) 15 (by kernel_rfl) 16 rfl ?_
 refine wA 10 [0, 1, 5, 6, 10, 11] ⟨hA1, fun _ => trivial⟩ ?_
 simp only [pick, List.filterMap_cons, List.filterMap_nil, List.getElem?_cons_zero, List.getElem?_cons_succ]
 iterate 1 (refine wpIf_step ?_ (by kernel_rfl) ?_ ?_; rotate_left; (intro w _; go_simp); try with_reducible rfl)
 refine wS (.string s) (fun w hw => by have h0 := hw.c0; go_simp) ?_
 iterate 1 (refine wpIf_step ?_ (by kernel_rfl) ?_ ?_; rotate_left; (intro w _; go_simp); try with_reducible rfl)
 refine wS (.int .i64 n) (fun w hw => by have h0 := hw.c2; go_simp) ?_
 iterate 1 (refine wpIf_step ?_ (by kernel_rfl) ?_ ?_; rotate_left; (intro w _; go_simp); try with_reducible rfl)
 refine wS (.string t) (fun w hw => by have h0 := hw.c1; go_simp) ?_
 refine wpIf_nil (fun hS => ?_)
 refine wO 2 9 (fun K hK => ?_)
 go_simp
 refine (C1.out _ (HEt.out.below hB1 (Nat.le_refl _))).mono ?_
 rintro e v1 ⟨rfl, hb1⟩
 have hA2 := hA1.keep hb1 (Nat.le_refl _)
 have hB2 := hB1.trans (hb1.mono hB1.size)
 refine hK _ _ ⟨hA2, fun _ => trivial⟩ (fun hS3 => ?_)
 clear hK K hS hb1 hA1
 refine wA 7 [3, 4] hS3 ?_
 simp only [pick, List.filterMap_cons, List.filterMap_nil, List.getElem?_cons_zero, List.getElem?_cons_succ]
 refine wS (.string X1) (fun w hw => by go_simp; try omega) ?_
 refine wS (.string X2) (fun w hw => by go_simp; try omega) ?_
 refine wpIf_nil (fun hS => ?_)
 clear hS3
 refine wO 7 6 (fun K hK => ?_)
 go_simp
 refine (C3.out _ (HMt.out.below hB2 (Nat.le_refl _)) (HPt.out.below hB2 (Nat.le_refl _))).mono ?_
 rintro e v3 ⟨rfl, hb3⟩
 have hA4 := hA2.keep hb3 (Nat.le_refl _)
 have hB4 := hB2.trans (hb3.mono hB2.size)
 refine hK _ _ ⟨hA4, fun _ => trivial⟩ (fun hS3 => ?_)
 clear hK K hS hb3 hA2
 refine wA 4 [8, 9] hS3 ?_
 simp only [pick, List.filterMap_cons, List.filterMap_nil, List.getElem?_cons_zero, List.getElem?_cons_succ]
 refine wS (.string X3) (fun w hw => by go_simp; try omega) ?_
 refine wS (.string X4) (fun w hw => by go_simp; try omega) ?_
 refine wpIf_nil (fun hS => ?_)
 clear hS3
 refine wO 12 3 (fun K hK => ?_)
 go_simp
 refine (C4.out _ (HEt.out.below hB4 (Nat.le_refl _))).mono ?_
 rintro e v4 ⟨rfl, hb4⟩
 have hA5 := hA4.keep hb4 (Nat.le_refl _)
 have hB5 := hB4.trans (hb4.mono hB4.size)
 refine hK _ _ ⟨hA5, fun _ => trivial⟩ (fun hS3 => ?_)
 clear hK K hS hb4 hA4
 refine wA 1 [13, 14] hS3 ?_
 simp only [pick, List.filterMap_cons, List.filterMap_nil, List.getElem?_cons_zero, List.getElem?_cons_succ]
 refine wS (.string X5) (fun w hw => by go_simp; try omega) ?_
 refine wS (.string O) (fun w hw => by go_simp; try omega) ?_
 refine wpIf_nil (fun hS => ?_)
 clear hS3
 refine wO 15 0 (fun K hK => ?_)
 go_simp
 refine hK _ _ ⟨hA5, fun _ => trivial⟩ (fun hS4 => ?_)
 clear hK K
 refine wpAnyT_over (by kernel_rfl) ?_
 go_wp2
 go_ret
 exact ⟨rfl, hB5⟩
end Go.Proofs.YtffkakpbelknaaaGreatDoor
