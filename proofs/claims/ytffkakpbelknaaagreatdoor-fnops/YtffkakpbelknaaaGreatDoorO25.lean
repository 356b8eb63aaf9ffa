/- Parts of the proof. -/
import Derived.Test.YtffkakpbelknaaaGreatDoorO10
import Derived.Test.YtffkakpbelknaaaGreatDoorO19
import Derived.Test.YtffkakpbelknaaaGreatDoorO20
import Derived.Test.YtffkakpbelknaaaGreatDoorO24
set_option maxHeartbeats 4000000
set_option maxRecDepth 100000
namespace Go.Proofs.YtffkakpbelknaaaGreatDoor
open Go.ChangeShapes Go.WideShapes Go.ChangeAt Go.RowKit
set_option linter.unusedVariables false
noncomputable def itX (x : It) : ByteArray := itT x.id x.ti x.da
noncomputable def fdI (H : ByteArray) (its : List It) : ByteArray := its.foldl (fun b x => b ++ itX x) H
theorem fdI_snoc (H : ByteArray) (its : List It) (k : Nat) (h : k < its.length) : fdI H (its.take (k + 1)) = fdI H (its.take k) ++ itX its[k] := by
 unfold fdI; rw [List.take_succ_eq_append_getElem h, List.foldl_append]; rfl
def fdH (u t : ByteArray) : ByteArray := ⟨#[60, 102, 101, 101, 100, 32, 117, 114, 108, 61, 34]⟩ ++ escR u ++ ⟨#[34, 62, 60, 116, 105, 116, 108, 101, 62]⟩ ++ escR t ++ ⟨#[60, 47, 116, 105, 116, 108, 101, 62]⟩
noncomputable def fdX (u t : ByteArray) (its : List It) : ByteArray := if fdB u t its = true then fdI (fdH u t) its ++ ⟨#[60, 47, 102, 101, 101, 100, 62]⟩ else ⟨#[]⟩
theorem itX_size (x : It) : (itX x).size <= 2500 := by
 unfold itX itT
 simp only [ByteArray.size_append]
 have h1 := escR_le x.id
 have h2 := escR_le x.ti
 have h3 : (dayT x.da).size <= 10 := dateT_size _ _ _
 have l1 : (⟨#[60, 105, 116, 101, 109, 32, 105, 100, 61, 34]⟩ : ByteArray).size = 10 := rfl
 have l2 : (⟨#[34, 32, 100, 97, 116, 101, 61, 34]⟩ : ByteArray).size = 8 := rfl
 have l3 : (⟨#[34, 62]⟩ : ByteArray).size = 2 := rfl
 have l4 : (⟨#[60, 47, 105, 116, 101, 109, 62]⟩ : ByteArray).size = 7 := rfl
 omega
theorem ret_str8 {a b : ByteArray} (h : a = b) : Ending.returned (.string a) = .returned (.string b) := by rw [h]
theorem fdB_len {u t : ByteArray} {its : List It} (h : fdB u t its = true) : its.length <= 12 := by
 unfold fdB at h
 simp only [Bool.and_eq_true, decide_eq_true_eq] at h
 exact h.2.2
theorem implFeedText_any (u t : ByteArray) (v : Value) (its : List It) (w : World) (hu : u.size <= maxLen) (ht : t.size <= maxLen) (h : ItAt w w.heap.size v its) (hE : ETab w) (hM : MTab w) (hP : PTab w) :
  Calls Tryz.prog 8 #[fV u t v] w fun e w' => e = .returned (.string (fdX u t its)) /\ Below w.heap.size w w' := by
 have HI := Lib.hid h
 have HC := Lib.hid (fun w h => implFeedOk_any u t v its w hu ht h)
 obtain ⟨a, cap, rfl, hl, hm, hc⟩ := h.raw
 clear hc h
 unfold maxLen at hm
 have HEt := Lib.hid hE
 have HMt := Lib.hid hM
 have HPt := Lib.hid hP
 clear hE hM hP
 have hB0 : Below w.heap.size w (w.alloc (fC u t (.slice a its.length cap))) := (Below.refl _ _).alloc (Nat.le_refl _) _
 have hA0 := FAt.new w u t (.slice a its.length cap)
 cases hfd : fdB u t its with
 | false =>
  have HV : Hid (fdX u t its = ⟨#[]⟩) := Lib.hid (by unfold fdX; rw [if_neg (by rw [hfd]; simp)])
  rw [hfd] at HC
  rw [HV.out]
  clear hfd HV
  go_enter Tryz.func8, Tryz.ntmps8
  go_wp2_with fail
  refine (HC.out _ ((HI.out.below hB0).mono hB0.size)).mono ?_
  rintro e w1 ⟨rfl, hb1⟩
  have hB1 := hB0.trans (hb1.mono hB0.size)
  clear hb1 hB0
  go_wp2
  go_ret
  exact ⟨rfl, hB1⟩
 | true =>
 have h12 := fdB_len hfd
 have HV : Hid (fdX u t its = fdI (fdH u t) its ++ ⟨#[60, 47, 102, 101, 101, 100, 62]⟩) := Lib.hid (by unfold fdX; rw [if_pos hfd])
 rw [hfd] at HC
 have C1 := Lib.hid (fun w hE => implEscaped_any u w hE)
 have C2 := Lib.hid (fun w hE => implEscaped_any t w hE)
 have HH : Hid (fdH u t = ⟨#[60, 102, 101, 101, 100, 32, 117, 114, 108, 61, 34]⟩ ++ escR u ++ ⟨#[34, 62, 60, 116, 105, 116, 108, 101, 62]⟩ ++ escR t ++ ⟨#[60, 47, 116, 105, 116, 108, 101, 62]⟩) := Lib.hid rfl
 have hs1 := escR_le u
 have hs2 := escR_le t
 generalize escR u = D1 at C1 HH hs1
 generalize escR t = D2 at C2 HH hs2
 obtain ⟨X1, hX1⟩ : ∃ X : ByteArray, ⟨#[60, 102, 101, 101, 100, 32, 117, 114, 108, 61, 34]⟩ ++ D1 = X := ⟨_, rfl⟩
 have hz1 : X1.size <= 1300 := by rw [<- hX1, ByteArray.size_append]; have l1 : (⟨#[60, 102, 101, 101, 100, 32, 117, 114, 108, 61, 34]⟩ : ByteArray).size = 11 := rfl; omega
 obtain ⟨X2, hX2⟩ : ∃ X : ByteArray, X1 ++ ⟨#[34, 62, 60, 116, 105, 116, 108, 101, 62]⟩ = X := ⟨_, rfl⟩
 have hz2 : X2.size <= 1400 := by rw [<- hX2, ByteArray.size_append]; have l1 : (⟨#[34, 62, 60, 116, 105, 116, 108, 101, 62]⟩ : ByteArray).size = 9 := rfl; omega
 obtain ⟨X3, hX3⟩ : ∃ X : ByteArray, X2 ++ D2 = X := ⟨_, rfl⟩
 have hz3 : X3.size <= 2700 := by rw [<- hX3, ByteArray.size_append]; omega
 obtain ⟨H, hH⟩ : ∃ X : ByteArray, X3 ++ ⟨#[60, 47, 116, 105, 116, 108, 101, 62]⟩ = X := ⟨_, rfl⟩
 have hz4 : H.size <= 3000 := by rw [<- hH, ByteArray.size_append]; have l1 : (⟨#[60, 47, 116, 105, 116, 108, 101, 62]⟩ : ByteArray).size = 8 := rfl; omega
 rw [hX1, hX2, hX3, hH] at HH
 rw [HH.out] at HV
 obtain ⟨R, hR⟩ : ∃ R, R = fdX u t its := ⟨_, rfl⟩
 rw [<- hR] at HV ⊢
 clear hfd hR HH
 go_enter Tryz.func8, Tryz.ntmps8
 go_wp2_with fail
 refine (HC.out _ ((HI.out.below hB0).mono hB0.size)).mono ?_
 rintro e w1 ⟨rfl, hb1⟩
 have hA := (hA0.keep hb1 (Nat.le_refl _)).drew8
 have hB := (hB0.trans (hb1.mono hB0.size)).drew
 clear hb1 hB0 hA0
 go_wp2
 refine wp_region_T (fun w' => FAt w' w.heap.size u t (.slice a its.length cap)) (fun _ => True) 10 (by kernel_rfl) 11 rfl ?_
 refine wA 7 [0, 1, 5, 6] ⟨hA, fun _ => trivial⟩ ?_
 simp only [pick, List.filterMap_cons, List.filterMap_nil, List.getElem?_cons_zero, List.getElem?_cons_succ]
 refine wS (.pointer (some ⟨w.heap.size, 0, none⟩)) (fun w hw => by go_simp) ?_
 refine wS (.string u) (fun w hw => by have e0 := hw.c0; have e1 := hw.c1; go_simp) ?_
 refine wS (.pointer (some ⟨w.heap.size, 1, none⟩)) (fun w hw => by go_simp) ?_
 refine wS (.string t) (fun w hw => by have e0 := hw.c0; have e1 := hw.c1; go_simp) ?_
 refine wpIf_nil (fun hS => ?_)
 clear hS
 refine wO 2 6 (fun K hK => ?_)
 go_simp
 refine (C1.out _ (HEt.out.below hB (Nat.le_refl _))).mono ?_
 rintro e v1 ⟨rfl, hb1⟩
 have hA1 := hA.keep hb1 (Nat.le_refl _)
 have hB1 := hB.trans (hb1.mono hB.size)
 clear hb1 hA hB
 refine hK _ _ ⟨hA1, fun _ => trivial⟩ (fun hS => ?_)
 clear hK K hS
 refine wA 4 [3, 4] ⟨hA1, fun _ => trivial⟩ ?_
 simp only [pick, List.filterMap_cons, List.filterMap_nil, List.getElem?_cons_zero, List.getElem?_cons_succ]
 refine wS (.string X1) (fun w hw => by go_simp; try omega) ?_
 refine wS (.string X2) (fun w hw => by go_simp; try omega) ?_
 refine wpIf_nil (fun hS => ?_)
 clear hS
 refine wO 7 3 (fun K hK => ?_)
 go_simp
 refine (C2.out _ (HEt.out.below hB1 (Nat.le_refl _))).mono ?_
 rintro e v2 ⟨rfl, hb2⟩
 have hA2 := hA1.keep hb2 (Nat.le_refl _)
 have hB2 := hB1.trans (hb2.mono hB1.size)
 clear hb2 hA1 hB1
 refine hK _ _ ⟨hA2, fun _ => trivial⟩ (fun hS => ?_)
 clear hK K hS
 refine wA 1 [8, 9] ⟨hA2, fun _ => trivial⟩ ?_
 simp only [pick, List.filterMap_cons, List.filterMap_nil, List.getElem?_cons_zero, List.getElem?_cons_succ]
 refine wS (.string X3) (fun w hw => by go_simp; try omega) ?_
 refine wS (.string H) (fun w hw => by go_simp; try omega) ?_
 refine wpIf_nil (fun hS => ?_)
 clear hS
 refine wO 10 0 (fun K hK => ?_)
 go_simp
 refine hK _ _ ⟨hA2, fun _ => trivial⟩ (fun hS => ?_)
 clear hK K hS
 refine wpAnyT_over (by kernel_rfl) ?_
 have f2 := hA2.c2
 clear hX1 hX2 hX3 hH
 go_wp2
 go_loopw [3, 22] (fun s i wr => ∃ (k : Nat) (X : ByteArray), k <= its.length /\ i = .int .i64 (k : Int) /\ s = .string X /\ X.size <= 3000 + 2500 * k /\ Hid (X = fdI H (its.take k)) /\ Below w.heap.size w wr) (fun _ i _ => its.length - (intOf i).toNat)
 case atStart => exact ⟨0, H, Nat.zero_le _, rfl, rfl, by omega, Lib.hid rfl, hB2⟩
 case round =>
  obtain ⟨k, X, hk, rfl, rfl, hXs, HX, hB⟩ := hrel
  by_cases hlt : k < its.length
  ·obtain ⟨a', cap', hv, _, _, hc⟩ := (HI.out.below hB).raw
   cases hv
   obtain ⟨b, off, rfl, hb, hr⟩ := hc k hlt
   obtain ⟨c0, c1, c2, s0, s1⟩ := hr k hlt
   have HT := Lib.hid (fun w hE hM hP => itemText_any its[k].id its[k].ti its[k].da w hE hM hP)
   have HN : Hid (fdI H (its.take (k + 1)) = fdI H (its.take k) ++ itT its[k].id its[k].ti its[k].da) := Lib.hid (fdI_snoc H its k hlt)
   have hys := itX_size its[k]
   unfold itX at hys
   generalize itT its[k].id its[k].ti its[k].da = Y at HT HN hys
   obtain ⟨S, hS⟩ : ∃ S, S = its[k].id := ⟨_, rfl⟩
   obtain ⟨T, hT⟩ : ∃ T, T = its[k].ti := ⟨_, rfl⟩
   obtain ⟨D, hD⟩ : ∃ D, D = its[k].da := ⟨_, rfl⟩
   rw [<- hS] at c0 HT
   rw [<- hT] at c1 HT
   rw [<- hD] at c2 HT
   have hba : Below wr.heap.size wr (wr.alloc (iC S T D)) := (Below.refl _ _).alloc (Nat.le_refl _) _
   have hB3 := hB.trans (hba.mono hB.size)
   clear hr hc hS hT hD s0 s1 hB hba
   go_wp2_with fail
   refine (HT.out _ (HEt.out.below hB3 (Nat.le_refl _)) (HMt.out.below hB3 (Nat.le_refl _)) (HPt.out.below hB3 (Nat.le_refl _))).mono ?_
   rintro e w2 ⟨rfl, hb2⟩
   have hB4 := hB3.trans (hb2.mono hB3.size)
   clear hb2 hB3 c0 c1 c2
   have hsum : X.size + Y.size <= 100000 := by omega
   obtain ⟨Z, hZ⟩ : ∃ Z, X ++ Y = Z := ⟨_, rfl⟩
   have hzs : Z.size <= 3000 + 2500 * (k + 1) := by rw [<- hZ, ByteArray.size_append]; omega
   have HX' : Hid (Z = fdI H (its.take (k + 1))) := Lib.hid (by rw [HN.out, <- HX.out, hZ])
   go_wp2
   go_roundw
   case rel => exact ⟨k + 1, Z, by omega, by go_num, rfl, hzs, HX', hB4⟩
   case measure => simp [intOf]; omega
  ·have HE : Hid (X ++ ⟨#[60, 47, 102, 101, 101, 100, 62]⟩ = R) := Lib.hid (by rw [HV.out, HX.out, List.take_of_length_le (by omega)])
   have hsum : X.size <= 100000 := by omega
   have hO := HE.out
   go_wp2
   go_ret
   exact ⟨rfl, hB⟩
end Go.Proofs.YtffkakpbelknaaaGreatDoor
namespace Go.Proofs.YtffkakpbelknaaaGreatDoor
open Go.ChangeShapes Go.WideShapes Go.ChangeAt Go.RowKit
set_option linter.unusedVariables false
theorem dtB_size (y m d : Nat) (h0 : 1000 <= y) (h1 : y <= 9999) : (dtB y m d).size <= 10 := by
 have h4 := dec_four y h0 h1
 unfold dtB
 simp only [ByteArray.size_append, twoB_size, h4]
 exact Nat.le_refl _
theorem isD_nat {n y m d : Int} (h : IsD n y m d) (h0 : 0 <= n) (h1 : n <= 200000) : ∃ yn mn dn : Nat, y = (yn : Int) /\ m = (mn : Int) /\ d = (dn : Int) /\ 1000 <= yn /\ yn <= 9999 /\ mn < 100 /\ dn < 100 /\ dayT n = dtB yn mn dn := by
 have hr := dateR_is h0 h1 h
 obtain ⟨a1, a2, a3, a4, a5, a6⟩ := h
 have hy : y <= 2517 := by
  rcases Int.lt_or_le 2517 y with hlt | hge
  ·have := late_year y m d (by omega) a4; omega
  ·exact hge
 have hd : dIM y m <= 31 := by
  unfold dIM
  repeat' split
  all_goals omega
 refine ⟨y.toNat, m.toNat, d.toNat, by omega, by omega, by omega, by omega, by omega, by omega, by omega, ?_⟩
 unfold dayT
 rw [hr]
 unfold dateT
 rw [if_pos ((dOk_iff y m d).2 ⟨a1, hy, a2, a3, a4, a5, by omega⟩)]
theorem escB_R (s : ByteArray) (h : s.size <= 200) : escB s = escR s := by unfold escR; rw [if_pos h]
theorem fdB_parts {u t : ByteArray} {its : List It} (h : fdB u t its = true) : u.size <= 20 /\ t.size <= 24 /\ ∀ k (hk : k < its.length), its[k].id.size <= 8 /\ its[k].ti.size <= 24 /\ 0 <= its[k].da /\ its[k].da <= 200000 := by
 unfold fdB at h
 simp only [Bool.and_eq_true, decide_eq_true_eq] at h
 obtain ⟨hi, ⟨hu, ht⟩, _⟩ := h
 unfold nmB at hu
 unfold ttB at ht
 simp only [Bool.and_eq_true, decide_eq_true_eq] at hu ht
 refine ⟨hu.1.2, ht.1, fun k hk => ?_⟩
 unfold itsB at hi
 have := List.all_eq_true.1 hi k (List.mem_range.2 hk)
 rw [okB_at its k hk] at this
 unfold itB nmB ttB at this
 simp only [Bool.and_eq_true, decide_eq_true_eq] at this
 obtain ⟨⟨⟨⟨⟨_, h1⟩, _⟩, h2, _⟩, h3, h4⟩, _⟩ := this
 exact ⟨h1, h2, h3, h4⟩
theorem l8Text_any (u t : ByteArray) (v : Value) (its : List It) (w : World) (h : ItAt w w.heap.size v its) (hfd : fdB u t its = true) :
  Calls Tryz.prog 37 #[fV u t v] w fun e w' => e = .returned (.string (fdX u t its)) /\ Below w.heap.size w w' := by
 have HI := Lib.hid h
 obtain ⟨a, cap, rfl, hl, hm, hc⟩ := h.raw
 clear hc h
 unfold maxLen at hm
 have hB0 : Below w.heap.size w (w.alloc (fC u t (.slice a its.length cap))) := (Below.refl _ _).alloc (Nat.le_refl _) _
 have hA0 := FAt.new w u t (.slice a its.length cap)
 have h12 := fdB_len hfd
 obtain ⟨hu, ht, hpk⟩ := fdB_parts hfd
 have HPk := Lib.hid hpk
 clear hpk
 have HV : Hid (fdX u t its = fdI (fdH u t) its ++ ⟨#[60, 47, 102, 101, 101, 100, 62]⟩) := Lib.hid (by unfold fdX; rw [if_pos hfd])
 have C1 := Lib.hid (fun w => l8Escaped_any u w (by omega))
 have C2 := Lib.hid (fun w => l8Escaped_any t w (by omega))
 rw [escB_R u (by omega)] at C1
 rw [escB_R t (by omega)] at C2
 have HH : Hid (fdH u t = ⟨#[60, 102, 101, 101, 100, 32, 117, 114, 108, 61, 34]⟩ ++ escR u ++ ⟨#[34, 62, 60, 116, 105, 116, 108, 101, 62]⟩ ++ escR t ++ ⟨#[60, 47, 116, 105, 116, 108, 101, 62]⟩) := Lib.hid rfl
 have hs1 := escR_le u
 have hs2 := escR_le t
 generalize escR u = D1 at C1 HH hs1
 generalize escR t = D2 at C2 HH hs2
 obtain ⟨X1, hX1⟩ : ∃ X : ByteArray, ⟨#[60, 102, 101, 101, 100, 32, 117, 114, 108, 61, 34]⟩ ++ D1 = X := ⟨_, rfl⟩
 have hz1 : X1.size <= 1300 := by rw [<- hX1, ByteArray.size_append]; have l1 : (⟨#[60, 102, 101, 101, 100, 32, 117, 114, 108, 61, 34]⟩ : ByteArray).size = 11 := rfl; omega
 obtain ⟨X2, hX2⟩ : ∃ X : ByteArray, X1 ++ ⟨#[34, 62, 60, 116, 105, 116, 108, 101, 62]⟩ = X := ⟨_, rfl⟩
 have hz2 : X2.size <= 1400 := by rw [<- hX2, ByteArray.size_append]; have l1 : (⟨#[34, 62, 60, 116, 105, 116, 108, 101, 62]⟩ : ByteArray).size = 9 := rfl; omega
 obtain ⟨X3, hX3⟩ : ∃ X : ByteArray, X2 ++ D2 = X := ⟨_, rfl⟩
 have hz3 : X3.size <= 2700 := by rw [<- hX3, ByteArray.size_append]; omega
 obtain ⟨H, hH⟩ : ∃ X : ByteArray, X3 ++ ⟨#[60, 47, 116, 105, 116, 108, 101, 62]⟩ = X := ⟨_, rfl⟩
 have hz4 : H.size <= 3000 := by rw [<- hH, ByteArray.size_append]; have l1 : (⟨#[60, 47, 116, 105, 116, 108, 101, 62]⟩ : ByteArray).size = 8 := rfl; omega
 rw [hX1, hX2, hX3, hH] at HH
 rw [HH.out] at HV
 obtain ⟨R, hR⟩ : ∃ R, R = fdX u t its := ⟨_, rfl⟩
 rw [<- hR] at HV ⊢
 clear hfd hR HH
 go_enter Tryz.func37, Tryz.ntmps37
 go_wp2
 generalize w.alloc (fC u t (.slice a its.length cap)) = W at hA0 hB0 ⊢
 have hA := hA0.drew8
 have hB := hB0.drew
 clear hA0 hB0
 refine wp_region_T (fun w' => FAt w' w.heap.size u t (.slice a its.length cap)) (fun _ => True) 10 (by kernel_rfl) 11 rfl ?_
 refine wA 7 [0, 1, 5, 6] ⟨hA, fun _ => trivial⟩ ?_
 simp only [pick, List.filterMap_cons, List.filterMap_nil, List.getElem?_cons_zero, List.getElem?_cons_succ]
 refine wS (.pointer (some ⟨w.heap.size, 0, none⟩)) (fun w hw => by go_simp) ?_
 refine wS (.string u) (fun w hw => by have e0 := hw.c0; have e1 := hw.c1; go_simp) ?_
 refine wS (.pointer (some ⟨w.heap.size, 1, none⟩)) (fun w hw => by go_simp) ?_
 refine wS (.string t) (fun w hw => by have e0 := hw.c0; have e1 := hw.c1; go_simp) ?_
 refine wpIf_nil (fun hS => ?_)
 clear hS
 refine wO 2 6 (fun K hK => ?_)
 go_simp
 refine (C1.out _).mono ?_
 rintro e v1 ⟨rfl, hb1⟩
 have hA1 := hA.keep hb1 (Nat.le_refl _)
 have hB1 := hB.trans (hb1.mono hB.size)
 clear hb1 hA hB
 refine hK _ _ ⟨hA1, fun _ => trivial⟩ (fun hS => ?_)
 clear hK K hS
 refine wA 4 [3, 4] ⟨hA1, fun _ => trivial⟩ ?_
 simp only [pick, List.filterMap_cons, List.filterMap_nil, List.getElem?_cons_zero, List.getElem?_cons_succ]
 refine wS (.string X1) (fun w hw => by go_simp; try omega) ?_
 refine wS (.string X2) (fun w hw => by go_simp; try omega) ?_
 refine wpIf_nil (fun hS => ?_)
 clear hS
 refine wO 7 3 (fun K hK => ?_)
 go_simp
 refine (C2.out _).mono ?_
 rintro e v2 ⟨rfl, hb2⟩
 have hA2 := hA1.keep hb2 (Nat.le_refl _)
 have hB2 := hB1.trans (hb2.mono hB1.size)
 clear hb2 hA1 hB1
 refine hK _ _ ⟨hA2, fun _ => trivial⟩ (fun hS => ?_)
 clear hK K hS
 refine wA 1 [8, 9] ⟨hA2, fun _ => trivial⟩ ?_
 simp only [pick, List.filterMap_cons, List.filterMap_nil, List.getElem?_cons_zero, List.getElem?_cons_succ]
 refine wS (.string X3) (fun w hw => by go_simp; try omega) ?_
 refine wS (.string H) (fun w hw => by go_simp; try omega) ?_
 refine wpIf_nil (fun hS => ?_)
 clear hS
 refine wO 10 0 (fun K hK => ?_)
 go_simp
 refine hK _ _ ⟨hA2, fun _ => trivial⟩ (fun hS => ?_)
 clear hK K hS
 refine wpAnyT_over (by kernel_rfl) ?_
 clear hX1 hX2 hX3 hH
 go_wp2
 go_loopw [3, 4] (fun s i wr => ∃ (k : Nat) (X : ByteArray), k <= its.length /\ i = .int .i64 (k : Int) /\ s = .string X /\ X.size <= 3000 + 2500 * k /\ Hid (X = fdI H (its.take k)) /\ FAt wr w.heap.size u t (.slice a its.length cap) /\ Below w.heap.size w wr) (fun _ i _ => its.length - (intOf i).toNat)
 case atStart => exact ⟨0, H, Nat.zero_le _, rfl, rfl, by omega, Lib.hid rfl, hA2, hB2⟩
 case round =>
  obtain ⟨k, X, hk, rfl, rfl, hXs, HX, hF, hB⟩ := hrel
  have f2 := hF.c2
  by_cases hlt : k < its.length
  ·obtain ⟨a', cap', hv, _, _, hc⟩ := (HI.out.below hB).raw
   cases hv
   obtain ⟨b, off, rfl, hb, hr⟩ := hc k hlt
   obtain ⟨c0, c1, c2, s0, s1⟩ := hr k hlt
   obtain ⟨hi8, hi24, hD0, hD1⟩ := HPk.out k hlt
   have E1 := Lib.hid (fun w => l8Escaped_any its[k].id w (by omega))
   have E2 := Lib.hid (fun w => l7Date_any its[k].da w hD0 hD1)
   have E3 := Lib.hid (fun w => l8Escaped_any its[k].ti w (by omega))
   rw [escB_R its[k].id (by omega)] at E1
   rw [escB_R its[k].ti (by omega)] at E3
   have HYs : Hid (fdI H (its.take (k + 1)) = X ++ (⟨#[60, 105, 116, 101, 109, 32, 105, 100, 61, 34]⟩ ++ escR its[k].id ++ ⟨#[34, 32, 100, 97, 116, 101, 61, 34]⟩ ++ dayT its[k].da ++ ⟨#[34, 62]⟩ ++ escR its[k].ti ++ ⟨#[60, 47, 105, 116, 101, 109, 62]⟩)) := Lib.hid (by rw [fdI_snoc H its k hlt, <- HX.out]; rfl)
   have hj1 := escR_le its[k].id
   have hj2 := escR_le its[k].ti
   generalize escR its[k].id = J1 at E1 HYs hj1
   generalize escR its[k].ti = J2 at E3 HYs hj2
   obtain ⟨S, hS⟩ : ∃ S, S = its[k].id := ⟨_, rfl⟩
   obtain ⟨T, hT⟩ : ∃ T, T = its[k].ti := ⟨_, rfl⟩
   obtain ⟨D, hD⟩ : ∃ D, D = its[k].da := ⟨_, rfl⟩
   rw [<- hS] at c0 E1 hi8
   rw [<- hT] at c1 E3 hi24
   rw [<- hD] at c2 E2 hD0 hD1 HYs
   obtain ⟨Y1, hY1⟩ : ∃ Y : ByteArray, X ++ ⟨#[60, 105, 116, 101, 109, 32, 105, 100, 61, 34]⟩ = Y := ⟨_, rfl⟩
   have hq1 : Y1.size <= X.size + 10 := by rw [<- hY1, ByteArray.size_append]; have l1 : (⟨#[60, 105, 116, 101, 109, 32, 105, 100, 61, 34]⟩ : ByteArray).size = 10 := rfl; omega
   obtain ⟨Y2, hY2⟩ : ∃ Y : ByteArray, Y1 ++ J1 = Y := ⟨_, rfl⟩
   have hq2 : Y2.size <= Y1.size + 1200 := by rw [<- hY2, ByteArray.size_append]; omega
   obtain ⟨Y3, hY3⟩ : ∃ Y : ByteArray, Y2 ++ ⟨#[34, 32, 100, 97, 116, 101, 61, 34]⟩ = Y := ⟨_, rfl⟩
   have hq3 : Y3.size <= Y2.size + 8 := by rw [<- hY3, ByteArray.size_append]; have l1 : (⟨#[34, 32, 100, 97, 116, 101, 61, 34]⟩ : ByteArray).size = 8 := rfl; omega
   have hIn := IAt.new wr S T D
   have hba : Below wr.heap.size wr (wr.alloc (iC S T D)) := (Below.refl _ _).alloc (Nat.le_refl _) _
   have hB3 := hB.trans (hba.mono hB.size)
   have hF3 := hF.keep hba (Nat.le_refl _)
   clear hr hc hS hT hD s0 s1 hB hba hF
   go_wp2
   generalize wr.alloc (iC S T D) = W at hIn hB3 hF3 ⊢
   have hA : (fun w' => FAt w' w.heap.size u t (.slice (some ⟨b, off, none⟩) its.length cap) /\ IAt w' wr.heap.size S T D) W.drew := ⟨hF3, hIn⟩
   have hB := hB3.drew
   clear hB3 hF3 hIn c0 c1 c2 f2
   refine wp_region_T (fun w' => FAt w' w.heap.size u t (.slice (some ⟨b, off, none⟩) its.length cap) /\ IAt w' wr.heap.size S T D) (fun _ => True) 18 (by kernel_rfl) 19 rfl ?_
   refine wA 11 [0, 1, 2, 3, 7, 8, 13, 14] ⟨hA, fun _ => trivial⟩ ?_
   simp only [pick, List.filterMap_cons, List.filterMap_nil, List.getElem?_cons_zero, List.getElem?_cons_succ]
   refine wS (.string X) (fun w hw => by go_simp) ?_
   refine wS (.string Y1) (fun w hw => by go_simp; try omega) ?_
   refine wS (.pointer (some ⟨wr.heap.size, 0, none⟩)) (fun w hw => by go_simp) ?_
   refine wS (.string S) (fun w hw => by have e0 := hw.2.c0; have e1 := hw.2.c1; have e2 := hw.2.c2; go_simp) ?_
   refine wS (.pointer (some ⟨wr.heap.size, 2, none⟩)) (fun w hw => by go_simp) ?_
   refine wS (.int .i64 D) (fun w hw => by have e0 := hw.2.c0; have e1 := hw.2.c1; have e2 := hw.2.c2; go_simp) ?_
   refine wS (.pointer (some ⟨wr.heap.size, 1, none⟩)) (fun w hw => by go_simp) ?_
   refine wS (.string T) (fun w hw => by have e0 := hw.2.c0; have e1 := hw.2.c1; have e2 := hw.2.c2; go_simp) ?_
   refine wpIf_nil (fun hS => ?_)
   clear hS
   refine wO 4 10 (fun K hK => ?_)
   go_simp
   refine (E1.out _).mono ?_
   rintro e v1 ⟨rfl, hb1⟩
   have hA1 : (fun w' => FAt w' w.heap.size u t (.slice (some ⟨b, off, none⟩) its.length cap) /\ IAt w' wr.heap.size S T D) v1 := ⟨hA.1.keep hb1 (Nat.le_refl _), hA.2.keep hb1 (Nat.le_refl _)⟩
   have hB1 := hB.trans (hb1.mono hB.size)
   clear hb1 hA hB
   refine hK _ _ ⟨hA1, fun _ => trivial⟩ (fun hS => ?_)
   clear hK K hS
   refine wA 8 [5, 6] ⟨hA1, fun _ => trivial⟩ ?_
   simp only [pick, List.filterMap_cons, List.filterMap_nil, List.getElem?_cons_zero, List.getElem?_cons_succ]
   refine wS (.string Y2) (fun w hw => by go_simp; try omega) ?_
   refine wS (.string Y3) (fun w hw => by go_simp; try omega) ?_
   refine wpIf_nil (fun hS => ?_)
   clear hS
   refine wO 9 7 (fun K hK => ?_)
   go_simp
   refine (E2.out _).mono ?_
   rintro e v2 ⟨y, m, d, rfl, hid, hb2⟩
   have hA2 : (fun w' => FAt w' w.heap.size u t (.slice (some ⟨b, off, none⟩) its.length cap) /\ IAt w' wr.heap.size S T D) v2 := ⟨hA1.1.keep hb2 (Nat.le_refl _), hA1.2.keep hb2 (Nat.le_refl _)⟩
   have hB2 := hB1.trans (hb2.mono hB1.size)
   clear hb2 hA1 hB1
   obtain ⟨yn, mn, dn, rfl, rfl, rfl, hy0, hy1, hmn, hdn, HDt⟩ := isD_nat hid hD0 hD1
   rw [HDt] at HYs
   clear HDt hid
   obtain ⟨G, hG⟩ : ∃ G, dtB yn mn dn = G := ⟨_, rfl⟩
   have HTx := Lib.hid (fun w => l7Text_any yn mn dn w hy0 hy1 hmn hdn)
   have hgs : G.size <= 10 := by rw [<- hG]; exact dtB_size yn mn dn hy0 hy1
   rw [hG] at HTx HYs
   clear hG
   obtain ⟨Y4, hY4⟩ : ∃ X : ByteArray, Y3 ++ G = X := ⟨_, rfl⟩
   have hq4 : Y4.size <= Y3.size + 10 := by rw [<- hY4, ByteArray.size_append]; omega
   obtain ⟨Y5, hY5⟩ : ∃ X : ByteArray, Y4 ++ ⟨#[34, 62]⟩ = X := ⟨_, rfl⟩
   have hq5 : Y5.size <= Y4.size + 2 := by rw [<- hY5, ByteArray.size_append]; have l1 : (⟨#[34, 62]⟩ : ByteArray).size = 2 := rfl; omega
   obtain ⟨Y6, hY6⟩ : ∃ X : ByteArray, Y5 ++ J2 = X := ⟨_, rfl⟩
   have hq6 : Y6.size <= Y5.size + 1200 := by rw [<- hY6, ByteArray.size_append]; omega
   obtain ⟨Y7, hY7⟩ : ∃ X : ByteArray, Y6 ++ ⟨#[60, 47, 105, 116, 101, 109, 62]⟩ = X := ⟨_, rfl⟩
   have hq7 : Y7.size <= Y6.size + 7 := by rw [<- hY7, ByteArray.size_append]; have l1 : (⟨#[60, 47, 105, 116, 101, 109, 62]⟩ : ByteArray).size = 7 := rfl; omega
   have HY7 : Hid (Y7 = fdI H (its.take (k + 1))) := Lib.hid (by rw [HYs.out, <- hY7, <- hY6, <- hY5, <- hY4, <- hY3, <- hY2, <- hY1]; simp only [ByteArray.append_assoc])
   clear HYs
   refine hK _ _ ⟨hA2, fun _ => trivial⟩ (fun hS => ?_)
   clear hK K hS
   refine wO 10 6 (fun K hK => ?_)
   go_simp
   refine (HTx.out _).mono ?_
   rintro e v3 ⟨rfl, hb3⟩
   have hA3 : (fun w' => FAt w' w.heap.size u t (.slice (some ⟨b, off, none⟩) its.length cap) /\ IAt w' wr.heap.size S T D) v3 := ⟨hA2.1.keep hb3 (Nat.le_refl _), hA2.2.keep hb3 (Nat.le_refl _)⟩
   have hB3 := hB2.trans (hb3.mono hB2.size)
   clear hb3 hA2 hB2
   refine hK _ _ ⟨hA3, fun _ => trivial⟩ (fun hS => ?_)
   clear hK K hS
   refine wA 4 [11, 12] ⟨hA3, fun _ => trivial⟩ ?_
   simp only [pick, List.filterMap_cons, List.filterMap_nil, List.getElem?_cons_zero, List.getElem?_cons_succ]
   refine wS (.string Y4) (fun w hw => by go_simp; try omega) ?_
   refine wS (.string Y5) (fun w hw => by go_simp; try omega) ?_
   refine wpIf_nil (fun hS => ?_)
   clear hS
   refine wO 15 3 (fun K hK => ?_)
   go_simp
   refine (E3.out _).mono ?_
   rintro e v4 ⟨rfl, hb4⟩
   have hA4 : (fun w' => FAt w' w.heap.size u t (.slice (some ⟨b, off, none⟩) its.length cap) /\ IAt w' wr.heap.size S T D) v4 := ⟨hA3.1.keep hb4 (Nat.le_refl _), hA3.2.keep hb4 (Nat.le_refl _)⟩
   have hB4 := hB3.trans (hb4.mono hB3.size)
   clear hb4 hA3 hB3
   refine hK _ _ ⟨hA4, fun _ => trivial⟩ (fun hS => ?_)
   clear hK K hS
   refine wA 1 [16, 17] ⟨hA4, fun _ => trivial⟩ ?_
   simp only [pick, List.filterMap_cons, List.filterMap_nil, List.getElem?_cons_zero, List.getElem?_cons_succ]
   refine wS (.string Y6) (fun w hw => by go_simp; try omega) ?_
   refine wS (.string Y7) (fun w hw => by go_simp; try omega) ?_
   refine wpIf_nil (fun hS => ?_)
   clear hS
   refine wO 18 0 (fun K hK => ?_)
   go_simp
   refine hK _ _ ⟨hA4, fun _ => trivial⟩ (fun hS => ?_)
   clear hK K hS
   refine wpAnyT_over (by kernel_rfl) ?_
   have hzs : Y7.size <= 3000 + 2500 * (k + 1) := by omega
   clear hY1 hY2 hY3 hY4 hY5 hY6 hY7 hq1 hq2 hq3 hq4 hq5 hq6 hq7
   go_wp2
   go_roundw
   case rel => exact ⟨k + 1, Y7, by omega, by go_num, rfl, hzs, HY7, hA4.1, hB4⟩
   case measure => simp [intOf]; omega
  ·have HE : Hid (X ++ ⟨#[60, 47, 102, 101, 101, 100, 62]⟩ = R) := Lib.hid (by rw [HV.out, HX.out, List.take_of_length_le (by omega)])
   have hsum : X.size <= 100000 := by omega
   have hO := HE.out
   go_wp2
   go_ret
   exact ⟨rfl, hB⟩
theorem specFeedText_any (u t : ByteArray) (v : Value) (its : List It) (w : World) (hu : u.size <= maxLen) (ht : t.size <= maxLen) (h : ItAt w w.heap.size v its) :
  Calls Tryz.prog 10 #[fV u t v] w fun e w' => e = .returned (.string (fdX u t its)) /\ Below w.heap.size w w' := by
 have HI := Lib.hid h
 have HC := Lib.hid (fun w h => specFeedOk_any u t v its w hu ht h)
 have hB0 : Below w.heap.size w (w.alloc (fC u t v)) := (Below.refl _ _).alloc (Nat.le_refl _) _
 have hA0 := FAt.new w u t v
 clear h
 cases hfd : fdB u t its with
 | false =>
  have HV : Hid (fdX u t its = ⟨#[]⟩) := Lib.hid (by unfold fdX; rw [if_neg (by rw [hfd]; simp)])
  rw [hfd] at HC
  rw [HV.out]
  clear hfd HV
  go_enter Tryz.func10, Tryz.ntmps10
  go_wp2_with fail
  refine (HC.out _ ((HI.out.below hB0).mono hB0.size)).mono ?_
  rintro e w1 ⟨rfl, hb1⟩
  have hB1 := hB0.trans (hb1.mono hB0.size)
  clear hb1 hB0
  go_wp2
  go_ret
  exact ⟨rfl, hB1⟩
 | true =>
  have HL := Lib.hid (fun w h => l8Text_any u t v its w h hfd)
  rw [hfd] at HC
  generalize fdX u t its = R at HL ⊢
  clear hfd
  go_enter Tryz.func10, Tryz.ntmps10
  go_wp2_with fail
  refine (HC.out _ ((HI.out.below hB0).mono hB0.size)).mono ?_
  rintro e w1 ⟨rfl, hb1⟩
  have hA1 := hA0.keep hb1 (Nat.le_refl _)
  have hB1 := hB0.trans (hb1.mono hB0.size)
  have f0 := hA1.c0
  have f1 := hA1.c1
  have f2 := hA1.c2
  clear hb1 hB0 hA0
  go_wp2_with fail
  refine (HL.out _ ((HI.out.below hB1).mono hB1.size)).mono ?_
  rintro e w2 ⟨rfl, hb2⟩
  have hB2 := hB1.trans (hb2.mono hB1.size)
  clear hb2 hB1
  go_wp2
  go_ret
  exact ⟨rfl, hB2⟩
end Go.Proofs.YtffkakpbelknaaaGreatDoor
namespace Go.Proofs.YtffkakpbelknaaaGreatDoor
open Go.ChangeShapes Go.WideShapes Go.ChangeAt Go.RowKit
set_option linter.unusedVariables false
theorem ba_ext {a b : ByteArray} (h : a.data.toList = b.data.toList) : a = b := by
 obtain ⟨⟨a⟩⟩ := a
 obtain ⟨⟨b⟩⟩ := b
 simp only at h
 rw [h]
theorem ba_app (a b : ByteArray) : (a ++ b).data.toList = a.data.toList ++ b.data.toList := by rw [ByteArray.data_append, Array.toList_append]
def mkB (r s : Bool) : ByteArray := match r, s with
 | false, false => ⟨#[91, 93]⟩
 | true, false => ⟨#[91, 114, 93]⟩
 | false, true => ⟨#[91, 115, 93]⟩
 | true, true => ⟨#[91, 114, 115, 93]⟩
theorem mkB_size (r s : Bool) : (mkB r s).size <= 4 := by cases r <;> cases s <;> decide
noncomputable def lnE (x : En) : ByteArray := dayT x.it.da ++ ⟨#[32]⟩ ++ x.it.id ++ ⟨#[32]⟩ ++ mkB x.rd x.st ++ ⟨#[32]⟩ ++ x.it.ti ++ ⟨#[10]⟩
def lnS (s : Sb) : ByteArray := ⟨#[102, 101, 101, 100]⟩ ++ ⟨#[32]⟩ ++ s.u ++ ⟨#[32]⟩ ++ s.t ++ ⟨#[10]⟩
noncomputable def enX (H : ByteArray) (es : List En) : ByteArray := es.foldl (fun b x => b ++ lnE x) H
noncomputable def sbX (H : ByteArray) (ss : List Sb) : ByteArray := ss.foldl (fun b s => enX (b ++ lnS s) s.es) H
noncomputable def rdX (ss : List Sb) : ByteArray := if rdB ss = true then sbX ⟨#[]⟩ ss else ⟨#[]⟩
theorem enX_snoc (H : ByteArray) (es : List En) (k : Nat) (h : k < es.length) : enX H (es.take (k + 1)) = enX H (es.take k) ++ lnE es[k] := by
 unfold enX; rw [List.take_succ_eq_append_getElem h, List.foldl_append]; rfl
theorem sbX_snoc (H : ByteArray) (ss : List Sb) (k : Nat) (h : k < ss.length) : sbX H (ss.take (k + 1)) = enX (sbX H (ss.take k) ++ lnS ss[k]) ss[k].es := by
 unfold sbX; rw [List.take_succ_eq_append_getElem h, List.foldl_append]; rfl
theorem dayT_ten (n : Int) : (dayT n).size <= 10 := dateT_size _ _ _
theorem rd_parts11 {ss : List Sb} (h : rdB ss = true) (k : Nat) (hk : k < ss.length) : ss[k].u.size <= 20 /\ ss[k].t.size <= 24 /\ ss[k].es.length <= 12 /\ ∀ j (hj : j < ss[k].es.length), ss[k].es[j].it.id.size <= 8 /\ ss[k].es[j].it.ti.size <= 24 /\ 0 <= ss[k].es[j].it.da /\ ss[k].es[j].it.da <= 200000 := by
 unfold rdB at h
 simp only [Bool.and_eq_true, decide_eq_true_eq] at h
 have h1 := allB_at h.2.1 k hk
 rw [sbsB_at ss k hk] at h1
 unfold sbB at h1
 simp only [Bool.and_eq_true, decide_eq_true_eq] at h1
 obtain ⟨⟨⟨hu, ht⟩, hl⟩, he⟩ := h1
 unfold nmB at hu
 unfold ttB at ht
 simp only [Bool.and_eq_true, decide_eq_true_eq] at hu ht
 refine ⟨hu.1.2, ht.1, hl, fun j hj => ?_⟩
 unfold ensB at he
 simp only [Bool.and_eq_true] at he
 have h2 := allB_at he.1 j hj
 rw [enB_at _ j hj] at h2
 unfold itB nmB ttB at h2
 simp only [Bool.and_eq_true, decide_eq_true_eq] at h2
 obtain ⟨⟨⟨⟨_, a1⟩, _⟩, a2, _⟩, a3, a4⟩ := h2
 exact ⟨a1, a2, a3, a4⟩
theorem rd_six {ss : List Sb} (h : rdB ss = true) : ss.length <= 6 := by
 unfold rdB at h
 simp only [Bool.and_eq_true, decide_eq_true_eq] at h
 exact h.1
theorem marksText_any (s t : ByteArray) (d : Int) (r b : Bool) (w : World) :
  Calls Tryz.prog 66 #[enV s t d r b] w fun e w' => e = .returned (.string (mkB r b)) /\ Below w.heap.size w w' := by
 cases r <;> cases b
 all_goals
  go_enter Tryz.func66, Tryz.ntmps66
  go_wp2
  go_ret
  exact ⟨rfl, (Below.refl _ _).alloc (Nat.le_refl _) _⟩
def lnB (xs : List ByteArray) : ByteArray := ⟨(Lib.join (xs.map (·.data.toList)) [32]).toArray⟩ ++ ⟨#[10]⟩
theorem lnB3 (a b c : ByteArray) : lnB [a, b, c] = a ++ ⟨#[32]⟩ ++ b ++ ⟨#[32]⟩ ++ c ++ ⟨#[10]⟩ := by
 apply ba_ext
 unfold lnB
 simp only [ba_app, Lib.join, List.map_cons, List.map_nil, List.intercalate, List.intersperse]
 simp
theorem lnB4 (a b c d : ByteArray) : lnB [a, b, c, d] = a ++ ⟨#[32]⟩ ++ b ++ ⟨#[32]⟩ ++ c ++ ⟨#[32]⟩ ++ d ++ ⟨#[10]⟩ := by
 apply ba_ext
 unfold lnB
 simp only [ba_app, Lib.join, List.map_cons, List.map_nil, List.intercalate, List.intersperse]
 simp
theorem lnB_len (xs : List ByteArray) : (Lib.join (xs.map (·.data.toList)) [32]).length + 1 = (lnB xs).size := by
 unfold lnB
 rw [ByteArray.size_append]
 rfl
theorem lineOf_any (bk o c : Nat) (xs : List ByteArray) (w : World) (hcells : ∀ (j : Nat) x, xs[j]? = some x -> w.cell? ⟨bk, o + j, none⟩ = some (.string x)) (hbk : bk < w.heap.size) (hN : xs.length <= 1000) (hcap : xs.length <= c) (hlen : (lnB xs).size <= 100000) :
  Calls Tryz.prog 64 #[.slice (some ⟨bk, o, none⟩) xs.length c] w fun e w' => e = .returned (.string (lnB xs)) /\ Below w.heap.size w w' := by
 have hl := lnB_len xs
 have HJ := Lib.hid (Tryz.strings_Join bk o c xs ⟨#[32]⟩ w hcells hbk (by omega) hcap (by show (Lib.join (xs.map (·.data.toList)) [32]).length <= _; omega))
 have HE : Hid (lnB xs = ⟨(Lib.join (xs.map (·.data.toList)) [32]).toArray⟩ ++ ⟨#[10]⟩) := Lib.hid rfl
 have hjs : (⟨(Lib.join (xs.map (·.data.toList)) [32]).toArray⟩ : ByteArray).size <= 100000 := by show (Lib.join (xs.map (·.data.toList)) [32]).toArray.size <= _; rw [List.size_toArray]; omega
 have e1 : (⟨#[32]⟩ : ByteArray).data.toList = [32] := rfl
 rw [e1] at HJ
 generalize (⟨(Lib.join (xs.map (·.data.toList)) [32]).toArray⟩ : ByteArray) = J at HJ HE hjs
 generalize lnB xs = R at HE ⊢
 have hR := HE.out.symm
 clear hcells hl hlen e1 HE
 go_enter Tryz.func64, Tryz.ntmps64
 go_wp2_with fail
 refine HJ.out.mono ?_
 rintro e w1 ⟨rfl, hb1⟩
 go_wp2
 go_ret
 exact ⟨rfl, hb1⟩
theorem line4 (w : World) (a b c d : ByteArray) (hs : (a ++ ⟨#[32]⟩ ++ b ++ ⟨#[32]⟩ ++ c ++ ⟨#[32]⟩ ++ d ++ ⟨#[10]⟩).size <= 100000) :
  Calls Tryz.prog 64 #[.slice (some ⟨w.heap.size, 0, none⟩) 4 4] (w.alloc (.cells #[.string a, .string b, .string c, .string d] 9)) fun e w' => e = .returned (.string (a ++ ⟨#[32]⟩ ++ b ++ ⟨#[32]⟩ ++ c ++ ⟨#[32]⟩ ++ d ++ ⟨#[10]⟩)) /\ Below (w.alloc (.cells #[.string a, .string b, .string c, .string d] 9)).heap.size (w.alloc (.cells #[.string a, .string b, .string c, .string d] 9)) w' := by
 have hb := Box.new w #[.string a, .string b, .string c, .string d] 9
 rw [<- lnB4] at hs ⊢
 exact lineOf_any w.heap.size 0 4 [a, b, c, d] _ (fun j x hx => by
  rw [Nat.zero_add]
  match j, hx with
  | 0, hx => cases hx; exact hb.cell 0 _ rfl
  | 1, hx => cases hx; exact hb.cell 1 _ rfl
  | 2, hx => cases hx; exact hb.cell 2 _ rfl
  | 3, hx => cases hx; exact hb.cell 3 _ rfl) hb.lt (by simp) (by simp) hs
theorem line3 (w : World) (a b c : ByteArray) (hs : (a ++ ⟨#[32]⟩ ++ b ++ ⟨#[32]⟩ ++ c ++ ⟨#[10]⟩).size <= 100000) :
  Calls Tryz.prog 64 #[.slice (some ⟨w.heap.size, 0, none⟩) 3 3] (w.alloc (.cells #[.string a, .string b, .string c] 9)) fun e w' => e = .returned (.string (a ++ ⟨#[32]⟩ ++ b ++ ⟨#[32]⟩ ++ c ++ ⟨#[10]⟩)) /\ Below (w.alloc (.cells #[.string a, .string b, .string c] 9)).heap.size (w.alloc (.cells #[.string a, .string b, .string c] 9)) w' := by
 have hb := Box.new w #[.string a, .string b, .string c] 9
 rw [<- lnB3] at hs ⊢
 exact lineOf_any w.heap.size 0 3 [a, b, c] _ (fun j x hx => by
  rw [Nat.zero_add]
  match j, hx with
  | 0, hx => cases hx; exact hb.cell 0 _ rfl
  | 1, hx => cases hx; exact hb.cell 1 _ rfl
  | 2, hx => cases hx; exact hb.cell 2 _ rfl) hb.lt (by simp) (by simp) hs
theorem lnE_size (x : En) (h1 : x.it.id.size <= 8) (h2 : x.it.ti.size <= 24) : (lnE x).size <= 50 := by
 unfold lnE
 simp only [ByteArray.size_append]
 have e1 := mkB_size x.rd x.st
 have e2 := dayT_ten x.it.da
 have l1 : (⟨#[32]⟩ : ByteArray).size = 1 := rfl
 have l2 : (⟨#[10]⟩ : ByteArray).size = 1 := rfl
 omega
theorem lnS_size (s : Sb) (h1 : s.u.size <= 20) (h2 : s.t.size <= 24) : (lnS s).size <= 51 := by
 unfold lnS
 simp only [ByteArray.size_append]
 have l1 : (⟨#[32]⟩ : ByteArray).size = 1 := rfl
 have l2 : (⟨#[10]⟩ : ByteArray).size = 1 := rfl
 have l3 : (⟨#[102, 101, 101, 100]⟩ : ByteArray).size = 4 := rfl
 omega
theorem implReaderText_any (v : Value) (ss : List Sb) (w : World) (h : SbAt w w.heap.size v ss) (hM : MTab w) (hP : PTab w) :
  Calls Tryz.prog 21 #[.agg #[v]] w fun e w' => e = .returned (.string (rdX ss)) /\ Below w.heap.size w w' := by
 have HI := Lib.hid h
 have HM := Lib.hid hM
 have HP := Lib.hid hP
 have HC := Lib.hid (fun w h => implReaderOk_any v ss w h)
 obtain ⟨a, cap, rfl, hl, hm, hc⟩ := h.raw
 clear hc h hM hP
 unfold maxLen at hm
 have hB0 : Below w.heap.size w (w.alloc (.cells #[.slice a ss.length cap] 42)) := (Below.refl _ _).alloc (Nat.le_refl _) _
 have hX0 := Box.new w #[.slice a ss.length cap] 42
 cases hrd : rdB ss with
 | false =>
  have HV : Hid (rdX ss = ⟨#[]⟩) := Lib.hid (by unfold rdX; rw [if_neg (by rw [hrd]; simp)])
  rw [hrd] at HC
  rw [HV.out]
  clear hrd HV
  go_enter Tryz.func21, Tryz.ntmps21
  go_wp2_with fail
  refine (HC.out _ ((HI.out.below hB0).mono hB0.size)).mono ?_
  rintro e w1 ⟨rfl, hb1⟩
  have hB1 := hB0.trans (hb1.mono hB0.size)
  clear hb1 hB0
  go_wp2
  go_ret
  exact ⟨rfl, hB1⟩
 | true =>
  have h6 := rd_six hrd
  have HPa := Lib.hid (fun k hk => rd_parts11 hrd k hk)
  have HV : Hid (rdX ss = sbX ⟨#[]⟩ ss) := Lib.hid (by unfold rdX; rw [if_pos hrd])
  rw [hrd] at HC
  generalize rdX ss = R at HV ⊢
  clear hrd
  go_enter Tryz.func21, Tryz.ntmps21
  go_wp2_with fail
  refine (HC.out _ ((HI.out.below hB0).mono hB0.size)).mono ?_
  rintro e w1 ⟨rfl, hb1⟩
  have hB1 := hB0.trans (hb1.mono hB0.size)
  have hX1 := hX0.keep hb1 hX0.lt
  have f0 := hX1.cell 0 _ rfl
  clear hb1 hB0 hX0 hX1 HC
  go_wp2
  go_loopw [3, 14] (fun s i wr => ∃ (k : Nat) (X : ByteArray), k <= ss.length /\ i = .int .i64 (k : Int) /\ s = .string X /\ X.size <= 700 * k /\ Hid (X = sbX ⟨#[]⟩ (ss.take k)) /\ Below w.heap.size w wr) (fun _ i _ => ss.length - (intOf i).toNat)
  case atStart => exact ⟨0, ⟨#[]⟩, Nat.zero_le _, rfl, rfl, by decide, Lib.hid rfl, hB1⟩
  case round =>
   obtain ⟨k, X, hk, rfl, rfl, hXs, HX, hB⟩ := hrel
   clear hB1 f0
   by_cases hlt : k < ss.length
   ·obtain ⟨a', cap', hv, _, _, hc⟩ := (HI.out.below hB).raw
    cases hv
    obtain ⟨b, off, rfl, hb, hr⟩ := hc k hlt
    obtain ⟨y, c0, c1, c2, hy, s0, s1⟩ := hr k hlt
    obtain ⟨hu20, ht24, he12, hej⟩ := HPa.out k hlt
    have HEj := Lib.hid hej
    have HN : Hid (sbX ⟨#[]⟩ (ss.take (k + 1)) = enX (sbX ⟨#[]⟩ (ss.take k) ++ lnS ss[k]) ss[k].es) := Lib.hid (sbX_snoc _ ss k hlt)
    have hys := lnS_size ss[k] hu20 ht24
    obtain ⟨ya, yc, rfl⟩ := hy.1.slice
    have HY := Lib.hid (hy.mono hB.size)
    obtain ⟨P, hPe⟩ : ∃ P, P = ss[k] := ⟨_, rfl⟩
    rw [<- hPe] at c0 c1 c2 hy hu20 ht24 he12 HEj HN hys HY
    have hLs : lnS P = ⟨#[102, 101, 101, 100]⟩ ++ ⟨#[32]⟩ ++ P.u ++ ⟨#[32]⟩ ++ P.t ++ ⟨#[10]⟩ := rfl
    obtain ⟨U, hU⟩ : ∃ x, x = P.u := ⟨_, rfl⟩
    obtain ⟨T, hT⟩ : ∃ x, x = P.t := ⟨_, rfl⟩
    obtain ⟨E, hE⟩ : ∃ x, x = P.es := ⟨_, rfl⟩
    rw [<- hU] at c0 hLs
    rw [<- hT] at c1 hLs
    rw [<- hE] at c2 he12 HN HY
    have HEj' : Hid (∀ j (hj : j < E.length), E[j].it.id.size <= 8 /\ E[j].it.ti.size <= 24 /\ 0 <= E[j].it.da /\ E[j].it.da <= 200000) := Lib.hid (by subst hE; exact HEj.out)
    have HL3 : Hid (∀ w : World, Calls Tryz.prog 64 #[.slice (some ⟨w.heap.size, 0, none⟩) 3 3] (w.alloc (.cells #[.string ⟨#[102, 101, 101, 100]⟩, .string U, .string T] 9)) fun e w' => e = .returned (.string (lnS P)) /\ Below (w.alloc (.cells #[.string ⟨#[102, 101, 101, 100]⟩, .string U, .string T] 9)).heap.size (w.alloc (.cells #[.string ⟨#[102, 101, 101, 100]⟩, .string U, .string T] 9)) w') := Lib.hid (fun w => by rw [hLs]; exact line3 w _ U T (by rw [<- hLs]; omega))
    obtain ⟨m, hm2⟩ : ∃ m, m = E.length := ⟨_, rfl⟩
    rw [<- hm2] at c2 he12 HY
    have HMl := Lib.hid hm2
    generalize lnS P = LS at hys HN HL3 hLs
    obtain ⟨H, hH⟩ : ∃ H, X ++ LS = H := ⟨_, rfl⟩
    have hHs : H.size <= 700 * k + 51 := by rw [<- hH, ByteArray.size_append]; omega
    have HHe : Hid (sbX ⟨#[]⟩ (ss.take (k + 1)) = enX H E) := Lib.hid (by rw [HN.out, <- HX.out, hH])
    have hX2 := Box.new wr #[.string U, .string T, .slice ya m yc] 94
    have hba : Below wr.heap.size wr (wr.alloc (.cells #[.string U, .string T, .slice ya m yc] 94)) := (Below.refl _ _).alloc (Nat.le_refl _) _
    have hB2 := hB.trans (hba.mono hB.size)
    have HY2 := Lib.hid ((HY.out.below hba).mono hba.size)
    have hba2 : Below (wr.alloc (.cells #[.string U, .string T, .slice ya m yc] 94)).heap.size (wr.alloc (.cells #[.string U, .string T, .slice ya m yc] 94)) ((wr.alloc (.cells #[.string U, .string T, .slice ya m yc] 94)).alloc (.cells #[.string ⟨#[102, 101, 101, 100]⟩, .string U, .string T] 9)) := (Below.refl _ _).alloc (Nat.le_refl _) _
    have hsum : X.size + LS.size <= 100000 := by omega
    clear hr hc hU hT hE hPe hm2 s0 s1 hy hLs HEj HN hB hba
    go_wp2_with fail
    have HL3' := Lib.hid (HL3.out (wr.alloc (.cells #[.string U, .string T, .slice ya m yc] 94)))
    have hs1 : (wr.alloc (.cells #[.string U, .string T, .slice ya m yc] 94)).heap.size = wr.heap.size + 1 := by simp
    generalize wr.alloc (.cells #[.string U, .string T, .slice ya m yc] 94) = W1 at hX2 hB2 HY2 hba2 HL3' hs1 ⊢
    rw [<- hs1]
    refine HL3'.out.mono ?_
    rintro e w2 ⟨rfl, hb2⟩
    have hb3 := hba2.trans (hb2.mono hba2.size)
    have hX3 := hX2.keep hb3 hX2.lt
    have hB3 := hB2.trans (hb3.mono hB2.size)
    have HY3 := Lib.hid ((HY2.out.below hb3).mono hb3.size)
    have g2 := hX3.cell 2 _ rfl
    clear hb2 hb3 hba2 hB2 hX2 c0 c1 c2 HL3 HL3' HY2 HY hs1
    go_wp2
    go_loopw [3, 29] (fun s j wr => ∃ (q : Nat) (X : ByteArray), q <= m /\ j = .int .i64 (q : Int) /\ s = .string X /\ X.size <= 700 * k + 51 + 50 * q /\ Hid (X = enX H (E.take q)) /\ Below w2.heap.size w2 wr) (fun _ j _ => m - (intOf j).toNat)
    case atStart => exact ⟨0, H, Nat.zero_le _, rfl, rfl, by omega, Lib.hid rfl, Below.refl _ _⟩
    case round =>
     obtain ⟨q, X, hq, rfl, rfl, hXs2, HX2, hbr⟩ := hrel
     by_cases hlt2 : q < m
     ·have hlt3 : q < E.length := by have := HMl.out; omega
      obtain ⟨a', cap', hv, _, _, hc⟩ := (HY3.out.below hbr).raw
      cases hv
      obtain ⟨b2, off2, rfl, hb2, hr⟩ := hc q hlt3
      obtain ⟨d0, d1, d2, d3, d4, _, _⟩ := hr q hlt3
      obtain ⟨hi8, ht24', _, _⟩ := HEj'.out q hlt3
      have HN2 : Hid (enX H (E.take (q + 1)) = enX H (E.take q) ++ lnE E[q]) := Lib.hid (enX_snoc H E q hlt3)
      have hes := lnE_size E[q] hi8 ht24'
      obtain ⟨P2, hP2⟩ : ∃ P, P = E[q] := ⟨_, rfl⟩
      rw [<- hP2] at d0 d1 d2 d3 d4 HN2 hes
      have HLn : Hid (lnE P2 = dayT P2.it.da ++ ⟨#[32]⟩ ++ P2.it.id ++ ⟨#[32]⟩ ++ mkB P2.rd P2.st ++ ⟨#[32]⟩ ++ P2.it.ti ++ ⟨#[10]⟩) := Lib.hid rfl
      obtain ⟨S, hS⟩ : ∃ x, x = P2.it.id := ⟨_, rfl⟩
      obtain ⟨T2, hT2⟩ : ∃ x, x = P2.it.ti := ⟨_, rfl⟩
      obtain ⟨D, hD⟩ : ∃ x, x = P2.it.da := ⟨_, rfl⟩
      obtain ⟨rd, hrd⟩ : ∃ x, x = P2.rd := ⟨_, rfl⟩
      obtain ⟨st, hst⟩ : ∃ x, x = P2.st := ⟨_, rfl⟩
      rw [<- hS] at d0 HLn
      rw [<- hT2] at d1 HLn
      rw [<- hD] at d2 HLn
      rw [<- hrd] at d3 HLn
      rw [<- hst] at d4 HLn
      clear hr hc hP2 hS hT2 hD hrd hst hi8 ht24'
      have HD := Lib.hid (fun w hM hP => dayText_any D w hM hP)
      have HMk := Lib.hid (fun w => marksText_any S T2 D rd st w)
      have HGs : Hid ((dayT D ++ ⟨#[32]⟩ ++ S ++ ⟨#[32]⟩ ++ mkB rd st ++ ⟨#[32]⟩ ++ T2 ++ ⟨#[10]⟩).size <= 100000) := Lib.hid (by rw [<- HLn.out]; omega)
      generalize dayT D = G at HD HLn HGs
      generalize mkB rd st = M at HMk HLn HGs
      generalize lnE P2 = LE at HLn HN2 hes
      obtain ⟨Z, hZ⟩ : ∃ Z, X ++ LE = Z := ⟨_, rfl⟩
      have hzs : Z.size <= 700 * k + 51 + 50 * (q + 1) := by rw [<- hZ, ByteArray.size_append]; omega
      have HZ : Hid (Z = enX H (E.take (q + 1))) := Lib.hid (by rw [HN2.out, <- HX2.out, hZ])
      have hxs : X.size + LE.size <= 100000 := by omega
      have hba : Below wr.heap.size wr (wr.alloc (.cells #[.string S, .string T2, .int .i64 D, .bool rd, .bool st] 97)) := (Below.refl _ _).alloc (Nat.le_refl _) _
      have hA0 := Box.new wr #[.string S, .string T2, .int .i64 D, .bool rd, .bool st] 97
      have hB3' := (hB3.trans (hbr.mono hB3.size)).trans (hba.mono (hB3.trans (hbr.mono hB3.size)).size)
      have hb2' : Below w2.heap.size w2 (wr.alloc (.cells #[.string S, .string T2, .int .i64 D, .bool rd, .bool st] 97)) := hbr.trans (hba.mono hbr.size)
      have HBr := Lib.hid hB3
      clear hB3 hbr hba HN2 HX2
      go_wp2
      generalize wr.alloc (.cells #[.string S, .string T2, .int .i64 D, .bool rd, .bool st] 97) = W2 at hA0 hB3' hb2' ⊢
      have hA : Box W2.drew wr.heap.size #[.string S, .string T2, .int .i64 D, .bool rd, .bool st] 97 := hA0.drew
      have hB3 := hb2'.drew
      have HMw := Lib.hid (HM.out.below HBr.out (Nat.le_refl _))
      have HPw := Lib.hid (HP.out.below HBr.out (Nat.le_refl _))
      clear hA0 hB3' hb2' d0 d1 d2 d3 d4
      refine wp_region_T (fun w' => Box w' wr.heap.size #[.string S, .string T2, .int .i64 D, .bool rd, .bool st] 97) (fun _ => True) 16 (by kernel_rfl) 17 rfl ?_
      refine wA 6 [0, 1, 2, 3, 5, 6, 7, 8, 10, 11, 12] ⟨hA, fun _ => trivial⟩ ?_
      simp only [pick, List.filterMap_cons, List.filterMap_nil, List.getElem?_cons_zero, List.getElem?_cons_succ]
      refine wS (.string X) (fun w hw => by go_simp) ?_
      refine wS (.pointer (some ⟨wr.heap.size, 0, none⟩)) (fun w hw => by go_simp) ?_
      refine wS (.pointer (some ⟨wr.heap.size, 2, none⟩)) (fun w hw => by go_simp) ?_
      refine wS (.int .i64 D) (fun w hw => by have e2 := hw.cell 2 _ rfl; go_simp) ?_
      refine wS (.pointer (some ⟨wr.heap.size, 0, none⟩)) (fun w hw => by go_simp) ?_
      refine wS (.pointer (some ⟨wr.heap.size, 0, none⟩)) (fun w hw => by go_simp) ?_
      refine wS (.string S) (fun w hw => by have e0 := hw.cell 0 _ rfl; go_simp) ?_
      refine wS (enV S T2 D rd st) (fun w hw => by have e0 := hw.cell 0 _ rfl; have e1 := hw.cell 1 _ rfl; have e2 := hw.cell 2 _ rfl; have e3 := hw.cell 3 _ rfl; have e4 := hw.cell 4 _ rfl; go_simp) ?_
      refine wS (.pointer (some ⟨wr.heap.size, 0, none⟩)) (fun w hw => by go_simp) ?_
      refine wS (.pointer (some ⟨wr.heap.size, 1, none⟩)) (fun w hw => by go_simp) ?_
      refine wS (.string T2) (fun w hw => by have e1 := hw.cell 1 _ rfl; go_simp) ?_
      refine wpIf_nil (fun hS => ?_)
      clear hS
      refine wO 4 5 (fun K hK => ?_)
      go_simp
      refine (HD.out _ (HMw.out.below hB3 (Nat.le_refl _)) (HPw.out.below hB3 (Nat.le_refl _))).mono ?_
      rintro e v1 ⟨rfl, hb1⟩
      have hA1 := hA.keep hb1 hA.lt
      have hB4 := hB3.trans (hb1.mono hB3.size)
      clear hb1 hB3 hA
      refine hK _ _ ⟨hA1, fun _ => trivial⟩ (fun hS => ?_)
      clear hK K hS
      refine wO 9 4 (fun K hK => ?_)
      go_simp
      refine (HMk.out _).mono ?_
      rintro e v2 ⟨rfl, hb2⟩
      have hA2 := hA1.keep hb2 hA1.lt
      have hB5 := hB4.trans (hb2.mono hB4.size)
      clear hb2 hB4 hA1
      refine hK _ _ ⟨hA2, fun _ => trivial⟩ (fun hS => ?_)
      clear hK K hS
      refine wO 13 3 (fun K hK => ?_)
      go_simp
      have hba : Below v2.heap.size v2 (v2.alloc (.cells #[.string G, .string S, .string M, .string T2] 9)) := (Below.refl _ _).alloc (Nat.le_refl _) _
      have hA3 := hA2.keep hba hA2.lt
      have hB6 := hB5.trans (hba.mono hB5.size)
      have HL := Lib.hid (line4 v2 G S M T2 HGs.out)
      generalize v2.alloc (.cells #[.string G, .string S, .string M, .string T2] 9) = V3 at hA3 hB6 HL ⊢
      clear hba hA2 hB5
      refine hK _ _ ⟨hA3, fun _ => trivial⟩ (fun hS => ?_)
      clear hK K hS
      refine wO 14 2 (fun K hK => ?_)
      go_simp
      refine HL.out.mono ?_
      rintro e v4 ⟨rfl, hb4⟩
      rw [<- HLn.out]
      have hA4 := hA3.keep hb4 hA3.lt
      have hB7 := hB6.trans (hb4.mono hB6.size)
      clear hb4 hB6 hA3 HL
      refine hK _ _ ⟨hA4, fun _ => trivial⟩ (fun hS => ?_)
      clear hK K hS
      refine wA 1 [15] ⟨hA4, fun _ => trivial⟩ ?_
      simp only [pick, List.filterMap_cons, List.filterMap_nil, List.getElem?_cons_zero, List.getElem?_cons_succ]
      refine wS (.string Z) (fun w hw => by go_simp; try omega) ?_
      refine wpIf_nil (fun hS => ?_)
      clear hS
      refine wO 16 0 (fun K hK => ?_)
      go_simp
      refine hK _ _ ⟨hA4, fun _ => trivial⟩ (fun hS => ?_)
      clear hK K hS
      refine wpAnyT_over (by kernel_rfl) ?_
      go_wp2
      go_roundw
      case rel => exact ⟨q + 1, Z, by omega, by go_num, rfl, hzs, HZ, hB7⟩
      case measure => simp [intOf]; omega
     ·have hqe : q = m := by omega
      have HFin : Hid (X = sbX ⟨#[]⟩ (ss.take (k + 1))) := Lib.hid (by
       have h1 := HMl.out
       rw [HHe.out, HX2.out, List.take_of_length_le (by omega)])
      have hXf : X.size <= 700 * (k + 1) := by omega
      have hBf := hB3.trans (hbr.mono hB3.size)
      clear hqe HX2
      go_wp2
      go_roundw
      case rel => exact ⟨k + 1, X, by omega, by go_num, rfl, hXf, HFin, hBf⟩
      case measure => simp [intOf]; omega
   ·have HF : Hid (X = R) := Lib.hid (by rw [HV.out, HX.out, List.take_of_length_le (by omega)])
    go_wp2
    go_ret
    exact ⟨ret_str8 HF.out, hB⟩
end Go.Proofs.YtffkakpbelknaaaGreatDoor
namespace Go.Proofs.YtffkakpbelknaaaGreatDoor
open Go.ChangeShapes Go.WideShapes Go.ChangeAt Go.RowKit
set_option linter.unusedVariables false
def mkI (r s : Bool) : ByteArray := match r, s with
 | false, false => ⟨#[]⟩
 | true, false => ⟨#[114]⟩
 | false, true => ⟨#[115]⟩
 | true, true => ⟨#[114, 115]⟩
theorem mkI_size (r s : Bool) : (mkI r s).size <= 2 := by cases r <;> cases s <;> decide
theorem mkI_mkB (r s : Bool) : ⟨#[91]⟩ ++ mkI r s ++ ⟨#[93]⟩ = mkB r s := by cases r <;> cases s <;> rfl
theorem spec_line (X G S T : ByteArray) (r s : Bool) : X ++ G ++ ⟨#[32]⟩ ++ S ++ ⟨#[32, 91]⟩ ++ mkI r s ++ ⟨#[93, 32]⟩ ++ T ++ ⟨#[10]⟩ = X ++ (G ++ ⟨#[32]⟩ ++ S ++ ⟨#[32]⟩ ++ mkB r s ++ ⟨#[32]⟩ ++ T ++ ⟨#[10]⟩) := by
 rw [<- mkI_mkB]
 apply ba_ext
 simp only [ba_app]
 simp
theorem spec_head (X U T : ByteArray) : X ++ ⟨#[102, 101, 101, 100, 32]⟩ ++ U ++ ⟨#[32]⟩ ++ T ++ ⟨#[10]⟩ = X ++ (⟨#[102, 101, 101, 100]⟩ ++ ⟨#[32]⟩ ++ U ++ ⟨#[32]⟩ ++ T ++ ⟨#[10]⟩) := by
 apply ba_ext
 simp only [ba_app]
 simp
theorem specReaderText_any (v : Value) (ss : List Sb) (w : World) (h : SbAt w w.heap.size v ss) :
  Calls Tryz.prog 22 #[.agg #[v]] w fun e w' => e = .returned (.string (rdX ss)) /\ Below w.heap.size w w' := by
 have HI := Lib.hid h
 have HC := Lib.hid (fun w h => specReaderOk_any v ss w h)
 obtain ⟨a, cap, rfl, hl, hm, hc⟩ := h.raw
 clear hc h
 unfold maxLen at hm
 have hB0 : Below w.heap.size w (w.alloc (.cells #[.slice a ss.length cap] 42)) := (Below.refl _ _).alloc (Nat.le_refl _) _
 have hX0 := Box.new w #[.slice a ss.length cap] 42
 cases hrd : rdB ss with
 | false =>
  have HV : Hid (rdX ss = ⟨#[]⟩) := Lib.hid (by unfold rdX; rw [if_neg (by rw [hrd]; simp)])
  rw [hrd] at HC
  rw [HV.out]
  clear hrd HV
  go_enter Tryz.func22, Tryz.ntmps22
  go_wp2_with fail
  refine (HC.out _ ((HI.out.below hB0).mono hB0.size)).mono ?_
  rintro e w1 ⟨rfl, hb1⟩
  have hB1 := hB0.trans (hb1.mono hB0.size)
  clear hb1 hB0
  go_wp2
  go_ret
  exact ⟨rfl, hB1⟩
 | true =>
  have h6 := rd_six hrd
  have HPa := Lib.hid (fun k hk => rd_parts11 hrd k hk)
  have HV : Hid (rdX ss = sbX ⟨#[]⟩ ss) := Lib.hid (by unfold rdX; rw [if_pos hrd])
  rw [hrd] at HC
  generalize rdX ss = R at HV ⊢
  clear hrd
  go_enter Tryz.func22, Tryz.ntmps22
  go_wp2_with fail
  refine (HC.out _ ((HI.out.below hB0).mono hB0.size)).mono ?_
  rintro e w1 ⟨rfl, hb1⟩
  have hB1 := hB0.trans (hb1.mono hB0.size)
  have hX1 := hX0.keep hb1 hX0.lt
  clear hb1 hB0 hX0 HC
  go_wp2
  go_loopw [3, 4] (fun s i wr => ∃ (k : Nat) (X : ByteArray), k <= ss.length /\ i = .int .i64 (k : Int) /\ s = .string X /\ X.size <= 700 * k /\ Hid (X = sbX ⟨#[]⟩ (ss.take k)) /\ Below w.heap.size w wr /\ Box wr w.heap.size #[.slice a ss.length cap] 42) (fun _ i _ => ss.length - (intOf i).toNat)
  case atStart => exact ⟨0, ⟨#[]⟩, Nat.zero_le _, rfl, rfl, by decide, Lib.hid rfl, hB1, hX1⟩
  case round =>
   obtain ⟨k, X, hk, rfl, rfl, hXs, HX, hB, hXr⟩ := hrel
   clear hB1 hX1
   have f0 := hXr.cell 0 _ rfl
   by_cases hlt : k < ss.length
   ·obtain ⟨a', cap', hv, _, _, hc⟩ := (HI.out.below hB).raw
    cases hv
    obtain ⟨b, off, rfl, hb, hr⟩ := hc k hlt
    obtain ⟨y, c0, c1, c2, hy, s0, s1⟩ := hr k hlt
    obtain ⟨hu20, ht24, he12, hej⟩ := HPa.out k hlt
    have HEj := Lib.hid hej
    have HN : Hid (sbX ⟨#[]⟩ (ss.take (k + 1)) = enX (sbX ⟨#[]⟩ (ss.take k) ++ lnS ss[k]) ss[k].es) := Lib.hid (sbX_snoc _ ss k hlt)
    have hys := lnS_size ss[k] hu20 ht24
    obtain ⟨ya, yc, rfl⟩ := hy.1.slice
    have HY := Lib.hid (hy.mono hB.size)
    obtain ⟨P, hPe⟩ : ∃ P, P = ss[k] := ⟨_, rfl⟩
    rw [<- hPe] at c0 c1 c2 hy hu20 ht24 he12 HEj HN hys HY
    have hLs : lnS P = ⟨#[102, 101, 101, 100]⟩ ++ ⟨#[32]⟩ ++ P.u ++ ⟨#[32]⟩ ++ P.t ++ ⟨#[10]⟩ := rfl
    obtain ⟨U, hU⟩ : ∃ x, x = P.u := ⟨_, rfl⟩
    obtain ⟨T, hT⟩ : ∃ x, x = P.t := ⟨_, rfl⟩
    obtain ⟨E, hE⟩ : ∃ x, x = P.es := ⟨_, rfl⟩
    rw [<- hU] at c0 hLs hu20
    rw [<- hT] at c1 hLs ht24
    rw [<- hE] at c2 he12 HN HY
    have HEj' : Hid (∀ j (hj : j < E.length), E[j].it.id.size <= 8 /\ E[j].it.ti.size <= 24 /\ 0 <= E[j].it.da /\ E[j].it.da <= 200000) := Lib.hid (by subst hE; exact HEj.out)
    obtain ⟨m, hm2⟩ : ∃ m, m = E.length := ⟨_, rfl⟩
    rw [<- hm2] at c2 he12 HY
    have HMl := Lib.hid hm2
    obtain ⟨X1, hX1⟩ : ∃ Z : ByteArray, X ++ ⟨#[102, 101, 101, 100, 32]⟩ = Z := ⟨_, rfl⟩
    have hz1 : X1.size = X.size + 5 := by rw [<- hX1, ByteArray.size_append]; rfl
    obtain ⟨X2, hX2⟩ : ∃ Z, X1 ++ U = Z := ⟨_, rfl⟩
    have hz2 : X2.size = X1.size + U.size := by rw [<- hX2, ByteArray.size_append]
    obtain ⟨X3, hX3⟩ : ∃ Z : ByteArray, X2 ++ ⟨#[32]⟩ = Z := ⟨_, rfl⟩
    have hz3 : X3.size = X2.size + 1 := by rw [<- hX3, ByteArray.size_append]; rfl
    obtain ⟨X4, hX4⟩ : ∃ Z, X3 ++ T = Z := ⟨_, rfl⟩
    have hz4 : X4.size = X3.size + T.size := by rw [<- hX4, ByteArray.size_append]
    obtain ⟨H, hH⟩ : ∃ Z : ByteArray, X4 ++ ⟨#[10]⟩ = Z := ⟨_, rfl⟩
    have hHs : H.size <= 700 * k + 51 := by rw [<- hH, ByteArray.size_append]; have : (⟨#[10]⟩ : ByteArray).size = 1 := rfl; omega
    have HHe : Hid (sbX ⟨#[]⟩ (ss.take (k + 1)) = enX H E) := Lib.hid (by rw [HN.out, <- HX.out, hLs, <- spec_head, hX1, hX2, hX3, hX4, hH])
    have hb1 : X1.size <= 10000 := by omega
    have hb2 : X2.size <= 10000 := by omega
    have hb3 : X3.size <= 10000 := by omega
    have hb4 : X4.size <= 10000 := by omega
    have hbX : X.size <= 10000 := by omega
    clear hr hc hU hT hE hPe hm2 s0 s1 hy hLs HEj HN hz1 hz2 hz3 hz4 hys
    have hA : (fun w' => Box w' w.heap.size #[.slice (some ⟨b, off, none⟩) ss.length cap] 42 /\ w'.cell? ⟨b, off + k * 3, none⟩ = some (.string U) /\ w'.cell? ⟨b, off + k * 3 + 1, none⟩ = some (.string T)) wr.drew := ⟨hXr, c0, c1⟩
    have hBd := hB.drew
    have hXd := hXr.drew
    have c2d : wr.drew.cell? ⟨b, off + k * 3 + 2, none⟩ = some (.slice ya m yc) := c2
    have HYd : Hid (EnAt wr.drew wr.drew.heap.size (.slice ya m yc) E) := Lib.hid HY.out.drew
    go_wp2
    clear c0 c1 c2 f0 hXr hB HY
    refine wp_region_T (fun w' => Box w' w.heap.size #[.slice (some ⟨b, off, none⟩) ss.length cap] 42 /\ w'.cell? ⟨b, off + k * 3, none⟩ = some (.string U) /\ w'.cell? ⟨b, off + k * 3 + 1, none⟩ = some (.string T)) (fun _ => True) 18 (by kernel_rfl) 19 rfl ?_
    refine wA 1 [0, 1, 2, 3, 4, 5, 6, 7, 8, 9, 10, 11, 12, 13, 14, 15, 16, 17] ⟨hA, fun _ => trivial⟩ ?_
    simp only [pick, List.filterMap_cons, List.filterMap_nil, List.getElem?_cons_zero, List.getElem?_cons_succ]
    refine wS (.string X) (fun w hw => by go_simp) ?_
    refine wS (.string X1) (fun w hw => by go_simp; try omega) ?_
    refine wS (.pointer (some ⟨w.heap.size, 0, none⟩)) (fun w hw => by go_simp) ?_
    refine wS (.slice (some ⟨b, off, none⟩) ss.length cap) (fun w hw => by have e0 := hw.1.cell 0 _ rfl; go_simp) ?_
    refine wS (.int .i64 (k : Int)) (fun w hw => by go_simp) ?_
    refine wS (.pointer (some ⟨b, off + k * 3, none⟩)) (fun w hw => by go_simp) ?_
    refine wS (.pointer (some ⟨b, off + k * 3, none⟩)) (fun w hw => by go_simp) ?_
    refine wS (.string U) (fun w hw => by have e0 := hw.2.1; go_simp) ?_
    refine wS (.string X2) (fun w hw => by go_simp; try omega) ?_
    refine wS (.string X3) (fun w hw => by go_simp; try omega) ?_
    refine wS (.pointer (some ⟨w.heap.size, 0, none⟩)) (fun w hw => by go_simp) ?_
    refine wS (.slice (some ⟨b, off, none⟩) ss.length cap) (fun w hw => by have e0 := hw.1.cell 0 _ rfl; go_simp) ?_
    refine wS (.int .i64 (k : Int)) (fun w hw => by go_simp) ?_
    refine wS (.pointer (some ⟨b, off + k * 3, none⟩)) (fun w hw => by go_simp) ?_
    refine wS (.pointer (some ⟨b, off + k * 3 + 1, none⟩)) (fun w hw => by go_simp) ?_
    refine wS (.string T) (fun w hw => by have e0 := hw.2.2; go_simp) ?_
    refine wS (.string X4) (fun w hw => by go_simp; try omega) ?_
    refine wS (.string H) (fun w hw => by go_simp; try omega) ?_
    refine wpIf_nil (fun hS => ?_)
    clear hS
    refine wO 18 0 (fun K hK => ?_)
    go_simp
    refine hK _ _ ⟨hA, fun _ => trivial⟩ (fun hS => ?_)
    clear hK K hS
    refine wpAnyT_over (by kernel_rfl) ?_
    clear hX1 hX2 hX3 hX4 hH hA
    generalize wr.drew = W1 at hBd hXd c2d HYd ⊢
    have hbl : b < W1.heap.size := by have := hBd.size; omega
    go_wp2
    go_loopw [3, 5] (fun s j wr => ∃ (q : Nat) (X : ByteArray), q <= m /\ j = .int .i64 (q : Int) /\ s = .string X /\ X.size <= 700 * k + 51 + 50 * q /\ Hid (X = enX H (E.take q)) /\ Below W1.heap.size W1 wr) (fun _ j _ => m - (intOf j).toNat)
    case atStart => exact ⟨0, H, Nat.zero_le _, rfl, rfl, by omega, Lib.hid rfl, Below.refl _ _⟩
    case round =>
     obtain ⟨q, X, hq, rfl, rfl, hXs2, HX2, hbr⟩ := hrel
     have hXe := hXd.keep hbr hXd.lt
     have f0 := hXe.cell 0 _ rfl
     have c2 : wr.cell? ⟨b, off + k * 3 + 2, none⟩ = some (.slice ya m yc) := by rw [hbr.cell (p := ⟨b, off + k * 3 + 2, none⟩) hbl]; exact c2d
     by_cases hlt2 : q < m
     ·have hlt3 : q < E.length := by have := HMl.out; omega
      obtain ⟨a', cap', hv, hle3, hle4, hc⟩ := (HYd.out.below hbr).raw
      cases hv
      obtain ⟨b2, off2, rfl, hb2x, hr⟩ := hc q hlt3
      obtain ⟨d0, d1, d2, d3, d4, _, _⟩ := hr q hlt3
      obtain ⟨hi8, ht24', hD0, hD1⟩ := HEj'.out q hlt3
      have HN2 : Hid (enX H (E.take (q + 1)) = enX H (E.take q) ++ lnE E[q]) := Lib.hid (enX_snoc H E q hlt3)
      have hes := lnE_size E[q] hi8 ht24'
      obtain ⟨P2, hP2⟩ : ∃ P, P = E[q] := ⟨_, rfl⟩
      rw [<- hP2] at d0 d1 d2 d3 d4 HN2 hes hi8 ht24' hD0 hD1
      have HLn : Hid (lnE P2 = dayT P2.it.da ++ ⟨#[32]⟩ ++ P2.it.id ++ ⟨#[32]⟩ ++ mkB P2.rd P2.st ++ ⟨#[32]⟩ ++ P2.it.ti ++ ⟨#[10]⟩) := Lib.hid rfl
      obtain ⟨S, hS⟩ : ∃ x, x = P2.it.id := ⟨_, rfl⟩
      obtain ⟨T, hT2⟩ : ∃ x, x = P2.it.ti := ⟨_, rfl⟩
      obtain ⟨D, hD⟩ : ∃ x, x = P2.it.da := ⟨_, rfl⟩
      obtain ⟨rd, hrd⟩ : ∃ x, x = P2.rd := ⟨_, rfl⟩
      obtain ⟨st, hst⟩ : ∃ x, x = P2.st := ⟨_, rfl⟩
      rw [<- hS] at d0 HLn hi8
      rw [<- hT2] at d1 HLn ht24'
      rw [<- hD] at d2 HLn hD0 hD1
      rw [<- hrd] at d3 HLn
      rw [<- hst] at d4 HLn
      clear hr hc hP2 hS hT2 hD hrd hst
      have HLd := Lib.hid (fun w => l7Date_any D w hD0 hD1)
      have hgs := dayT_ten D
      obtain ⟨G, hG⟩ : ∃ G, dayT D = G := ⟨_, rfl⟩
      have HGe := Lib.hid hG
      rw [hG] at HLn hgs
      clear hG
      have hms := mkI_size rd st
      have HSl := Lib.hid (fun X G S T => spec_line X G S T rd st)
      rw [<- mkI_mkB] at HLn HSl
      obtain ⟨MK, hMK⟩ : ∃ M, M = mkI rd st := ⟨_, rfl⟩
      have HMe := Lib.hid hMK
      rw [<- hMK] at HLn HSl hms
      clear hMK
      obtain ⟨Y1, hY1⟩ : ∃ Z, X ++ G = Z := ⟨_, rfl⟩
      have hq1 : Y1.size = X.size + G.size := by rw [<- hY1, ByteArray.size_append]
      obtain ⟨Y2, hY2⟩ : ∃ Z : ByteArray, Y1 ++ ⟨#[32]⟩ = Z := ⟨_, rfl⟩
      have hq2 : Y2.size = Y1.size + 1 := by rw [<- hY2, ByteArray.size_append]; rfl
      obtain ⟨Y3, hY3⟩ : ∃ Z, Y2 ++ S = Z := ⟨_, rfl⟩
      have hq3 : Y3.size = Y2.size + S.size := by rw [<- hY3, ByteArray.size_append]
      obtain ⟨Y4, hY4⟩ : ∃ Z : ByteArray, Y3 ++ ⟨#[32, 91]⟩ = Z := ⟨_, rfl⟩
      have hq4 : Y4.size = Y3.size + 2 := by rw [<- hY4, ByteArray.size_append]; rfl
      obtain ⟨Y5, hY5⟩ : ∃ Z, Y4 ++ MK = Z := ⟨_, rfl⟩
      have hq5 : Y5.size = Y4.size + MK.size := by rw [<- hY5, ByteArray.size_append]
      obtain ⟨Y6, hY6⟩ : ∃ Z : ByteArray, Y5 ++ ⟨#[93, 32]⟩ = Z := ⟨_, rfl⟩
      have hq6 : Y6.size = Y5.size + 2 := by rw [<- hY6, ByteArray.size_append]; rfl
      obtain ⟨Y7, hY7⟩ : ∃ Z, Y6 ++ T = Z := ⟨_, rfl⟩
      have hq7 : Y7.size = Y6.size + T.size := by rw [<- hY7, ByteArray.size_append]
      obtain ⟨Z, hZ⟩ : ∃ Z : ByteArray, Y7 ++ ⟨#[10]⟩ = Z := ⟨_, rfl⟩
      have HZe : Hid (Z = X ++ lnE P2) := Lib.hid (by rw [HLn.out, <- HSl.out, hY1, hY2, hY3, hY4, hY5, hY6, hY7, hZ])
      have hzs : Z.size <= 700 * k + 51 + 50 * (q + 1) := by rw [HZe.out, ByteArray.size_append]; omega
      have HZ : Hid (Z = enX H (E.take (q + 1))) := Lib.hid (by rw [HN2.out, <- HX2.out, HZe.out])
      have b1 : Y1.size <= 10000 := by omega
      have b2' : Y2.size <= 10000 := by omega
      have b3 : Y3.size <= 10000 := by omega
      have b4 : Y4.size <= 10000 := by omega
      have b5 : Y5.size <= 10000 := by omega
      have b6 : Y6.size <= 10000 := by omega
      have b7 : Y7.size <= 10000 := by omega
      have bX : X.size <= 10000 := by omega
      have hba : Below wr.heap.size wr (wr.alloc (.cells #[.string S, .string T, .int .i64 D, .bool rd, .bool st] 97)) := (Below.refl _ _).alloc (Nat.le_refl _) _
      have hA0 := Box.new wr #[.string S, .string T, .int .i64 D, .bool rd, .bool st] 97
      have hb2' : Below W1.heap.size W1 (wr.alloc (.cells #[.string S, .string T, .int .i64 D, .bool rd, .bool st] 97)) := hbr.trans (hba.mono hbr.size)
      have g1 := hA0.cell 3 _ rfl
      have g2 := hA0.cell 4 _ rfl
      clear hbr hba HN2 HX2 HLn HSl HZe hq1 hq2 hq3 hq4 hq5 hq6 hq7 hes hXe
      unfold maxLen at hle4
      have hMl := HMl.out
      have HD0 := Lib.hid hD0
      have HD1 := Lib.hid hD1
      cases rd with
      | false =>
       cases st with
       | false =>
        have hMK2 : MK = ⟨#[]⟩ := HMe.out
        subst hMK2
        clear HMe
        go_wp2
        generalize wr.alloc (.cells #[.string S, .string T, .int .i64 D, .bool false, .bool false] 97) = W2 at hA0 hb2' g1 g2 ⊢
        have hA := hA0.drew
        have hB3 := hb2'.drew
        clear hA0 hb2' g1 g2 d0 d1 d2 d3 d4 f0 c2
        refine wp_region_T (fun w' => Box w' wr.heap.size #[.string S, .string T, .int .i64 D, .bool false, .bool false] 97) (fun _ => True) 21 (by kernel_rfl) 22 rfl ?_
        refine wA 11 [0, 1, 2, 3, 8, 9, 10, 13, 16, 17, 18] ⟨hA, fun _ => trivial⟩ ?_
        simp only [pick, List.filterMap_cons, List.filterMap_nil, List.getElem?_cons_zero, List.getElem?_cons_succ]
        refine wS (.string X) (fun w hw => by go_simp) ?_
        refine wS (.pointer (some ⟨wr.heap.size, 0, none⟩)) (fun w hw => by go_simp) ?_
        refine wS (.pointer (some ⟨wr.heap.size, 2, none⟩)) (fun w hw => by go_simp) ?_
        refine wS (.int .i64 D) (fun w hw => by have e2 := hw.cell 2 _ rfl; go_simp) ?_
        refine wS (.pointer (some ⟨wr.heap.size, 0, none⟩)) (fun w hw => by go_simp) ?_
        refine wS (.pointer (some ⟨wr.heap.size, 0, none⟩)) (fun w hw => by go_simp) ?_
        refine wS (.string S) (fun w hw => by have e0 := hw.cell 0 _ rfl; go_simp) ?_
        refine wS (.string ⟨#[]⟩) (fun w hw => by go_simp; try rfl) ?_
        refine wS (.pointer (some ⟨wr.heap.size, 0, none⟩)) (fun w hw => by go_simp) ?_
        refine wS (.pointer (some ⟨wr.heap.size, 1, none⟩)) (fun w hw => by go_simp) ?_
        refine wS (.string T) (fun w hw => by have e1 := hw.cell 1 _ rfl; go_simp) ?_
        refine wpIf_nil (fun hS => ?_)
        clear hS
        refine wO 4 10 (fun K hK => ?_)
        go_simp
        refine (HLd.out _).mono ?_
        rintro e v1 ⟨y, m, dd, rfl, hid, hb1⟩
        have hA1 := hA.keep hb1 hA.lt
        have hB4 := hB3.trans (hb1.mono hB3.size)
        obtain ⟨yn, mn, dn, rfl, rfl, rfl, hy0, hy1, hmn, hdn, HDt⟩ := isD_nat hid hD0 hD1
        have HTx := Lib.hid (fun w => l7Text_any yn mn dn w hy0 hy1 hmn hdn)
        rw [<- HDt, HGe.out] at HTx
        clear hb1 hB3 hA hid HDt hy0 hy1 hmn hdn
        refine hK _ _ ⟨hA1, fun _ => trivial⟩ (fun hS => ?_)
        clear hK K hS
        refine wO 5 9 (fun K hK => ?_)
        go_simp
        refine (HTx.out _).mono ?_
        rintro e v2 ⟨rfl, hb2⟩
        have hA2 := hA1.keep hb2 hA1.lt
        have hB5 := hB4.trans (hb2.mono hB4.size)
        clear hb2 hB4 hA1 HTx
        refine hK _ _ ⟨hA2, fun _ => trivial⟩ (fun hS => ?_)
        clear hK K hS
        refine wA 1 [6, 7, 11, 12, 14, 15, 19, 20] ⟨hA2, fun _ => trivial⟩ ?_
        simp only [pick, List.filterMap_cons, List.filterMap_nil, List.getElem?_cons_zero, List.getElem?_cons_succ]
        refine wS (.string Y1) (fun w hw => by go_simp; try omega) ?_
        refine wS (.string Y2) (fun w hw => by go_simp; try omega) ?_
        refine wS (.string Y3) (fun w hw => by go_simp; try omega) ?_
        refine wS (.string Y4) (fun w hw => by go_simp; try omega) ?_
        refine wS (.string Y5) (fun w hw => by go_simp; try omega) ?_
        refine wS (.string Y6) (fun w hw => by go_simp; try omega) ?_
        refine wS (.string Y7) (fun w hw => by go_simp; try omega) ?_
        refine wS (.string Z) (fun w hw => by go_simp; try omega) ?_
        refine wpIf_nil (fun hS => ?_)
        clear hS
        refine wO 21 0 (fun K hK => ?_)
        go_simp
        refine hK _ _ ⟨hA2, fun _ => trivial⟩ (fun hS => ?_)
        clear hK K hS
        refine wpAnyT_over (by kernel_rfl) ?_
        go_wp2
        go_roundw
        case rel => exact ⟨q + 1, Z, by omega, by go_num, rfl, hzs, HZ, hB5⟩
        case measure => simp [intOf]; omega
       | true =>
        have hMK2 : MK = ⟨#[115]⟩ := HMe.out
        subst hMK2
        clear HMe
        go_wp2
        generalize wr.alloc (.cells #[.string S, .string T, .int .i64 D, .bool false, .bool true] 97) = W2 at hA0 hb2' g1 g2 ⊢
        have hA := hA0.drew
        have hB3 := hb2'.drew
        clear hA0 hb2' g1 g2 d0 d1 d2 d3 d4 f0 c2
        refine wp_region_T (fun w' => Box w' wr.heap.size #[.string S, .string T, .int .i64 D, .bool false, .bool true] 97) (fun _ => True) 21 (by kernel_rfl) 22 rfl ?_
        refine wA 11 [0, 1, 2, 3, 8, 9, 10, 13, 16, 17, 18] ⟨hA, fun _ => trivial⟩ ?_
        simp only [pick, List.filterMap_cons, List.filterMap_nil, List.getElem?_cons_zero, List.getElem?_cons_succ]
        refine wS (.string X) (fun w hw => by go_simp) ?_
        refine wS (.pointer (some ⟨wr.heap.size, 0, none⟩)) (fun w hw => by go_simp) ?_
        refine wS (.pointer (some ⟨wr.heap.size, 2, none⟩)) (fun w hw => by go_simp) ?_
        refine wS (.int .i64 D) (fun w hw => by have e2 := hw.cell 2 _ rfl; go_simp) ?_
        refine wS (.pointer (some ⟨wr.heap.size, 0, none⟩)) (fun w hw => by go_simp) ?_
        refine wS (.pointer (some ⟨wr.heap.size, 0, none⟩)) (fun w hw => by go_simp) ?_
        refine wS (.string S) (fun w hw => by have e0 := hw.cell 0 _ rfl; go_simp) ?_
        refine wS (.string ⟨#[115]⟩) (fun w hw => by go_simp; try rfl) ?_
        refine wS (.pointer (some ⟨wr.heap.size, 0, none⟩)) (fun w hw => by go_simp) ?_
        refine wS (.pointer (some ⟨wr.heap.size, 1, none⟩)) (fun w hw => by go_simp) ?_
        refine wS (.string T) (fun w hw => by have e1 := hw.cell 1 _ rfl; go_simp) ?_
        refine wpIf_nil (fun hS => ?_)
        clear hS
        refine wO 4 10 (fun K hK => ?_)
        go_simp
        refine (HLd.out _).mono ?_
        rintro e v1 ⟨y, m, dd, rfl, hid, hb1⟩
        have hA1 := hA.keep hb1 hA.lt
        have hB4 := hB3.trans (hb1.mono hB3.size)
        obtain ⟨yn, mn, dn, rfl, rfl, rfl, hy0, hy1, hmn, hdn, HDt⟩ := isD_nat hid hD0 hD1
        have HTx := Lib.hid (fun w => l7Text_any yn mn dn w hy0 hy1 hmn hdn)
        rw [<- HDt, HGe.out] at HTx
        clear hb1 hB3 hA hid HDt hy0 hy1 hmn hdn
        refine hK _ _ ⟨hA1, fun _ => trivial⟩ (fun hS => ?_)
        clear hK K hS
        refine wO 5 9 (fun K hK => ?_)
        go_simp
        refine (HTx.out _).mono ?_
        rintro e v2 ⟨rfl, hb2⟩
        have hA2 := hA1.keep hb2 hA1.lt
        have hB5 := hB4.trans (hb2.mono hB4.size)
        clear hb2 hB4 hA1 HTx
        refine hK _ _ ⟨hA2, fun _ => trivial⟩ (fun hS => ?_)
        clear hK K hS
        refine wA 1 [6, 7, 11, 12, 14, 15, 19, 20] ⟨hA2, fun _ => trivial⟩ ?_
        simp only [pick, List.filterMap_cons, List.filterMap_nil, List.getElem?_cons_zero, List.getElem?_cons_succ]
        refine wS (.string Y1) (fun w hw => by go_simp; try omega) ?_
        refine wS (.string Y2) (fun w hw => by go_simp; try omega) ?_
        refine wS (.string Y3) (fun w hw => by go_simp; try omega) ?_
        refine wS (.string Y4) (fun w hw => by go_simp; try omega) ?_
        refine wS (.string Y5) (fun w hw => by go_simp; try omega) ?_
        refine wS (.string Y6) (fun w hw => by go_simp; try omega) ?_
        refine wS (.string Y7) (fun w hw => by go_simp; try omega) ?_
        refine wS (.string Z) (fun w hw => by go_simp; try omega) ?_
        refine wpIf_nil (fun hS => ?_)
        clear hS
        refine wO 21 0 (fun K hK => ?_)
        go_simp
        refine hK _ _ ⟨hA2, fun _ => trivial⟩ (fun hS => ?_)
        clear hK K hS
        refine wpAnyT_over (by kernel_rfl) ?_
        go_wp2
        go_roundw
        case rel => exact ⟨q + 1, Z, by omega, by go_num, rfl, hzs, HZ, hB5⟩
        case measure => simp [intOf]; omega
      | true =>
       cases st with
       | false =>
        have hMK2 : MK = ⟨#[114]⟩ := HMe.out
        subst hMK2
        clear HMe
        go_wp2
        generalize wr.alloc (.cells #[.string S, .string T, .int .i64 D, .bool true, .bool false] 97) = W2 at hA0 hb2' g1 g2 ⊢
        have hA := hA0.drew
        have hB3 := hb2'.drew
        clear hA0 hb2' g1 g2 d0 d1 d2 d3 d4 f0 c2
        refine wp_region_T (fun w' => Box w' wr.heap.size #[.string S, .string T, .int .i64 D, .bool true, .bool false] 97) (fun _ => True) 21 (by kernel_rfl) 22 rfl ?_
        refine wA 11 [0, 1, 2, 3, 8, 9, 10, 13, 16, 17, 18] ⟨hA, fun _ => trivial⟩ ?_
        simp only [pick, List.filterMap_cons, List.filterMap_nil, List.getElem?_cons_zero, List.getElem?_cons_succ]
        refine wS (.string X) (fun w hw => by go_simp) ?_
        refine wS (.pointer (some ⟨wr.heap.size, 0, none⟩)) (fun w hw => by go_simp) ?_
        refine wS (.pointer (some ⟨wr.heap.size, 2, none⟩)) (fun w hw => by go_simp) ?_
        refine wS (.int .i64 D) (fun w hw => by have e2 := hw.cell 2 _ rfl; go_simp) ?_
        refine wS (.pointer (some ⟨wr.heap.size, 0, none⟩)) (fun w hw => by go_simp) ?_
        refine wS (.pointer (some ⟨wr.heap.size, 0, none⟩)) (fun w hw => by go_simp) ?_
        refine wS (.string S) (fun w hw => by have e0 := hw.cell 0 _ rfl; go_simp) ?_
        refine wS (.string ⟨#[114]⟩) (fun w hw => by go_simp; try rfl) ?_
        refine wS (.pointer (some ⟨wr.heap.size, 0, none⟩)) (fun w hw => by go_simp) ?_
        refine wS (.pointer (some ⟨wr.heap.size, 1, none⟩)) (fun w hw => by go_simp) ?_
        refine wS (.string T) (fun w hw => by have e1 := hw.cell 1 _ rfl; go_simp) ?_
        refine wpIf_nil (fun hS => ?_)
        clear hS
        refine wO 4 10 (fun K hK => ?_)
        go_simp
        refine (HLd.out _).mono ?_
        rintro e v1 ⟨y, m, dd, rfl, hid, hb1⟩
        have hA1 := hA.keep hb1 hA.lt
        have hB4 := hB3.trans (hb1.mono hB3.size)
        obtain ⟨yn, mn, dn, rfl, rfl, rfl, hy0, hy1, hmn, hdn, HDt⟩ := isD_nat hid hD0 hD1
        have HTx := Lib.hid (fun w => l7Text_any yn mn dn w hy0 hy1 hmn hdn)
        rw [<- HDt, HGe.out] at HTx
        clear hb1 hB3 hA hid HDt hy0 hy1 hmn hdn
        refine hK _ _ ⟨hA1, fun _ => trivial⟩ (fun hS => ?_)
        clear hK K hS
        refine wO 5 9 (fun K hK => ?_)
        go_simp
        refine (HTx.out _).mono ?_
        rintro e v2 ⟨rfl, hb2⟩
        have hA2 := hA1.keep hb2 hA1.lt
        have hB5 := hB4.trans (hb2.mono hB4.size)
        clear hb2 hB4 hA1 HTx
        refine hK _ _ ⟨hA2, fun _ => trivial⟩ (fun hS => ?_)
        clear hK K hS
        refine wA 1 [6, 7, 11, 12, 14, 15, 19, 20] ⟨hA2, fun _ => trivial⟩ ?_
        simp only [pick, List.filterMap_cons, List.filterMap_nil, List.getElem?_cons_zero, List.getElem?_cons_succ]
        refine wS (.string Y1) (fun w hw => by go_simp; try omega) ?_
        refine wS (.string Y2) (fun w hw => by go_simp; try omega) ?_
        refine wS (.string Y3) (fun w hw => by go_simp; try omega) ?_
        refine wS (.string Y4) (fun w hw => by go_simp; try omega) ?_
        refine wS (.string Y5) (fun w hw => by go_simp; try omega) ?_
        refine wS (.string Y6) (fun w hw => by go_simp; try omega) ?_
        refine wS (.string Y7) (fun w hw => by go_simp; try omega) ?_
        refine wS (.string Z) (fun w hw => by go_simp; try omega) ?_
        refine wpIf_nil (fun hS => ?_)
        clear hS
        refine wO 21 0 (fun K hK => ?_)
        go_simp
        refine hK _ _ ⟨hA2, fun _ => trivial⟩ (fun hS => ?_)
        clear hK K hS
        refine wpAnyT_over (by kernel_rfl) ?_
        go_wp2
        go_roundw
        case rel => exact ⟨q + 1, Z, by omega, by go_num, rfl, hzs, HZ, hB5⟩
        case measure => simp [intOf]; omega
       | true =>
        have hMK2 : MK = ⟨#[114, 115]⟩ := HMe.out
        subst hMK2
        clear HMe
        go_wp2
        generalize wr.alloc (.cells #[.string S, .string T, .int .i64 D, .bool true, .bool true] 97) = W2 at hA0 hb2' g1 g2 ⊢
        have hA := hA0.drew
        have hB3 := hb2'.drew
        clear hA0 hb2' g1 g2 d0 d1 d2 d3 d4 f0 c2
        refine wp_region_T (fun w' => Box w' wr.heap.size #[.string S, .string T, .int .i64 D, .bool true, .bool true] 97) (fun _ => True) 21 (by kernel_rfl) 22 rfl ?_
        refine wA 11 [0, 1, 2, 3, 8, 9, 10, 13, 16, 17, 18] ⟨hA, fun _ => trivial⟩ ?_
        simp only [pick, List.filterMap_cons, List.filterMap_nil, List.getElem?_cons_zero, List.getElem?_cons_succ]
        refine wS (.string X) (fun w hw => by go_simp) ?_
        refine wS (.pointer (some ⟨wr.heap.size, 0, none⟩)) (fun w hw => by go_simp) ?_
        refine wS (.pointer (some ⟨wr.heap.size, 2, none⟩)) (fun w hw => by go_simp) ?_
        refine wS (.int .i64 D) (fun w hw => by have e2 := hw.cell 2 _ rfl; go_simp) ?_
        refine wS (.pointer (some ⟨wr.heap.size, 0, none⟩)) (fun w hw => by go_simp) ?_
        refine wS (.pointer (some ⟨wr.heap.size, 0, none⟩)) (fun w hw => by go_simp) ?_
        refine wS (.string S) (fun w hw => by have e0 := hw.cell 0 _ rfl; go_simp) ?_
        refine wS (.string ⟨#[114, 115]⟩) (fun w hw => by go_simp; try rfl) ?_
        refine wS (.pointer (some ⟨wr.heap.size, 0, none⟩)) (fun w hw => by go_simp) ?_
        refine wS (.pointer (some ⟨wr.heap.size, 1, none⟩)) (fun w hw => by go_simp) ?_
        refine wS (.string T) (fun w hw => by have e1 := hw.cell 1 _ rfl; go_simp) ?_
        refine wpIf_nil (fun hS => ?_)
        clear hS
        refine wO 4 10 (fun K hK => ?_)
        go_simp
        refine (HLd.out _).mono ?_
        rintro e v1 ⟨y, m, dd, rfl, hid, hb1⟩
        have hA1 := hA.keep hb1 hA.lt
        have hB4 := hB3.trans (hb1.mono hB3.size)
        obtain ⟨yn, mn, dn, rfl, rfl, rfl, hy0, hy1, hmn, hdn, HDt⟩ := isD_nat hid hD0 hD1
        have HTx := Lib.hid (fun w => l7Text_any yn mn dn w hy0 hy1 hmn hdn)
        rw [<- HDt, HGe.out] at HTx
        clear hb1 hB3 hA hid HDt hy0 hy1 hmn hdn
        refine hK _ _ ⟨hA1, fun _ => trivial⟩ (fun hS => ?_)
        clear hK K hS
        refine wO 5 9 (fun K hK => ?_)
        go_simp
        refine (HTx.out _).mono ?_
        rintro e v2 ⟨rfl, hb2⟩
        have hA2 := hA1.keep hb2 hA1.lt
        have hB5 := hB4.trans (hb2.mono hB4.size)
        clear hb2 hB4 hA1 HTx
        refine hK _ _ ⟨hA2, fun _ => trivial⟩ (fun hS => ?_)
        clear hK K hS
        refine wA 1 [6, 7, 11, 12, 14, 15, 19, 20] ⟨hA2, fun _ => trivial⟩ ?_
        simp only [pick, List.filterMap_cons, List.filterMap_nil, List.getElem?_cons_zero, List.getElem?_cons_succ]
        refine wS (.string Y1) (fun w hw => by go_simp; try omega) ?_
        refine wS (.string Y2) (fun w hw => by go_simp; try omega) ?_
        refine wS (.string Y3) (fun w hw => by go_simp; try omega) ?_
        refine wS (.string Y4) (fun w hw => by go_simp; try omega) ?_
        refine wS (.string Y5) (fun w hw => by go_simp; try omega) ?_
        refine wS (.string Y6) (fun w hw => by go_simp; try omega) ?_
        refine wS (.string Y7) (fun w hw => by go_simp; try omega) ?_
        refine wS (.string Z) (fun w hw => by go_simp; try omega) ?_
        refine wpIf_nil (fun hS => ?_)
        clear hS
        refine wO 21 0 (fun K hK => ?_)
        go_simp
        refine hK _ _ ⟨hA2, fun _ => trivial⟩ (fun hS => ?_)
        clear hK K hS
        refine wpAnyT_over (by kernel_rfl) ?_
        go_wp2
        go_roundw
        case rel => exact ⟨q + 1, Z, by omega, by go_num, rfl, hzs, HZ, hB5⟩
        case measure => simp [intOf]; omega
     ·have HFin : Hid (X = sbX ⟨#[]⟩ (ss.take (k + 1))) := Lib.hid (by
       have h1 := HMl.out
       rw [HHe.out, HX2.out, List.take_of_length_le (by omega)])
      have hXf : X.size <= 700 * (k + 1) := by omega
      have hBf := hBd.trans (hbr.mono hBd.size)
      clear HX2
      go_wp2
      go_roundw
      case rel => exact ⟨k + 1, X, by omega, by go_num, rfl, hXf, HFin, hBf, hXe⟩
      case measure => simp [intOf]; omega
   ·have HF : Hid (X = R) := Lib.hid (by rw [HV.out, HX.out, List.take_of_length_le (by omega)])
    go_wp2
    go_ret
    exact ⟨ret_str8 HF.out, hB⟩
end Go.Proofs.YtffkakpbelknaaaGreatDoor
