/- The text of a feed, of the program. -/
import Derived.Test.YtfjaincogbdeiaaDoorW8h
import Derived.Test.YtfjaincogbdeiaaDoorW8l
namespace Go.Proofs.YtfjaincogbdeiaaDoor
open Go.ChangeShapes Go.WideShapes Go.ChangeAt Go.RowKit
set_option linter.unusedVariables false

noncomputable def itX (x : It) : ByteArray := itT x.id x.ti x.da
noncomputable def fdI (H : ByteArray) (its : List It) : ByteArray := its.foldl (fun b x => b ++ itX x) H
theorem fdI_snoc (H : ByteArray) (its : List It) (k : Nat) (h : k < its.length) : fdI H (its.take (k + 1)) = fdI H (its.take k) ++ itX its[k] := by
  unfold fdI; rw [List.take_succ_eq_append_getElem h, List.foldl_append]; rfl
def fdH (u t : ByteArray) : ByteArray := ⟨#[60, 102, 101, 101, 100, 32, 117, 114, 108, 61, 34]⟩ ++ escR u ++ ⟨#[34, 62, 60, 116, 105, 116, 108, 101, 62]⟩ ++ escR t ++ ⟨#[60, 47, 116, 105, 116, 108, 101, 62]⟩
noncomputable def fdX (u t : ByteArray) (its : List It) : ByteArray := if fdB u t its = true then fdI (fdH u t) its ++ ⟨#[60, 47, 102, 101, 101, 100, 62]⟩ else ⟨#[]⟩
theorem itX_size (x : It) : (itX x).size ≤ 2500 := by
  unfold itX itT
  simp only [ByteArray.size_append]
  have h1 := escR_le x.id
  have h2 := escR_le x.ti
  have h3 : (dayT x.da).size ≤ 10 := dateT_size _ _ _
  have l1 : (⟨#[60, 105, 116, 101, 109, 32, 105, 100, 61, 34]⟩ : ByteArray).size = 10 := rfl
  have l2 : (⟨#[34, 32, 100, 97, 116, 101, 61, 34]⟩ : ByteArray).size = 8 := rfl
  have l3 : (⟨#[34, 62]⟩ : ByteArray).size = 2 := rfl
  have l4 : (⟨#[60, 47, 105, 116, 101, 109, 62]⟩ : ByteArray).size = 7 := rfl
  omega
theorem ret_str8 {a b : ByteArray} (h : a = b) : Ending.returned (.string a) = .returned (.string b) := by rw [h]
theorem fdB_len {u t : ByteArray} {its : List It} (h : fdB u t its = true) : its.length ≤ 12 := by
  unfold fdB at h
  simp only [Bool.and_eq_true, decide_eq_true_eq] at h
  exact h.2.2

set_option maxRecDepth 100000 in
set_option maxHeartbeats 1600000 in
theorem implFeedText_any (u t : ByteArray) (v : Value) (its : List It) (w : World) (hu : u.size ≤ maxLen) (ht : t.size ≤ maxLen) (h : ItAt w w.heap.size v its) (hE : ETab w) (hM : MTab w) (hP : PTab w) :
    Calls Tryd.prog 10 #[fV u t v] w fun e w' => e = .returned (.string (fdX u t its)) ∧ Below w.heap.size w w' := by
  have HI := Lib.hid h
  have HC := Lib.hid (fun w h => implFeedOk_any u t v its w hu ht h)
  obtain ⟨a, cap, rfl, hl, hm, hc⟩ := h.raw
  clear hc h
  unfold maxLen at hm
  have HEt := Lib.hid hE
  have HMt := Lib.hid hM
  have HPt := Lib.hid hP
  clear hE hM hP
  have hB0 : Below w.heap.size w (w.alloc (fC u t (.slice a its.length cap))) := (Below.refl _ _).alloc (Nat.le_refl _) _
  have hA0 := FAt.new w u t (.slice a its.length cap)
  cases hfd : fdB u t its with
  | false =>
    have HV : Hid (fdX u t its = ⟨#[]⟩) := Lib.hid (by unfold fdX; rw [if_neg (by rw [hfd]; simp)])
    rw [hfd] at HC
    rw [HV.out]
    clear hfd HV
    go_enter Tryd.func10, Tryd.ntmps10
    go_wp2_with fail
    refine (HC.out _ ((HI.out.below hB0).mono hB0.size)).mono ?_
    rintro e w1 ⟨rfl, hb1⟩
    have hB1 := hB0.trans (hb1.mono hB0.size)
    clear hb1 hB0
    go_wp2
    go_ret
    exact ⟨rfl, hB1⟩
  | true =>
  have h12 := fdB_len hfd
  have HV : Hid (fdX u t its = fdI (fdH u t) its ++ ⟨#[60, 47, 102, 101, 101, 100, 62]⟩) := Lib.hid (by unfold fdX; rw [if_pos hfd])
  rw [hfd] at HC
  have C1 := Lib.hid (fun w hE => implEscaped_any u w hE)
  have C2 := Lib.hid (fun w hE => implEscaped_any t w hE)
  have HH : Hid (fdH u t = ⟨#[60, 102, 101, 101, 100, 32, 117, 114, 108, 61, 34]⟩ ++ escR u ++ ⟨#[34, 62, 60, 116, 105, 116, 108, 101, 62]⟩ ++ escR t ++ ⟨#[60, 47, 116, 105, 116, 108, 101, 62]⟩) := Lib.hid rfl
  have hs1 := escR_le u
  have hs2 := escR_le t
  generalize escR u = D1 at C1 HH hs1
  generalize escR t = D2 at C2 HH hs2
  obtain ⟨X1, hX1⟩ : ∃ X : ByteArray, ⟨#[60, 102, 101, 101, 100, 32, 117, 114, 108, 61, 34]⟩ ++ D1 = X := ⟨_, rfl⟩
  have hz1 : X1.size ≤ 1300 := by rw [← hX1, ByteArray.size_append]; have l1 : (⟨#[60, 102, 101, 101, 100, 32, 117, 114, 108, 61, 34]⟩ : ByteArray).size = 11 := rfl; omega
  obtain ⟨X2, hX2⟩ : ∃ X : ByteArray, X1 ++ ⟨#[34, 62, 60, 116, 105, 116, 108, 101, 62]⟩ = X := ⟨_, rfl⟩
  have hz2 : X2.size ≤ 1400 := by rw [← hX2, ByteArray.size_append]; have l1 : (⟨#[34, 62, 60, 116, 105, 116, 108, 101, 62]⟩ : ByteArray).size = 9 := rfl; omega
  obtain ⟨X3, hX3⟩ : ∃ X : ByteArray, X2 ++ D2 = X := ⟨_, rfl⟩
  have hz3 : X3.size ≤ 2700 := by rw [← hX3, ByteArray.size_append]; omega
  obtain ⟨H, hH⟩ : ∃ X : ByteArray, X3 ++ ⟨#[60, 47, 116, 105, 116, 108, 101, 62]⟩ = X := ⟨_, rfl⟩
  have hz4 : H.size ≤ 3000 := by rw [← hH, ByteArray.size_append]; have l1 : (⟨#[60, 47, 116, 105, 116, 108, 101, 62]⟩ : ByteArray).size = 8 := rfl; omega
  rw [hX1, hX2, hX3, hH] at HH
  rw [HH.out] at HV
  obtain ⟨R, hR⟩ : ∃ R, R = fdX u t its := ⟨_, rfl⟩
  rw [← hR] at HV ⊢
  clear hfd hR HH
  go_enter Tryd.func10, Tryd.ntmps10
  go_wp2_with fail
  refine (HC.out _ ((HI.out.below hB0).mono hB0.size)).mono ?_
  rintro e w1 ⟨rfl, hb1⟩
  have hA := (hA0.keep hb1 (Nat.le_refl _)).drew8
  have hB := (hB0.trans (hb1.mono hB0.size)).drew
  clear hb1 hB0 hA0
  go_wp2
  refine wp_region_T (fun w' => FAt w' w.heap.size u t (.slice a its.length cap)) (fun _ => True) 10 (by kernel_rfl) 11 rfl ?_
  refine wpAnyT_takesA (md := .any) 7 (by kernel_rfl) (by intro d v c a w h; cases d <;> exact h) [0, 1, 5, 6] _ _ _ (by decide) (by kernel_rfl) ⟨hA, fun _ => trivial⟩ ?_
  simp only [pick, List.filterMap_cons, List.filterMap_nil, List.getElem?_cons_zero, List.getElem?_cons_succ]
  refine wpIf_step (.pointer (some ⟨w.heap.size, 0, none⟩)) (by kernel_rfl) (fun w hw => by go_simp) ?_
  refine wpIf_step (.string u) (by kernel_rfl) (fun w hw => by have e0 := hw.c0; have e1 := hw.c1; go_simp) ?_
  refine wpIf_step (.pointer (some ⟨w.heap.size, 1, none⟩)) (by kernel_rfl) (fun w hw => by go_simp) ?_
  refine wpIf_step (.string t) (by kernel_rfl) (fun w hw => by have e0 := hw.c0; have e1 := hw.c1; go_simp) ?_
  refine wpIf_nil (fun hS => ?_)
  clear hS
  refine wpAnyT_one 2 6 (by kernel_rfl) rfl (by kernel_rfl) (fun K hK => ?_)
  go_simp
  refine (C1.out _ (HEt.out.below hB (Nat.le_refl _))).mono ?_
  rintro e v1 ⟨rfl, hb1⟩
  have hA1 := hA.keep hb1 (Nat.le_refl _)
  have hB1 := hB.trans (hb1.mono hB.size)
  clear hb1 hA hB
  refine hK _ _ ⟨hA1, fun _ => trivial⟩ (fun hS => ?_)
  clear hK K hS
  refine wpAnyT_takesA (md := .any) 4 (by kernel_rfl) (by intro d v c a w h; cases d <;> exact h) [3, 4] _ _ _ (by decide) (by kernel_rfl) ⟨hA1, fun _ => trivial⟩ ?_
  simp only [pick, List.filterMap_cons, List.filterMap_nil, List.getElem?_cons_zero, List.getElem?_cons_succ]
  refine wpIf_step (.string X1) (by kernel_rfl) (fun w hw => by go_simp; try omega) ?_
  refine wpIf_step (.string X2) (by kernel_rfl) (fun w hw => by go_simp; try omega) ?_
  refine wpIf_nil (fun hS => ?_)
  clear hS
  refine wpAnyT_one 7 3 (by kernel_rfl) rfl (by kernel_rfl) (fun K hK => ?_)
  go_simp
  refine (C2.out _ (HEt.out.below hB1 (Nat.le_refl _))).mono ?_
  rintro e v2 ⟨rfl, hb2⟩
  have hA2 := hA1.keep hb2 (Nat.le_refl _)
  have hB2 := hB1.trans (hb2.mono hB1.size)
  clear hb2 hA1 hB1
  refine hK _ _ ⟨hA2, fun _ => trivial⟩ (fun hS => ?_)
  clear hK K hS
  refine wpAnyT_takesA (md := .any) 1 (by kernel_rfl) (by intro d v c a w h; cases d <;> exact h) [8, 9] _ _ _ (by decide) (by kernel_rfl) ⟨hA2, fun _ => trivial⟩ ?_
  simp only [pick, List.filterMap_cons, List.filterMap_nil, List.getElem?_cons_zero, List.getElem?_cons_succ]
  refine wpIf_step (.string X3) (by kernel_rfl) (fun w hw => by go_simp; try omega) ?_
  refine wpIf_step (.string H) (by kernel_rfl) (fun w hw => by go_simp; try omega) ?_
  refine wpIf_nil (fun hS => ?_)
  clear hS
  refine wpAnyT_one 10 0 (by kernel_rfl) rfl (by kernel_rfl) (fun K hK => ?_)
  go_simp
  refine hK _ _ ⟨hA2, fun _ => trivial⟩ (fun hS => ?_)
  clear hK K hS
  refine wpAnyT_over (by kernel_rfl) ?_
  have f2 := hA2.c2
  clear hX1 hX2 hX3 hH
  go_wp2
  go_loopw [3, 22] (fun s i wr => ∃ (k : Nat) (X : ByteArray), k ≤ its.length ∧ i = .int .i64 (k : Int) ∧ s = .string X ∧ X.size ≤ 3000 + 2500 * k ∧ Hid (X = fdI H (its.take k)) ∧ Below w.heap.size w wr) (fun _ i _ => its.length - (intOf i).toNat)
  case atStart => exact ⟨0, H, Nat.zero_le _, rfl, rfl, by omega, Lib.hid rfl, hB2⟩
  case round =>
    obtain ⟨k, X, hk, rfl, rfl, hXs, HX, hB⟩ := hrel
    by_cases hlt : k < its.length
    · obtain ⟨a', cap', hv, _, _, hc⟩ := (HI.out.below hB).raw
      cases hv
      obtain ⟨b, off, rfl, hb, hr⟩ := hc k hlt
      obtain ⟨c0, c1, c2, s0, s1⟩ := hr k hlt
      have HT := Lib.hid (fun w hE hM hP => itemText_any its[k].id its[k].ti its[k].da w hE hM hP)
      have HN : Hid (fdI H (its.take (k + 1)) = fdI H (its.take k) ++ itT its[k].id its[k].ti its[k].da) := Lib.hid (fdI_snoc H its k hlt)
      have hys := itX_size its[k]
      unfold itX at hys
      generalize itT its[k].id its[k].ti its[k].da = Y at HT HN hys
      obtain ⟨S, hS⟩ : ∃ S, S = its[k].id := ⟨_, rfl⟩
      obtain ⟨T, hT⟩ : ∃ T, T = its[k].ti := ⟨_, rfl⟩
      obtain ⟨D, hD⟩ : ∃ D, D = its[k].da := ⟨_, rfl⟩
      rw [← hS] at c0 HT
      rw [← hT] at c1 HT
      rw [← hD] at c2 HT
      have hba : Below wr.heap.size wr (wr.alloc (iC S T D)) := (Below.refl _ _).alloc (Nat.le_refl _) _
      have hB3 := hB.trans (hba.mono hB.size)
      clear hr hc hS hT hD s0 s1 hB hba
      go_wp2_with fail
      refine (HT.out _ (HEt.out.below hB3 (Nat.le_refl _)) (HMt.out.below hB3 (Nat.le_refl _)) (HPt.out.below hB3 (Nat.le_refl _))).mono ?_
      rintro e w2 ⟨rfl, hb2⟩
      have hB4 := hB3.trans (hb2.mono hB3.size)
      clear hb2 hB3 c0 c1 c2
      have hsum : X.size + Y.size ≤ 100000 := by omega
      obtain ⟨Z, hZ⟩ : ∃ Z, X ++ Y = Z := ⟨_, rfl⟩
      have hzs : Z.size ≤ 3000 + 2500 * (k + 1) := by rw [← hZ, ByteArray.size_append]; omega
      have HX' : Hid (Z = fdI H (its.take (k + 1))) := Lib.hid (by rw [HN.out, ← HX.out, hZ])
      go_wp2
      go_roundw
      case rel => exact ⟨k + 1, Z, by omega, by go_num, rfl, hzs, HX', hB4⟩
      case measure => simp [intOf]; omega
    · have HE : Hid (X ++ ⟨#[60, 47, 102, 101, 101, 100, 62]⟩ = R) := Lib.hid (by rw [HV.out, HX.out, List.take_of_length_le (by omega)])
      have hsum : X.size ≤ 100000 := by omega
      have hO := HE.out
      go_wp2
      go_ret
      exact ⟨rfl, hB⟩
end Go.Proofs.YtfjaincogbdeiaaDoor
