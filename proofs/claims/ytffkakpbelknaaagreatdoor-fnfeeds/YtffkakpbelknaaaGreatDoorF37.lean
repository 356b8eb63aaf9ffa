/- Joined: W8n, W8o. -/
import Derived.Test.YtffkakpbelknaaaGreatDoorF28
import Derived.Test.YtffkakpbelknaaaGreatDoorF36
/- W8n -/
namespace Go.Proofs.YtffkakpbelknaaaGreatDoor
open Go.ChangeShapes Go.WideShapes Go.ChangeAt Go.RowKit
set_option linter.unusedVariables false

noncomputable def itX (x : It) : ByteArray := itT x.id x.ti x.da
noncomputable def fdI (H : ByteArray) (its : List It) : ByteArray := its.foldl (fun b x => b ++ itX x) H
theorem fdI_snoc (H : ByteArray) (its : List It) (k : Nat) (h : k < its.length) : fdI H (its.take (k + 1)) = fdI H (its.take k) ++ itX its[k] := by
  unfold fdI; rw [List.take_succ_eq_append_getElem h, List.foldl_append]; rfl
def fdH (u t : ByteArray) : ByteArray := ⟨#[60, 102, 101, 101, 100, 32, 117, 114, 108, 61, 34]⟩ ++ escR u ++ ⟨#[34, 62, 60, 116, 105, 116, 108, 101, 62]⟩ ++ escR t ++ ⟨#[60, 47, 116, 105, 116, 108, 101, 62]⟩
noncomputable def fdX (u t : ByteArray) (its : List It) : ByteArray := if fdB u t its = true then fdI (fdH u t) its ++ ⟨#[60, 47, 102, 101, 101, 100, 62]⟩ else ⟨#[]⟩
theorem itX_size (x : It) : (itX x).size ≤ 2500 := by
  unfold itX itT
  simp only [ByteArray.size_append]
  have h1 := escR_le x.id
  have h2 := escR_le x.ti
  have h3 : (dayT x.da).size ≤ 10 := dateT_size _ _ _
  have l1 : (⟨#[60, 105, 116, 101, 109, 32, 105, 100, 61, 34]⟩ : ByteArray).size = 10 := rfl
  have l2 : (⟨#[34, 32, 100, 97, 116, 101, 61, 34]⟩ : ByteArray).size = 8 := rfl
  have l3 : (⟨#[34, 62]⟩ : ByteArray).size = 2 := rfl
  have l4 : (⟨#[60, 47, 105, 116, 101, 109, 62]⟩ : ByteArray).size = 7 := rfl
  omega
theorem ret_str8 {a b : ByteArray} (h : a = b) : Ending.returned (.string a) = .returned (.string b) := by rw [h]
theorem fdB_len {u t : ByteArray} {its : List It} (h : fdB u t its = true) : its.length ≤ 12 := by
  unfold fdB at h
  simp only [Bool.and_eq_true, decide_eq_true_eq] at h
  exact h.2.2

set_option maxRecDepth 100000 in
set_option maxHeartbeats 1600000 in
theorem implFeedText_any (u t : ByteArray) (v : Value) (its : List It) (w : World) (hu : u.size ≤ maxLen) (ht : t.size ≤ maxLen) (h : ItAt w w.heap.size v its) (hE : ETab w) (hM : MTab w) (hP : PTab w) :
    Calls Tryz.prog 8 #[fV u t v] w fun e w' => e = .returned (.string (fdX u t its)) ∧ Below w.heap.size w w' := by
  have HI := Lib.hid h
  have HC := Lib.hid (fun w h => implFeedOk_any u t v its w hu ht h)
  obtain ⟨a, cap, rfl, hl, hm, hc⟩ := h.raw
  clear hc h
  unfold maxLen at hm
  have HEt := Lib.hid hE
  have HMt := Lib.hid hM
  have HPt := Lib.hid hP
  clear hE hM hP
  have hB0 : Below w.heap.size w (w.alloc (fC u t (.slice a its.length cap))) := (Below.refl _ _).alloc (Nat.le_refl _) _
  have hA0 := FAt.new w u t (.slice a its.length cap)
  cases hfd : fdB u t its with
  | false =>
    have HV : Hid (fdX u t its = ⟨#[]⟩) := Lib.hid (by unfold fdX; rw [if_neg (by rw [hfd]; simp)])
    rw [hfd] at HC
    rw [HV.out]
    clear hfd HV
    go_enter Tryz.func8, Tryz.ntmps8
    go_wp2_with fail
    refine (HC.out _ ((HI.out.below hB0).mono hB0.size)).mono ?_
    rintro e w1 ⟨rfl, hb1⟩
    have hB1 := hB0.trans (hb1.mono hB0.size)
    clear hb1 hB0
    go_wp2
    go_ret
    exact ⟨rfl, hB1⟩
  | true =>
  have h12 := fdB_len hfd
  have HV : Hid (fdX u t its = fdI (fdH u t) its ++ ⟨#[60, 47, 102, 101, 101, 100, 62]⟩) := Lib.hid (by unfold fdX; rw [if_pos hfd])
  rw [hfd] at HC
  have C1 := Lib.hid (fun w hE => implEscaped_any u w hE)
  have C2 := Lib.hid (fun w hE => implEscaped_any t w hE)
  have HH : Hid (fdH u t = ⟨#[60, 102, 101, 101, 100, 32, 117, 114, 108, 61, 34]⟩ ++ escR u ++ ⟨#[34, 62, 60, 116, 105, 116, 108, 101, 62]⟩ ++ escR t ++ ⟨#[60, 47, 116, 105, 116, 108, 101, 62]⟩) := Lib.hid rfl
  have hs1 := escR_le u
  have hs2 := escR_le t
  generalize escR u = D1 at C1 HH hs1
  generalize escR t = D2 at C2 HH hs2
  obtain ⟨X1, hX1⟩ : ∃ X : ByteArray, ⟨#[60, 102, 101, 101, 100, 32, 117, 114, 108, 61, 34]⟩ ++ D1 = X := ⟨_, rfl⟩
  have hz1 : X1.size ≤ 1300 := by rw [← hX1, ByteArray.size_append]; have l1 : (⟨#[60, 102, 101, 101, 100, 32, 117, 114, 108, 61, 34]⟩ : ByteArray).size = 11 := rfl; omega
  obtain ⟨X2, hX2⟩ : ∃ X : ByteArray, X1 ++ ⟨#[34, 62, 60, 116, 105, 116, 108, 101, 62]⟩ = X := ⟨_, rfl⟩
  have hz2 : X2.size ≤ 1400 := by rw [← hX2, ByteArray.size_append]; have l1 : (⟨#[34, 62, 60, 116, 105, 116, 108, 101, 62]⟩ : ByteArray).size = 9 := rfl; omega
  obtain ⟨X3, hX3⟩ : ∃ X : ByteArray, X2 ++ D2 = X := ⟨_, rfl⟩
  have hz3 : X3.size ≤ 2700 := by rw [← hX3, ByteArray.size_append]; omega
  obtain ⟨H, hH⟩ : ∃ X : ByteArray, X3 ++ ⟨#[60, 47, 116, 105, 116, 108, 101, 62]⟩ = X := ⟨_, rfl⟩
  have hz4 : H.size ≤ 3000 := by rw [← hH, ByteArray.size_append]; have l1 : (⟨#[60, 47, 116, 105, 116, 108, 101, 62]⟩ : ByteArray).size = 8 := rfl; omega
  rw [hX1, hX2, hX3, hH] at HH
  rw [HH.out] at HV
  obtain ⟨R, hR⟩ : ∃ R, R = fdX u t its := ⟨_, rfl⟩
  rw [← hR] at HV ⊢
  clear hfd hR HH
  go_enter Tryz.func8, Tryz.ntmps8
  go_wp2_with fail
  refine (HC.out _ ((HI.out.below hB0).mono hB0.size)).mono ?_
  rintro e w1 ⟨rfl, hb1⟩
  have hA := (hA0.keep hb1 (Nat.le_refl _)).drew8
  have hB := (hB0.trans (hb1.mono hB0.size)).drew
  clear hb1 hB0 hA0
  go_wp2
  refine wp_region_T (fun w' => FAt w' w.heap.size u t (.slice a its.length cap)) (fun _ => True) 10 (by kernel_rfl) 11 rfl ?_
  refine wpAnyT_takesA (md := .any) 7 (by kernel_rfl) (by intro d v c a w h; cases d <;> exact h) [0, 1, 5, 6] _ _ _ (by decide) (by kernel_rfl) ⟨hA, fun _ => trivial⟩ ?_
  simp only [pick, List.filterMap_cons, List.filterMap_nil, List.getElem?_cons_zero, List.getElem?_cons_succ]
  refine wpIf_step (.pointer (some ⟨w.heap.size, 0, none⟩)) (by kernel_rfl) (fun w hw => by go_simp) ?_
  refine wpIf_step (.string u) (by kernel_rfl) (fun w hw => by have e0 := hw.c0; have e1 := hw.c1; go_simp) ?_
  refine wpIf_step (.pointer (some ⟨w.heap.size, 1, none⟩)) (by kernel_rfl) (fun w hw => by go_simp) ?_
  refine wpIf_step (.string t) (by kernel_rfl) (fun w hw => by have e0 := hw.c0; have e1 := hw.c1; go_simp) ?_
  refine wpIf_nil (fun hS => ?_)
  clear hS
  refine wpAnyT_one 2 6 (by kernel_rfl) rfl (by kernel_rfl) (fun K hK => ?_)
  go_simp
  refine (C1.out _ (HEt.out.below hB (Nat.le_refl _))).mono ?_
  rintro e v1 ⟨rfl, hb1⟩
  have hA1 := hA.keep hb1 (Nat.le_refl _)
  have hB1 := hB.trans (hb1.mono hB.size)
  clear hb1 hA hB
  refine hK _ _ ⟨hA1, fun _ => trivial⟩ (fun hS => ?_)
  clear hK K hS
  refine wpAnyT_takesA (md := .any) 4 (by kernel_rfl) (by intro d v c a w h; cases d <;> exact h) [3, 4] _ _ _ (by decide) (by kernel_rfl) ⟨hA1, fun _ => trivial⟩ ?_
  simp only [pick, List.filterMap_cons, List.filterMap_nil, List.getElem?_cons_zero, List.getElem?_cons_succ]
  refine wpIf_step (.string X1) (by kernel_rfl) (fun w hw => by go_simp; try omega) ?_
  refine wpIf_step (.string X2) (by kernel_rfl) (fun w hw => by go_simp; try omega) ?_
  refine wpIf_nil (fun hS => ?_)
  clear hS
  refine wpAnyT_one 7 3 (by kernel_rfl) rfl (by kernel_rfl) (fun K hK => ?_)
  go_simp
  refine (C2.out _ (HEt.out.below hB1 (Nat.le_refl _))).mono ?_
  rintro e v2 ⟨rfl, hb2⟩
  have hA2 := hA1.keep hb2 (Nat.le_refl _)
  have hB2 := hB1.trans (hb2.mono hB1.size)
  clear hb2 hA1 hB1
  refine hK _ _ ⟨hA2, fun _ => trivial⟩ (fun hS => ?_)
  clear hK K hS
  refine wpAnyT_takesA (md := .any) 1 (by kernel_rfl) (by intro d v c a w h; cases d <;> exact h) [8, 9] _ _ _ (by decide) (by kernel_rfl) ⟨hA2, fun _ => trivial⟩ ?_
  simp only [pick, List.filterMap_cons, List.filterMap_nil, List.getElem?_cons_zero, List.getElem?_cons_succ]
  refine wpIf_step (.string X3) (by kernel_rfl) (fun w hw => by go_simp; try omega) ?_
  refine wpIf_step (.string H) (by kernel_rfl) (fun w hw => by go_simp; try omega) ?_
  refine wpIf_nil (fun hS => ?_)
  clear hS
  refine wpAnyT_one 10 0 (by kernel_rfl) rfl (by kernel_rfl) (fun K hK => ?_)
  go_simp
  refine hK _ _ ⟨hA2, fun _ => trivial⟩ (fun hS => ?_)
  clear hK K hS
  refine wpAnyT_over (by kernel_rfl) ?_
  have f2 := hA2.c2
  clear hX1 hX2 hX3 hH
  go_wp2
  go_loopw [3, 22] (fun s i wr => ∃ (k : Nat) (X : ByteArray), k ≤ its.length ∧ i = .int .i64 (k : Int) ∧ s = .string X ∧ X.size ≤ 3000 + 2500 * k ∧ Hid (X = fdI H (its.take k)) ∧ Below w.heap.size w wr) (fun _ i _ => its.length - (intOf i).toNat)
  case atStart => exact ⟨0, H, Nat.zero_le _, rfl, rfl, by omega, Lib.hid rfl, hB2⟩
  case round =>
    obtain ⟨k, X, hk, rfl, rfl, hXs, HX, hB⟩ := hrel
    by_cases hlt : k < its.length
    · obtain ⟨a', cap', hv, _, _, hc⟩ := (HI.out.below hB).raw
      cases hv
      obtain ⟨b, off, rfl, hb, hr⟩ := hc k hlt
      obtain ⟨c0, c1, c2, s0, s1⟩ := hr k hlt
      have HT := Lib.hid (fun w hE hM hP => itemText_any its[k].id its[k].ti its[k].da w hE hM hP)
      have HN : Hid (fdI H (its.take (k + 1)) = fdI H (its.take k) ++ itT its[k].id its[k].ti its[k].da) := Lib.hid (fdI_snoc H its k hlt)
      have hys := itX_size its[k]
      unfold itX at hys
      generalize itT its[k].id its[k].ti its[k].da = Y at HT HN hys
      obtain ⟨S, hS⟩ : ∃ S, S = its[k].id := ⟨_, rfl⟩
      obtain ⟨T, hT⟩ : ∃ T, T = its[k].ti := ⟨_, rfl⟩
      obtain ⟨D, hD⟩ : ∃ D, D = its[k].da := ⟨_, rfl⟩
      rw [← hS] at c0 HT
      rw [← hT] at c1 HT
      rw [← hD] at c2 HT
      have hba : Below wr.heap.size wr (wr.alloc (iC S T D)) := (Below.refl _ _).alloc (Nat.le_refl _) _
      have hB3 := hB.trans (hba.mono hB.size)
      clear hr hc hS hT hD s0 s1 hB hba
      go_wp2_with fail
      refine (HT.out _ (HEt.out.below hB3 (Nat.le_refl _)) (HMt.out.below hB3 (Nat.le_refl _)) (HPt.out.below hB3 (Nat.le_refl _))).mono ?_
      rintro e w2 ⟨rfl, hb2⟩
      have hB4 := hB3.trans (hb2.mono hB3.size)
      clear hb2 hB3 c0 c1 c2
      have hsum : X.size + Y.size ≤ 100000 := by omega
      obtain ⟨Z, hZ⟩ : ∃ Z, X ++ Y = Z := ⟨_, rfl⟩
      have hzs : Z.size ≤ 3000 + 2500 * (k + 1) := by rw [← hZ, ByteArray.size_append]; omega
      have HX' : Hid (Z = fdI H (its.take (k + 1))) := Lib.hid (by rw [HN.out, ← HX.out, hZ])
      go_wp2
      go_roundw
      case rel => exact ⟨k + 1, Z, by omega, by go_num, rfl, hzs, HX', hB4⟩
      case measure => simp [intOf]; omega
    · have HE : Hid (X ++ ⟨#[60, 47, 102, 101, 101, 100, 62]⟩ = R) := Lib.hid (by rw [HV.out, HX.out, List.take_of_length_le (by omega)])
      have hsum : X.size ≤ 100000 := by omega
      have hO := HE.out
      go_wp2
      go_ret
      exact ⟨rfl, hB⟩
end Go.Proofs.YtffkakpbelknaaaGreatDoor

/- W8o -/
namespace Go.Proofs.YtffkakpbelknaaaGreatDoor
open Go.ChangeShapes Go.WideShapes Go.ChangeAt Go.RowKit
set_option linter.unusedVariables false

theorem dtB_size (y m d : Nat) (h0 : 1000 ≤ y) (h1 : y ≤ 9999) : (dtB y m d).size ≤ 10 := by
  have h4 := dec_four y h0 h1
  unfold dtB
  simp only [ByteArray.size_append, twoB_size, h4]
  exact Nat.le_refl _
theorem isD_nat {n y m d : Int} (h : IsD n y m d) (h0 : 0 ≤ n) (h1 : n ≤ 200000) : ∃ yn mn dn : Nat, y = (yn : Int) ∧ m = (mn : Int) ∧ d = (dn : Int) ∧ 1000 ≤ yn ∧ yn ≤ 9999 ∧ mn < 100 ∧ dn < 100 ∧ dayT n = dtB yn mn dn := by
  have hr := dateR_is h0 h1 h
  obtain ⟨a1, a2, a3, a4, a5, a6⟩ := h
  have hy : y ≤ 2517 := by
    rcases Int.lt_or_le 2517 y with hlt | hge
    · have := late_year y m d (by omega) a4; omega
    · exact hge
  have hd : dIM y m ≤ 31 := by
    unfold dIM
    repeat' split
    all_goals omega
  refine ⟨y.toNat, m.toNat, d.toNat, by omega, by omega, by omega, by omega, by omega, by omega, by omega, ?_⟩
  unfold dayT
  rw [hr]
  unfold dateT
  rw [if_pos ((dOk_iff y m d).2 ⟨a1, hy, a2, a3, a4, a5, by omega⟩)]
theorem escB_R (s : ByteArray) (h : s.size ≤ 200) : escB s = escR s := by unfold escR; rw [if_pos h]
theorem fdB_parts {u t : ByteArray} {its : List It} (h : fdB u t its = true) : u.size ≤ 20 ∧ t.size ≤ 24 ∧ ∀ k (hk : k < its.length), its[k].id.size ≤ 8 ∧ its[k].ti.size ≤ 24 ∧ 0 ≤ its[k].da ∧ its[k].da ≤ 200000 := by
  unfold fdB at h
  simp only [Bool.and_eq_true, decide_eq_true_eq] at h
  obtain ⟨hi, ⟨hu, ht⟩, _⟩ := h
  unfold nmB at hu
  unfold ttB at ht
  simp only [Bool.and_eq_true, decide_eq_true_eq] at hu ht
  refine ⟨hu.1.2, ht.1, fun k hk => ?_⟩
  unfold itsB at hi
  have := List.all_eq_true.1 hi k (List.mem_range.2 hk)
  rw [okB_at its k hk] at this
  unfold itB nmB ttB at this
  simp only [Bool.and_eq_true, decide_eq_true_eq] at this
  obtain ⟨⟨⟨⟨⟨_, h1⟩, _⟩, h2, _⟩, h3, h4⟩, _⟩ := this
  exact ⟨h1, h2, h3, h4⟩

set_option maxRecDepth 100000 in
set_option maxHeartbeats 1600000 in
theorem l8Text_any (u t : ByteArray) (v : Value) (its : List It) (w : World) (h : ItAt w w.heap.size v its) (hfd : fdB u t its = true) :
    Calls Tryz.prog 37 #[fV u t v] w fun e w' => e = .returned (.string (fdX u t its)) ∧ Below w.heap.size w w' := by
  have HI := Lib.hid h
  obtain ⟨a, cap, rfl, hl, hm, hc⟩ := h.raw
  clear hc h
  unfold maxLen at hm
  have hB0 : Below w.heap.size w (w.alloc (fC u t (.slice a its.length cap))) := (Below.refl _ _).alloc (Nat.le_refl _) _
  have hA0 := FAt.new w u t (.slice a its.length cap)
  have h12 := fdB_len hfd
  obtain ⟨hu, ht, hpk⟩ := fdB_parts hfd
  have HPk := Lib.hid hpk
  clear hpk
  have HV : Hid (fdX u t its = fdI (fdH u t) its ++ ⟨#[60, 47, 102, 101, 101, 100, 62]⟩) := Lib.hid (by unfold fdX; rw [if_pos hfd])
  have C1 := Lib.hid (fun w => l8Escaped_any u w (by omega))
  have C2 := Lib.hid (fun w => l8Escaped_any t w (by omega))
  rw [escB_R u (by omega)] at C1
  rw [escB_R t (by omega)] at C2
  have HH : Hid (fdH u t = ⟨#[60, 102, 101, 101, 100, 32, 117, 114, 108, 61, 34]⟩ ++ escR u ++ ⟨#[34, 62, 60, 116, 105, 116, 108, 101, 62]⟩ ++ escR t ++ ⟨#[60, 47, 116, 105, 116, 108, 101, 62]⟩) := Lib.hid rfl
  have hs1 := escR_le u
  have hs2 := escR_le t
  generalize escR u = D1 at C1 HH hs1
  generalize escR t = D2 at C2 HH hs2
  obtain ⟨X1, hX1⟩ : ∃ X : ByteArray, ⟨#[60, 102, 101, 101, 100, 32, 117, 114, 108, 61, 34]⟩ ++ D1 = X := ⟨_, rfl⟩
  have hz1 : X1.size ≤ 1300 := by rw [← hX1, ByteArray.size_append]; have l1 : (⟨#[60, 102, 101, 101, 100, 32, 117, 114, 108, 61, 34]⟩ : ByteArray).size = 11 := rfl; omega
  obtain ⟨X2, hX2⟩ : ∃ X : ByteArray, X1 ++ ⟨#[34, 62, 60, 116, 105, 116, 108, 101, 62]⟩ = X := ⟨_, rfl⟩
  have hz2 : X2.size ≤ 1400 := by rw [← hX2, ByteArray.size_append]; have l1 : (⟨#[34, 62, 60, 116, 105, 116, 108, 101, 62]⟩ : ByteArray).size = 9 := rfl; omega
  obtain ⟨X3, hX3⟩ : ∃ X : ByteArray, X2 ++ D2 = X := ⟨_, rfl⟩
  have hz3 : X3.size ≤ 2700 := by rw [← hX3, ByteArray.size_append]; omega
  obtain ⟨H, hH⟩ : ∃ X : ByteArray, X3 ++ ⟨#[60, 47, 116, 105, 116, 108, 101, 62]⟩ = X := ⟨_, rfl⟩
  have hz4 : H.size ≤ 3000 := by rw [← hH, ByteArray.size_append]; have l1 : (⟨#[60, 47, 116, 105, 116, 108, 101, 62]⟩ : ByteArray).size = 8 := rfl; omega
  rw [hX1, hX2, hX3, hH] at HH
  rw [HH.out] at HV
  obtain ⟨R, hR⟩ : ∃ R, R = fdX u t its := ⟨_, rfl⟩
  rw [← hR] at HV ⊢
  clear hfd hR HH
  go_enter Tryz.func37, Tryz.ntmps37
  go_wp2
  generalize w.alloc (fC u t (.slice a its.length cap)) = W at hA0 hB0 ⊢
  have hA := hA0.drew8
  have hB := hB0.drew
  clear hA0 hB0
  refine wp_region_T (fun w' => FAt w' w.heap.size u t (.slice a its.length cap)) (fun _ => True) 10 (by kernel_rfl) 11 rfl ?_
  refine wpAnyT_takesA (md := .any) 7 (by kernel_rfl) (by intro d v c a w h; cases d <;> exact h) [0, 1, 5, 6] _ _ _ (by decide) (by kernel_rfl) ⟨hA, fun _ => trivial⟩ ?_
  simp only [pick, List.filterMap_cons, List.filterMap_nil, List.getElem?_cons_zero, List.getElem?_cons_succ]
  refine wpIf_step (.pointer (some ⟨w.heap.size, 0, none⟩)) (by kernel_rfl) (fun w hw => by go_simp) ?_
  refine wpIf_step (.string u) (by kernel_rfl) (fun w hw => by have e0 := hw.c0; have e1 := hw.c1; go_simp) ?_
  refine wpIf_step (.pointer (some ⟨w.heap.size, 1, none⟩)) (by kernel_rfl) (fun w hw => by go_simp) ?_
  refine wpIf_step (.string t) (by kernel_rfl) (fun w hw => by have e0 := hw.c0; have e1 := hw.c1; go_simp) ?_
  refine wpIf_nil (fun hS => ?_)
  clear hS
  refine wpAnyT_one 2 6 (by kernel_rfl) rfl (by kernel_rfl) (fun K hK => ?_)
  go_simp
  refine (C1.out _).mono ?_
  rintro e v1 ⟨rfl, hb1⟩
  have hA1 := hA.keep hb1 (Nat.le_refl _)
  have hB1 := hB.trans (hb1.mono hB.size)
  clear hb1 hA hB
  refine hK _ _ ⟨hA1, fun _ => trivial⟩ (fun hS => ?_)
  clear hK K hS
  refine wpAnyT_takesA (md := .any) 4 (by kernel_rfl) (by intro d v c a w h; cases d <;> exact h) [3, 4] _ _ _ (by decide) (by kernel_rfl) ⟨hA1, fun _ => trivial⟩ ?_
  simp only [pick, List.filterMap_cons, List.filterMap_nil, List.getElem?_cons_zero, List.getElem?_cons_succ]
  refine wpIf_step (.string X1) (by kernel_rfl) (fun w hw => by go_simp; try omega) ?_
  refine wpIf_step (.string X2) (by kernel_rfl) (fun w hw => by go_simp; try omega) ?_
  refine wpIf_nil (fun hS => ?_)
  clear hS
  refine wpAnyT_one 7 3 (by kernel_rfl) rfl (by kernel_rfl) (fun K hK => ?_)
  go_simp
  refine (C2.out _).mono ?_
  rintro e v2 ⟨rfl, hb2⟩
  have hA2 := hA1.keep hb2 (Nat.le_refl _)
  have hB2 := hB1.trans (hb2.mono hB1.size)
  clear hb2 hA1 hB1
  refine hK _ _ ⟨hA2, fun _ => trivial⟩ (fun hS => ?_)
  clear hK K hS
  refine wpAnyT_takesA (md := .any) 1 (by kernel_rfl) (by intro d v c a w h; cases d <;> exact h) [8, 9] _ _ _ (by decide) (by kernel_rfl) ⟨hA2, fun _ => trivial⟩ ?_
  simp only [pick, List.filterMap_cons, List.filterMap_nil, List.getElem?_cons_zero, List.getElem?_cons_succ]
  refine wpIf_step (.string X3) (by kernel_rfl) (fun w hw => by go_simp; try omega) ?_
  refine wpIf_step (.string H) (by kernel_rfl) (fun w hw => by go_simp; try omega) ?_
  refine wpIf_nil (fun hS => ?_)
  clear hS
  refine wpAnyT_one 10 0 (by kernel_rfl) rfl (by kernel_rfl) (fun K hK => ?_)
  go_simp
  refine hK _ _ ⟨hA2, fun _ => trivial⟩ (fun hS => ?_)
  clear hK K hS
  refine wpAnyT_over (by kernel_rfl) ?_
  clear hX1 hX2 hX3 hH
  go_wp2
  go_loopw [3, 4] (fun s i wr => ∃ (k : Nat) (X : ByteArray), k ≤ its.length ∧ i = .int .i64 (k : Int) ∧ s = .string X ∧ X.size ≤ 3000 + 2500 * k ∧ Hid (X = fdI H (its.take k)) ∧ FAt wr w.heap.size u t (.slice a its.length cap) ∧ Below w.heap.size w wr) (fun _ i _ => its.length - (intOf i).toNat)
  case atStart => exact ⟨0, H, Nat.zero_le _, rfl, rfl, by omega, Lib.hid rfl, hA2, hB2⟩
  case round =>
    obtain ⟨k, X, hk, rfl, rfl, hXs, HX, hF, hB⟩ := hrel
    have f2 := hF.c2
    by_cases hlt : k < its.length
    · obtain ⟨a', cap', hv, _, _, hc⟩ := (HI.out.below hB).raw
      cases hv
      obtain ⟨b, off, rfl, hb, hr⟩ := hc k hlt
      obtain ⟨c0, c1, c2, s0, s1⟩ := hr k hlt
      obtain ⟨hi8, hi24, hD0, hD1⟩ := HPk.out k hlt
      have E1 := Lib.hid (fun w => l8Escaped_any its[k].id w (by omega))
      have E2 := Lib.hid (fun w => l7Date_any its[k].da w hD0 hD1)
      have E3 := Lib.hid (fun w => l8Escaped_any its[k].ti w (by omega))
      rw [escB_R its[k].id (by omega)] at E1
      rw [escB_R its[k].ti (by omega)] at E3
      have HYs : Hid (fdI H (its.take (k + 1)) = X ++ (⟨#[60, 105, 116, 101, 109, 32, 105, 100, 61, 34]⟩ ++ escR its[k].id ++ ⟨#[34, 32, 100, 97, 116, 101, 61, 34]⟩ ++ dayT its[k].da ++ ⟨#[34, 62]⟩ ++ escR its[k].ti ++ ⟨#[60, 47, 105, 116, 101, 109, 62]⟩)) := Lib.hid (by rw [fdI_snoc H its k hlt, ← HX.out]; rfl)
      have hj1 := escR_le its[k].id
      have hj2 := escR_le its[k].ti
      generalize escR its[k].id = J1 at E1 HYs hj1
      generalize escR its[k].ti = J2 at E3 HYs hj2
      obtain ⟨S, hS⟩ : ∃ S, S = its[k].id := ⟨_, rfl⟩
      obtain ⟨T, hT⟩ : ∃ T, T = its[k].ti := ⟨_, rfl⟩
      obtain ⟨D, hD⟩ : ∃ D, D = its[k].da := ⟨_, rfl⟩
      rw [← hS] at c0 E1 hi8
      rw [← hT] at c1 E3 hi24
      rw [← hD] at c2 E2 hD0 hD1 HYs
      obtain ⟨Y1, hY1⟩ : ∃ Y : ByteArray, X ++ ⟨#[60, 105, 116, 101, 109, 32, 105, 100, 61, 34]⟩ = Y := ⟨_, rfl⟩
      have hq1 : Y1.size ≤ X.size + 10 := by rw [← hY1, ByteArray.size_append]; have l1 : (⟨#[60, 105, 116, 101, 109, 32, 105, 100, 61, 34]⟩ : ByteArray).size = 10 := rfl; omega
      obtain ⟨Y2, hY2⟩ : ∃ Y : ByteArray, Y1 ++ J1 = Y := ⟨_, rfl⟩
      have hq2 : Y2.size ≤ Y1.size + 1200 := by rw [← hY2, ByteArray.size_append]; omega
      obtain ⟨Y3, hY3⟩ : ∃ Y : ByteArray, Y2 ++ ⟨#[34, 32, 100, 97, 116, 101, 61, 34]⟩ = Y := ⟨_, rfl⟩
      have hq3 : Y3.size ≤ Y2.size + 8 := by rw [← hY3, ByteArray.size_append]; have l1 : (⟨#[34, 32, 100, 97, 116, 101, 61, 34]⟩ : ByteArray).size = 8 := rfl; omega
      have hIn := IAt.new wr S T D
      have hba : Below wr.heap.size wr (wr.alloc (iC S T D)) := (Below.refl _ _).alloc (Nat.le_refl _) _
      have hB3 := hB.trans (hba.mono hB.size)
      have hF3 := hF.keep hba (Nat.le_refl _)
      clear hr hc hS hT hD s0 s1 hB hba hF
      go_wp2
      generalize wr.alloc (iC S T D) = W at hIn hB3 hF3 ⊢
      have hA : (fun w' => FAt w' w.heap.size u t (.slice (some ⟨b, off, none⟩) its.length cap) ∧ IAt w' wr.heap.size S T D) W.drew := ⟨hF3, hIn⟩
      have hB := hB3.drew
      clear hB3 hF3 hIn c0 c1 c2 f2
      refine wp_region_T (fun w' => FAt w' w.heap.size u t (.slice (some ⟨b, off, none⟩) its.length cap) ∧ IAt w' wr.heap.size S T D) (fun _ => True) 18 (by kernel_rfl) 19 rfl ?_
      refine wpAnyT_takesA (md := .any) 11 (by kernel_rfl) (by intro d v c a w h; cases d <;> exact h) [0, 1, 2, 3, 7, 8, 13, 14] _ _ _ (by decide) (by kernel_rfl) ⟨hA, fun _ => trivial⟩ ?_
      simp only [pick, List.filterMap_cons, List.filterMap_nil, List.getElem?_cons_zero, List.getElem?_cons_succ]
      refine wpIf_step (.string X) (by kernel_rfl) (fun w hw => by go_simp) ?_
      refine wpIf_step (.string Y1) (by kernel_rfl) (fun w hw => by go_simp; try omega) ?_
      refine wpIf_step (.pointer (some ⟨wr.heap.size, 0, none⟩)) (by kernel_rfl) (fun w hw => by go_simp) ?_
      refine wpIf_step (.string S) (by kernel_rfl) (fun w hw => by have e0 := hw.2.c0; have e1 := hw.2.c1; have e2 := hw.2.c2; go_simp) ?_
      refine wpIf_step (.pointer (some ⟨wr.heap.size, 2, none⟩)) (by kernel_rfl) (fun w hw => by go_simp) ?_
      refine wpIf_step (.int .i64 D) (by kernel_rfl) (fun w hw => by have e0 := hw.2.c0; have e1 := hw.2.c1; have e2 := hw.2.c2; go_simp) ?_
      refine wpIf_step (.pointer (some ⟨wr.heap.size, 1, none⟩)) (by kernel_rfl) (fun w hw => by go_simp) ?_
      refine wpIf_step (.string T) (by kernel_rfl) (fun w hw => by have e0 := hw.2.c0; have e1 := hw.2.c1; have e2 := hw.2.c2; go_simp) ?_
      refine wpIf_nil (fun hS => ?_)
      clear hS
      refine wpAnyT_one 4 10 (by kernel_rfl) rfl (by kernel_rfl) (fun K hK => ?_)
      go_simp
      refine (E1.out _).mono ?_
      rintro e v1 ⟨rfl, hb1⟩
      have hA1 : (fun w' => FAt w' w.heap.size u t (.slice (some ⟨b, off, none⟩) its.length cap) ∧ IAt w' wr.heap.size S T D) v1 := ⟨hA.1.keep hb1 (Nat.le_refl _), hA.2.keep hb1 (Nat.le_refl _)⟩
      have hB1 := hB.trans (hb1.mono hB.size)
      clear hb1 hA hB
      refine hK _ _ ⟨hA1, fun _ => trivial⟩ (fun hS => ?_)
      clear hK K hS
      refine wpAnyT_takesA (md := .any) 8 (by kernel_rfl) (by intro d v c a w h; cases d <;> exact h) [5, 6] _ _ _ (by decide) (by kernel_rfl) ⟨hA1, fun _ => trivial⟩ ?_
      simp only [pick, List.filterMap_cons, List.filterMap_nil, List.getElem?_cons_zero, List.getElem?_cons_succ]
      refine wpIf_step (.string Y2) (by kernel_rfl) (fun w hw => by go_simp; try omega) ?_
      refine wpIf_step (.string Y3) (by kernel_rfl) (fun w hw => by go_simp; try omega) ?_
      refine wpIf_nil (fun hS => ?_)
      clear hS
      refine wpAnyT_one 9 7 (by kernel_rfl) rfl (by kernel_rfl) (fun K hK => ?_)
      go_simp
      refine (E2.out _).mono ?_
      rintro e v2 ⟨y, m, d, rfl, hid, hb2⟩
      have hA2 : (fun w' => FAt w' w.heap.size u t (.slice (some ⟨b, off, none⟩) its.length cap) ∧ IAt w' wr.heap.size S T D) v2 := ⟨hA1.1.keep hb2 (Nat.le_refl _), hA1.2.keep hb2 (Nat.le_refl _)⟩
      have hB2 := hB1.trans (hb2.mono hB1.size)
      clear hb2 hA1 hB1
      obtain ⟨yn, mn, dn, rfl, rfl, rfl, hy0, hy1, hmn, hdn, HDt⟩ := isD_nat hid hD0 hD1
      rw [HDt] at HYs
      clear HDt hid
      obtain ⟨G, hG⟩ : ∃ G, dtB yn mn dn = G := ⟨_, rfl⟩
      have HTx := Lib.hid (fun w => l7Text_any yn mn dn w hy0 hy1 hmn hdn)
      have hgs : G.size ≤ 10 := by rw [← hG]; exact dtB_size yn mn dn hy0 hy1
      rw [hG] at HTx HYs
      clear hG
      obtain ⟨Y4, hY4⟩ : ∃ X : ByteArray, Y3 ++ G = X := ⟨_, rfl⟩
      have hq4 : Y4.size ≤ Y3.size + 10 := by rw [← hY4, ByteArray.size_append]; omega
      obtain ⟨Y5, hY5⟩ : ∃ X : ByteArray, Y4 ++ ⟨#[34, 62]⟩ = X := ⟨_, rfl⟩
      have hq5 : Y5.size ≤ Y4.size + 2 := by rw [← hY5, ByteArray.size_append]; have l1 : (⟨#[34, 62]⟩ : ByteArray).size = 2 := rfl; omega
      obtain ⟨Y6, hY6⟩ : ∃ X : ByteArray, Y5 ++ J2 = X := ⟨_, rfl⟩
      have hq6 : Y6.size ≤ Y5.size + 1200 := by rw [← hY6, ByteArray.size_append]; omega
      obtain ⟨Y7, hY7⟩ : ∃ X : ByteArray, Y6 ++ ⟨#[60, 47, 105, 116, 101, 109, 62]⟩ = X := ⟨_, rfl⟩
      have hq7 : Y7.size ≤ Y6.size + 7 := by rw [← hY7, ByteArray.size_append]; have l1 : (⟨#[60, 47, 105, 116, 101, 109, 62]⟩ : ByteArray).size = 7 := rfl; omega
      have HY7 : Hid (Y7 = fdI H (its.take (k + 1))) := Lib.hid (by rw [HYs.out, ← hY7, ← hY6, ← hY5, ← hY4, ← hY3, ← hY2, ← hY1]; simp only [ByteArray.append_assoc])
      clear HYs
      refine hK _ _ ⟨hA2, fun _ => trivial⟩ (fun hS => ?_)
      clear hK K hS
      refine wpAnyT_one 10 6 (by kernel_rfl) rfl (by kernel_rfl) (fun K hK => ?_)
      go_simp
      refine (HTx.out _).mono ?_
      rintro e v3 ⟨rfl, hb3⟩
      have hA3 : (fun w' => FAt w' w.heap.size u t (.slice (some ⟨b, off, none⟩) its.length cap) ∧ IAt w' wr.heap.size S T D) v3 := ⟨hA2.1.keep hb3 (Nat.le_refl _), hA2.2.keep hb3 (Nat.le_refl _)⟩
      have hB3 := hB2.trans (hb3.mono hB2.size)
      clear hb3 hA2 hB2
      refine hK _ _ ⟨hA3, fun _ => trivial⟩ (fun hS => ?_)
      clear hK K hS
      refine wpAnyT_takesA (md := .any) 4 (by kernel_rfl) (by intro d v c a w h; cases d <;> exact h) [11, 12] _ _ _ (by decide) (by kernel_rfl) ⟨hA3, fun _ => trivial⟩ ?_
      simp only [pick, List.filterMap_cons, List.filterMap_nil, List.getElem?_cons_zero, List.getElem?_cons_succ]
      refine wpIf_step (.string Y4) (by kernel_rfl) (fun w hw => by go_simp; try omega) ?_
      refine wpIf_step (.string Y5) (by kernel_rfl) (fun w hw => by go_simp; try omega) ?_
      refine wpIf_nil (fun hS => ?_)
      clear hS
      refine wpAnyT_one 15 3 (by kernel_rfl) rfl (by kernel_rfl) (fun K hK => ?_)
      go_simp
      refine (E3.out _).mono ?_
      rintro e v4 ⟨rfl, hb4⟩
      have hA4 : (fun w' => FAt w' w.heap.size u t (.slice (some ⟨b, off, none⟩) its.length cap) ∧ IAt w' wr.heap.size S T D) v4 := ⟨hA3.1.keep hb4 (Nat.le_refl _), hA3.2.keep hb4 (Nat.le_refl _)⟩
      have hB4 := hB3.trans (hb4.mono hB3.size)
      clear hb4 hA3 hB3
      refine hK _ _ ⟨hA4, fun _ => trivial⟩ (fun hS => ?_)
      clear hK K hS
      refine wpAnyT_takesA (md := .any) 1 (by kernel_rfl) (by intro d v c a w h; cases d <;> exact h) [16, 17] _ _ _ (by decide) (by kernel_rfl) ⟨hA4, fun _ => trivial⟩ ?_
      simp only [pick, List.filterMap_cons, List.filterMap_nil, List.getElem?_cons_zero, List.getElem?_cons_succ]
      refine wpIf_step (.string Y6) (by kernel_rfl) (fun w hw => by go_simp; try omega) ?_
      refine wpIf_step (.string Y7) (by kernel_rfl) (fun w hw => by go_simp; try omega) ?_
      refine wpIf_nil (fun hS => ?_)
      clear hS
      refine wpAnyT_one 18 0 (by kernel_rfl) rfl (by kernel_rfl) (fun K hK => ?_)
      go_simp
      refine hK _ _ ⟨hA4, fun _ => trivial⟩ (fun hS => ?_)
      clear hK K hS
      refine wpAnyT_over (by kernel_rfl) ?_
      have hzs : Y7.size ≤ 3000 + 2500 * (k + 1) := by omega
      clear hY1 hY2 hY3 hY4 hY5 hY6 hY7 hq1 hq2 hq3 hq4 hq5 hq6 hq7
      go_wp2
      go_roundw
      case rel => exact ⟨k + 1, Y7, by omega, by go_num, rfl, hzs, HY7, hA4.1, hB4⟩
      case measure => simp [intOf]; omega
    · have HE : Hid (X ++ ⟨#[60, 47, 102, 101, 101, 100, 62]⟩ = R) := Lib.hid (by rw [HV.out, HX.out, List.take_of_length_le (by omega)])
      have hsum : X.size ≤ 100000 := by omega
      have hO := HE.out
      go_wp2
      go_ret
      exact ⟨rfl, hB⟩

set_option maxRecDepth 100000 in
set_option maxHeartbeats 1600000 in
theorem specFeedText_any (u t : ByteArray) (v : Value) (its : List It) (w : World) (hu : u.size ≤ maxLen) (ht : t.size ≤ maxLen) (h : ItAt w w.heap.size v its) :
    Calls Tryz.prog 10 #[fV u t v] w fun e w' => e = .returned (.string (fdX u t its)) ∧ Below w.heap.size w w' := by
  have HI := Lib.hid h
  have HC := Lib.hid (fun w h => specFeedOk_any u t v its w hu ht h)
  have hB0 : Below w.heap.size w (w.alloc (fC u t v)) := (Below.refl _ _).alloc (Nat.le_refl _) _
  have hA0 := FAt.new w u t v
  clear h
  cases hfd : fdB u t its with
  | false =>
    have HV : Hid (fdX u t its = ⟨#[]⟩) := Lib.hid (by unfold fdX; rw [if_neg (by rw [hfd]; simp)])
    rw [hfd] at HC
    rw [HV.out]
    clear hfd HV
    go_enter Tryz.func10, Tryz.ntmps10
    go_wp2_with fail
    refine (HC.out _ ((HI.out.below hB0).mono hB0.size)).mono ?_
    rintro e w1 ⟨rfl, hb1⟩
    have hB1 := hB0.trans (hb1.mono hB0.size)
    clear hb1 hB0
    go_wp2
    go_ret
    exact ⟨rfl, hB1⟩
  | true =>
    have HL := Lib.hid (fun w h => l8Text_any u t v its w h hfd)
    rw [hfd] at HC
    generalize fdX u t its = R at HL ⊢
    clear hfd
    go_enter Tryz.func10, Tryz.ntmps10
    go_wp2_with fail
    refine (HC.out _ ((HI.out.below hB0).mono hB0.size)).mono ?_
    rintro e w1 ⟨rfl, hb1⟩
    have hA1 := hA0.keep hb1 (Nat.le_refl _)
    have hB1 := hB0.trans (hb1.mono hB0.size)
    have f0 := hA1.c0
    have f1 := hA1.c1
    have f2 := hA1.c2
    clear hb1 hB0 hA0
    go_wp2_with fail
    refine (HL.out _ ((HI.out.below hB1).mono hB1.size)).mono ?_
    rintro e w2 ⟨rfl, hb2⟩
    have hB2 := hB1.trans (hb2.mono hB1.size)
    clear hb2 hB1
    go_wp2
    go_ret
    exact ⟨rfl, hB2⟩
end Go.Proofs.YtffkakpbelknaaaGreatDoor
