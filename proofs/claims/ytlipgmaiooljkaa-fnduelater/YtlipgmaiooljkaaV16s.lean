/- The walk of FnDueLater. -/
import Derived.Test.YtlipgmaiooljkaaW16r
namespace Go.Proofs.Ytlipgmaiooljkaa
open Go.ChangeShapes Go.WideShapes Go.ChangeAt Go.RowKit
set_option linter.unusedVariables false
set_option linter.unusedSimpArgs false

theorem filter_mono16 {α : Type} (p q : α → Bool) (hpq : ∀ x, p x = true → q x = true) : ∀ l : List α, (l.filter p).Sublist (l.filter q) := by
  intro l
  induction l with
  | nil => exact List.Sublist.slnil
  | cons x l ih =>
    by_cases hp : p x = true
    · rw [List.filter_cons_of_pos hp, List.filter_cons_of_pos (hpq x hp)]; exact ih.cons_cons x
    · rw [List.filter_cons_of_neg hp]
      by_cases hq : q x = true
      · rw [List.filter_cons_of_pos hq]; exact ih.cons x
      · rw [List.filter_cons_of_neg hq]; exact ih
theorem due_later (ps : List PollD) (now d : Int) (hd : 0 ≤ d) (k : Nat) : (duT ps now k).Sublist (duT ps (now + d) k) := by
  unfold duT
  refine List.Sublist.map _ (filter_mono16 _ _ ?_ _)
  intro p hp
  unfold dueB at hp ⊢
  simp only [Bool.and_eq_true, decide_eq_true_eq] at hp ⊢
  exact ⟨hp.1, by omega⟩
theorem sub_hit {D E : List ByteArray} {k i : Nat} (h : (D.drop k).Sublist (E.drop i)) (hk : k < D.length) (hi : i < E.length) (he : E[i] = D[k]) : (D.drop (k + 1)).Sublist (E.drop (i + 1)) := by
  rw [List.drop_eq_getElem_cons hk, List.drop_eq_getElem_cons hi, he] at h
  exact (List.cons_sublist_cons).1 h
theorem sub_miss {D E : List ByteArray} {k i : Nat} (h : (D.drop k).Sublist (E.drop i)) (hk : k < D.length) (hi : i < E.length) (he : E[i] ≠ D[k]) : (D.drop k).Sublist (E.drop (i + 1)) := by
  rw [List.drop_eq_getElem_cons hk, List.drop_eq_getElem_cons hi] at h
  rw [List.drop_eq_getElem_cons hk]
  rcases List.sublist_cons_iff.1 h with h1 | ⟨l, h1, h2⟩
  · exact h1
  · injection h1 with h3 h4
    exact absurd h3.symm he
theorem sub_end {D E : List ByteArray} {k i : Nat} (h : (D.drop k).Sublist (E.drop i)) (hk : k ≤ D.length) (hi : ¬ i < E.length) : k = D.length := by
  have := h.length_le
  rw [List.length_drop, List.length_drop] at this
  omega

set_option maxRecDepth 100000 in
set_option maxHeartbeats 4000000 in
theorem walk_FnDueLater (a : Option Addr) (len cap : Nat) (z : List Int) (w : World) (h : IsRow .u8 w a len cap z) :
    Calls Try.prog 10 #[.slice a len cap] w fun e w' => e = .returned (.bool true) ∧ Below w.heap.size w w' := by
  have hcd := Cd.of_row h
  clear h
  go_enter Try.func10, Try.ntmps10
  go_wp2_with fail
  refine (big_any _ _ _ hcd).mono ?_
  rintro e w1 ⟨⟨b, rfl⟩, rfl⟩
  cases b with
  | true =>
    go_wp2
    go_ret
    exact ⟨rfl, Below.refl _ _⟩
  | false =>
    go_wp2_with fail
    refine (drawDue_any _ _ _ hcd).mono ?_
    rintro e w2 ⟨lv, ps, now, rfl, hO, hpl, hps, hnow, hB⟩
    clear hcd
    have hnb : -9223372036854775808 ≤ now ∧ now ≤ 9223372036854775807 := by
      simp [Lit.wf, IntKind.min, IntKind.max, IntKind.signed, IntKind.bits] at hnow
      omega
    obtain ⟨hn1, hn2⟩ := hnb
    have HSz : Hid (∀ p ∈ ps, PkSz p) := Lib.hid (fun p hp => (hps p hp).sz)
    have HP : Hid (PksAt w2 w2.heap.size lv ps) := Lib.hid ⟨hO.at pkL_len, HSz.out⟩
    clear hO hps hnow
    have HD1 := Lib.hid (fun w h => specDue_any lv ps now w h)
    have HD2 := Lib.hid (fun w h => implDue_any lv ps now w h)
    have HD3 := Lib.hid (fun w h => implDue_any lv ps (now + (len : Int) % 100) w h)
    have HSub : Hid ((duL ps now).Sublist (duL ps (now + (len : Int) % 100))) := Lib.hid (by
      rw [duL_few (by omega), duL_few (by omega)]
      exact due_later ps now _ (by omega) _)
    have hTl : (duL ps now).length ≤ 4 := by rw [duL_few (by omega)]; have := duT_len ps now ps.length; omega
    have hEl : (duL ps (now + (len : Int) % 100)).length ≤ 4 := by rw [duL_few (by omega)]; have := duT_len ps (now + (len : Int) % 100) ps.length; omega
    generalize duL ps now = T at HD1 HD2 HSub hTl
    generalize duL ps (now + (len : Int) % 100) = E at HD3 HSub hEl
    go_wp2_with fail
    refine (HD2.out _ HP.out).mono ?_
    rintro e w3 ⟨gv, rfl, hG, hb⟩
    have HG : Hid (StAt w3 w3.heap.size gv T) := Lib.hid (OwnR.at stC_len hG)
    replace HP : Hid (PksAt w3 w3.heap.size lv ps) := Lib.hid ⟨(HP.out.1.below hb).mono hb.size, HSz.out⟩
    replace hB := hB.trans (hb.mono hB.size)
    clear hG hb
    go_wp2_with fail
    refine (HD1.out _ HP.out).mono ?_
    rintro e w4 ⟨sv, rfl, hS, hb⟩
    have HS : Hid (StAt w4 w4.heap.size sv T) := Lib.hid (OwnR.at stC_len hS)
    replace HG : Hid (StAt w4 w4.heap.size gv T) := Lib.hid ((HG.out.below hb).mono hb.size)
    replace HP : Hid (PksAt w4 w4.heap.size lv ps) := Lib.hid ⟨(HP.out.1.below hb).mono hb.size, HSz.out⟩
    replace hB := hB.trans (hb.mono hB.size)
    clear hS hb
    go_wp2_with fail
    refine (sameTexts_same _ _ T _ HG.out HS.out).mono ?_
    rintro e w5 ⟨rfl, hb⟩
    replace HG : Hid (StAt w5 w5.heap.size gv T) := Lib.hid ((HG.out.below hb).mono hb.size)
    replace HP : Hid (PksAt w5 w5.heap.size lv ps) := Lib.hid ⟨(HP.out.1.below hb).mono hb.size, HSz.out⟩
    replace hB := hB.trans (hb.mono hB.size)
    clear HS hb HD2
    by_cases hbig : 1000000000 < now
    case pos =>
      have hdb : decide (1000000000 < now) = true := decide_eq_true hbig
      clear HD3
      go_wp2_with fail
      refine (HD1.out _ HP.out).mono ?_
      rintro e w6 ⟨sv, rfl, hS, hb⟩
      have HS : Hid (StAt w6 w6.heap.size sv T) := Lib.hid (OwnR.at stC_len hS)
      replace HG : Hid (StAt w6 w6.heap.size gv T) := Lib.hid ((HG.out.below hb).mono hb.size)
      replace hB := hB.trans (hb.mono hB.size)
      clear hS hb
      go_wp2_with fail
      refine (sameTexts_same _ _ T _ HG.out HS.out).mono ?_
      rintro e w7 ⟨rfl, hb⟩
      replace hB := hB.trans (hb.mono hB.size)
      go_wp2
      go_ret
      exact ⟨rfl, hB⟩
    have hdb : decide (1000000000 < now) = false := decide_eq_false hbig
    have hwr := IntWalk.i64_in (now + (len : Int) % 100) (by omega)
    clear HD1
    go_wp2_with fail
    refine (HD3.out _ HP.out).mono ?_
    rintro e w6 ⟨ev, rfl, hE, hb⟩
    have HE : Hid (StAt w6 w6.heap.size ev E) := Lib.hid (OwnR.at stC_len hE)
    replace HG : Hid (StAt w6 w6.heap.size gv T) := Lib.hid ((HG.out.below hb).mono hb.size)
    replace hB := hB.trans (hb.mono hB.size)
    clear hE hb HP HD3 hwr hdb HSz
    obtain ⟨ga, gc, rfl⟩ := RecAt.slice HG.out
    obtain ⟨ea, ec, rfl⟩ := RecAt.slice HE.out
    go_wp2
    go_loopw [7, 8] (fun x i wr => ∃ k j : Nat, k ≤ T.length ∧ j ≤ E.length ∧ i = .int .i64 (j : Int) ∧ x = .int .i64 (k : Int) ∧ Hid ((T.drop k).Sublist (E.drop j)) ∧ Below w6.heap.size w6 wr) (fun _ i _ => E.length - (intOf i).toNat)
    case atStart => exact ⟨0, 0, Nat.zero_le _, Nat.zero_le _, rfl, rfl, HSub, Below.refl _ _⟩
    case round =>
      obtain ⟨k, j, hk, hj, rfl, rfl, HU, hbr⟩ := hrel
      clear HSub
      by_cases hlt : j < E.length
      case neg =>
        have hke := sub_end HU.out hk hlt
        subst hke
        go_wp2
        go_ret
        exact ⟨rfl, hB.trans (hbr.mono hB.size)⟩
      by_cases hkt : k < T.length
      case neg =>
        have hke : k = T.length := by omega
        subst hke
        go_wp2
        go_ret
        exact ⟨rfl, hB.trans (hbr.mono hB.size)⟩
      obtain ⟨b, off, cap2, hv, hb, c0⟩ := (HE.out.below hbr).at j hlt
      cases hv
      obtain ⟨b2, off2, cap3, hv2, hb2, g0⟩ := (HG.out.below hbr).at k hkt
      cases hv2
      have HH := Lib.hid (fun he => sub_hit HU.out hkt hlt he)
      have HM := Lib.hid (fun he => sub_miss HU.out hkt hlt he)
      obtain ⟨q, hq⟩ : ∃ q, q = E[j] := ⟨_, rfl⟩
      obtain ⟨r, hr⟩ : ∃ r, r = T[k] := ⟨_, rfl⟩
      rw [← hq] at c0 HH HM
      rw [← hr] at g0 HH HM
      clear hq hr HU
      by_cases he : q = r
      case pos =>
        have HU := Lib.hid (HH.out he)
        subst he
        clear HH HM
        go_wp2
        refine wp_region_T (fun w' => w'.cell? ⟨b, off + j, none⟩ = some (.string q) ∧ w'.cell? ⟨b2, off2 + k, none⟩ = some (.string q)) (fun _ => True) 8 (by kernel_rfl) 9 rfl ?_
        refine wpAnyT_takesA (md := .any) 1 (by kernel_rfl) (by intro d v c a w h; cases d <;> exact h) [0, 1, 2, 3, 4, 5, 6, 7] _ _ _ (by decide) (by kernel_rfl) ⟨⟨c0, g0⟩, fun _ => trivial⟩ ?_
        simp only [pick, List.filterMap_cons, List.filterMap_nil, List.getElem?_cons_zero, List.getElem?_cons_succ]
        refine wpIf_step (.slice (some ⟨b, off, none⟩) E.length ec) (by kernel_rfl) (fun w hw => by go_simp) ?_
        refine wpIf_step (.int .i64 (j : Int)) (by kernel_rfl) (fun w hw => by go_simp) ?_
        refine wpIf_step (.pointer (some ⟨b, off + j, none⟩)) (by kernel_rfl) (fun w hw => by go_simp) ?_
        refine wpIf_step (.string q) (by kernel_rfl) (fun w hw => by have e0 := hw.1; go_simp) ?_
        refine wpIf_step (.slice (some ⟨b2, off2, none⟩) T.length gc) (by kernel_rfl) (fun w hw => by go_simp) ?_
        refine wpIf_step (.int .i64 (k : Int)) (by kernel_rfl) (fun w hw => by go_simp) ?_
        refine wpIf_step (.pointer (some ⟨b2, off2 + k, none⟩)) (by kernel_rfl) (fun w hw => by go_simp) ?_
        refine wpIf_step (.string q) (by kernel_rfl) (fun w hw => by have e0 := hw.2; go_simp) ?_
        refine wpIf_nil (fun hS => ?_)
        clear hS
        refine wpAnyT_one 8 0 (by kernel_rfl) rfl (by kernel_rfl) (fun K hK => ?_)
        go_simp
        refine hK _ _ ⟨⟨c0, g0⟩, fun _ => trivial⟩ (fun hS4 => ?_)
        clear hK hS4
        replace hbr := hbr.drew
        refine wpAnyT_over (by kernel_rfl) ?_
        go_wp2
        go_roundw
        case rel => exact ⟨k + 1, j + 1, by omega, by omega, by go_num, by go_num, HU, hbr⟩
        case measure => simp [intOf]; omega
      case neg =>
        have HU := Lib.hid (HM.out he)
        have hqe : (q.toList == r.toList) = false := by rw [str_eq]; exact decide_eq_false he
        clear HH HM
        go_wp2
        refine wp_region_T (fun w' => w'.cell? ⟨b, off + j, none⟩ = some (.string q) ∧ w'.cell? ⟨b2, off2 + k, none⟩ = some (.string r)) (fun _ => True) 8 (by kernel_rfl) 9 rfl ?_
        refine wpAnyT_takesA (md := .any) 1 (by kernel_rfl) (by intro d v c a w h; cases d <;> exact h) [0, 1, 2, 3, 4, 5, 6, 7] _ _ _ (by decide) (by kernel_rfl) ⟨⟨c0, g0⟩, fun _ => trivial⟩ ?_
        simp only [pick, List.filterMap_cons, List.filterMap_nil, List.getElem?_cons_zero, List.getElem?_cons_succ]
        refine wpIf_step (.slice (some ⟨b, off, none⟩) E.length ec) (by kernel_rfl) (fun w hw => by go_simp) ?_
        refine wpIf_step (.int .i64 (j : Int)) (by kernel_rfl) (fun w hw => by go_simp) ?_
        refine wpIf_step (.pointer (some ⟨b, off + j, none⟩)) (by kernel_rfl) (fun w hw => by go_simp) ?_
        refine wpIf_step (.string q) (by kernel_rfl) (fun w hw => by have e0 := hw.1; go_simp) ?_
        refine wpIf_step (.slice (some ⟨b2, off2, none⟩) T.length gc) (by kernel_rfl) (fun w hw => by go_simp) ?_
        refine wpIf_step (.int .i64 (k : Int)) (by kernel_rfl) (fun w hw => by go_simp) ?_
        refine wpIf_step (.pointer (some ⟨b2, off2 + k, none⟩)) (by kernel_rfl) (fun w hw => by go_simp) ?_
        refine wpIf_step (.string r) (by kernel_rfl) (fun w hw => by have e0 := hw.2; go_simp) ?_
        refine wpIf_nil (fun hS => ?_)
        clear hS
        refine wpAnyT_one 8 0 (by kernel_rfl) rfl (by kernel_rfl) (fun K hK => ?_)
        go_simp
        refine hK _ _ ⟨⟨c0, g0⟩, fun _ => trivial⟩ (fun hS4 => ?_)
        clear hK hS4
        replace hbr := hbr.drew
        refine wpAnyT_over (by kernel_rfl) ?_
        go_wp2
        go_roundw
        case rel => exact ⟨k, j + 1, by omega, by omega, by go_num, by go_num, HU, hbr⟩
        case measure => simp [intOf]; omega
end Go.Proofs.Ytlipgmaiooljkaa
