/- Joined: W8k. -/
import Derived.IntWalk
import Derived.Laws.Cover1
import Derived.Test.YtffkakpbelknaaaS7
import Derived.Test.YtffkakpbelknaaaS9
/- W8k -/
namespace Go.Proofs.Ytffkakpbelknaaa
open Go.ChangeShapes Go.WideShapes Go.ChangeAt Go.RowKit
set_option linter.unusedVariables false

set_option maxRecDepth 100000 in
set_option maxHeartbeats 400000 in
theorem implFeedOk_any (u t : ByteArray) (v : Value) (its : List It) (w : World) (hu : u.size ≤ maxLen) (ht : t.size ≤ maxLen) (h : ItAt w w.heap.size v its) :
    Calls Try.prog 63 #[fV u t v] w fun e w' => e = .returned (.bool (fdB u t its)) ∧ Below w.heap.size w w' := by
  have HN := Lib.hid (fun w => isName_any u 20 w hu)
  have HT := Lib.hid (fun w => isTitle_any t w ht)
  have HI := Lib.hid h
  obtain ⟨a, cap, rfl, hl, hm, hc⟩ := h.raw
  clear hc h
  unfold maxLen at hm
  have hB0 : Below w.heap.size w (w.alloc (fC u t (.slice a its.length cap))) := (Below.refl _ _).alloc (Nat.le_refl _) _
  have hF0 := FAt.new w u t (.slice a its.length cap)
  have HE : Hid (fdB u t its = (itsB its && (nmB u 20 && ttB t && decide (its.length ≤ 12)))) := Lib.hid rfl
  rw [HE.out]
  clear HE
  generalize nmB u 20 = A at HN ⊢
  generalize ttB t = B at HT ⊢
  go_enter Try.func63, Try.ntmps63
  go_wp2_with fail
  refine (HN.out _).mono ?_
  rintro e w1 ⟨rfl, rfl⟩
  cases A with
  | false =>
    go_wp2
    go_ret
    exact ⟨ret_bool (by simp), hB0⟩
  | true =>
    go_wp2_with fail
    refine (HT.out _).mono ?_
    rintro e w2 ⟨rfl, rfl⟩
    cases B with
    | false =>
      go_wp2
      go_ret
      exact ⟨ret_bool (by simp), hB0⟩
    | true =>
      by_cases h12 : its.length ≤ 12
      · have h12' : decide ((12 : Int) < (its.length : Int)) = false := decide_eq_false (by omega)
        go_wp2
        go_loopw [24] (fun i wr => ∃ k : Nat, k ≤ its.length ∧ i = .int .i64 (k : Int) ∧ FAt wr w.heap.size u t (.slice a its.length cap) ∧ Below w.heap.size w wr ∧ Hid (∀ j, j < k → okB its j = true)) (fun i _ => its.length - (intOf i).toNat)
        case atStart => exact ⟨0, Nat.zero_le _, rfl, hF0, hB0, Lib.hid (fun j hj => by omega)⟩
        case round =>
          obtain ⟨k, hk, rfl, hF, hB, HO⟩ := hrel
          by_cases hlt : k < its.length
          · obtain ⟨a', cap', hv, _, _, hc⟩ := (HI.out.below hB).raw
            cases hv
            obtain ⟨b, off, rfl, hb, hr⟩ := hc k hlt
            obtain ⟨c0, c1, c2, s0, s1⟩ := hr k hlt
            have HC := Lib.hid (fun w => itemOk_any its[k].id its[k].ti its[k].da w s0 s1)
            have HK := Lib.hid (okB_at its k hlt)
            have HX := Lib.hid (its_out its k hlt)
            have HP : Hid (∀ q (hq : k = q + 1), wr.cell? ⟨b, off + q * 3, none⟩ = some (.string (its[q]'(by omega)).id) ∧ ordB its k = Op.bytesLess (its[q]'(by omega)).id.toList its[k].id.toList) := Lib.hid (fun q hq => by subst hq; exact ⟨(hr q (by omega)).1, ordB_at its q hlt⟩)
            generalize itB its[k].id its[k].ti its[k].da = R at HC HK
            obtain ⟨S, hS⟩ : ∃ S, S = its[k].id := ⟨_, rfl⟩
            obtain ⟨T, hT⟩ : ∃ T, T = its[k].ti := ⟨_, rfl⟩
            obtain ⟨D, hD⟩ : ∃ D, D = its[k].da := ⟨_, rfl⟩
            rw [← hS] at c0 HC HP
            rw [← hT] at c1 HC
            rw [← hD] at c2 HC
            have hA := IAt.new wr S T D
            have hB1 : Below w.heap.size w (wr.alloc (iC S T D)) := hB.alloc hB.size _
            have hF1 := hF.keep ((Below.refl wr.heap.size wr).alloc (Nat.le_refl _) (iC S T D)) (Nat.le_refl _)
            have hkc : ∀ o x, wr.cell? ⟨b, o, none⟩ = some x → (wr.alloc (iC S T D)).cell? ⟨b, o, none⟩ = some x := fun o x hx => by
              rw [((Below.refl wr.heap.size wr).alloc (Nat.le_refl _) (iC S T D)).cell (p := ⟨b, o, none⟩) (show b < wr.heap.size by have := hB.size; omega)]; exact hx
            have Hkc := Lib.hid hkc
            have f2 := hF.c2
            clear hkc hr hc hS hT hD s0 s1 hF
            cases R with
            | false =>
              have HZ : Hid (itsB its = false) := Lib.hid (HX.out (by rw [HK.out]; rfl))
              go_wp2
              generalize wr.alloc (iC S T D) = W at hA hB1 hF1 Hkc ⊢
              have hA2 : IAt W.drew wr.heap.size S T D ∧ FAt W.drew w.heap.size u t (.slice (some ⟨b, off, none⟩) its.length cap) := ⟨hA, hF1⟩
              have hB2 := hB1.drew
              clear hA hB1 hF1 Hkc c0 c1 c2 f2
              refine wp_region_T (fun w' => IAt w' wr.heap.size S T D ∧ FAt w' w.heap.size u t (.slice (some ⟨b, off, none⟩) its.length cap)) (fun _ => True) 18 (by kernel_rfl) 19 rfl ?_
              refine wpAnyT_takesA (md := .any) 18 (by kernel_rfl) (by intro d v c a w h; cases d <;> exact h) [0] _ _ _ (by decide) (by kernel_rfl) ⟨hA2, fun _ => trivial⟩ ?_
              simp only [pick, List.filterMap_cons, List.filterMap_nil, List.getElem?_cons_zero]
              refine wpIf_step (itV S T D) (by kernel_rfl) (fun w hw => by have e0 := hw.1.c0; have e1 := hw.1.c1; have e2 := hw.1.c2; go_simp) ?_
              refine wpIf_nil (fun hS => ?_)
              refine wpAnyT_one 1 17 (by kernel_rfl) rfl (by kernel_rfl) (fun K hK => ?_)
              go_simp
              refine (HC.out _).mono ?_
              rintro e v1 ⟨rfl, hb1⟩
              have hA3 := hA2.1.keep hb1 (Nat.le_refl _)
              have hF3 := hA2.2.keep hb1 (Nat.le_refl _)
              have hB3 := hB2.trans (hb1.mono hB2.size)
              refine hK _ _ ⟨⟨hA3, hF3⟩, fun _ => trivial⟩ (fun hS3 => ?_)
              clear hK K hS hb1 hA2 hB2
              refine wpAnyT_takesA (md := .any) 1 (by kernel_rfl) (by intro d v c a w h; cases d <;> exact h) [2, 3, 4, 5, 6, 7, 8, 9, 10, 11, 12, 13, 14, 15, 16, 17] _ _ _ (by decide) (by kernel_rfl) hS3 ?_
              simp only [pick, List.filterMap_cons, List.filterMap_nil, List.getElem?_cons_zero, List.getElem?_cons_succ]
              refine wpIf_step (.bool true) (by kernel_rfl) (fun w hw => by go_simp) ?_
              refine wpIf_step (.bool true) (by kernel_rfl) (fun w hw => by go_simp) ?_
              iterate 14 (refine wpIf_skip (by kernel_rfl) ?_)
              refine wpIf_nil (fun hS => ?_)
              refine wpAnyT_one 18 0 (by kernel_rfl) rfl (by kernel_rfl) (fun K hK => ?_)
              go_simp
              refine hK _ _ ⟨⟨hA3, hF3⟩, fun _ => trivial⟩ (fun hS4 => ?_)
              clear hK K
              refine wpAnyT_over (by kernel_rfl) ?_
              go_wp2
              go_ret
              exact ⟨ret_bool (by rw [HZ.out]; rfl), hB3⟩
            | true =>
              rcases Nat.eq_zero_or_pos k with hk0 | hk0
              · have Hk0 : Hid (¬ (0 : Int) < (k : Int)) := Lib.hid (by omega)
                have HO' : Hid (∀ j, j < k + 1 → okB its j = true) := Lib.hid (fun j hj => by
                  have : j = k := by omega
                  subst this; rw [HK.out]; subst hk0; rfl)
                clear hk0
                go_wp2
                generalize wr.alloc (iC S T D) = W at hA hB1 hF1 Hkc ⊢
                have hA2 : IAt W.drew wr.heap.size S T D ∧ FAt W.drew w.heap.size u t (.slice (some ⟨b, off, none⟩) its.length cap) := ⟨hA, hF1⟩
                have hB2 := hB1.drew
                clear hA hB1 hF1 Hkc c0 c1 c2 f2
                refine wp_region_T (fun w' => IAt w' wr.heap.size S T D ∧ FAt w' w.heap.size u t (.slice (some ⟨b, off, none⟩) its.length cap) ) (fun _ => True) 18 (by kernel_rfl) 19 rfl ?_
                refine wpAnyT_takesA (md := .any) 18 (by kernel_rfl) (by intro d v c a w h; cases d <;> exact h) [0] _ _ _ (by decide) (by kernel_rfl) ⟨hA2, fun _ => trivial⟩ ?_
                simp only [pick, List.filterMap_cons, List.filterMap_nil, List.getElem?_cons_zero]
                refine wpIf_step (itV S T D) (by kernel_rfl) (fun w hw => by have e0 := hw.1.c0; have e1 := hw.1.c1; have e2 := hw.1.c2; go_simp) ?_
                refine wpIf_nil (fun hS => ?_)
                refine wpAnyT_one 1 17 (by kernel_rfl) rfl (by kernel_rfl) (fun K hK => ?_)
                go_simp
                refine (HC.out _).mono ?_
                rintro e v1 ⟨rfl, hb1⟩
                have hA3 := hA2.1.keep hb1 (Nat.le_refl _)
                have hF3 := hA2.2.keep hb1 (Nat.le_refl _)
                have hB3 := hB2.trans (hb1.mono hB2.size)
                refine hK _ _ ⟨⟨hA3, hF3⟩, fun _ => trivial⟩ (fun hS3 => ?_)
                clear hK K hS hb1 hA2 hB2
                refine wpAnyT_takesA (md := .any) 1 (by kernel_rfl) (by intro d v c a w h; cases d <;> exact h) [2, 3, 4, 5, 6, 7, 8, 9, 10, 11, 12, 13, 14, 15, 16, 17] _ _ _ (by decide) (by kernel_rfl) hS3 ?_
                simp only [pick, List.filterMap_cons, List.filterMap_nil, List.getElem?_cons_zero, List.getElem?_cons_succ]
                refine wpIf_step (.bool false) (by kernel_rfl) (fun w hw => by go_simp) ?_
                refine wpIf_step (.bool false) (by kernel_rfl) (fun w hw => by go_simp) ?_
                refine wpIf_step (.int .i64 (k : Int)) (by kernel_rfl) (fun w hw => by go_simp) ?_
                refine wpIf_step (.bool false) (by kernel_rfl) (fun w hw => by have hk0 := Hk0.out; go_simp; try omega) ?_
                refine wpIf_step (.bool false) (by kernel_rfl) (fun w hw => by go_simp) ?_
                iterate 10 (refine wpIf_skip (by kernel_rfl) ?_)
                refine wpIf_step (.bool false) (by kernel_rfl) (fun w hw => by go_simp) ?_
                refine wpIf_nil (fun hS => ?_)
                refine wpAnyT_one 18 0 (by kernel_rfl) rfl (by kernel_rfl) (fun K hK => ?_)
                go_simp
                refine hK _ _ ⟨⟨hA3, hF3⟩, fun _ => trivial⟩ (fun hS4 => ?_)
                clear hK K
                refine wpAnyT_over (by kernel_rfl) ?_
                go_wp2
                go_roundw
                case rel => exact ⟨k + 1, by omega, by go_num, hF3, hB3, HO'⟩
                case measure => simp [intOf]; omega
              · obtain ⟨q, hq⟩ : ∃ q, k = q + 1 := ⟨k - 1, by omega⟩
                obtain ⟨c4, hord⟩ := HP.out q hq
                have hql : q < its.length := by omega
                obtain ⟨P, hP⟩ : ∃ P, P = its[q].id := ⟨_, rfl⟩
                rw [← hP] at c4 hord
                obtain ⟨L, hL⟩ : ∃ L, L = Op.bytesLess P.toList S.toList := ⟨_, rfl⟩
                rw [← hL] at hord
                have HLO := Lib.hid hord
                have HL := Lib.hid hL.symm
                have Hk1 : Hid ((0 : Int) < (k : Int)) := Lib.hid (by omega)
                have Hk2 : Hid (IntKind.i64.wrap ((k : Int) - 1) = (q : Int)) := Lib.hid (by rw [hq]; simp; exact IntWalk.i64_in _ (by omega))
                clear hq hord hL hP hk0
                go_wp2
                generalize wr.alloc (iC S T D) = W at hA hB1 hF1 Hkc ⊢
                have hA2 : IAt W.drew wr.heap.size S T D ∧ FAt W.drew w.heap.size u t (.slice (some ⟨b, off, none⟩) its.length cap) ∧ W.drew.cell? ⟨b, off + q * 3, none⟩ = some (.string P) := ⟨hA, hF1, Hkc.out _ _ c4⟩
                have hB2 := hB1.drew
                clear hA hB1 hF1 Hkc c0 c1 c2 f2 c4
                refine wp_region_T (fun w' => IAt w' wr.heap.size S T D ∧ FAt w' w.heap.size u t (.slice (some ⟨b, off, none⟩) its.length cap)  ∧ w'.cell? ⟨b, off + q * 3, none⟩ = some (.string P)) (fun _ => True) 18 (by kernel_rfl) 19 rfl ?_
                refine wpAnyT_takesA (md := .any) 18 (by kernel_rfl) (by intro d v c a w h; cases d <;> exact h) [0] _ _ _ (by decide) (by kernel_rfl) ⟨hA2, fun _ => trivial⟩ ?_
                simp only [pick, List.filterMap_cons, List.filterMap_nil, List.getElem?_cons_zero]
                refine wpIf_step (itV S T D) (by kernel_rfl) (fun w hw => by have e0 := hw.1.c0; have e1 := hw.1.c1; have e2 := hw.1.c2; go_simp) ?_
                refine wpIf_nil (fun hS => ?_)
                refine wpAnyT_one 1 17 (by kernel_rfl) rfl (by kernel_rfl) (fun K hK => ?_)
                go_simp
                refine (HC.out _).mono ?_
                rintro e v1 ⟨rfl, hb1⟩
                have hA3 := hA2.1.keep hb1 (Nat.le_refl _)
                have hF3 := hA2.2.1.keep hb1 (Nat.le_refl _)
                have hB3 := hB2.trans (hb1.mono hB2.size)
                have c5 : v1.cell? ⟨b, off + q * 3, none⟩ = some (.string P) := by rw [hb1.cell (p := ⟨b, off + q * 3, none⟩) (show b < W.drew.heap.size by have := hB2.size; omega)]; exact hA2.2.2
                refine hK _ _ ⟨⟨hA3, hF3, c5⟩, fun _ => trivial⟩ (fun hS3 => ?_)
                clear hK K hS hb1 hA2 hB2
                refine wpAnyT_takesA (md := .any) 1 (by kernel_rfl) (by intro d v c a w h; cases d <;> exact h) [2, 3, 4, 5, 6, 7, 8, 9, 10, 11, 12, 13, 14, 15, 16, 17] _ _ _ (by decide) (by kernel_rfl) hS3 ?_
                simp only [pick, List.filterMap_cons, List.filterMap_nil, List.getElem?_cons_zero, List.getElem?_cons_succ]
                refine wpIf_step (.bool false) (by kernel_rfl) (fun w hw => by go_simp) ?_
                refine wpIf_step (.bool false) (by kernel_rfl) (fun w hw => by go_simp) ?_
                refine wpIf_step (.int .i64 (k : Int)) (by kernel_rfl) (fun w hw => by go_simp) ?_
                refine wpIf_step (.bool true) (by kernel_rfl) (fun w hw => by have hk0 := Hk1.out; go_simp; try omega) ?_
                refine wpIf_step (.bool true) (by kernel_rfl) (fun w hw => by go_simp) ?_
                refine wpIf_step (.pointer (some ⟨w.heap.size, 2, none⟩)) (by kernel_rfl) (fun w hw => by have e0 := hw.1.c0; have e3 := hw.2.1.c2; have e4 := hw.2.2; go_simp) ?_
                refine wpIf_step (.slice (some ⟨b, off, none⟩) its.length cap) (by kernel_rfl) (fun w hw => by have e0 := hw.1.c0; have e3 := hw.2.1.c2; have e4 := hw.2.2; go_simp) ?_
                refine wpIf_step (.int .i64 (k : Int)) (by kernel_rfl) (fun w hw => by have e0 := hw.1.c0; have e3 := hw.2.1.c2; have e4 := hw.2.2; go_simp) ?_
                refine wpIf_step (.int .i64 (q : Int)) (by kernel_rfl) (fun w hw => by have e0 := hw.1.c0; have e3 := hw.2.1.c2; have e4 := hw.2.2; have hk2 := Hk2.out; go_simp) ?_
                refine wpIf_step (.pointer (some ⟨b, off + q * 3, none⟩)) (by kernel_rfl) (fun w hw => by have e0 := hw.1.c0; have e3 := hw.2.1.c2; have e4 := hw.2.2; go_simp) ?_
                refine wpIf_step (.pointer (some ⟨b, off + q * 3, none⟩)) (by kernel_rfl) (fun w hw => by have e0 := hw.1.c0; have e3 := hw.2.1.c2; have e4 := hw.2.2; go_simp) ?_
                refine wpIf_step (.string P) (by kernel_rfl) (fun w hw => by have e0 := hw.1.c0; have e3 := hw.2.1.c2; have e4 := hw.2.2; go_simp) ?_
                refine wpIf_step (.pointer (some ⟨wr.heap.size, 0, none⟩)) (by kernel_rfl) (fun w hw => by have e0 := hw.1.c0; have e3 := hw.2.1.c2; have e4 := hw.2.2; go_simp) ?_
                refine wpIf_step (.string S) (by kernel_rfl) (fun w hw => by have e0 := hw.1.c0; have e3 := hw.2.1.c2; have e4 := hw.2.2; go_simp) ?_
                refine wpIf_step (.bool (!L)) (by kernel_rfl) (fun w hw => by have e0 := hw.1.c0; have e3 := hw.2.1.c2; have e4 := hw.2.2; have hL := HL.out; go_simp) ?_
                refine wpIf_step (.bool (!L)) (by kernel_rfl) (fun w hw => by have e0 := hw.1.c0; have e3 := hw.2.1.c2; have e4 := hw.2.2; go_simp) ?_
                refine wpIf_nil (fun hS => ?_)
                refine wpAnyT_one 18 0 (by kernel_rfl) rfl (by kernel_rfl) (fun K hK => ?_)
                go_simp
                refine hK _ _ ⟨⟨hA3, hF3, c5⟩, fun _ => trivial⟩ (fun hS4 => ?_)
                clear hK K
                refine wpAnyT_over (by kernel_rfl) ?_
                cases L with
                | false =>
                  have HZ : Hid (itsB its = false) := Lib.hid (HX.out (by rw [HK.out, HLO.out]; rfl))
                  go_wp2
                  go_ret
                  exact ⟨ret_bool (by rw [HZ.out]; rfl), hB3⟩
                | true =>
                  have HO' : Hid (∀ j, j < k + 1 → okB its j = true) := Lib.hid (fun j hj => by
                    by_cases hjk : j = k
                    · subst hjk; rw [HK.out, HLO.out]; rfl
                    · exact HO.out j (by omega))
                  go_wp2
                  go_roundw
                  case rel => exact ⟨k + 1, by omega, by go_num, hF3, hB3, HO'⟩
                  case measure => simp [intOf]; omega
          · go_wp2
            go_ret
            exact ⟨ret_bool (by rw [its_end its k hlt HO.out]; simp [h12]), hB⟩
      · have h12' : (12 : Int) < (its.length : Int) := by omega
        go_wp2
        go_ret
        exact ⟨ret_bool (by simp [h12]), hB0⟩
end Go.Proofs.Ytffkakpbelknaaa
