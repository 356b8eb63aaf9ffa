/- Joined: W8k, W9a. -/
import Derived.IntWalk
import Derived.Laws.Cover1
import Derived.Test.YtffkakpbelknaaaH9
import Derived.Test.YtffkakpbelknaaaH12
/- W8k -/
namespace Go.Proofs.Ytffkakpbelknaaa
open Go.ChangeShapes Go.WideShapes Go.ChangeAt Go.RowKit
set_option linter.unusedVariables false

set_option maxRecDepth 100000 in
set_option maxHeartbeats 400000 in
theorem implFeedOk_any (u t : ByteArray) (v : Value) (its : List It) (w : World) (hu : u.size ≤ maxLen) (ht : t.size ≤ maxLen) (h : ItAt w w.heap.size v its) :
    Calls Try.prog 63 #[fV u t v] w fun e w' => e = .returned (.bool (fdB u t its)) ∧ Below w.heap.size w w' := by
  have HN := Lib.hid (fun w => isName_any u 20 w hu)
  have HT := Lib.hid (fun w => isTitle_any t w ht)
  have HI := Lib.hid h
  obtain ⟨a, cap, rfl, hl, hm, hc⟩ := h.raw
  clear hc h
  unfold maxLen at hm
  have hB0 : Below w.heap.size w (w.alloc (fC u t (.slice a its.length cap))) := (Below.refl _ _).alloc (Nat.le_refl _) _
  have hF0 := FAt.new w u t (.slice a its.length cap)
  have HE : Hid (fdB u t its = (itsB its && (nmB u 20 && ttB t && decide (its.length ≤ 12)))) := Lib.hid rfl
  rw [HE.out]
  clear HE
  generalize nmB u 20 = A at HN ⊢
  generalize ttB t = B at HT ⊢
  go_enter Try.func63, Try.ntmps63
  go_wp2_with fail
  refine (HN.out _).mono ?_
  rintro e w1 ⟨rfl, rfl⟩
  cases A with
  | false =>
    go_wp2
    go_ret
    exact ⟨ret_bool (by simp), hB0⟩
  | true =>
    go_wp2_with fail
    refine (HT.out _).mono ?_
    rintro e w2 ⟨rfl, rfl⟩
    cases B with
    | false =>
      go_wp2
      go_ret
      exact ⟨ret_bool (by simp), hB0⟩
    | true =>
      by_cases h12 : its.length ≤ 12
      · have h12' : decide ((12 : Int) < (its.length : Int)) = false := decide_eq_false (by omega)
        go_wp2
        go_loopw [24] (fun i wr => ∃ k : Nat, k ≤ its.length ∧ i = .int .i64 (k : Int) ∧ FAt wr w.heap.size u t (.slice a its.length cap) ∧ Below w.heap.size w wr ∧ Hid (∀ j, j < k → okB its j = true)) (fun i _ => its.length - (intOf i).toNat)
        case atStart => exact ⟨0, Nat.zero_le _, rfl, hF0, hB0, Lib.hid (fun j hj => by omega)⟩
        case round =>
          obtain ⟨k, hk, rfl, hF, hB, HO⟩ := hrel
          by_cases hlt : k < its.length
          · obtain ⟨a', cap', hv, _, _, hc⟩ := (HI.out.below hB).raw
            cases hv
            obtain ⟨b, off, rfl, hb, hr⟩ := hc k hlt
            obtain ⟨c0, c1, c2, s0, s1⟩ := hr k hlt
            have HC := Lib.hid (fun w => itemOk_any its[k].id its[k].ti its[k].da w s0 s1)
            have HK := Lib.hid (okB_at its k hlt)
            have HX := Lib.hid (its_out its k hlt)
            have HP : Hid (∀ q (hq : k = q + 1), wr.cell? ⟨b, off + q * 3, none⟩ = some (.string (its[q]'(by omega)).id) ∧ ordB its k = Op.bytesLess (its[q]'(by omega)).id.toList its[k].id.toList) := Lib.hid (fun q hq => by subst hq; exact ⟨(hr q (by omega)).1, ordB_at its q hlt⟩)
            generalize itB its[k].id its[k].ti its[k].da = R at HC HK
            obtain ⟨S, hS⟩ : ∃ S, S = its[k].id := ⟨_, rfl⟩
            obtain ⟨T, hT⟩ : ∃ T, T = its[k].ti := ⟨_, rfl⟩
            obtain ⟨D, hD⟩ : ∃ D, D = its[k].da := ⟨_, rfl⟩
            rw [← hS] at c0 HC HP
            rw [← hT] at c1 HC
            rw [← hD] at c2 HC
            have hA := IAt.new wr S T D
            have hB1 : Below w.heap.size w (wr.alloc (iC S T D)) := hB.alloc hB.size _
            have hF1 := hF.keep ((Below.refl wr.heap.size wr).alloc (Nat.le_refl _) (iC S T D)) (Nat.le_refl _)
            have hkc : ∀ o x, wr.cell? ⟨b, o, none⟩ = some x → (wr.alloc (iC S T D)).cell? ⟨b, o, none⟩ = some x := fun o x hx => by
              rw [((Below.refl wr.heap.size wr).alloc (Nat.le_refl _) (iC S T D)).cell (p := ⟨b, o, none⟩) (show b < wr.heap.size by have := hB.size; omega)]; exact hx
            have Hkc := Lib.hid hkc
            have f2 := hF.c2
            clear hkc hr hc hS hT hD s0 s1 hF
            cases R with
            | false =>
              have HZ : Hid (itsB its = false) := Lib.hid (HX.out (by rw [HK.out]; rfl))
              go_wp2
              generalize wr.alloc (iC S T D) = W at hA hB1 hF1 Hkc ⊢
              have hA2 : IAt W.drew wr.heap.size S T D ∧ FAt W.drew w.heap.size u t (.slice (some ⟨b, off, none⟩) its.length cap) := ⟨hA, hF1⟩
              have hB2 := hB1.drew
              clear hA hB1 hF1 Hkc c0 c1 c2 f2
              refine wp_region_T (fun w' => IAt w' wr.heap.size S T D ∧ FAt w' w.heap.size u t (.slice (some ⟨b, off, none⟩) its.length cap)) (fun _ => True) 18 (by kernel_rfl) 19 rfl ?_
              refine wpAnyT_takesA (md := .any) 18 (by kernel_rfl) (by intro d v c a w h; cases d <;> exact h) [0] _ _ _ (by decide) (by kernel_rfl) ⟨hA2, fun _ => trivial⟩ ?_
              simp only [pick, List.filterMap_cons, List.filterMap_nil, List.getElem?_cons_zero]
              refine wpIf_step (itV S T D) (by kernel_rfl) (fun w hw => by have e0 := hw.1.c0; have e1 := hw.1.c1; have e2 := hw.1.c2; go_simp) ?_
              refine wpIf_nil (fun hS => ?_)
              refine wpAnyT_one 1 17 (by kernel_rfl) rfl (by kernel_rfl) (fun K hK => ?_)
              go_simp
              refine (HC.out _).mono ?_
              rintro e v1 ⟨rfl, hb1⟩
              have hA3 := hA2.1.keep hb1 (Nat.le_refl _)
              have hF3 := hA2.2.keep hb1 (Nat.le_refl _)
              have hB3 := hB2.trans (hb1.mono hB2.size)
              refine hK _ _ ⟨⟨hA3, hF3⟩, fun _ => trivial⟩ (fun hS3 => ?_)
              clear hK K hS hb1 hA2 hB2
              refine wpAnyT_takesA (md := .any) 1 (by kernel_rfl) (by intro d v c a w h; cases d <;> exact h) [2, 3, 4, 5, 6, 7, 8, 9, 10, 11, 12, 13, 14, 15, 16, 17] _ _ _ (by decide) (by kernel_rfl) hS3 ?_
              simp only [pick, List.filterMap_cons, List.filterMap_nil, List.getElem?_cons_zero, List.getElem?_cons_succ]
              refine wpIf_step (.bool true) (by kernel_rfl) (fun w hw => by go_simp) ?_
              refine wpIf_step (.bool true) (by kernel_rfl) (fun w hw => by go_simp) ?_
              iterate 14 (refine wpIf_skip (by kernel_rfl) ?_)
              refine wpIf_nil (fun hS => ?_)
              refine wpAnyT_one 18 0 (by kernel_rfl) rfl (by kernel_rfl) (fun K hK => ?_)
              go_simp
              refine hK _ _ ⟨⟨hA3, hF3⟩, fun _ => trivial⟩ (fun hS4 => ?_)
              clear hK K
              refine wpAnyT_over (by kernel_rfl) ?_
              go_wp2
              go_ret
              exact ⟨ret_bool (by rw [HZ.out]; rfl), hB3⟩
            | true =>
              rcases Nat.eq_zero_or_pos k with hk0 | hk0
              · have Hk0 : Hid (¬ (0 : Int) < (k : Int)) := Lib.hid (by omega)
                have HO' : Hid (∀ j, j < k + 1 → okB its j = true) := Lib.hid (fun j hj => by
                  have : j = k := by omega
                  subst this; rw [HK.out]; subst hk0; rfl)
                clear hk0
                go_wp2
                generalize wr.alloc (iC S T D) = W at hA hB1 hF1 Hkc ⊢
                have hA2 : IAt W.drew wr.heap.size S T D ∧ FAt W.drew w.heap.size u t (.slice (some ⟨b, off, none⟩) its.length cap) := ⟨hA, hF1⟩
                have hB2 := hB1.drew
                clear hA hB1 hF1 Hkc c0 c1 c2 f2
                refine wp_region_T (fun w' => IAt w' wr.heap.size S T D ∧ FAt w' w.heap.size u t (.slice (some ⟨b, off, none⟩) its.length cap) ) (fun _ => True) 18 (by kernel_rfl) 19 rfl ?_
                refine wpAnyT_takesA (md := .any) 18 (by kernel_rfl) (by intro d v c a w h; cases d <;> exact h) [0] _ _ _ (by decide) (by kernel_rfl) ⟨hA2, fun _ => trivial⟩ ?_
                simp only [pick, List.filterMap_cons, List.filterMap_nil, List.getElem?_cons_zero]
                refine wpIf_step (itV S T D) (by kernel_rfl) (fun w hw => by have e0 := hw.1.c0; have e1 := hw.1.c1; have e2 := hw.1.c2; go_simp) ?_
                refine wpIf_nil (fun hS => ?_)
                refine wpAnyT_one 1 17 (by kernel_rfl) rfl (by kernel_rfl) (fun K hK => ?_)
                go_simp
                refine (HC.out _).mono ?_
                rintro e v1 ⟨rfl, hb1⟩
                have hA3 := hA2.1.keep hb1 (Nat.le_refl _)
                have hF3 := hA2.2.keep hb1 (Nat.le_refl _)
                have hB3 := hB2.trans (hb1.mono hB2.size)
                refine hK _ _ ⟨⟨hA3, hF3⟩, fun _ => trivial⟩ (fun hS3 => ?_)
                clear hK K hS hb1 hA2 hB2
                refine wpAnyT_takesA (md := .any) 1 (by kernel_rfl) (by intro d v c a w h; cases d <;> exact h) [2, 3, 4, 5, 6, 7, 8, 9, 10, 11, 12, 13, 14, 15, 16, 17] _ _ _ (by decide) (by kernel_rfl) hS3 ?_
                simp only [pick, List.filterMap_cons, List.filterMap_nil, List.getElem?_cons_zero, List.getElem?_cons_succ]
                refine wpIf_step (.bool false) (by kernel_rfl) (fun w hw => by go_simp) ?_
                refine wpIf_step (.bool false) (by kernel_rfl) (fun w hw => by go_simp) ?_
                refine wpIf_step (.int .i64 (k : Int)) (by kernel_rfl) (fun w hw => by go_simp) ?_
                refine wpIf_step (.bool false) (by kernel_rfl) (fun w hw => by have hk0 := Hk0.out; go_simp; try omega) ?_
                refine wpIf_step (.bool false) (by kernel_rfl) (fun w hw => by go_simp) ?_
                iterate 10 (refine wpIf_skip (by kernel_rfl) ?_)
                refine wpIf_step (.bool false) (by kernel_rfl) (fun w hw => by go_simp) ?_
                refine wpIf_nil (fun hS => ?_)
                refine wpAnyT_one 18 0 (by kernel_rfl) rfl (by kernel_rfl) (fun K hK => ?_)
                go_simp
                refine hK _ _ ⟨⟨hA3, hF3⟩, fun _ => trivial⟩ (fun hS4 => ?_)
                clear hK K
                refine wpAnyT_over (by kernel_rfl) ?_
                go_wp2
                go_roundw
                case rel => exact ⟨k + 1, by omega, by go_num, hF3, hB3, HO'⟩
                case measure => simp [intOf]; omega
              · obtain ⟨q, hq⟩ : ∃ q, k = q + 1 := ⟨k - 1, by omega⟩
                obtain ⟨c4, hord⟩ := HP.out q hq
                have hql : q < its.length := by omega
                obtain ⟨P, hP⟩ : ∃ P, P = its[q].id := ⟨_, rfl⟩
                rw [← hP] at c4 hord
                obtain ⟨L, hL⟩ : ∃ L, L = Op.bytesLess P.toList S.toList := ⟨_, rfl⟩
                rw [← hL] at hord
                have HLO := Lib.hid hord
                have HL := Lib.hid hL.symm
                have Hk1 : Hid ((0 : Int) < (k : Int)) := Lib.hid (by omega)
                have Hk2 : Hid (IntKind.i64.wrap ((k : Int) - 1) = (q : Int)) := Lib.hid (by rw [hq]; simp; exact IntWalk.i64_in _ (by omega))
                clear hq hord hL hP hk0
                go_wp2
                generalize wr.alloc (iC S T D) = W at hA hB1 hF1 Hkc ⊢
                have hA2 : IAt W.drew wr.heap.size S T D ∧ FAt W.drew w.heap.size u t (.slice (some ⟨b, off, none⟩) its.length cap) ∧ W.drew.cell? ⟨b, off + q * 3, none⟩ = some (.string P) := ⟨hA, hF1, Hkc.out _ _ c4⟩
                have hB2 := hB1.drew
                clear hA hB1 hF1 Hkc c0 c1 c2 f2 c4
                refine wp_region_T (fun w' => IAt w' wr.heap.size S T D ∧ FAt w' w.heap.size u t (.slice (some ⟨b, off, none⟩) its.length cap)  ∧ w'.cell? ⟨b, off + q * 3, none⟩ = some (.string P)) (fun _ => True) 18 (by kernel_rfl) 19 rfl ?_
                refine wpAnyT_takesA (md := .any) 18 (by kernel_rfl) (by intro d v c a w h; cases d <;> exact h) [0] _ _ _ (by decide) (by kernel_rfl) ⟨hA2, fun _ => trivial⟩ ?_
                simp only [pick, List.filterMap_cons, List.filterMap_nil, List.getElem?_cons_zero]
                refine wpIf_step (itV S T D) (by kernel_rfl) (fun w hw => by have e0 := hw.1.c0; have e1 := hw.1.c1; have e2 := hw.1.c2; go_simp) ?_
                refine wpIf_nil (fun hS => ?_)
                refine wpAnyT_one 1 17 (by kernel_rfl) rfl (by kernel_rfl) (fun K hK => ?_)
                go_simp
                refine (HC.out _).mono ?_
                rintro e v1 ⟨rfl, hb1⟩
                have hA3 := hA2.1.keep hb1 (Nat.le_refl _)
                have hF3 := hA2.2.1.keep hb1 (Nat.le_refl _)
                have hB3 := hB2.trans (hb1.mono hB2.size)
                have c5 : v1.cell? ⟨b, off + q * 3, none⟩ = some (.string P) := by rw [hb1.cell (p := ⟨b, off + q * 3, none⟩) (show b < W.drew.heap.size by have := hB2.size; omega)]; exact hA2.2.2
                refine hK _ _ ⟨⟨hA3, hF3, c5⟩, fun _ => trivial⟩ (fun hS3 => ?_)
                clear hK K hS hb1 hA2 hB2
                refine wpAnyT_takesA (md := .any) 1 (by kernel_rfl) (by intro d v c a w h; cases d <;> exact h) [2, 3, 4, 5, 6, 7, 8, 9, 10, 11, 12, 13, 14, 15, 16, 17] _ _ _ (by decide) (by kernel_rfl) hS3 ?_
                simp only [pick, List.filterMap_cons, List.filterMap_nil, List.getElem?_cons_zero, List.getElem?_cons_succ]
                refine wpIf_step (.bool false) (by kernel_rfl) (fun w hw => by go_simp) ?_
                refine wpIf_step (.bool false) (by kernel_rfl) (fun w hw => by go_simp) ?_
                refine wpIf_step (.int .i64 (k : Int)) (by kernel_rfl) (fun w hw => by go_simp) ?_
                refine wpIf_step (.bool true) (by kernel_rfl) (fun w hw => by have hk0 := Hk1.out; go_simp; try omega) ?_
                refine wpIf_step (.bool true) (by kernel_rfl) (fun w hw => by go_simp) ?_
                refine wpIf_step (.pointer (some ⟨w.heap.size, 2, none⟩)) (by kernel_rfl) (fun w hw => by have e0 := hw.1.c0; have e3 := hw.2.1.c2; have e4 := hw.2.2; go_simp) ?_
                refine wpIf_step (.slice (some ⟨b, off, none⟩) its.length cap) (by kernel_rfl) (fun w hw => by have e0 := hw.1.c0; have e3 := hw.2.1.c2; have e4 := hw.2.2; go_simp) ?_
                refine wpIf_step (.int .i64 (k : Int)) (by kernel_rfl) (fun w hw => by have e0 := hw.1.c0; have e3 := hw.2.1.c2; have e4 := hw.2.2; go_simp) ?_
                refine wpIf_step (.int .i64 (q : Int)) (by kernel_rfl) (fun w hw => by have e0 := hw.1.c0; have e3 := hw.2.1.c2; have e4 := hw.2.2; have hk2 := Hk2.out; go_simp) ?_
                refine wpIf_step (.pointer (some ⟨b, off + q * 3, none⟩)) (by kernel_rfl) (fun w hw => by have e0 := hw.1.c0; have e3 := hw.2.1.c2; have e4 := hw.2.2; go_simp) ?_
                refine wpIf_step (.pointer (some ⟨b, off + q * 3, none⟩)) (by kernel_rfl) (fun w hw => by have e0 := hw.1.c0; have e3 := hw.2.1.c2; have e4 := hw.2.2; go_simp) ?_
                refine wpIf_step (.string P) (by kernel_rfl) (fun w hw => by have e0 := hw.1.c0; have e3 := hw.2.1.c2; have e4 := hw.2.2; go_simp) ?_
                refine wpIf_step (.pointer (some ⟨wr.heap.size, 0, none⟩)) (by kernel_rfl) (fun w hw => by have e0 := hw.1.c0; have e3 := hw.2.1.c2; have e4 := hw.2.2; go_simp) ?_
                refine wpIf_step (.string S) (by kernel_rfl) (fun w hw => by have e0 := hw.1.c0; have e3 := hw.2.1.c2; have e4 := hw.2.2; go_simp) ?_
                refine wpIf_step (.bool (!L)) (by kernel_rfl) (fun w hw => by have e0 := hw.1.c0; have e3 := hw.2.1.c2; have e4 := hw.2.2; have hL := HL.out; go_simp) ?_
                refine wpIf_step (.bool (!L)) (by kernel_rfl) (fun w hw => by have e0 := hw.1.c0; have e3 := hw.2.1.c2; have e4 := hw.2.2; go_simp) ?_
                refine wpIf_nil (fun hS => ?_)
                refine wpAnyT_one 18 0 (by kernel_rfl) rfl (by kernel_rfl) (fun K hK => ?_)
                go_simp
                refine hK _ _ ⟨⟨hA3, hF3, c5⟩, fun _ => trivial⟩ (fun hS4 => ?_)
                clear hK K
                refine wpAnyT_over (by kernel_rfl) ?_
                cases L with
                | false =>
                  have HZ : Hid (itsB its = false) := Lib.hid (HX.out (by rw [HK.out, HLO.out]; rfl))
                  go_wp2
                  go_ret
                  exact ⟨ret_bool (by rw [HZ.out]; rfl), hB3⟩
                | true =>
                  have HO' : Hid (∀ j, j < k + 1 → okB its j = true) := Lib.hid (fun j hj => by
                    by_cases hjk : j = k
                    · subst hjk; rw [HK.out, HLO.out]; rfl
                    · exact HO.out j (by omega))
                  go_wp2
                  go_roundw
                  case rel => exact ⟨k + 1, by omega, by go_num, hF3, hB3, HO'⟩
                  case measure => simp [intOf]; omega
          · go_wp2
            go_ret
            exact ⟨ret_bool (by rw [its_end its k hlt HO.out]; simp [h12]), hB⟩
      · have h12' : (12 : Int) < (its.length : Int) := by omega
        go_wp2
        go_ret
        exact ⟨ret_bool (by simp [h12]), hB0⟩
end Go.Proofs.Ytffkakpbelknaaa

/- W9a -/
namespace Go.Proofs.Ytffkakpbelknaaa
open Go.ChangeShapes Go.WideShapes Go.ChangeAt Go.RowKit
set_option linter.unusedVariables false

def allB (n : Nat) (f : Nat → Bool) : Bool := (List.range n).all f
theorem allB_out {n : Nat} {f : Nat → Bool} (k : Nat) (h : k < n) (hf : f k = false) : allB n f = false := by
  cases hw : allB n f with
  | false => rfl
  | true =>
    unfold allB at hw
    have := List.all_eq_true.1 hw k (List.mem_range.2 h)
    rw [hf] at this
    cases this
theorem allB_end {n : Nat} {f : Nat → Bool} (k : Nat) (h : ¬ k < n) (hb : ∀ j, j < k → f j = true) : allB n f = true := by
  unfold allB
  refine List.all_eq_true.2 (fun j hj => hb j ?_)
  have := List.mem_range.1 hj
  omega
theorem allB_at {n : Nat} {f : Nat → Bool} (h : allB n f = true) (k : Nat) (hk : k < n) : f k = true := List.all_eq_true.1 h k (List.mem_range.2 hk)
theorem allB_and (n : Nat) (f g : Nat → Bool) : allB n (fun k => f k && g k) = (allB n f && allB n g) := by
  rw [Bool.eq_iff_iff]
  simp only [allB, List.all_eq_true, Bool.and_eq_true]
  exact ⟨fun h => ⟨fun j hj => (h j hj).1, fun j hj => (h j hj).2⟩, fun h j hj => ⟨h.1 j hj, h.2 j hj⟩⟩
theorem allB_congr (n : Nat) (f g : Nat → Bool) (h : ∀ k, k < n → f k = g k) : allB n f = allB n g := by
  rw [Bool.eq_iff_iff]
  simp only [allB, List.all_eq_true]
  exact ⟨fun a j hj => by rw [← h j (List.mem_range.1 hj)]; exact a j hj, fun a j hj => by rw [h j (List.mem_range.1 hj)]; exact a j hj⟩
/-- The k-th key is above the one ahead of it. -/
def ordK (ks : List ByteArray) (k : Nat) : Bool := match k with
  | 0 => true
  | q + 1 => match ks[q]?, ks[q + 1]? with
    | some x, some y => Op.bytesLess x.toList y.toList
    | _, _ => true
theorem ordK_at {α : Type} (f : α → ByteArray) (l : List α) (q : Nat) (h : q + 1 < l.length) : ordK (l.map f) (q + 1) = Op.bytesLess (f l[q]).toList (f l[q + 1]).toList := by
  show (match (l.map f)[q]?, (l.map f)[q + 1]? with | some x, some y => Op.bytesLess x.toList y.toList | _, _ => true) = _
  rw [List.getElem?_map, List.getElem?_map, List.getElem?_eq_getElem h, List.getElem?_eq_getElem (show q < l.length by omega)]
  rfl
def risB (ks : List ByteArray) : Bool := allB ks.length (ordK ks)

structure En where
  it : It
  rd : Bool
  st : Bool
abbrev enV (s t : ByteArray) (d : Int) (r b : Bool) : Value := .agg #[.string s, .string t, .int .i64 d, .bool r, .bool b]
def enC (x : En) : List Value := [.string x.it.id, .string x.it.ti, .int .i64 x.it.da, .bool x.rd, .bool x.st]
theorem enC_len (x : En) : (enC x).length = 5 := rfl
abbrev en0 : En := ⟨⟨ByteArray.empty, ByteArray.empty, 0⟩, false, false⟩
def EnSz (x : En) : Prop := x.it.id.size ≤ maxLen ∧ x.it.ti.size ≤ maxLen
def EnAt (w : World) (B : Nat) (v : Value) (es : List En) : Prop := RecAt 5 enC w B v es ∧ ∀ x ∈ es, EnSz x
theorem EnAt.raw {w : World} {B : Nat} {v : Value} {es : List En} (h : EnAt w B v es) : ∃ a cap, v = .slice a es.length cap ∧ es.length ≤ cap ∧ cap ≤ maxLen ∧
    ∀ j, j < es.length → ∃ b off, a = some ⟨b, off, none⟩ ∧ b < B ∧ ∀ i (h : i < es.length), w.cell? ⟨b, off + i * 5, none⟩ = some (.string es[i].it.id) ∧ w.cell? ⟨b, off + i * 5 + 1, none⟩ = some (.string es[i].it.ti) ∧ w.cell? ⟨b, off + i * 5 + 2, none⟩ = some (.int .i64 es[i].it.da) ∧ w.cell? ⟨b, off + i * 5 + 3, none⟩ = some (.bool es[i].rd) ∧ w.cell? ⟨b, off + i * 5 + 4, none⟩ = some (.bool es[i].st) ∧ es[i].it.id.size ≤ maxLen ∧ es[i].it.ti.size ≤ maxLen := by
  obtain ⟨⟨a, cap, hv, h1, h2, hc⟩, hs⟩ := h
  refine ⟨a, cap, hv, h1, h2, fun j hj => ?_⟩
  obtain ⟨b, off, ha, hB, hr⟩ := hc (by omega)
  exact ⟨b, off, ha, hB, fun i hi => ⟨hr i hi 0 _ rfl, hr i hi 1 _ rfl, hr i hi 2 _ rfl, hr i hi 3 _ rfl, hr i hi 4 _ rfl, (hs _ (List.getElem_mem hi)).1, (hs _ (List.getElem_mem hi)).2⟩⟩
theorem EnAt.below {w w' : World} {B : Nat} {v : Value} {es : List En} (h : EnAt w B v es) (hb : Below B w w') : EnAt w' B v es := ⟨h.1.below hb, h.2⟩
theorem EnAt.mono {w : World} {B B' : Nat} {v : Value} {es : List En} (h : EnAt w B v es) (hb : B ≤ B') : EnAt w B' v es := ⟨h.1.mono hb, h.2⟩
theorem EnAt.drew {w : World} {B : Nat} {v : Value} {es : List En} (h : EnAt w B v es) : EnAt w.drew B v es := h
theorem EnAt.of_own {e : TypeId} {w : World} {base : Nat} {v : Value} {es : List En} (h : OwnR e 5 enC w base v es) (hs : ∀ x ∈ es, EnSz x) : EnAt w w.heap.size v es := ⟨h.at enC_len, hs⟩

structure Sb where
  u : ByteArray
  t : ByteArray
  es : List En
abbrev sbV (u t : ByteArray) (x : Value) : Value := .agg #[.string u, .string t, x]
def sbC (p : Sb × Value) : List Value := [.string p.1.u, .string p.1.t, p.2]
theorem sbC_len (p : Sb × Value) : (sbC p).length = 3 := rfl
def SbSz (s : Sb) : Prop := s.u.size ≤ maxLen ∧ s.t.size ≤ maxLen
def SbAt (w : World) (B : Nat) (v : Value) (ss : List Sb) : Prop := ∃ ps : List (Sb × Value), ps.map Prod.fst = ss ∧ RecAt 3 sbC w B v ps ∧ ∀ p ∈ ps, EnAt w B p.2 p.1.es ∧ SbSz p.1
theorem SbAt.raw {w : World} {B : Nat} {v : Value} {ss : List Sb} (h : SbAt w B v ss) : ∃ a cap, v = .slice a ss.length cap ∧ ss.length ≤ cap ∧ cap ≤ maxLen ∧
    ∀ j, j < ss.length → ∃ b off, a = some ⟨b, off, none⟩ ∧ b < B ∧ ∀ i (h : i < ss.length), ∃ x, w.cell? ⟨b, off + i * 3, none⟩ = some (.string ss[i].u) ∧ w.cell? ⟨b, off + i * 3 + 1, none⟩ = some (.string ss[i].t) ∧ w.cell? ⟨b, off + i * 3 + 2, none⟩ = some x ∧ EnAt w B x ss[i].es ∧ ss[i].u.size ≤ maxLen ∧ ss[i].t.size ≤ maxLen := by
  obtain ⟨ps, rfl, ⟨a, cap, hv, h1, h2, hc⟩, hs⟩ := h
  refine ⟨a, cap, by rw [List.length_map]; exact hv, by rw [List.length_map]; exact h1, h2, fun j hj => ?_⟩
  rw [List.length_map] at hj
  obtain ⟨b, off, ha, hB, hr⟩ := hc (by omega)
  refine ⟨b, off, ha, hB, fun i hi => ?_⟩
  have hi' : i < ps.length := by rwa [List.length_map] at hi
  have hm := hs _ (List.getElem_mem hi')
  rw [List.getElem_map]
  exact ⟨_, hr i hi' 0 _ rfl, hr i hi' 1 _ rfl, hr i hi' 2 _ rfl, hm.1, hm.2.1, hm.2.2⟩
theorem SbAt.below {w w' : World} {B : Nat} {v : Value} {ss : List Sb} (h : SbAt w B v ss) (hb : Below B w w') : SbAt w' B v ss := by
  obtain ⟨ps, h1, h2, h3⟩ := h
  exact ⟨ps, h1, h2.below hb, fun p hp => ⟨(h3 p hp).1.below hb, (h3 p hp).2⟩⟩
theorem SbAt.mono {w : World} {B B' : Nat} {v : Value} {ss : List Sb} (h : SbAt w B v ss) (hb : B ≤ B') : SbAt w B' v ss := by
  obtain ⟨ps, h1, h2, h3⟩ := h
  exact ⟨ps, h1, h2.mono hb, fun p hp => ⟨(h3 p hp).1.mono hb, (h3 p hp).2⟩⟩
theorem SbAt.drew {w : World} {B : Nat} {v : Value} {ss : List Sb} (h : SbAt w B v ss) : SbAt w.drew B v ss := h
theorem SbAt.size {w : World} {B : Nat} {v : Value} {ss : List Sb} (h : SbAt w B v ss) : ∀ s ∈ ss, SbSz s ∧ ∀ x ∈ s.es, EnSz x := by
  obtain ⟨ps, rfl, _, h3⟩ := h
  intro s hs
  obtain ⟨p, hp, rfl⟩ := List.mem_map.1 hs
  exact ⟨(h3 p hp).2, (h3 p hp).1.2⟩

/-- What is right. -/
def enB (es : List En) (k : Nat) : Bool := match es[k]? with
  | some x => itB x.it.id x.it.ti x.it.da
  | none => true
theorem enB_at (es : List En) (k : Nat) (h : k < es.length) : enB es k = itB es[k].it.id es[k].it.ti es[k].it.da := by
  unfold enB; rw [List.getElem?_eq_getElem h]
def enKs (es : List En) : List ByteArray := es.map fun x => x.it.id
def ensB (es : List En) : Bool := allB es.length (enB es) && risB (enKs es)
def sbB (s : Sb) : Bool := nmB s.u 20 && ttB s.t && decide (s.es.length ≤ 12) && ensB s.es
def sbsB (ss : List Sb) (k : Nat) : Bool := match ss[k]? with
  | some x => sbB x
  | none => true
theorem sbsB_at (ss : List Sb) (k : Nat) (h : k < ss.length) : sbsB ss k = sbB ss[k] := by
  unfold sbsB; rw [List.getElem?_eq_getElem h]
def sbKs (ss : List Sb) : List ByteArray := ss.map fun x => x.u
def rdB (ss : List Sb) : Bool := decide (ss.length ≤ 6) && (allB ss.length (sbsB ss) && risB (sbKs ss))
end Go.Proofs.Ytffkakpbelknaaa
