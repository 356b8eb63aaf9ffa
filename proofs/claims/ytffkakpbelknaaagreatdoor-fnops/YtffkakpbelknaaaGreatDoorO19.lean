/- Parts of the proof. -/
import Derived.IntWalk
import Derived.Laws.Cover1
import Derived.Test.YtffkakpbelknaaaGreatDoorO17
import Derived.Test.YtffkakpbelknaaaGreatDoorO18
set_option maxHeartbeats 4000000
set_option maxRecDepth 100000
namespace Go.Proofs.YtffkakpbelknaaaGreatDoor
open Go.ChangeShapes Go.WideShapes Go.ChangeAt Go.RowKit
set_option linter.unusedVariables false
theorem implFeedOk_any (u t : ByteArray) (v : Value) (its : List It) (w : World) (hu : u.size <= maxLen) (ht : t.size <= maxLen) (h : ItAt w w.heap.size v its) :
  Calls Tryz.prog 11 #[fV u t v] w fun e w' => e = .returned (.bool (fdB u t its)) /\ Below w.heap.size w w' := by
 have HN := Lib.hid (fun w => isName_any u 20 w hu)
 have HT := Lib.hid (fun w => isTitle_any t w ht)
 have HI := Lib.hid h
 obtain ⟨a, cap, rfl, hl, hm, hc⟩ := h.raw
 clear hc h
 unfold maxLen at hm
 have hB0 : Below w.heap.size w (w.alloc (fC u t (.slice a its.length cap))) := (Below.refl _ _).alloc (Nat.le_refl _) _
 have hF0 := FAt.new w u t (.slice a its.length cap)
 have HE : Hid (fdB u t its = (itsB its && (nmB u 20 && ttB t && decide (its.length <= 12)))) := Lib.hid rfl
 rw [HE.out]
 clear HE
 generalize nmB u 20 = A at HN ⊢
 generalize ttB t = B at HT ⊢
 go_enter Tryz.func11, Tryz.ntmps11
 go_wp2_with fail
 refine (HN.out _).mono ?_
 rintro e w1 ⟨rfl, rfl⟩
 cases A with
 | false =>
  go_wp2
  go_ret
  exact ⟨ret_bool (by simp), hB0⟩
 | true =>
  go_wp2_with fail
  refine (HT.out _).mono ?_
  rintro e w2 ⟨rfl, rfl⟩
  cases B with
  | false =>
   go_wp2
   go_ret
   exact ⟨ret_bool (by simp), hB0⟩
  | true =>
   by_cases h12 : its.length <= 12
   ·have h12' : decide ((12 : Int) < (its.length : Int)) = false := decide_eq_false (by omega)
    go_wp2
    go_loopw [24] (fun i wr => ∃ k : Nat, k <= its.length /\ i = .int .i64 (k : Int) /\ FAt wr w.heap.size u t (.slice a its.length cap) /\ Below w.heap.size w wr /\ Hid (∀ j, j < k -> okB its j = true)) (fun i _ => its.length - (intOf i).toNat)
    case atStart => exact ⟨0, Nat.zero_le _, rfl, hF0, hB0, Lib.hid (fun j hj => by omega)⟩
    case round =>
     obtain ⟨k, hk, rfl, hF, hB, HO⟩ := hrel
     by_cases hlt : k < its.length
     ·obtain ⟨a', cap', hv, _, _, hc⟩ := (HI.out.below hB).raw
      cases hv
      obtain ⟨b, off, rfl, hb, hr⟩ := hc k hlt
      obtain ⟨c0, c1, c2, s0, s1⟩ := hr k hlt
      have HC := Lib.hid (fun w => itemOk_any its[k].id its[k].ti its[k].da w s0 s1)
      have HK := Lib.hid (okB_at its k hlt)
      have HX := Lib.hid (its_out its k hlt)
      have HP : Hid (∀ q (hq : k = q + 1), wr.cell? ⟨b, off + q * 3, none⟩ = some (.string (its[q]'(by omega)).id) /\ ordB its k = Op.bytesLess (its[q]'(by omega)).id.toList its[k].id.toList) := Lib.hid (fun q hq => by subst hq; exact ⟨(hr q (by omega)).1, ordB_at its q hlt⟩)
      generalize itB its[k].id its[k].ti its[k].da = R at HC HK
      obtain ⟨S, hS⟩ : ∃ S, S = its[k].id := ⟨_, rfl⟩
      obtain ⟨T, hT⟩ : ∃ T, T = its[k].ti := ⟨_, rfl⟩
      obtain ⟨D, hD⟩ : ∃ D, D = its[k].da := ⟨_, rfl⟩
      rw [<- hS] at c0 HC HP
      rw [<- hT] at c1 HC
      rw [<- hD] at c2 HC
      have hA := IAt.new wr S T D
      have hB1 : Below w.heap.size w (wr.alloc (iC S T D)) := hB.alloc hB.size _
      have hF1 := hF.keep ((Below.refl wr.heap.size wr).alloc (Nat.le_refl _) (iC S T D)) (Nat.le_refl _)
      have hkc : ∀ o x, wr.cell? ⟨b, o, none⟩ = some x -> (wr.alloc (iC S T D)).cell? ⟨b, o, none⟩ = some x := fun o x hx => by
       rw [((Below.refl wr.heap.size wr).alloc (Nat.le_refl _) (iC S T D)).cell (p := ⟨b, o, none⟩) (show b < wr.heap.size by have := hB.size; omega)]; exact hx
      have Hkc := Lib.hid hkc
      have f2 := hF.c2
      clear hkc hr hc hS hT hD s0 s1 hF
      cases R with
      | false =>
       have HZ : Hid (itsB its = false) := Lib.hid (HX.out (by rw [HK.out]; rfl))
       go_wp2
       generalize wr.alloc (iC S T D) = W at hA hB1 hF1 Hkc ⊢
       have hA2 : IAt W.drew wr.heap.size S T D /\ FAt W.drew w.heap.size u t (.slice (some ⟨b, off, none⟩) its.length cap) := ⟨hA, hF1⟩
       have hB2 := hB1.drew
       clear hA hB1 hF1 Hkc c0 c1 c2 f2
       refine wp_region_T (fun w' => IAt w' wr.heap.size S T D /\ FAt w' w.heap.size u t (.slice (some ⟨b, off, none⟩) its.length cap)) (fun _ => True) 18 (by kernel_rfl) 19 rfl ?_
       refine wA 18 [0] ⟨hA2, fun _ => trivial⟩ ?_
       simp only [pick, List.filterMap_cons, List.filterMap_nil, List.getElem?_cons_zero]
       refine wS (itV S T D) (fun w hw => by have e0 := hw.1.c0; have e1 := hw.1.c1; have e2 := hw.1.c2; go_simp) ?_
       refine wpIf_nil (fun hS => ?_)
       refine wO 1 17 (fun K hK => ?_)
       go_simp
       refine (HC.out _).mono ?_
       rintro e v1 ⟨rfl, hb1⟩
       have hA3 := hA2.1.keep hb1 (Nat.le_refl _)
       have hF3 := hA2.2.keep hb1 (Nat.le_refl _)
       have hB3 := hB2.trans (hb1.mono hB2.size)
       refine hK _ _ ⟨⟨hA3, hF3⟩, fun _ => trivial⟩ (fun hS3 => ?_)
       clear hK K hS hb1 hA2 hB2
       refine wA 1 [2, 3, 4, 5, 6, 7, 8, 9, 10, 11, 12, 13, 14, 15, 16, 17] hS3 ?_
       simp only [pick, List.filterMap_cons, List.filterMap_nil, List.getElem?_cons_zero, List.getElem?_cons_succ]
       refine wS (.bool true) (fun w hw => by go_simp) ?_
       refine wS (.bool true) (fun w hw => by go_simp) ?_
       iterate 14 (refine wpIf_skip (by kernel_rfl) ?_)
       refine wpIf_nil (fun hS => ?_)
       refine wO 18 0 (fun K hK => ?_)
       go_simp
       refine hK _ _ ⟨⟨hA3, hF3⟩, fun _ => trivial⟩ (fun hS4 => ?_)
       clear hK K
       refine wpAnyT_over (by kernel_rfl) ?_
       go_wp2
       go_ret
       exact ⟨ret_bool (by rw [HZ.out]; rfl), hB3⟩
      | true =>
       rcases Nat.eq_zero_or_pos k with hk0 | hk0
       ·have Hk0 : Hid (¬ (0 : Int) < (k : Int)) := Lib.hid (by omega)
        have HO' : Hid (∀ j, j < k + 1 -> okB its j = true) := Lib.hid (fun j hj => by
         have : j = k := by omega
         subst this; rw [HK.out]; subst hk0; rfl)
        clear hk0
        go_wp2
        generalize wr.alloc (iC S T D) = W at hA hB1 hF1 Hkc ⊢
        have hA2 : IAt W.drew wr.heap.size S T D /\ FAt W.drew w.heap.size u t (.slice (some ⟨b, off, none⟩) its.length cap) := ⟨hA, hF1⟩
        have hB2 := hB1.drew
        clear hA hB1 hF1 Hkc c0 c1 c2 f2
        refine wp_region_T (fun w' => IAt w' wr.heap.size S T D /\ FAt w' w.heap.size u t (.slice (some ⟨b, off, none⟩) its.length cap) ) (fun _ => True) 18 (by kernel_rfl) 19 rfl ?_
        refine wA 18 [0] ⟨hA2, fun _ => trivial⟩ ?_
        simp only [pick, List.filterMap_cons, List.filterMap_nil, List.getElem?_cons_zero]
        refine wS (itV S T D) (fun w hw => by have e0 := hw.1.c0; have e1 := hw.1.c1; have e2 := hw.1.c2; go_simp) ?_
        refine wpIf_nil (fun hS => ?_)
        refine wO 1 17 (fun K hK => ?_)
        go_simp
        refine (HC.out _).mono ?_
        rintro e v1 ⟨rfl, hb1⟩
        have hA3 := hA2.1.keep hb1 (Nat.le_refl _)
        have hF3 := hA2.2.keep hb1 (Nat.le_refl _)
        have hB3 := hB2.trans (hb1.mono hB2.size)
        refine hK _ _ ⟨⟨hA3, hF3⟩, fun _ => trivial⟩ (fun hS3 => ?_)
        clear hK K hS hb1 hA2 hB2
        refine wA 1 [2, 3, 4, 5, 6, 7, 8, 9, 10, 11, 12, 13, 14, 15, 16, 17] hS3 ?_
        simp only [pick, List.filterMap_cons, List.filterMap_nil, List.getElem?_cons_zero, List.getElem?_cons_succ]
        refine wS (.bool false) (fun w hw => by go_simp) ?_
        refine wS (.bool false) (fun w hw => by go_simp) ?_
        refine wS (.int .i64 (k : Int)) (fun w hw => by go_simp) ?_
        refine wS (.bool false) (fun w hw => by have hk0 := Hk0.out; go_simp; try omega) ?_
        refine wS (.bool false) (fun w hw => by go_simp) ?_
        iterate 10 (refine wpIf_skip (by kernel_rfl) ?_)
        refine wS (.bool false) (fun w hw => by go_simp) ?_
        refine wpIf_nil (fun hS => ?_)
        refine wO 18 0 (fun K hK => ?_)
        go_simp
        refine hK _ _ ⟨⟨hA3, hF3⟩, fun _ => trivial⟩ (fun hS4 => ?_)
        clear hK K
        refine wpAnyT_over (by kernel_rfl) ?_
        go_wp2
        go_roundw
        case rel => exact ⟨k + 1, by omega, by go_num, hF3, hB3, HO'⟩
        case measure => simp [intOf]; omega
       ·obtain ⟨q, hq⟩ : ∃ q, k = q + 1 := ⟨k - 1, by omega⟩
        obtain ⟨c4, hord⟩ := HP.out q hq
        have hql : q < its.length := by omega
        obtain ⟨P, hP⟩ : ∃ P, P = its[q].id := ⟨_, rfl⟩
        rw [<- hP] at c4 hord
        obtain ⟨L, hL⟩ : ∃ L, L = Op.bytesLess P.toList S.toList := ⟨_, rfl⟩
        rw [<- hL] at hord
        have HLO := Lib.hid hord
        have HL := Lib.hid hL.symm
        have Hk1 : Hid ((0 : Int) < (k : Int)) := Lib.hid (by omega)
        have Hk2 : Hid (IntKind.i64.wrap ((k : Int) - 1) = (q : Int)) := Lib.hid (by rw [hq]; simp; exact IntWalk.i64_in _ (by omega))
        clear hq hord hL hP hk0
        go_wp2
        generalize wr.alloc (iC S T D) = W at hA hB1 hF1 Hkc ⊢
        have hA2 : IAt W.drew wr.heap.size S T D /\ FAt W.drew w.heap.size u t (.slice (some ⟨b, off, none⟩) its.length cap) /\ W.drew.cell? ⟨b, off + q * 3, none⟩ = some (.string P) := ⟨hA, hF1, Hkc.out _ _ c4⟩
        have hB2 := hB1.drew
        clear hA hB1 hF1 Hkc c0 c1 c2 f2 c4
        refine wp_region_T (fun w' => IAt w' wr.heap.size S T D /\ FAt w' w.heap.size u t (.slice (some ⟨b, off, none⟩) its.length cap)  /\ w'.cell? ⟨b, off + q * 3, none⟩ = some (.string P)) (fun _ => True) 18 (by kernel_rfl) 19 rfl ?_
        refine wA 18 [0] ⟨hA2, fun _ => trivial⟩ ?_
        simp only [pick, List.filterMap_cons, List.filterMap_nil, List.getElem?_cons_zero]
        refine wS (itV S T D) (fun w hw => by have e0 := hw.1.c0; have e1 := hw.1.c1; have e2 := hw.1.c2; go_simp) ?_
        refine wpIf_nil (fun hS => ?_)
        refine wO 1 17 (fun K hK => ?_)
        go_simp
        refine (HC.out _).mono ?_
        rintro e v1 ⟨rfl, hb1⟩
        have hA3 := hA2.1.keep hb1 (Nat.le_refl _)
        have hF3 := hA2.2.1.keep hb1 (Nat.le_refl _)
        have hB3 := hB2.trans (hb1.mono hB2.size)
        have c5 : v1.cell? ⟨b, off + q * 3, none⟩ = some (.string P) := by rw [hb1.cell (p := ⟨b, off + q * 3, none⟩) (show b < W.drew.heap.size by have := hB2.size; omega)]; exact hA2.2.2
        refine hK _ _ ⟨⟨hA3, hF3, c5⟩, fun _ => trivial⟩ (fun hS3 => ?_)
        clear hK K hS hb1 hA2 hB2
        refine wA 1 [2, 3, 4, 5, 6, 7, 8, 9, 10, 11, 12, 13, 14, 15, 16, 17] hS3 ?_
        simp only [pick, List.filterMap_cons, List.filterMap_nil, List.getElem?_cons_zero, List.getElem?_cons_succ]
        refine wS (.bool false) (fun w hw => by go_simp) ?_
        refine wS (.bool false) (fun w hw => by go_simp) ?_
        refine wS (.int .i64 (k : Int)) (fun w hw => by go_simp) ?_
        refine wS (.bool true) (fun w hw => by have hk0 := Hk1.out; go_simp; try omega) ?_
        refine wS (.bool true) (fun w hw => by go_simp) ?_
        refine wS (.pointer (some ⟨w.heap.size, 2, none⟩)) (fun w hw => by have e0 := hw.1.c0; have e3 := hw.2.1.c2; have e4 := hw.2.2; go_simp) ?_
        refine wS (.slice (some ⟨b, off, none⟩) its.length cap) (fun w hw => by have e0 := hw.1.c0; have e3 := hw.2.1.c2; have e4 := hw.2.2; go_simp) ?_
        refine wS (.int .i64 (k : Int)) (fun w hw => by have e0 := hw.1.c0; have e3 := hw.2.1.c2; have e4 := hw.2.2; go_simp) ?_
        refine wS (.int .i64 (q : Int)) (fun w hw => by have e0 := hw.1.c0; have e3 := hw.2.1.c2; have e4 := hw.2.2; have hk2 := Hk2.out; go_simp) ?_
        refine wS (.pointer (some ⟨b, off + q * 3, none⟩)) (fun w hw => by have e0 := hw.1.c0; have e3 := hw.2.1.c2; have e4 := hw.2.2; go_simp) ?_
        refine wS (.pointer (some ⟨b, off + q * 3, none⟩)) (fun w hw => by have e0 := hw.1.c0; have e3 := hw.2.1.c2; have e4 := hw.2.2; go_simp) ?_
        refine wS (.string P) (fun w hw => by have e0 := hw.1.c0; have e3 := hw.2.1.c2; have e4 := hw.2.2; go_simp) ?_
        refine wS (.pointer (some ⟨wr.heap.size, 0, none⟩)) (fun w hw => by have e0 := hw.1.c0; have e3 := hw.2.1.c2; have e4 := hw.2.2; go_simp) ?_
        refine wS (.string S) (fun w hw => by have e0 := hw.1.c0; have e3 := hw.2.1.c2; have e4 := hw.2.2; go_simp) ?_
        refine wS (.bool (!L)) (fun w hw => by have e0 := hw.1.c0; have e3 := hw.2.1.c2; have e4 := hw.2.2; have hL := HL.out; go_simp) ?_
        refine wS (.bool (!L)) (fun w hw => by have e0 := hw.1.c0; have e3 := hw.2.1.c2; have e4 := hw.2.2; go_simp) ?_
        refine wpIf_nil (fun hS => ?_)
        refine wO 18 0 (fun K hK => ?_)
        go_simp
        refine hK _ _ ⟨⟨hA3, hF3, c5⟩, fun _ => trivial⟩ (fun hS4 => ?_)
        clear hK K
        refine wpAnyT_over (by kernel_rfl) ?_
        cases L with
        | false =>
         have HZ : Hid (itsB its = false) := Lib.hid (HX.out (by rw [HK.out, HLO.out]; rfl))
         go_wp2
         go_ret
         exact ⟨ret_bool (by rw [HZ.out]; rfl), hB3⟩
        | true =>
         have HO' : Hid (∀ j, j < k + 1 -> okB its j = true) := Lib.hid (fun j hj => by
          by_cases hjk : j = k
          ·subst hjk; rw [HK.out, HLO.out]; rfl
          ·exact HO.out j (by omega))
         go_wp2
         go_roundw
         case rel => exact ⟨k + 1, by omega, by go_num, hF3, hB3, HO'⟩
         case measure => simp [intOf]; omega
     ·go_wp2
      go_ret
      exact ⟨ret_bool (by rw [its_end its k hlt HO.out]; simp [h12]), hB⟩
   ·have h12' : (12 : Int) < (its.length : Int) := by omega
    go_wp2
    go_ret
    exact ⟨ret_bool (by simp [h12]), hB0⟩
end Go.Proofs.YtffkakpbelknaaaGreatDoor
namespace Go.Proofs.YtffkakpbelknaaaGreatDoor
open Go.ChangeShapes Go.WideShapes Go.ChangeAt Go.RowKit
set_option linter.unusedVariables false
theorem specFeedOk_any (u t : ByteArray) (v : Value) (its : List It) (w : World) (hu : u.size <= maxLen) (ht : t.size <= maxLen) (h : ItAt w w.heap.size v its) :
  Calls Tryz.prog 12 #[fV u t v] w fun e w' => e = .returned (.bool (fdB u t its)) /\ Below w.heap.size w w' := by
 have HN := Lib.hid (fun w => l8Name_any u 20 w hu)
 have HT := Lib.hid (fun w => l8Title_any t w ht)
 have HI := Lib.hid h
 obtain ⟨a, cap, rfl, hl, hm, hc⟩ := h.raw
 clear hc h
 unfold maxLen at hm
 have hB0 : Below w.heap.size w (w.alloc (fC u t (.slice a its.length cap))) := (Below.refl _ _).alloc (Nat.le_refl _) _
 have hF0 := FAt.new w u t (.slice a its.length cap)
 have HE : Hid (fdB u t its = (itsB its && (nmB u 20 && ttB t && decide (its.length <= 12)))) := Lib.hid rfl
 rw [HE.out]
 clear HE
 generalize nmB u 20 = A at HN ⊢
 generalize ttB t = B at HT ⊢
 go_enter Tryz.func12, Tryz.ntmps12
 go_wp2
 go_loopw [3] (fun i wr => ∃ k : Nat, k <= its.length /\ i = .int .i64 (k : Int) /\ FAt wr w.heap.size u t (.slice a its.length cap) /\ Below w.heap.size w wr /\ Hid (∀ j, j < k -> okB its j = true)) (fun i _ => its.length - (intOf i).toNat)
 case atStart => exact ⟨0, Nat.zero_le _, rfl, hF0, hB0, Lib.hid (fun j hj => by omega)⟩
 case round =>
  obtain ⟨k, hk, rfl, hF, hB, HO⟩ := hrel
  have f2 := hF.c2
  by_cases hlt : k < its.length
  ·obtain ⟨a', cap', hv, _, _, hc⟩ := (HI.out.below hB).raw
   cases hv
   obtain ⟨b, off, rfl, hb, hr⟩ := hc k hlt
   obtain ⟨c0, c1, c2, s0, s1⟩ := hr k hlt
   have HC := Lib.hid (fun w => l8Item_any its[k].id its[k].ti its[k].da w s0 s1)
   have HK := Lib.hid (okB_at its k hlt)
   have HX := Lib.hid (its_out its k hlt)
   have HP : Hid (∀ q (hq : k = q + 1), wr.cell? ⟨b, off + q * 3, none⟩ = some (.string (its[q]'(by omega)).id) /\ ordB its k = Op.bytesLess (its[q]'(by omega)).id.toList its[k].id.toList) := Lib.hid (fun q hq => by subst hq; exact ⟨(hr q (by omega)).1, ordB_at its q hlt⟩)
   generalize itB its[k].id its[k].ti its[k].da = R at HC HK
   obtain ⟨S, hS⟩ : ∃ S, S = its[k].id := ⟨_, rfl⟩
   obtain ⟨T, hT⟩ : ∃ T, T = its[k].ti := ⟨_, rfl⟩
   obtain ⟨D, hD⟩ : ∃ D, D = its[k].da := ⟨_, rfl⟩
   rw [<- hS] at c0 HC HP
   rw [<- hT] at c1 HC
   rw [<- hD] at c2 HC
   clear hr hc hS hT hD s0 s1
   cases R with
   | false =>
    have HZ : Hid (itsB its = false) := Lib.hid (HX.out (by rw [HK.out]; rfl))
    go_wp2
    have hA2 : (fun w' => FAt w' w.heap.size u t (.slice (some ⟨b, off, none⟩) its.length cap) /\ w'.cell? ⟨b, off + k * 3, none⟩ = some (.string S) /\ w'.cell? ⟨b, off + k * 3 + 1, none⟩ = some (.string T) /\ w'.cell? ⟨b, off + k * 3 + 2, none⟩ = some (.int .i64 D)) wr.drew := ⟨hF, c0, c1, c2⟩
    have hB2 := hB.drew
    clear hF hB c0 c1 c2 f2
    refine wp_region_T (fun w' => FAt w' w.heap.size u t (.slice (some ⟨b, off, none⟩) its.length cap) /\ w'.cell? ⟨b, off + k * 3, none⟩ = some (.string S) /\ w'.cell? ⟨b, off + k * 3 + 1, none⟩ = some (.string T) /\ w'.cell? ⟨b, off + k * 3 + 2, none⟩ = some (.int .i64 D)) (fun _ => True) 26 (by kernel_rfl) 27 rfl ?_
    refine wA 22 [0, 1, 2, 3, 4] ⟨hA2, fun _ => trivial⟩ ?_
    simp only [pick, List.filterMap_cons, List.filterMap_nil, List.getElem?_cons_zero, List.getElem?_cons_succ]
    refine wS (.pointer (some ⟨w.heap.size, 2, none⟩)) (fun w hw => by have e3 := hw.1.c2; have e0 := hw.2.1; have e1 := hw.2.2.1; have e2 := hw.2.2.2; go_simp) ?_
    refine wS (.slice (some ⟨b, off, none⟩) its.length cap) (fun w hw => by have e3 := hw.1.c2; have e0 := hw.2.1; have e1 := hw.2.2.1; have e2 := hw.2.2.2; go_simp) ?_
    refine wS (.int .i64 (k : Int)) (fun w hw => by have e3 := hw.1.c2; have e0 := hw.2.1; have e1 := hw.2.2.1; have e2 := hw.2.2.2; go_simp) ?_
    refine wS (.pointer (some ⟨b, off + k * 3, none⟩)) (fun w hw => by have e3 := hw.1.c2; have e0 := hw.2.1; have e1 := hw.2.2.1; have e2 := hw.2.2.2; go_simp) ?_
    refine wS (itV S T D) (fun w hw => by have e3 := hw.1.c2; have e0 := hw.2.1; have e1 := hw.2.2.1; have e2 := hw.2.2.2; go_simp) ?_
    refine wpIf_nil (fun hS => ?_)
    refine wO 5 21 (fun K hK => ?_)
    go_simp
    refine (HC.out _).mono ?_
    rintro e v1 ⟨rfl, hb1⟩
    have hbl : b < wr.drew.heap.size := by have := hB2.size; omega
    have hkc : ∀ o x, wr.drew.cell? ⟨b, o, none⟩ = some x -> v1.cell? ⟨b, o, none⟩ = some x := fun o x hx => by rw [hb1.cell (p := ⟨b, o, none⟩) hbl]; exact hx
    have hF3 := hA2.1.keep hb1 (Nat.le_refl _)
    have hA3 : (fun w' => FAt w' w.heap.size u t (.slice (some ⟨b, off, none⟩) its.length cap) /\ w'.cell? ⟨b, off + k * 3, none⟩ = some (.string S) /\ w'.cell? ⟨b, off + k * 3 + 1, none⟩ = some (.string T) /\ w'.cell? ⟨b, off + k * 3 + 2, none⟩ = some (.int .i64 D)) v1 := ⟨hF3, hkc _ _ hA2.2.1, hkc _ _ hA2.2.2.1, hkc _ _ hA2.2.2.2⟩
    have hB3 := hB2.trans (hb1.mono hB2.size)
    refine hK _ _ ⟨hA3, fun _ => trivial⟩ (fun hS3 => ?_)
    clear hK K hS hb1 hA2 hB2 hkc hbl
    refine wA 1 [6, 7, 8, 9, 10, 11, 12, 13, 14, 15, 16, 17, 18, 19, 20, 21, 22, 23, 24, 25] hS3 ?_
    simp only [pick, List.filterMap_cons, List.filterMap_nil, List.getElem?_cons_zero, List.getElem?_cons_succ]
    refine wS (.bool true) (fun w hw => by have e3 := hw.1.c2; have e0 := hw.2.1; have e1 := hw.2.2.1; have e2 := hw.2.2.2; go_simp) ?_
    refine wS (.bool true) (fun w hw => by have e3 := hw.1.c2; have e0 := hw.2.1; have e1 := hw.2.2.1; have e2 := hw.2.2.2; go_simp) ?_
    iterate 18 (refine wpIf_skip (by kernel_rfl) ?_)
    refine wpIf_nil (fun hS => ?_)
    refine wO 26 0 (fun K hK => ?_)
    go_simp
    refine hK _ _ ⟨hA3, fun _ => trivial⟩ (fun hS4 => ?_)
    clear hK K
    refine wpAnyT_over (by kernel_rfl) ?_
    go_wp2
    go_ret
    exact ⟨ret_bool (by rw [HZ.out]; rfl), hB3⟩
   | true =>
    rcases Nat.eq_zero_or_pos k with hk0 | hk0
    ·have Hk0 : Hid (¬ (0 : Int) < (k : Int)) := Lib.hid (by omega)
     have HO' : Hid (∀ j, j < k + 1 -> okB its j = true) := Lib.hid (fun j hj => by
      have : j = k := by omega
      subst this; rw [HK.out]; subst hk0; rfl)
     clear hk0
     go_wp2
     have hA2 : (fun w' => FAt w' w.heap.size u t (.slice (some ⟨b, off, none⟩) its.length cap) /\ w'.cell? ⟨b, off + k * 3, none⟩ = some (.string S) /\ w'.cell? ⟨b, off + k * 3 + 1, none⟩ = some (.string T) /\ w'.cell? ⟨b, off + k * 3 + 2, none⟩ = some (.int .i64 D)) wr.drew := ⟨hF, c0, c1, c2⟩
     have hB2 := hB.drew
     clear hF hB c0 c1 c2 f2
     refine wp_region_T (fun w' => FAt w' w.heap.size u t (.slice (some ⟨b, off, none⟩) its.length cap) /\ w'.cell? ⟨b, off + k * 3, none⟩ = some (.string S) /\ w'.cell? ⟨b, off + k * 3 + 1, none⟩ = some (.string T) /\ w'.cell? ⟨b, off + k * 3 + 2, none⟩ = some (.int .i64 D)) (fun _ => True) 26 (by kernel_rfl) 27 rfl ?_
     refine wA 22 [0, 1, 2, 3, 4] ⟨hA2, fun _ => trivial⟩ ?_
     simp only [pick, List.filterMap_cons, List.filterMap_nil, List.getElem?_cons_zero, List.getElem?_cons_succ]
     refine wS (.pointer (some ⟨w.heap.size, 2, none⟩)) (fun w hw => by have e3 := hw.1.c2; have e0 := hw.2.1; have e1 := hw.2.2.1; have e2 := hw.2.2.2; go_simp) ?_
     refine wS (.slice (some ⟨b, off, none⟩) its.length cap) (fun w hw => by have e3 := hw.1.c2; have e0 := hw.2.1; have e1 := hw.2.2.1; have e2 := hw.2.2.2; go_simp) ?_
     refine wS (.int .i64 (k : Int)) (fun w hw => by have e3 := hw.1.c2; have e0 := hw.2.1; have e1 := hw.2.2.1; have e2 := hw.2.2.2; go_simp) ?_
     refine wS (.pointer (some ⟨b, off + k * 3, none⟩)) (fun w hw => by have e3 := hw.1.c2; have e0 := hw.2.1; have e1 := hw.2.2.1; have e2 := hw.2.2.2; go_simp) ?_
     refine wS (itV S T D) (fun w hw => by have e3 := hw.1.c2; have e0 := hw.2.1; have e1 := hw.2.2.1; have e2 := hw.2.2.2; go_simp) ?_
     refine wpIf_nil (fun hS => ?_)
     refine wO 5 21 (fun K hK => ?_)
     go_simp
     refine (HC.out _).mono ?_
     rintro e v1 ⟨rfl, hb1⟩
     have hbl : b < wr.drew.heap.size := by have := hB2.size; omega
     have hkc : ∀ o x, wr.drew.cell? ⟨b, o, none⟩ = some x -> v1.cell? ⟨b, o, none⟩ = some x := fun o x hx => by rw [hb1.cell (p := ⟨b, o, none⟩) hbl]; exact hx
     have hF3 := hA2.1.keep hb1 (Nat.le_refl _)
     have hA3 : (fun w' => FAt w' w.heap.size u t (.slice (some ⟨b, off, none⟩) its.length cap) /\ w'.cell? ⟨b, off + k * 3, none⟩ = some (.string S) /\ w'.cell? ⟨b, off + k * 3 + 1, none⟩ = some (.string T) /\ w'.cell? ⟨b, off + k * 3 + 2, none⟩ = some (.int .i64 D)) v1 := ⟨hF3, hkc _ _ hA2.2.1, hkc _ _ hA2.2.2.1, hkc _ _ hA2.2.2.2⟩
     have hB3 := hB2.trans (hb1.mono hB2.size)
     refine hK _ _ ⟨hA3, fun _ => trivial⟩ (fun hS3 => ?_)
     clear hK K hS hb1 hA2 hB2 hkc hbl
     refine wA 1 [6, 7, 8, 9, 10, 11, 12, 13, 14, 15, 16, 17, 18, 19, 20, 21, 22, 23, 24, 25] hS3 ?_
     simp only [pick, List.filterMap_cons, List.filterMap_nil, List.getElem?_cons_zero, List.getElem?_cons_succ]
     refine wS (.bool false) (fun w hw => by have e3 := hw.1.c2; have e0 := hw.2.1; have e1 := hw.2.2.1; have e2 := hw.2.2.2; go_simp) ?_
     refine wS (.bool false) (fun w hw => by have e3 := hw.1.c2; have e0 := hw.2.1; have e1 := hw.2.2.1; have e2 := hw.2.2.2; go_simp) ?_
     refine wS (.int .i64 (k : Int)) (fun w hw => by have e3 := hw.1.c2; have e0 := hw.2.1; have e1 := hw.2.2.1; have e2 := hw.2.2.2; go_simp) ?_
     refine wS (.bool false) (fun w hw => by have e3 := hw.1.c2; have e0 := hw.2.1; have e1 := hw.2.2.1; have e2 := hw.2.2.2; have hk0 := Hk0.out; go_simp; try omega) ?_
     refine wS (.bool false) (fun w hw => by have e3 := hw.1.c2; have e0 := hw.2.1; have e1 := hw.2.2.1; have e2 := hw.2.2.2; go_simp) ?_
     iterate 14 (refine wpIf_skip (by kernel_rfl) ?_)
     refine wS (.bool false) (fun w hw => by have e3 := hw.1.c2; have e0 := hw.2.1; have e1 := hw.2.2.1; have e2 := hw.2.2.2; go_simp) ?_
     refine wpIf_nil (fun hS => ?_)
     refine wO 26 0 (fun K hK => ?_)
     go_simp
     refine hK _ _ ⟨hA3, fun _ => trivial⟩ (fun hS4 => ?_)
     clear hK K
     refine wpAnyT_over (by kernel_rfl) ?_
     go_wp2
     go_roundw
     case rel => exact ⟨k + 1, by omega, by go_num, hF3, hB3, HO'⟩
     case measure => simp [intOf]; omega
    ·obtain ⟨q, hq⟩ : ∃ q, k = q + 1 := ⟨k - 1, by omega⟩
     obtain ⟨c4, hord⟩ := HP.out q hq
     have hql : q < its.length := by omega
     obtain ⟨P, hP⟩ : ∃ P, P = its[q].id := ⟨_, rfl⟩
     rw [<- hP] at c4 hord
     obtain ⟨L, hL⟩ : ∃ L, L = Op.bytesLess P.toList S.toList := ⟨_, rfl⟩
     rw [<- hL] at hord
     have HLO := Lib.hid hord
     have HL := Lib.hid hL.symm
     have Hk1 : Hid ((0 : Int) < (k : Int)) := Lib.hid (by omega)
     have Hk2 : Hid (IntKind.i64.wrap ((k : Int) - 1) = (q : Int)) := Lib.hid (by rw [hq]; simp; exact IntWalk.i64_in _ (by omega))
     clear hq hord hL hP hk0
     go_wp2
     have hA2 : (fun w' => FAt w' w.heap.size u t (.slice (some ⟨b, off, none⟩) its.length cap) /\ w'.cell? ⟨b, off + k * 3, none⟩ = some (.string S) /\ w'.cell? ⟨b, off + k * 3 + 1, none⟩ = some (.string T) /\ w'.cell? ⟨b, off + k * 3 + 2, none⟩ = some (.int .i64 D) /\ w'.cell? ⟨b, off + q * 3, none⟩ = some (.string P)) wr.drew := ⟨hF, c0, c1, c2, c4⟩
     have hB2 := hB.drew
     clear hF hB c0 c1 c2 f2 c4
     refine wp_region_T (fun w' => FAt w' w.heap.size u t (.slice (some ⟨b, off, none⟩) its.length cap) /\ w'.cell? ⟨b, off + k * 3, none⟩ = some (.string S) /\ w'.cell? ⟨b, off + k * 3 + 1, none⟩ = some (.string T) /\ w'.cell? ⟨b, off + k * 3 + 2, none⟩ = some (.int .i64 D) /\ w'.cell? ⟨b, off + q * 3, none⟩ = some (.string P)) (fun _ => True) 26 (by kernel_rfl) 27 rfl ?_
     refine wA 22 [0, 1, 2, 3, 4] ⟨hA2, fun _ => trivial⟩ ?_
     simp only [pick, List.filterMap_cons, List.filterMap_nil, List.getElem?_cons_zero, List.getElem?_cons_succ]
     refine wS (.pointer (some ⟨w.heap.size, 2, none⟩)) (fun w hw => by have e3 := hw.1.c2; have e0 := hw.2.1; have e1 := hw.2.2.1; have e2 := hw.2.2.2.1; have e4 := hw.2.2.2.2; go_simp) ?_
     refine wS (.slice (some ⟨b, off, none⟩) its.length cap) (fun w hw => by have e3 := hw.1.c2; have e0 := hw.2.1; have e1 := hw.2.2.1; have e2 := hw.2.2.2.1; have e4 := hw.2.2.2.2; go_simp) ?_
     refine wS (.int .i64 (k : Int)) (fun w hw => by have e3 := hw.1.c2; have e0 := hw.2.1; have e1 := hw.2.2.1; have e2 := hw.2.2.2.1; have e4 := hw.2.2.2.2; go_simp) ?_
     refine wS (.pointer (some ⟨b, off + k * 3, none⟩)) (fun w hw => by have e3 := hw.1.c2; have e0 := hw.2.1; have e1 := hw.2.2.1; have e2 := hw.2.2.2.1; have e4 := hw.2.2.2.2; go_simp) ?_
     refine wS (itV S T D) (fun w hw => by have e3 := hw.1.c2; have e0 := hw.2.1; have e1 := hw.2.2.1; have e2 := hw.2.2.2.1; have e4 := hw.2.2.2.2; go_simp) ?_
     refine wpIf_nil (fun hS => ?_)
     refine wO 5 21 (fun K hK => ?_)
     go_simp
     refine (HC.out _).mono ?_
     rintro e v1 ⟨rfl, hb1⟩
     have hbl : b < wr.drew.heap.size := by have := hB2.size; omega
     have hkc : ∀ o x, wr.drew.cell? ⟨b, o, none⟩ = some x -> v1.cell? ⟨b, o, none⟩ = some x := fun o x hx => by rw [hb1.cell (p := ⟨b, o, none⟩) hbl]; exact hx
     have hF3 := hA2.1.keep hb1 (Nat.le_refl _)
     have hA3 : (fun w' => FAt w' w.heap.size u t (.slice (some ⟨b, off, none⟩) its.length cap) /\ w'.cell? ⟨b, off + k * 3, none⟩ = some (.string S) /\ w'.cell? ⟨b, off + k * 3 + 1, none⟩ = some (.string T) /\ w'.cell? ⟨b, off + k * 3 + 2, none⟩ = some (.int .i64 D) /\ w'.cell? ⟨b, off + q * 3, none⟩ = some (.string P)) v1 := ⟨hF3, hkc _ _ hA2.2.1, hkc _ _ hA2.2.2.1, hkc _ _ hA2.2.2.2.1, hkc _ _ hA2.2.2.2.2⟩
     have hB3 := hB2.trans (hb1.mono hB2.size)
     refine hK _ _ ⟨hA3, fun _ => trivial⟩ (fun hS3 => ?_)
     clear hK K hS hb1 hA2 hB2 hkc hbl
     refine wA 1 [6, 7, 8, 9, 10, 11, 12, 13, 14, 15, 16, 17, 18, 19, 20, 21, 22, 23, 24, 25] hS3 ?_
     simp only [pick, List.filterMap_cons, List.filterMap_nil, List.getElem?_cons_zero, List.getElem?_cons_succ]
     refine wS (.bool false) (fun w hw => by have e3 := hw.1.c2; have e0 := hw.2.1; have e1 := hw.2.2.1; have e2 := hw.2.2.2.1; have e4 := hw.2.2.2.2; go_simp) ?_
     refine wS (.bool false) (fun w hw => by have e3 := hw.1.c2; have e0 := hw.2.1; have e1 := hw.2.2.1; have e2 := hw.2.2.2.1; have e4 := hw.2.2.2.2; go_simp) ?_
     refine wS (.int .i64 (k : Int)) (fun w hw => by have e3 := hw.1.c2; have e0 := hw.2.1; have e1 := hw.2.2.1; have e2 := hw.2.2.2.1; have e4 := hw.2.2.2.2; go_simp) ?_
     refine wS (.bool true) (fun w hw => by have e3 := hw.1.c2; have e0 := hw.2.1; have e1 := hw.2.2.1; have e2 := hw.2.2.2.1; have e4 := hw.2.2.2.2; have hk0 := Hk1.out; go_simp; try omega) ?_
     refine wS (.bool true) (fun w hw => by have e3 := hw.1.c2; have e0 := hw.2.1; have e1 := hw.2.2.1; have e2 := hw.2.2.2.1; have e4 := hw.2.2.2.2; go_simp) ?_
     refine wS (.pointer (some ⟨w.heap.size, 2, none⟩)) (fun w hw => by have e3 := hw.1.c2; have e0 := hw.2.1; have e1 := hw.2.2.1; have e2 := hw.2.2.2.1; have e4 := hw.2.2.2.2; go_simp) ?_
     refine wS (.slice (some ⟨b, off, none⟩) its.length cap) (fun w hw => by have e3 := hw.1.c2; have e0 := hw.2.1; have e1 := hw.2.2.1; have e2 := hw.2.2.2.1; have e4 := hw.2.2.2.2; go_simp) ?_
     refine wS (.int .i64 (k : Int)) (fun w hw => by have e3 := hw.1.c2; have e0 := hw.2.1; have e1 := hw.2.2.1; have e2 := hw.2.2.2.1; have e4 := hw.2.2.2.2; go_simp) ?_
     refine wS (.int .i64 (q : Int)) (fun w hw => by have e3 := hw.1.c2; have e0 := hw.2.1; have e1 := hw.2.2.1; have e2 := hw.2.2.2.1; have e4 := hw.2.2.2.2; have hk2 := Hk2.out; go_simp) ?_
     refine wS (.pointer (some ⟨b, off + q * 3, none⟩)) (fun w hw => by have e3 := hw.1.c2; have e0 := hw.2.1; have e1 := hw.2.2.1; have e2 := hw.2.2.2.1; have e4 := hw.2.2.2.2; go_simp) ?_
     refine wS (.pointer (some ⟨b, off + q * 3, none⟩)) (fun w hw => by have e3 := hw.1.c2; have e0 := hw.2.1; have e1 := hw.2.2.1; have e2 := hw.2.2.2.1; have e4 := hw.2.2.2.2; go_simp) ?_
     refine wS (.string P) (fun w hw => by have e3 := hw.1.c2; have e0 := hw.2.1; have e1 := hw.2.2.1; have e2 := hw.2.2.2.1; have e4 := hw.2.2.2.2; go_simp) ?_
     refine wS (.pointer (some ⟨w.heap.size, 2, none⟩)) (fun w hw => by have e3 := hw.1.c2; have e0 := hw.2.1; have e1 := hw.2.2.1; have e2 := hw.2.2.2.1; have e4 := hw.2.2.2.2; go_simp) ?_
     refine wS (.slice (some ⟨b, off, none⟩) its.length cap) (fun w hw => by have e3 := hw.1.c2; have e0 := hw.2.1; have e1 := hw.2.2.1; have e2 := hw.2.2.2.1; have e4 := hw.2.2.2.2; go_simp) ?_
     refine wS (.int .i64 (k : Int)) (fun w hw => by have e3 := hw.1.c2; have e0 := hw.2.1; have e1 := hw.2.2.1; have e2 := hw.2.2.2.1; have e4 := hw.2.2.2.2; go_simp) ?_
     refine wS (.pointer (some ⟨b, off + k * 3, none⟩)) (fun w hw => by have e3 := hw.1.c2; have e0 := hw.2.1; have e1 := hw.2.2.1; have e2 := hw.2.2.2.1; have e4 := hw.2.2.2.2; go_simp) ?_
     refine wS (.pointer (some ⟨b, off + k * 3, none⟩)) (fun w hw => by have e3 := hw.1.c2; have e0 := hw.2.1; have e1 := hw.2.2.1; have e2 := hw.2.2.2.1; have e4 := hw.2.2.2.2; go_simp) ?_
     refine wS (.string S) (fun w hw => by have e3 := hw.1.c2; have e0 := hw.2.1; have e1 := hw.2.2.1; have e2 := hw.2.2.2.1; have e4 := hw.2.2.2.2; go_simp) ?_
     refine wS (.bool (!L)) (fun w hw => by have e3 := hw.1.c2; have e0 := hw.2.1; have e1 := hw.2.2.1; have e2 := hw.2.2.2.1; have e4 := hw.2.2.2.2; have hL := HL.out; go_simp) ?_
     refine wS (.bool (!L)) (fun w hw => by have e3 := hw.1.c2; have e0 := hw.2.1; have e1 := hw.2.2.1; have e2 := hw.2.2.2.1; have e4 := hw.2.2.2.2; go_simp) ?_
     refine wpIf_nil (fun hS => ?_)
     refine wO 26 0 (fun K hK => ?_)
     go_simp
     refine hK _ _ ⟨hA3, fun _ => trivial⟩ (fun hS4 => ?_)
     clear hK K
     refine wpAnyT_over (by kernel_rfl) ?_
     cases L with
     | false =>
      have HZ : Hid (itsB its = false) := Lib.hid (HX.out (by rw [HK.out, HLO.out]; rfl))
      go_wp2
      go_ret
      exact ⟨ret_bool (by rw [HZ.out]; rfl), hB3⟩
     | true =>
      have HO' : Hid (∀ j, j < k + 1 -> okB its j = true) := Lib.hid (fun j hj => by
       by_cases hjk : j = k
       ·subst hjk; rw [HK.out, HLO.out]; rfl
       ·exact HO.out j (by omega))
      go_wp2
      go_roundw
      case rel => exact ⟨k + 1, by omega, by go_num, hF3, hB3, HO'⟩
      case measure => simp [intOf]; omega
  ·have HZ : Hid (itsB its = true) := Lib.hid (its_end its k hlt HO.out)
   have f0 := hF.c0
   have f1 := hF.c1
   go_wp2_with fail
   refine (HN.out _).mono ?_
   rintro e w1 ⟨rfl, rfl⟩
   cases A with
   | false =>
    go_wp2
    go_ret
    exact ⟨ret_bool (by rw [HZ.out]; simp), hB⟩
   | true =>
    go_wp2_with fail
    refine (HT.out _).mono ?_
    rintro e w2 ⟨rfl, rfl⟩
    cases B with
    | false =>
     go_wp2
     go_ret
     exact ⟨ret_bool (by rw [HZ.out]; simp), hB⟩
    | true =>
     by_cases h12 : its.length <= 12
     ·have h12' : decide ((its.length : Int) <= 12) = true := decide_eq_true (by omega)
      go_wp2
      go_ret
      exact ⟨ret_bool (by rw [HZ.out]; simp [h12]), hB⟩
     ·have h12' : decide ((its.length : Int) <= 12) = false := decide_eq_false (by omega)
      go_wp2
      go_ret
      exact ⟨ret_bool (by rw [HZ.out]; simp [h12]), hB⟩
end Go.Proofs.YtffkakpbelknaaaGreatDoor
namespace Go.Proofs.YtffkakpbelknaaaGreatDoor
open Go.ChangeShapes Go.WideShapes Go.ChangeAt Go.RowKit
set_option linter.unusedVariables false
def emB (s : ByteArray) : Bool := s.toList.isEmpty
def feB (u t : ByteArray) (n : Nat) : Bool := emB u && emB t && ((n : Int) == 0)
theorem feedEmpty_any (u t : ByteArray) (a : Option Addr) (n cap : Nat) (w : World) :
  Calls Tryz.prog 68 #[fV u t (.slice a n cap)] w fun e w' => e = .returned (.bool (feB u t n)) /\ Below w.heap.size w w' := by
 have hB0 : Below w.heap.size w (w.alloc (fC u t (.slice a n cap))) := (Below.refl _ _).alloc (Nat.le_refl _) _
 have HF : Hid (feB u t n = (u.toList.isEmpty && t.toList.isEmpty && ((n : Int) == 0))) := Lib.hid rfl
 rw [HF.out]
 clear HF
 cases h1 : u.toList.isEmpty with
 | false =>
  go_enter Tryz.func68, Tryz.ntmps68
  go_wp2
  go_ret
  exact ⟨rfl, hB0⟩
 | true =>
  cases h2 : t.toList.isEmpty with
  | false =>
   go_enter Tryz.func68, Tryz.ntmps68
   go_wp2
   go_ret
   exact ⟨rfl, hB0⟩
  | true =>
   cases h3 : ((n : Int) == 0) with
   | false =>
    go_enter Tryz.func68, Tryz.ntmps68
    go_wp2
    go_ret
    exact ⟨rfl, hB0⟩
   | true =>
    go_enter Tryz.func68, Tryz.ntmps68
    go_wp2
    go_ret
    exact ⟨rfl, hB0⟩
theorem l9Empty_any (u t : ByteArray) (a : Option Addr) (n cap : Nat) (w : World) :
  Calls Tryz.prog 103 #[fV u t (.slice a n cap)] w fun e w' => e = .returned (.bool (feB u t n)) /\ Below w.heap.size w w' := by
 have hB0 : Below w.heap.size w (w.alloc (fC u t (.slice a n cap))) := (Below.refl _ _).alloc (Nat.le_refl _) _
 have HF : Hid (feB u t n = (u.toList.isEmpty && t.toList.isEmpty && ((n : Int) == 0))) := Lib.hid rfl
 rw [HF.out]
 clear HF
 cases h1 : u.toList.isEmpty with
 | false =>
  go_enter Tryz.func103, Tryz.ntmps103
  go_wp2
  go_ret
  exact ⟨rfl, hB0⟩
 | true =>
  cases h2 : t.toList.isEmpty with
  | false =>
   go_enter Tryz.func103, Tryz.ntmps103
   go_wp2
   go_ret
   exact ⟨rfl, hB0⟩
  | true =>
   cases h3 : ((n : Int) == 0) with
   | false =>
    go_enter Tryz.func103, Tryz.ntmps103
    go_wp2
    go_ret
    exact ⟨rfl, hB0⟩
   | true =>
    go_enter Tryz.func103, Tryz.ntmps103
    go_wp2
    go_ret
    exact ⟨rfl, hB0⟩
structure OpD where
 k : Int
 u : ByteArray
 i : ByteArray
 d : Int
 fu : ByteArray
 ft : ByteArray
 its : List It
abbrev opV (o : OpD) (x : Value) : Value := .agg #[.int .i64 o.k, .string o.u, .string o.i, .int .i64 o.d, .string o.fu, .string o.ft, x]
def OpSz (o : OpD) : Prop := o.u.size <= maxLen /\ o.i.size <= maxLen /\ o.fu.size <= maxLen /\ o.ft.size <= maxLen
def dzB (d : Int) : Bool := (d == 0)
def opB (o : OpD) : Bool :=
 if o.k = 1 \/ o.k = 2 \/ o.k = 8 then nmB o.u 20 && emB o.i && dzB o.d && feB o.fu o.ft o.its.length
 else if o.k = 3 then emB o.u && emB o.i && dzB o.d && fdB o.fu o.ft o.its
 else if o.k = 4 \/ o.k = 5 \/ o.k = 6 \/ o.k = 7 then nmB o.u 20 && nmB o.i 8 && dzB o.d && feB o.fu o.ft o.its.length
 else if o.k = 9 then emB o.u && emB o.i && (decide (0 <= o.d) && decide (o.d <= 200000)) && feB o.fu o.ft o.its.length
 else false
end Go.Proofs.YtffkakpbelknaaaGreatDoor
namespace Go.Proofs.YtffkakpbelknaaaGreatDoor
open Go.ChangeShapes Go.WideShapes Go.ChangeAt Go.RowKit
set_option linter.unusedVariables false
theorem implOp_1 (k : Int) (hk : k = 1 \/ k = 2 \/ k = 8) (u i : ByteArray) (d : Int) (fu ft : ByteArray) (a : Option Addr) (n cap : Nat) (w : World) (hu : u.size <= maxLen) :
  Calls Tryz.prog 23 #[.agg #[.int .i64 k, .string u, .string i, .int .i64 d, .string fu, .string ft, .slice a n cap]] w fun e w' => e = .returned (.bool (nmB u 20 && emB i && dzB d && feB fu ft n)) /\ Below w.heap.size w w' := by
 have hB0 : Below w.heap.size w (w.alloc (.cells #[.int .i64 k, .string u, .string i, .int .i64 d, .string fu, .string ft, .slice a n cap] 35)) := (Below.refl _ _).alloc (Nat.le_refl _) _
 have hX0 := Box.new w #[.int .i64 k, .string u, .string i, .int .i64 d, .string fu, .string ft, .slice a n cap] 35
 have HN := Lib.hid (fun w => isName_any u 20 w hu)
 generalize nmB u 20 = A at HN ⊢
 have HEi : Hid (emB i = i.toList.isEmpty) := Lib.hid rfl
 rw [HEi.out]
 clear HEi
 have HDZ : Hid (dzB d = (d == 0)) := Lib.hid rfl
 rw [HDZ.out]
 clear HDZ
 have HF := Lib.hid (fun w => feedEmpty_any fu ft a n cap w)
 generalize feB fu ft n = D at HF ⊢
 cases zi : i.toList.isEmpty with
 | false =>
  cases zd : (d == 0) with
  | false =>
   rcases hk with rfl | rfl | rfl
   ·go_enter Tryz.func23, Tryz.ntmps23
    go_wp2_with fail
    refine (HN.out _).mono ?_
    rintro e w1 ⟨rfl, rfl⟩
    cases A with
    | false =>
     go_wp2
     go_ret
     exact ⟨ret_bool (by simp), hB0⟩
    | true =>
     go_wp2
     go_ret
     exact ⟨ret_bool (by simp), hB0⟩
   ·go_enter Tryz.func23, Tryz.ntmps23
    go_wp2_with fail
    refine (HN.out _).mono ?_
    rintro e w1 ⟨rfl, rfl⟩
    cases A with
    | false =>
     go_wp2
     go_ret
     exact ⟨ret_bool (by simp), hB0⟩
    | true =>
     go_wp2
     go_ret
     exact ⟨ret_bool (by simp), hB0⟩
   ·go_enter Tryz.func23, Tryz.ntmps23
    go_wp2_with fail
    refine (HN.out _).mono ?_
    rintro e w1 ⟨rfl, rfl⟩
    cases A with
    | false =>
     go_wp2
     go_ret
     exact ⟨ret_bool (by simp), hB0⟩
    | true =>
     go_wp2
     go_ret
     exact ⟨ret_bool (by simp), hB0⟩
  | true =>
   rcases hk with rfl | rfl | rfl
   ·go_enter Tryz.func23, Tryz.ntmps23
    go_wp2_with fail
    refine (HN.out _).mono ?_
    rintro e w1 ⟨rfl, rfl⟩
    cases A with
    | false =>
     go_wp2
     go_ret
     exact ⟨ret_bool (by simp), hB0⟩
    | true =>
     go_wp2
     go_ret
     exact ⟨ret_bool (by simp), hB0⟩
   ·go_enter Tryz.func23, Tryz.ntmps23
    go_wp2_with fail
    refine (HN.out _).mono ?_
    rintro e w1 ⟨rfl, rfl⟩
    cases A with
    | false =>
     go_wp2
     go_ret
     exact ⟨ret_bool (by simp), hB0⟩
    | true =>
     go_wp2
     go_ret
     exact ⟨ret_bool (by simp), hB0⟩
   ·go_enter Tryz.func23, Tryz.ntmps23
    go_wp2_with fail
    refine (HN.out _).mono ?_
    rintro e w1 ⟨rfl, rfl⟩
    cases A with
    | false =>
     go_wp2
     go_ret
     exact ⟨ret_bool (by simp), hB0⟩
    | true =>
     go_wp2
     go_ret
     exact ⟨ret_bool (by simp), hB0⟩
 | true =>
  cases zd : (d == 0) with
  | false =>
   rcases hk with rfl | rfl | rfl
   ·go_enter Tryz.func23, Tryz.ntmps23
    go_wp2_with fail
    refine (HN.out _).mono ?_
    rintro e w1 ⟨rfl, rfl⟩
    cases A with
    | false =>
     go_wp2
     go_ret
     exact ⟨ret_bool (by simp), hB0⟩
    | true =>
     go_wp2
     go_ret
     exact ⟨ret_bool (by simp), hB0⟩
   ·go_enter Tryz.func23, Tryz.ntmps23
    go_wp2_with fail
    refine (HN.out _).mono ?_
    rintro e w1 ⟨rfl, rfl⟩
    cases A with
    | false =>
     go_wp2
     go_ret
     exact ⟨ret_bool (by simp), hB0⟩
    | true =>
     go_wp2
     go_ret
     exact ⟨ret_bool (by simp), hB0⟩
   ·go_enter Tryz.func23, Tryz.ntmps23
    go_wp2_with fail
    refine (HN.out _).mono ?_
    rintro e w1 ⟨rfl, rfl⟩
    cases A with
    | false =>
     go_wp2
     go_ret
     exact ⟨ret_bool (by simp), hB0⟩
    | true =>
     go_wp2
     go_ret
     exact ⟨ret_bool (by simp), hB0⟩
  | true =>
   rcases hk with rfl | rfl | rfl
   ·go_enter Tryz.func23, Tryz.ntmps23
    go_wp2_with fail
    refine (HN.out _).mono ?_
    rintro e w1 ⟨rfl, rfl⟩
    cases A with
    | false =>
     go_wp2
     go_ret
     exact ⟨ret_bool (by simp), hB0⟩
    | true =>
     go_wp2_with fail
     refine (HF.out _).mono ?_
     rintro e w2 ⟨rfl, hb2⟩
     have hB2 := hB0.trans (hb2.mono hB0.size)
     clear hb2
     cases D with
     | false =>
      go_wp2
      go_ret
      exact ⟨ret_bool (by simp), hB2⟩
     | true =>
      go_wp2
      go_ret
      exact ⟨ret_bool (by simp), hB2⟩
   ·go_enter Tryz.func23, Tryz.ntmps23
    go_wp2_with fail
    refine (HN.out _).mono ?_
    rintro e w1 ⟨rfl, rfl⟩
    cases A with
    | false =>
     go_wp2
     go_ret
     exact ⟨ret_bool (by simp), hB0⟩
    | true =>
     go_wp2_with fail
     refine (HF.out _).mono ?_
     rintro e w2 ⟨rfl, hb2⟩
     have hB2 := hB0.trans (hb2.mono hB0.size)
     clear hb2
     cases D with
     | false =>
      go_wp2
      go_ret
      exact ⟨ret_bool (by simp), hB2⟩
     | true =>
      go_wp2
      go_ret
      exact ⟨ret_bool (by simp), hB2⟩
   ·go_enter Tryz.func23, Tryz.ntmps23
    go_wp2_with fail
    refine (HN.out _).mono ?_
    rintro e w1 ⟨rfl, rfl⟩
    cases A with
    | false =>
     go_wp2
     go_ret
     exact ⟨ret_bool (by simp), hB0⟩
    | true =>
     go_wp2_with fail
     refine (HF.out _).mono ?_
     rintro e w2 ⟨rfl, hb2⟩
     have hB2 := hB0.trans (hb2.mono hB0.size)
     clear hb2
     cases D with
     | false =>
      go_wp2
      go_ret
      exact ⟨ret_bool (by simp), hB2⟩
     | true =>
      go_wp2
      go_ret
      exact ⟨ret_bool (by simp), hB2⟩
theorem implOp_3 (k : Int) (hk : k = 3) (u i : ByteArray) (d : Int) (fu ft : ByteArray) (a : Option Addr) (n cap : Nat) (its : List It) (w : World) (hfu : fu.size <= maxLen) (hft : ft.size <= maxLen) (hI : ItAt w w.heap.size (.slice a n cap) its) :
  Calls Tryz.prog 23 #[.agg #[.int .i64 k, .string u, .string i, .int .i64 d, .string fu, .string ft, .slice a n cap]] w fun e w' => e = .returned (.bool (emB u && emB i && dzB d && fdB fu ft its)) /\ Below w.heap.size w w' := by
 have hB0 : Below w.heap.size w (w.alloc (.cells #[.int .i64 k, .string u, .string i, .int .i64 d, .string fu, .string ft, .slice a n cap] 35)) := (Below.refl _ _).alloc (Nat.le_refl _) _
 have hX0 := Box.new w #[.int .i64 k, .string u, .string i, .int .i64 d, .string fu, .string ft, .slice a n cap] 35
 have HEu : Hid (emB u = u.toList.isEmpty) := Lib.hid rfl
 rw [HEu.out]
 clear HEu
 have HEi : Hid (emB i = i.toList.isEmpty) := Lib.hid rfl
 rw [HEi.out]
 clear HEi
 have HDZ : Hid (dzB d = (d == 0)) := Lib.hid rfl
 rw [HDZ.out]
 clear HDZ
 have HI := Lib.hid hI
 clear hI
 have HF := Lib.hid (fun w h => implFeedOk_any fu ft (.slice a n cap) its w hfu hft h)
 generalize fdB fu ft its = D at HF ⊢
 cases zu : u.toList.isEmpty with
 | false =>
  cases zi : i.toList.isEmpty with
  | false =>
   cases zd : (d == 0) with
   | false =>
    obtain rfl := hk
    go_enter Tryz.func23, Tryz.ntmps23
    go_wp2
    go_ret
    exact ⟨ret_bool (by simp), hB0⟩
   | true =>
    obtain rfl := hk
    go_enter Tryz.func23, Tryz.ntmps23
    go_wp2
    go_ret
    exact ⟨ret_bool (by simp), hB0⟩
  | true =>
   cases zd : (d == 0) with
   | false =>
    obtain rfl := hk
    go_enter Tryz.func23, Tryz.ntmps23
    go_wp2
    go_ret
    exact ⟨ret_bool (by simp), hB0⟩
   | true =>
    obtain rfl := hk
    go_enter Tryz.func23, Tryz.ntmps23
    go_wp2
    go_ret
    exact ⟨ret_bool (by simp), hB0⟩
 | true =>
  cases zi : i.toList.isEmpty with
  | false =>
   cases zd : (d == 0) with
   | false =>
    obtain rfl := hk
    go_enter Tryz.func23, Tryz.ntmps23
    go_wp2
    go_ret
    exact ⟨ret_bool (by simp), hB0⟩
   | true =>
    obtain rfl := hk
    go_enter Tryz.func23, Tryz.ntmps23
    go_wp2
    go_ret
    exact ⟨ret_bool (by simp), hB0⟩
  | true =>
   cases zd : (d == 0) with
   | false =>
    obtain rfl := hk
    go_enter Tryz.func23, Tryz.ntmps23
    go_wp2
    go_ret
    exact ⟨ret_bool (by simp), hB0⟩
   | true =>
    obtain rfl := hk
    go_enter Tryz.func23, Tryz.ntmps23
    go_wp2_with fail
    refine (HF.out _ ((HI.out.below hB0).mono hB0.size)).mono ?_
    rintro e w1 ⟨rfl, hb1⟩
    have hB1 := hB0.trans (hb1.mono hB0.size)
    clear hb1
    cases D with
    | false =>
     go_wp2
     go_ret
     exact ⟨ret_bool (by simp), hB1⟩
    | true =>
     go_wp2
     go_ret
     exact ⟨ret_bool (by simp), hB1⟩
theorem implOp_4 (k : Int) (hk : k = 4 \/ k = 5 \/ k = 6 \/ k = 7) (u i : ByteArray) (d : Int) (fu ft : ByteArray) (a : Option Addr) (n cap : Nat) (w : World) (hu : u.size <= maxLen) (hi : i.size <= maxLen) :
  Calls Tryz.prog 23 #[.agg #[.int .i64 k, .string u, .string i, .int .i64 d, .string fu, .string ft, .slice a n cap]] w fun e w' => e = .returned (.bool (nmB u 20 && nmB i 8 && dzB d && feB fu ft n)) /\ Below w.heap.size w w' := by
 have hB0 : Below w.heap.size w (w.alloc (.cells #[.int .i64 k, .string u, .string i, .int .i64 d, .string fu, .string ft, .slice a n cap] 35)) := (Below.refl _ _).alloc (Nat.le_refl _) _
 have hX0 := Box.new w #[.int .i64 k, .string u, .string i, .int .i64 d, .string fu, .string ft, .slice a n cap] 35
 have HN := Lib.hid (fun w => isName_any u 20 w hu)
 generalize nmB u 20 = A at HN ⊢
 have HM := Lib.hid (fun w => isName_any i 8 w hi)
 generalize nmB i 8 = B at HM ⊢
 have HDZ : Hid (dzB d = (d == 0)) := Lib.hid rfl
 rw [HDZ.out]
 clear HDZ
 have HF := Lib.hid (fun w => feedEmpty_any fu ft a n cap w)
 generalize feB fu ft n = D at HF ⊢
 cases zd : (d == 0) with
 | false =>
  rcases hk with rfl | rfl | rfl | rfl
  ·go_enter Tryz.func23, Tryz.ntmps23
   go_wp2_with fail
   refine (HN.out _).mono ?_
   rintro e w1 ⟨rfl, rfl⟩
   cases A with
   | false =>
    go_wp2
    go_ret
    exact ⟨ret_bool (by simp), hB0⟩
   | true =>
    go_wp2_with fail
    refine (HM.out _).mono ?_
    rintro e w2 ⟨rfl, rfl⟩
    cases B with
    | false =>
     go_wp2
     go_ret
     exact ⟨ret_bool (by simp), hB0⟩
    | true =>
     go_wp2
     go_ret
     exact ⟨ret_bool (by simp), hB0⟩
  ·go_enter Tryz.func23, Tryz.ntmps23
   go_wp2_with fail
   refine (HN.out _).mono ?_
   rintro e w1 ⟨rfl, rfl⟩
   cases A with
   | false =>
    go_wp2
    go_ret
    exact ⟨ret_bool (by simp), hB0⟩
   | true =>
    go_wp2_with fail
    refine (HM.out _).mono ?_
    rintro e w2 ⟨rfl, rfl⟩
    cases B with
    | false =>
     go_wp2
     go_ret
     exact ⟨ret_bool (by simp), hB0⟩
    | true =>
     go_wp2
     go_ret
     exact ⟨ret_bool (by simp), hB0⟩
  ·go_enter Tryz.func23, Tryz.ntmps23
   go_wp2_with fail
   refine (HN.out _).mono ?_
   rintro e w1 ⟨rfl, rfl⟩
   cases A with
   | false =>
    go_wp2
    go_ret
    exact ⟨ret_bool (by simp), hB0⟩
   | true =>
    go_wp2_with fail
    refine (HM.out _).mono ?_
    rintro e w2 ⟨rfl, rfl⟩
    cases B with
    | false =>
     go_wp2
     go_ret
     exact ⟨ret_bool (by simp), hB0⟩
    | true =>
     go_wp2
     go_ret
     exact ⟨ret_bool (by simp), hB0⟩
  ·go_enter Tryz.func23, Tryz.ntmps23
   go_wp2_with fail
   refine (HN.out _).mono ?_
   rintro e w1 ⟨rfl, rfl⟩
   cases A with
   | false =>
    go_wp2
    go_ret
    exact ⟨ret_bool (by simp), hB0⟩
   | true =>
    go_wp2_with fail
    refine (HM.out _).mono ?_
    rintro e w2 ⟨rfl, rfl⟩
    cases B with
    | false =>
     go_wp2
     go_ret
     exact ⟨ret_bool (by simp), hB0⟩
    | true =>
     go_wp2
     go_ret
     exact ⟨ret_bool (by simp), hB0⟩
 | true =>
  rcases hk with rfl | rfl | rfl | rfl
  ·go_enter Tryz.func23, Tryz.ntmps23
   go_wp2_with fail
   refine (HN.out _).mono ?_
   rintro e w1 ⟨rfl, rfl⟩
   cases A with
   | false =>
    go_wp2
    go_ret
    exact ⟨ret_bool (by simp), hB0⟩
   | true =>
    go_wp2_with fail
    refine (HM.out _).mono ?_
    rintro e w2 ⟨rfl, rfl⟩
    cases B with
    | false =>
     go_wp2
     go_ret
     exact ⟨ret_bool (by simp), hB0⟩
    | true =>
     go_wp2_with fail
     refine (HF.out _).mono ?_
     rintro e w3 ⟨rfl, hb3⟩
     have hB3 := hB0.trans (hb3.mono hB0.size)
     clear hb3
     cases D with
     | false =>
      go_wp2
      go_ret
      exact ⟨ret_bool (by simp), hB3⟩
     | true =>
      go_wp2
      go_ret
      exact ⟨ret_bool (by simp), hB3⟩
  ·go_enter Tryz.func23, Tryz.ntmps23
   go_wp2_with fail
   refine (HN.out _).mono ?_
   rintro e w1 ⟨rfl, rfl⟩
   cases A with
   | false =>
    go_wp2
    go_ret
    exact ⟨ret_bool (by simp), hB0⟩
   | true =>
    go_wp2_with fail
    refine (HM.out _).mono ?_
    rintro e w2 ⟨rfl, rfl⟩
    cases B with
    | false =>
     go_wp2
     go_ret
     exact ⟨ret_bool (by simp), hB0⟩
    | true =>
     go_wp2_with fail
     refine (HF.out _).mono ?_
     rintro e w3 ⟨rfl, hb3⟩
     have hB3 := hB0.trans (hb3.mono hB0.size)
     clear hb3
     cases D with
     | false =>
      go_wp2
      go_ret
      exact ⟨ret_bool (by simp), hB3⟩
     | true =>
      go_wp2
      go_ret
      exact ⟨ret_bool (by simp), hB3⟩
  ·go_enter Tryz.func23, Tryz.ntmps23
   go_wp2_with fail
   refine (HN.out _).mono ?_
   rintro e w1 ⟨rfl, rfl⟩
   cases A with
   | false =>
    go_wp2
    go_ret
    exact ⟨ret_bool (by simp), hB0⟩
   | true =>
    go_wp2_with fail
    refine (HM.out _).mono ?_
    rintro e w2 ⟨rfl, rfl⟩
    cases B with
    | false =>
     go_wp2
     go_ret
     exact ⟨ret_bool (by simp), hB0⟩
    | true =>
     go_wp2_with fail
     refine (HF.out _).mono ?_
     rintro e w3 ⟨rfl, hb3⟩
     have hB3 := hB0.trans (hb3.mono hB0.size)
     clear hb3
     cases D with
     | false =>
      go_wp2
      go_ret
      exact ⟨ret_bool (by simp), hB3⟩
     | true =>
      go_wp2
      go_ret
      exact ⟨ret_bool (by simp), hB3⟩
  ·go_enter Tryz.func23, Tryz.ntmps23
   go_wp2_with fail
   refine (HN.out _).mono ?_
   rintro e w1 ⟨rfl, rfl⟩
   cases A with
   | false =>
    go_wp2
    go_ret
    exact ⟨ret_bool (by simp), hB0⟩
   | true =>
    go_wp2_with fail
    refine (HM.out _).mono ?_
    rintro e w2 ⟨rfl, rfl⟩
    cases B with
    | false =>
     go_wp2
     go_ret
     exact ⟨ret_bool (by simp), hB0⟩
    | true =>
     go_wp2_with fail
     refine (HF.out _).mono ?_
     rintro e w3 ⟨rfl, hb3⟩
     have hB3 := hB0.trans (hb3.mono hB0.size)
     clear hb3
     cases D with
     | false =>
      go_wp2
      go_ret
      exact ⟨ret_bool (by simp), hB3⟩
     | true =>
      go_wp2
      go_ret
      exact ⟨ret_bool (by simp), hB3⟩
theorem implOp_9 (k : Int) (hk : k = 9) (u i : ByteArray) (d : Int) (fu ft : ByteArray) (a : Option Addr) (n cap : Nat) (w : World) :
  Calls Tryz.prog 23 #[.agg #[.int .i64 k, .string u, .string i, .int .i64 d, .string fu, .string ft, .slice a n cap]] w fun e w' => e = .returned (.bool (emB u && emB i && (decide (0 <= d) && decide (d <= 200000)) && feB fu ft n)) /\ Below w.heap.size w w' := by
 have hB0 : Below w.heap.size w (w.alloc (.cells #[.int .i64 k, .string u, .string i, .int .i64 d, .string fu, .string ft, .slice a n cap] 35)) := (Below.refl _ _).alloc (Nat.le_refl _) _
 have hX0 := Box.new w #[.int .i64 k, .string u, .string i, .int .i64 d, .string fu, .string ft, .slice a n cap] 35
 have HEu : Hid (emB u = u.toList.isEmpty) := Lib.hid rfl
 rw [HEu.out]
 clear HEu
 have HEi : Hid (emB i = i.toList.isEmpty) := Lib.hid rfl
 rw [HEi.out]
 clear HEi
 have HY := Lib.hid (fun w => isDay_any d w)
 generalize (decide (0 <= d) && decide (d <= 200000)) = Y at HY ⊢
 have HF := Lib.hid (fun w => feedEmpty_any fu ft a n cap w)
 generalize feB fu ft n = D at HF ⊢
 cases zu : u.toList.isEmpty with
 | false =>
  cases zi : i.toList.isEmpty with
  | false =>
   obtain rfl := hk
   go_enter Tryz.func23, Tryz.ntmps23
   go_wp2
   go_ret
   exact ⟨ret_bool (by simp), hB0⟩
  | true =>
   obtain rfl := hk
   go_enter Tryz.func23, Tryz.ntmps23
   go_wp2
   go_ret
   exact ⟨ret_bool (by simp), hB0⟩
 | true =>
  cases zi : i.toList.isEmpty with
  | false =>
   obtain rfl := hk
   go_enter Tryz.func23, Tryz.ntmps23
   go_wp2
   go_ret
   exact ⟨ret_bool (by simp), hB0⟩
  | true =>
   obtain rfl := hk
   go_enter Tryz.func23, Tryz.ntmps23
   go_wp2_with fail
   refine (HY.out _).mono ?_
   rintro e w1 ⟨rfl, rfl⟩
   cases Y with
   | false =>
    go_wp2
    go_ret
    exact ⟨ret_bool (by simp), hB0⟩
   | true =>
    go_wp2_with fail
    refine (HF.out _).mono ?_
    rintro e w2 ⟨rfl, hb2⟩
    have hB2 := hB0.trans (hb2.mono hB0.size)
    clear hb2
    cases D with
    | false =>
     go_wp2
     go_ret
     exact ⟨ret_bool (by simp), hB2⟩
    | true =>
     go_wp2
     go_ret
     exact ⟨ret_bool (by simp), hB2⟩
theorem implOp_0 (k : Int) (h1 : (k == 1) = false) (h2 : (k == 2) = false) (h3 : (k == 3) = false) (h4 : (k == 4) = false) (h5 : (k == 5) = false) (h6 : (k == 6) = false) (h7 : (k == 7) = false) (h8 : (k == 8) = false) (h9 : (k == 9) = false) (u i : ByteArray) (d : Int) (fu ft : ByteArray) (a : Option Addr) (n cap : Nat) (w : World) :
  Calls Tryz.prog 23 #[.agg #[.int .i64 k, .string u, .string i, .int .i64 d, .string fu, .string ft, .slice a n cap]] w fun e w' => e = .returned (.bool (false)) /\ Below w.heap.size w w' := by
 have hB0 : Below w.heap.size w (w.alloc (.cells #[.int .i64 k, .string u, .string i, .int .i64 d, .string fu, .string ft, .slice a n cap] 35)) := (Below.refl _ _).alloc (Nat.le_refl _) _
 have hX0 := Box.new w #[.int .i64 k, .string u, .string i, .int .i64 d, .string fu, .string ft, .slice a n cap] 35
 go_enter Tryz.func23, Tryz.ntmps23
 go_wp2
 go_ret
 exact ⟨ret_bool (by simp), hB0⟩
theorem specOp_3 (k : Int) (hk : k = 3) (u i : ByteArray) (d : Int) (fu ft : ByteArray) (a : Option Addr) (n cap : Nat) (its : List It) (w : World) (hfu : fu.size <= maxLen) (hft : ft.size <= maxLen) (hI : ItAt w w.heap.size (.slice a n cap) its) :
  Calls Tryz.prog 59 #[.agg #[.int .i64 k, .string u, .string i, .int .i64 d, .string fu, .string ft, .slice a n cap]] w fun e w' => e = .returned (.bool (fdB fu ft its && emB u && emB i && dzB d)) /\ Below w.heap.size w w' := by
 have hB0 : Below w.heap.size w (w.alloc (.cells #[.int .i64 k, .string u, .string i, .int .i64 d, .string fu, .string ft, .slice a n cap] 35)) := (Below.refl _ _).alloc (Nat.le_refl _) _
 have hX0 := Box.new w #[.int .i64 k, .string u, .string i, .int .i64 d, .string fu, .string ft, .slice a n cap] 35
 have HEu : Hid (emB u = u.toList.isEmpty) := Lib.hid rfl
 rw [HEu.out]
 clear HEu
 have HEi : Hid (emB i = i.toList.isEmpty) := Lib.hid rfl
 rw [HEi.out]
 clear HEi
 have HDZ : Hid (dzB d = (d == 0)) := Lib.hid rfl
 rw [HDZ.out]
 clear HDZ
 have HI := Lib.hid hI
 clear hI
 have HF := Lib.hid (fun w h => specFeedOk_any fu ft (.slice a n cap) its w hfu hft h)
 generalize fdB fu ft its = D at HF ⊢
 cases zu : u.toList.isEmpty with
 | false =>
  cases zi : i.toList.isEmpty with
  | false =>
   cases zd : (d == 0) with
   | false =>
    obtain rfl := hk
    go_enter Tryz.func59, Tryz.ntmps59
    go_wp2_with fail
    refine (HF.out _ ((HI.out.below hB0).mono hB0.size)).mono ?_
    rintro e w1 ⟨rfl, hb1⟩
    have hB1 := hB0.trans (hb1.mono hB0.size)
    have hX1 := hX0.keep hb1 hX0.lt
    have x0 := hX1.cell 0 _ rfl
    have x1 := hX1.cell 1 _ rfl
    have x2 := hX1.cell 2 _ rfl
    have x3 := hX1.cell 3 _ rfl
    clear hb1
    cases D with
    | false =>
     go_wp2
     go_ret
     exact ⟨ret_bool (by simp), hB1⟩
    | true =>
     go_wp2
     go_ret
     exact ⟨ret_bool (by simp), hB1⟩
   | true =>
    obtain rfl := hk
    go_enter Tryz.func59, Tryz.ntmps59
    go_wp2_with fail
    refine (HF.out _ ((HI.out.below hB0).mono hB0.size)).mono ?_
    rintro e w1 ⟨rfl, hb1⟩
    have hB1 := hB0.trans (hb1.mono hB0.size)
    have hX1 := hX0.keep hb1 hX0.lt
    have x0 := hX1.cell 0 _ rfl
    have x1 := hX1.cell 1 _ rfl
    have x2 := hX1.cell 2 _ rfl
    have x3 := hX1.cell 3 _ rfl
    clear hb1
    cases D with
    | false =>
     go_wp2
     go_ret
     exact ⟨ret_bool (by simp), hB1⟩
    | true =>
     go_wp2
     go_ret
     exact ⟨ret_bool (by simp), hB1⟩
  | true =>
   cases zd : (d == 0) with
   | false =>
    obtain rfl := hk
    go_enter Tryz.func59, Tryz.ntmps59
    go_wp2_with fail
    refine (HF.out _ ((HI.out.below hB0).mono hB0.size)).mono ?_
    rintro e w1 ⟨rfl, hb1⟩
    have hB1 := hB0.trans (hb1.mono hB0.size)
    have hX1 := hX0.keep hb1 hX0.lt
    have x0 := hX1.cell 0 _ rfl
    have x1 := hX1.cell 1 _ rfl
    have x2 := hX1.cell 2 _ rfl
    have x3 := hX1.cell 3 _ rfl
    clear hb1
    cases D with
    | false =>
     go_wp2
     go_ret
     exact ⟨ret_bool (by simp), hB1⟩
    | true =>
     go_wp2
     go_ret
     exact ⟨ret_bool (by simp), hB1⟩
   | true =>
    obtain rfl := hk
    go_enter Tryz.func59, Tryz.ntmps59
    go_wp2_with fail
    refine (HF.out _ ((HI.out.below hB0).mono hB0.size)).mono ?_
    rintro e w1 ⟨rfl, hb1⟩
    have hB1 := hB0.trans (hb1.mono hB0.size)
    have hX1 := hX0.keep hb1 hX0.lt
    have x0 := hX1.cell 0 _ rfl
    have x1 := hX1.cell 1 _ rfl
    have x2 := hX1.cell 2 _ rfl
    have x3 := hX1.cell 3 _ rfl
    clear hb1
    cases D with
    | false =>
     go_wp2
     go_ret
     exact ⟨ret_bool (by simp), hB1⟩
    | true =>
     go_wp2
     go_ret
     exact ⟨ret_bool (by simp), hB1⟩
 | true =>
  cases zi : i.toList.isEmpty with
  | false =>
   cases zd : (d == 0) with
   | false =>
    obtain rfl := hk
    go_enter Tryz.func59, Tryz.ntmps59
    go_wp2_with fail
    refine (HF.out _ ((HI.out.below hB0).mono hB0.size)).mono ?_
    rintro e w1 ⟨rfl, hb1⟩
    have hB1 := hB0.trans (hb1.mono hB0.size)
    have hX1 := hX0.keep hb1 hX0.lt
    have x0 := hX1.cell 0 _ rfl
    have x1 := hX1.cell 1 _ rfl
    have x2 := hX1.cell 2 _ rfl
    have x3 := hX1.cell 3 _ rfl
    clear hb1
    cases D with
    | false =>
     go_wp2
     go_ret
     exact ⟨ret_bool (by simp), hB1⟩
    | true =>
     go_wp2
     go_ret
     exact ⟨ret_bool (by simp), hB1⟩
   | true =>
    obtain rfl := hk
    go_enter Tryz.func59, Tryz.ntmps59
    go_wp2_with fail
    refine (HF.out _ ((HI.out.below hB0).mono hB0.size)).mono ?_
    rintro e w1 ⟨rfl, hb1⟩
    have hB1 := hB0.trans (hb1.mono hB0.size)
    have hX1 := hX0.keep hb1 hX0.lt
    have x0 := hX1.cell 0 _ rfl
    have x1 := hX1.cell 1 _ rfl
    have x2 := hX1.cell 2 _ rfl
    have x3 := hX1.cell 3 _ rfl
    clear hb1
    cases D with
    | false =>
     go_wp2
     go_ret
     exact ⟨ret_bool (by simp), hB1⟩
    | true =>
     go_wp2
     go_ret
     exact ⟨ret_bool (by simp), hB1⟩
  | true =>
   cases zd : (d == 0) with
   | false =>
    obtain rfl := hk
    go_enter Tryz.func59, Tryz.ntmps59
    go_wp2_with fail
    refine (HF.out _ ((HI.out.below hB0).mono hB0.size)).mono ?_
    rintro e w1 ⟨rfl, hb1⟩
    have hB1 := hB0.trans (hb1.mono hB0.size)
    have hX1 := hX0.keep hb1 hX0.lt
    have x0 := hX1.cell 0 _ rfl
    have x1 := hX1.cell 1 _ rfl
    have x2 := hX1.cell 2 _ rfl
    have x3 := hX1.cell 3 _ rfl
    clear hb1
    cases D with
    | false =>
     go_wp2
     go_ret
     exact ⟨ret_bool (by simp), hB1⟩
    | true =>
     go_wp2
     go_ret
     exact ⟨ret_bool (by simp), hB1⟩
   | true =>
    obtain rfl := hk
    go_enter Tryz.func59, Tryz.ntmps59
    go_wp2_with fail
    refine (HF.out _ ((HI.out.below hB0).mono hB0.size)).mono ?_
    rintro e w1 ⟨rfl, hb1⟩
    have hB1 := hB0.trans (hb1.mono hB0.size)
    have hX1 := hX0.keep hb1 hX0.lt
    have x0 := hX1.cell 0 _ rfl
    have x1 := hX1.cell 1 _ rfl
    have x2 := hX1.cell 2 _ rfl
    have x3 := hX1.cell 3 _ rfl
    clear hb1
    cases D with
    | false =>
     go_wp2
     go_ret
     exact ⟨ret_bool (by simp), hB1⟩
    | true =>
     go_wp2
     go_ret
     exact ⟨ret_bool (by simp), hB1⟩
theorem specOp_1 (k : Int) (hk : k = 1 \/ k = 2 \/ k = 8) (u i : ByteArray) (d : Int) (fu ft : ByteArray) (a : Option Addr) (n cap : Nat) (w : World) (hu : u.size <= maxLen) :
  Calls Tryz.prog 59 #[.agg #[.int .i64 k, .string u, .string i, .int .i64 d, .string fu, .string ft, .slice a n cap]] w fun e w' => e = .returned (.bool (feB fu ft n && (nmB u 20 && emB i && dzB d))) /\ Below w.heap.size w w' := by
 have hB0 : Below w.heap.size w (w.alloc (.cells #[.int .i64 k, .string u, .string i, .int .i64 d, .string fu, .string ft, .slice a n cap] 35)) := (Below.refl _ _).alloc (Nat.le_refl _) _
 have hX0 := Box.new w #[.int .i64 k, .string u, .string i, .int .i64 d, .string fu, .string ft, .slice a n cap] 35
 have HN := Lib.hid (fun w => l8Name_any u 20 w hu)
 generalize nmB u 20 = A at HN ⊢
 have HEi : Hid (emB i = i.toList.isEmpty) := Lib.hid rfl
 rw [HEi.out]
 clear HEi
 have HDZ : Hid (dzB d = (d == 0)) := Lib.hid rfl
 rw [HDZ.out]
 clear HDZ
 have HF := Lib.hid (fun w => l9Empty_any fu ft a n cap w)
 generalize feB fu ft n = D at HF ⊢
 cases zi : i.toList.isEmpty with
 | false =>
  cases zd : (d == 0) with
  | false =>
   rcases hk with rfl | rfl | rfl
   ·go_enter Tryz.func59, Tryz.ntmps59
    go_wp2_with fail
    refine (HF.out _).mono ?_
    rintro e w1 ⟨rfl, hb1⟩
    have hB1 := hB0.trans (hb1.mono hB0.size)
    have hX1 := hX0.keep hb1 hX0.lt
    have x0 := hX1.cell 0 _ rfl
    have x1 := hX1.cell 1 _ rfl
    have x2 := hX1.cell 2 _ rfl
    have x3 := hX1.cell 3 _ rfl
    clear hb1
    cases D with
    | false =>
     go_wp2
     go_ret
     exact ⟨ret_bool (by simp), hB1⟩
    | true =>
     go_wp2_with fail
     refine (HN.out _).mono ?_
     rintro e w2 ⟨rfl, rfl⟩
     cases A with
     | false =>
      go_wp2
      go_ret
      exact ⟨ret_bool (by simp), hB1⟩
     | true =>
      go_wp2
      go_ret
      exact ⟨ret_bool (by simp), hB1⟩
   ·go_enter Tryz.func59, Tryz.ntmps59
    go_wp2_with fail
    refine (HF.out _).mono ?_
    rintro e w1 ⟨rfl, hb1⟩
    have hB1 := hB0.trans (hb1.mono hB0.size)
    have hX1 := hX0.keep hb1 hX0.lt
    have x0 := hX1.cell 0 _ rfl
    have x1 := hX1.cell 1 _ rfl
    have x2 := hX1.cell 2 _ rfl
    have x3 := hX1.cell 3 _ rfl
    clear hb1
    cases D with
    | false =>
     go_wp2
     go_ret
     exact ⟨ret_bool (by simp), hB1⟩
    | true =>
     go_wp2_with fail
     refine (HN.out _).mono ?_
     rintro e w2 ⟨rfl, rfl⟩
     cases A with
     | false =>
      go_wp2
      go_ret
      exact ⟨ret_bool (by simp), hB1⟩
     | true =>
      go_wp2
      go_ret
      exact ⟨ret_bool (by simp), hB1⟩
   ·go_enter Tryz.func59, Tryz.ntmps59
    go_wp2_with fail
    refine (HF.out _).mono ?_
    rintro e w1 ⟨rfl, hb1⟩
    have hB1 := hB0.trans (hb1.mono hB0.size)
    have hX1 := hX0.keep hb1 hX0.lt
    have x0 := hX1.cell 0 _ rfl
    have x1 := hX1.cell 1 _ rfl
    have x2 := hX1.cell 2 _ rfl
    have x3 := hX1.cell 3 _ rfl
    clear hb1
    cases D with
    | false =>
     go_wp2
     go_ret
     exact ⟨ret_bool (by simp), hB1⟩
    | true =>
     go_wp2_with fail
     refine (HN.out _).mono ?_
     rintro e w2 ⟨rfl, rfl⟩
     cases A with
     | false =>
      go_wp2
      go_ret
      exact ⟨ret_bool (by simp), hB1⟩
     | true =>
      go_wp2
      go_ret
      exact ⟨ret_bool (by simp), hB1⟩
  | true =>
   rcases hk with rfl | rfl | rfl
   ·go_enter Tryz.func59, Tryz.ntmps59
    go_wp2_with fail
    refine (HF.out _).mono ?_
    rintro e w1 ⟨rfl, hb1⟩
    have hB1 := hB0.trans (hb1.mono hB0.size)
    have hX1 := hX0.keep hb1 hX0.lt
    have x0 := hX1.cell 0 _ rfl
    have x1 := hX1.cell 1 _ rfl
    have x2 := hX1.cell 2 _ rfl
    have x3 := hX1.cell 3 _ rfl
    clear hb1
    cases D with
    | false =>
     go_wp2
     go_ret
     exact ⟨ret_bool (by simp), hB1⟩
    | true =>
     go_wp2_with fail
     refine (HN.out _).mono ?_
     rintro e w2 ⟨rfl, rfl⟩
     cases A with
     | false =>
      go_wp2
      go_ret
      exact ⟨ret_bool (by simp), hB1⟩
     | true =>
      go_wp2
      go_ret
      exact ⟨ret_bool (by simp), hB1⟩
   ·go_enter Tryz.func59, Tryz.ntmps59
    go_wp2_with fail
    refine (HF.out _).mono ?_
    rintro e w1 ⟨rfl, hb1⟩
    have hB1 := hB0.trans (hb1.mono hB0.size)
    have hX1 := hX0.keep hb1 hX0.lt
    have x0 := hX1.cell 0 _ rfl
    have x1 := hX1.cell 1 _ rfl
    have x2 := hX1.cell 2 _ rfl
    have x3 := hX1.cell 3 _ rfl
    clear hb1
    cases D with
    | false =>
     go_wp2
     go_ret
     exact ⟨ret_bool (by simp), hB1⟩
    | true =>
     go_wp2_with fail
     refine (HN.out _).mono ?_
     rintro e w2 ⟨rfl, rfl⟩
     cases A with
     | false =>
      go_wp2
      go_ret
      exact ⟨ret_bool (by simp), hB1⟩
     | true =>
      go_wp2
      go_ret
      exact ⟨ret_bool (by simp), hB1⟩
   ·go_enter Tryz.func59, Tryz.ntmps59
    go_wp2_with fail
    refine (HF.out _).mono ?_
    rintro e w1 ⟨rfl, hb1⟩
    have hB1 := hB0.trans (hb1.mono hB0.size)
    have hX1 := hX0.keep hb1 hX0.lt
    have x0 := hX1.cell 0 _ rfl
    have x1 := hX1.cell 1 _ rfl
    have x2 := hX1.cell 2 _ rfl
    have x3 := hX1.cell 3 _ rfl
    clear hb1
    cases D with
    | false =>
     go_wp2
     go_ret
     exact ⟨ret_bool (by simp), hB1⟩
    | true =>
     go_wp2_with fail
     refine (HN.out _).mono ?_
     rintro e w2 ⟨rfl, rfl⟩
     cases A with
     | false =>
      go_wp2
      go_ret
      exact ⟨ret_bool (by simp), hB1⟩
     | true =>
      go_wp2
      go_ret
      exact ⟨ret_bool (by simp), hB1⟩
 | true =>
  cases zd : (d == 0) with
  | false =>
   rcases hk with rfl | rfl | rfl
   ·go_enter Tryz.func59, Tryz.ntmps59
    go_wp2_with fail
    refine (HF.out _).mono ?_
    rintro e w1 ⟨rfl, hb1⟩
    have hB1 := hB0.trans (hb1.mono hB0.size)
    have hX1 := hX0.keep hb1 hX0.lt
    have x0 := hX1.cell 0 _ rfl
    have x1 := hX1.cell 1 _ rfl
    have x2 := hX1.cell 2 _ rfl
    have x3 := hX1.cell 3 _ rfl
    clear hb1
    cases D with
    | false =>
     go_wp2
     go_ret
     exact ⟨ret_bool (by simp), hB1⟩
    | true =>
     go_wp2_with fail
     refine (HN.out _).mono ?_
     rintro e w2 ⟨rfl, rfl⟩
     cases A with
     | false =>
      go_wp2
      go_ret
      exact ⟨ret_bool (by simp), hB1⟩
     | true =>
      go_wp2
      go_ret
      exact ⟨ret_bool (by simp), hB1⟩
   ·go_enter Tryz.func59, Tryz.ntmps59
    go_wp2_with fail
    refine (HF.out _).mono ?_
    rintro e w1 ⟨rfl, hb1⟩
    have hB1 := hB0.trans (hb1.mono hB0.size)
    have hX1 := hX0.keep hb1 hX0.lt
    have x0 := hX1.cell 0 _ rfl
    have x1 := hX1.cell 1 _ rfl
    have x2 := hX1.cell 2 _ rfl
    have x3 := hX1.cell 3 _ rfl
    clear hb1
    cases D with
    | false =>
     go_wp2
     go_ret
     exact ⟨ret_bool (by simp), hB1⟩
    | true =>
     go_wp2_with fail
     refine (HN.out _).mono ?_
     rintro e w2 ⟨rfl, rfl⟩
     cases A with
     | false =>
      go_wp2
      go_ret
      exact ⟨ret_bool (by simp), hB1⟩
     | true =>
      go_wp2
      go_ret
      exact ⟨ret_bool (by simp), hB1⟩
   ·go_enter Tryz.func59, Tryz.ntmps59
    go_wp2_with fail
    refine (HF.out _).mono ?_
    rintro e w1 ⟨rfl, hb1⟩
    have hB1 := hB0.trans (hb1.mono hB0.size)
    have hX1 := hX0.keep hb1 hX0.lt
    have x0 := hX1.cell 0 _ rfl
    have x1 := hX1.cell 1 _ rfl
    have x2 := hX1.cell 2 _ rfl
    have x3 := hX1.cell 3 _ rfl
    clear hb1
    cases D with
    | false =>
     go_wp2
     go_ret
     exact ⟨ret_bool (by simp), hB1⟩
    | true =>
     go_wp2_with fail
     refine (HN.out _).mono ?_
     rintro e w2 ⟨rfl, rfl⟩
     cases A with
     | false =>
      go_wp2
      go_ret
      exact ⟨ret_bool (by simp), hB1⟩
     | true =>
      go_wp2
      go_ret
      exact ⟨ret_bool (by simp), hB1⟩
  | true =>
   rcases hk with rfl | rfl | rfl
   ·go_enter Tryz.func59, Tryz.ntmps59
    go_wp2_with fail
    refine (HF.out _).mono ?_
    rintro e w1 ⟨rfl, hb1⟩
    have hB1 := hB0.trans (hb1.mono hB0.size)
    have hX1 := hX0.keep hb1 hX0.lt
    have x0 := hX1.cell 0 _ rfl
    have x1 := hX1.cell 1 _ rfl
    have x2 := hX1.cell 2 _ rfl
    have x3 := hX1.cell 3 _ rfl
    clear hb1
    cases D with
    | false =>
     go_wp2
     go_ret
     exact ⟨ret_bool (by simp), hB1⟩
    | true =>
     go_wp2_with fail
     refine (HN.out _).mono ?_
     rintro e w2 ⟨rfl, rfl⟩
     cases A with
     | false =>
      go_wp2
      go_ret
      exact ⟨ret_bool (by simp), hB1⟩
     | true =>
      go_wp2
      go_ret
      exact ⟨ret_bool (by simp), hB1⟩
   ·go_enter Tryz.func59, Tryz.ntmps59
    go_wp2_with fail
    refine (HF.out _).mono ?_
    rintro e w1 ⟨rfl, hb1⟩
    have hB1 := hB0.trans (hb1.mono hB0.size)
    have hX1 := hX0.keep hb1 hX0.lt
    have x0 := hX1.cell 0 _ rfl
    have x1 := hX1.cell 1 _ rfl
    have x2 := hX1.cell 2 _ rfl
    have x3 := hX1.cell 3 _ rfl
    clear hb1
    cases D with
    | false =>
     go_wp2
     go_ret
     exact ⟨ret_bool (by simp), hB1⟩
    | true =>
     go_wp2_with fail
     refine (HN.out _).mono ?_
     rintro e w2 ⟨rfl, rfl⟩
     cases A with
     | false =>
      go_wp2
      go_ret
      exact ⟨ret_bool (by simp), hB1⟩
     | true =>
      go_wp2
      go_ret
      exact ⟨ret_bool (by simp), hB1⟩
   ·go_enter Tryz.func59, Tryz.ntmps59
    go_wp2_with fail
    refine (HF.out _).mono ?_
    rintro e w1 ⟨rfl, hb1⟩
    have hB1 := hB0.trans (hb1.mono hB0.size)
    have hX1 := hX0.keep hb1 hX0.lt
    have x0 := hX1.cell 0 _ rfl
    have x1 := hX1.cell 1 _ rfl
    have x2 := hX1.cell 2 _ rfl
    have x3 := hX1.cell 3 _ rfl
    clear hb1
    cases D with
    | false =>
     go_wp2
     go_ret
     exact ⟨ret_bool (by simp), hB1⟩
    | true =>
     go_wp2_with fail
     refine (HN.out _).mono ?_
     rintro e w2 ⟨rfl, rfl⟩
     cases A with
     | false =>
      go_wp2
      go_ret
      exact ⟨ret_bool (by simp), hB1⟩
     | true =>
      go_wp2
      go_ret
      exact ⟨ret_bool (by simp), hB1⟩
theorem specOp_4 (k : Int) (hk : k = 4 \/ k = 5 \/ k = 6 \/ k = 7) (u i : ByteArray) (d : Int) (fu ft : ByteArray) (a : Option Addr) (n cap : Nat) (w : World) (hu : u.size <= maxLen) (hi : i.size <= maxLen) :
  Calls Tryz.prog 59 #[.agg #[.int .i64 k, .string u, .string i, .int .i64 d, .string fu, .string ft, .slice a n cap]] w fun e w' => e = .returned (.bool (feB fu ft n && (nmB u 20 && nmB i 8 && dzB d))) /\ Below w.heap.size w w' := by
 have hB0 : Below w.heap.size w (w.alloc (.cells #[.int .i64 k, .string u, .string i, .int .i64 d, .string fu, .string ft, .slice a n cap] 35)) := (Below.refl _ _).alloc (Nat.le_refl _) _
 have hX0 := Box.new w #[.int .i64 k, .string u, .string i, .int .i64 d, .string fu, .string ft, .slice a n cap] 35
 have HN := Lib.hid (fun w => l8Name_any u 20 w hu)
 generalize nmB u 20 = A at HN ⊢
 have HM := Lib.hid (fun w => l8Name_any i 8 w hi)
 generalize nmB i 8 = B at HM ⊢
 have HDZ : Hid (dzB d = (d == 0)) := Lib.hid rfl
 rw [HDZ.out]
 clear HDZ
 have HF := Lib.hid (fun w => l9Empty_any fu ft a n cap w)
 generalize feB fu ft n = D at HF ⊢
 cases zd : (d == 0) with
 | false =>
  rcases hk with rfl | rfl | rfl | rfl
  ·go_enter Tryz.func59, Tryz.ntmps59
   go_wp2_with fail
   refine (HF.out _).mono ?_
   rintro e w1 ⟨rfl, hb1⟩
   have hB1 := hB0.trans (hb1.mono hB0.size)
   have hX1 := hX0.keep hb1 hX0.lt
   have x0 := hX1.cell 0 _ rfl
   have x1 := hX1.cell 1 _ rfl
   have x2 := hX1.cell 2 _ rfl
   have x3 := hX1.cell 3 _ rfl
   clear hb1
   cases D with
   | false =>
    go_wp2
    go_ret
    exact ⟨ret_bool (by simp), hB1⟩
   | true =>
    go_wp2_with fail
    refine (HN.out _).mono ?_
    rintro e w2 ⟨rfl, rfl⟩
    cases A with
    | false =>
     go_wp2
     go_ret
     exact ⟨ret_bool (by simp), hB1⟩
    | true =>
     go_wp2_with fail
     refine (HM.out _).mono ?_
     rintro e w3 ⟨rfl, rfl⟩
     cases B with
     | false =>
      go_wp2
      go_ret
      exact ⟨ret_bool (by simp), hB1⟩
     | true =>
      go_wp2
      go_ret
      exact ⟨ret_bool (by simp), hB1⟩
  ·go_enter Tryz.func59, Tryz.ntmps59
   go_wp2_with fail
   refine (HF.out _).mono ?_
   rintro e w1 ⟨rfl, hb1⟩
   have hB1 := hB0.trans (hb1.mono hB0.size)
   have hX1 := hX0.keep hb1 hX0.lt
   have x0 := hX1.cell 0 _ rfl
   have x1 := hX1.cell 1 _ rfl
   have x2 := hX1.cell 2 _ rfl
   have x3 := hX1.cell 3 _ rfl
   clear hb1
   cases D with
   | false =>
    go_wp2
    go_ret
    exact ⟨ret_bool (by simp), hB1⟩
   | true =>
    go_wp2_with fail
    refine (HN.out _).mono ?_
    rintro e w2 ⟨rfl, rfl⟩
    cases A with
    | false =>
     go_wp2
     go_ret
     exact ⟨ret_bool (by simp), hB1⟩
    | true =>
     go_wp2_with fail
     refine (HM.out _).mono ?_
     rintro e w3 ⟨rfl, rfl⟩
     cases B with
     | false =>
      go_wp2
      go_ret
      exact ⟨ret_bool (by simp), hB1⟩
     | true =>
      go_wp2
      go_ret
      exact ⟨ret_bool (by simp), hB1⟩
  ·go_enter Tryz.func59, Tryz.ntmps59
   go_wp2_with fail
   refine (HF.out _).mono ?_
   rintro e w1 ⟨rfl, hb1⟩
   have hB1 := hB0.trans (hb1.mono hB0.size)
   have hX1 := hX0.keep hb1 hX0.lt
   have x0 := hX1.cell 0 _ rfl
   have x1 := hX1.cell 1 _ rfl
   have x2 := hX1.cell 2 _ rfl
   have x3 := hX1.cell 3 _ rfl
   clear hb1
   cases D with
   | false =>
    go_wp2
    go_ret
    exact ⟨ret_bool (by simp), hB1⟩
   | true =>
    go_wp2_with fail
    refine (HN.out _).mono ?_
    rintro e w2 ⟨rfl, rfl⟩
    cases A with
    | false =>
     go_wp2
     go_ret
     exact ⟨ret_bool (by simp), hB1⟩
    | true =>
     go_wp2_with fail
     refine (HM.out _).mono ?_
     rintro e w3 ⟨rfl, rfl⟩
     cases B with
     | false =>
      go_wp2
      go_ret
      exact ⟨ret_bool (by simp), hB1⟩
     | true =>
      go_wp2
      go_ret
      exact ⟨ret_bool (by simp), hB1⟩
  ·go_enter Tryz.func59, Tryz.ntmps59
   go_wp2_with fail
   refine (HF.out _).mono ?_
   rintro e w1 ⟨rfl, hb1⟩
   have hB1 := hB0.trans (hb1.mono hB0.size)
   have hX1 := hX0.keep hb1 hX0.lt
   have x0 := hX1.cell 0 _ rfl
   have x1 := hX1.cell 1 _ rfl
   have x2 := hX1.cell 2 _ rfl
   have x3 := hX1.cell 3 _ rfl
   clear hb1
   cases D with
   | false =>
    go_wp2
    go_ret
    exact ⟨ret_bool (by simp), hB1⟩
   | true =>
    go_wp2_with fail
    refine (HN.out _).mono ?_
    rintro e w2 ⟨rfl, rfl⟩
    cases A with
    | false =>
     go_wp2
     go_ret
     exact ⟨ret_bool (by simp), hB1⟩
    | true =>
     go_wp2_with fail
     refine (HM.out _).mono ?_
     rintro e w3 ⟨rfl, rfl⟩
     cases B with
     | false =>
      go_wp2
      go_ret
      exact ⟨ret_bool (by simp), hB1⟩
     | true =>
      go_wp2
      go_ret
      exact ⟨ret_bool (by simp), hB1⟩
 | true =>
  rcases hk with rfl | rfl | rfl | rfl
  ·go_enter Tryz.func59, Tryz.ntmps59
   go_wp2_with fail
   refine (HF.out _).mono ?_
   rintro e w1 ⟨rfl, hb1⟩
   have hB1 := hB0.trans (hb1.mono hB0.size)
   have hX1 := hX0.keep hb1 hX0.lt
   have x0 := hX1.cell 0 _ rfl
   have x1 := hX1.cell 1 _ rfl
   have x2 := hX1.cell 2 _ rfl
   have x3 := hX1.cell 3 _ rfl
   clear hb1
   cases D with
   | false =>
    go_wp2
    go_ret
    exact ⟨ret_bool (by simp), hB1⟩
   | true =>
    go_wp2_with fail
    refine (HN.out _).mono ?_
    rintro e w2 ⟨rfl, rfl⟩
    cases A with
    | false =>
     go_wp2
     go_ret
     exact ⟨ret_bool (by simp), hB1⟩
    | true =>
     go_wp2_with fail
     refine (HM.out _).mono ?_
     rintro e w3 ⟨rfl, rfl⟩
     cases B with
     | false =>
      go_wp2
      go_ret
      exact ⟨ret_bool (by simp), hB1⟩
     | true =>
      go_wp2
      go_ret
      exact ⟨ret_bool (by simp), hB1⟩
  ·go_enter Tryz.func59, Tryz.ntmps59
   go_wp2_with fail
   refine (HF.out _).mono ?_
   rintro e w1 ⟨rfl, hb1⟩
   have hB1 := hB0.trans (hb1.mono hB0.size)
   have hX1 := hX0.keep hb1 hX0.lt
   have x0 := hX1.cell 0 _ rfl
   have x1 := hX1.cell 1 _ rfl
   have x2 := hX1.cell 2 _ rfl
   have x3 := hX1.cell 3 _ rfl
   clear hb1
   cases D with
   | false =>
    go_wp2
    go_ret
    exact ⟨ret_bool (by simp), hB1⟩
   | true =>
    go_wp2_with fail
    refine (HN.out _).mono ?_
    rintro e w2 ⟨rfl, rfl⟩
    cases A with
    | false =>
     go_wp2
     go_ret
     exact ⟨ret_bool (by simp), hB1⟩
    | true =>
     go_wp2_with fail
     refine (HM.out _).mono ?_
     rintro e w3 ⟨rfl, rfl⟩
     cases B with
     | false =>
      go_wp2
      go_ret
      exact ⟨ret_bool (by simp), hB1⟩
     | true =>
      go_wp2
      go_ret
      exact ⟨ret_bool (by simp), hB1⟩
  ·go_enter Tryz.func59, Tryz.ntmps59
   go_wp2_with fail
   refine (HF.out _).mono ?_
   rintro e w1 ⟨rfl, hb1⟩
   have hB1 := hB0.trans (hb1.mono hB0.size)
   have hX1 := hX0.keep hb1 hX0.lt
   have x0 := hX1.cell 0 _ rfl
   have x1 := hX1.cell 1 _ rfl
   have x2 := hX1.cell 2 _ rfl
   have x3 := hX1.cell 3 _ rfl
   clear hb1
   cases D with
   | false =>
    go_wp2
    go_ret
    exact ⟨ret_bool (by simp), hB1⟩
   | true =>
    go_wp2_with fail
    refine (HN.out _).mono ?_
    rintro e w2 ⟨rfl, rfl⟩
    cases A with
    | false =>
     go_wp2
     go_ret
     exact ⟨ret_bool (by simp), hB1⟩
    | true =>
     go_wp2_with fail
     refine (HM.out _).mono ?_
     rintro e w3 ⟨rfl, rfl⟩
     cases B with
     | false =>
      go_wp2
      go_ret
      exact ⟨ret_bool (by simp), hB1⟩
     | true =>
      go_wp2
      go_ret
      exact ⟨ret_bool (by simp), hB1⟩
  ·go_enter Tryz.func59, Tryz.ntmps59
   go_wp2_with fail
   refine (HF.out _).mono ?_
   rintro e w1 ⟨rfl, hb1⟩
   have hB1 := hB0.trans (hb1.mono hB0.size)
   have hX1 := hX0.keep hb1 hX0.lt
   have x0 := hX1.cell 0 _ rfl
   have x1 := hX1.cell 1 _ rfl
   have x2 := hX1.cell 2 _ rfl
   have x3 := hX1.cell 3 _ rfl
   clear hb1
   cases D with
   | false =>
    go_wp2
    go_ret
    exact ⟨ret_bool (by simp), hB1⟩
   | true =>
    go_wp2_with fail
    refine (HN.out _).mono ?_
    rintro e w2 ⟨rfl, rfl⟩
    cases A with
    | false =>
     go_wp2
     go_ret
     exact ⟨ret_bool (by simp), hB1⟩
    | true =>
     go_wp2_with fail
     refine (HM.out _).mono ?_
     rintro e w3 ⟨rfl, rfl⟩
     cases B with
     | false =>
      go_wp2
      go_ret
      exact ⟨ret_bool (by simp), hB1⟩
     | true =>
      go_wp2
      go_ret
      exact ⟨ret_bool (by simp), hB1⟩
theorem specOp_9 (k : Int) (hk : k = 9) (u i : ByteArray) (d : Int) (fu ft : ByteArray) (a : Option Addr) (n cap : Nat) (w : World) :
  Calls Tryz.prog 59 #[.agg #[.int .i64 k, .string u, .string i, .int .i64 d, .string fu, .string ft, .slice a n cap]] w fun e w' => e = .returned (.bool (feB fu ft n && (emB u && emB i && (decide (0 <= d) && decide (d <= 200000))))) /\ Below w.heap.size w w' := by
 have hB0 : Below w.heap.size w (w.alloc (.cells #[.int .i64 k, .string u, .string i, .int .i64 d, .string fu, .string ft, .slice a n cap] 35)) := (Below.refl _ _).alloc (Nat.le_refl _) _
 have hX0 := Box.new w #[.int .i64 k, .string u, .string i, .int .i64 d, .string fu, .string ft, .slice a n cap] 35
 have HEu : Hid (emB u = u.toList.isEmpty) := Lib.hid rfl
 rw [HEu.out]
 clear HEu
 have HEi : Hid (emB i = i.toList.isEmpty) := Lib.hid rfl
 rw [HEi.out]
 clear HEi
 have HY := Lib.hid (fun w => l1In_any d 0 200000 w)
 generalize (decide (0 <= d) && decide (d <= 200000)) = Y at HY ⊢
 have HF := Lib.hid (fun w => l9Empty_any fu ft a n cap w)
 generalize feB fu ft n = D at HF ⊢
 cases zu : u.toList.isEmpty with
 | false =>
  cases zi : i.toList.isEmpty with
  | false =>
   obtain rfl := hk
   go_enter Tryz.func59, Tryz.ntmps59
   go_wp2_with fail
   refine (HF.out _).mono ?_
   rintro e w1 ⟨rfl, hb1⟩
   have hB1 := hB0.trans (hb1.mono hB0.size)
   have hX1 := hX0.keep hb1 hX0.lt
   have x0 := hX1.cell 0 _ rfl
   have x1 := hX1.cell 1 _ rfl
   have x2 := hX1.cell 2 _ rfl
   have x3 := hX1.cell 3 _ rfl
   clear hb1
   cases D with
   | false =>
    go_wp2
    go_ret
    exact ⟨ret_bool (by simp), hB1⟩
   | true =>
    go_wp2
    go_ret
    exact ⟨ret_bool (by simp), hB1⟩
  | true =>
   obtain rfl := hk
   go_enter Tryz.func59, Tryz.ntmps59
   go_wp2_with fail
   refine (HF.out _).mono ?_
   rintro e w1 ⟨rfl, hb1⟩
   have hB1 := hB0.trans (hb1.mono hB0.size)
   have hX1 := hX0.keep hb1 hX0.lt
   have x0 := hX1.cell 0 _ rfl
   have x1 := hX1.cell 1 _ rfl
   have x2 := hX1.cell 2 _ rfl
   have x3 := hX1.cell 3 _ rfl
   clear hb1
   cases D with
   | false =>
    go_wp2
    go_ret
    exact ⟨ret_bool (by simp), hB1⟩
   | true =>
    go_wp2
    go_ret
    exact ⟨ret_bool (by simp), hB1⟩
 | true =>
  cases zi : i.toList.isEmpty with
  | false =>
   obtain rfl := hk
   go_enter Tryz.func59, Tryz.ntmps59
   go_wp2_with fail
   refine (HF.out _).mono ?_
   rintro e w1 ⟨rfl, hb1⟩
   have hB1 := hB0.trans (hb1.mono hB0.size)
   have hX1 := hX0.keep hb1 hX0.lt
   have x0 := hX1.cell 0 _ rfl
   have x1 := hX1.cell 1 _ rfl
   have x2 := hX1.cell 2 _ rfl
   have x3 := hX1.cell 3 _ rfl
   clear hb1
   cases D with
   | false =>
    go_wp2
    go_ret
    exact ⟨ret_bool (by simp), hB1⟩
   | true =>
    go_wp2
    go_ret
    exact ⟨ret_bool (by simp), hB1⟩
  | true =>
   obtain rfl := hk
   go_enter Tryz.func59, Tryz.ntmps59
   go_wp2_with fail
   refine (HF.out _).mono ?_
   rintro e w1 ⟨rfl, hb1⟩
   have hB1 := hB0.trans (hb1.mono hB0.size)
   have hX1 := hX0.keep hb1 hX0.lt
   have x0 := hX1.cell 0 _ rfl
   have x1 := hX1.cell 1 _ rfl
   have x2 := hX1.cell 2 _ rfl
   have x3 := hX1.cell 3 _ rfl
   clear hb1
   cases D with
   | false =>
    go_wp2
    go_ret
    exact ⟨ret_bool (by simp), hB1⟩
   | true =>
    go_wp2_with fail
    refine (HY.out _).mono ?_
    rintro e w2 ⟨rfl, rfl⟩
    cases Y with
    | false =>
     go_wp2
     go_ret
     exact ⟨ret_bool (by simp), hB1⟩
    | true =>
     go_wp2
     go_ret
     exact ⟨ret_bool (by simp), hB1⟩
theorem specOp_0 (k : Int) (h1 : (k == 1) = false) (h2 : (k == 2) = false) (h3 : (k == 3) = false) (h4 : (k == 4) = false) (h5 : (k == 5) = false) (h6 : (k == 6) = false) (h7 : (k == 7) = false) (h8 : (k == 8) = false) (h9 : (k == 9) = false) (u i : ByteArray) (d : Int) (fu ft : ByteArray) (a : Option Addr) (n cap : Nat) (w : World) :
  Calls Tryz.prog 59 #[.agg #[.int .i64 k, .string u, .string i, .int .i64 d, .string fu, .string ft, .slice a n cap]] w fun e w' => e = .returned (.bool (false)) /\ Below w.heap.size w w' := by
 have hB0 : Below w.heap.size w (w.alloc (.cells #[.int .i64 k, .string u, .string i, .int .i64 d, .string fu, .string ft, .slice a n cap] 35)) := (Below.refl _ _).alloc (Nat.le_refl _) _
 have hX0 := Box.new w #[.int .i64 k, .string u, .string i, .int .i64 d, .string fu, .string ft, .slice a n cap] 35
 have HF := Lib.hid (fun w => l9Empty_any fu ft a n cap w)
 generalize feB fu ft n = D at HF ⊢
 go_enter Tryz.func59, Tryz.ntmps59
 go_wp2_with fail
 refine (HF.out _).mono ?_
 rintro e w1 ⟨rfl, hb1⟩
 have hB1 := hB0.trans (hb1.mono hB0.size)
 have hX1 := hX0.keep hb1 hX0.lt
 have x0 := hX1.cell 0 _ rfl
 have x1 := hX1.cell 1 _ rfl
 have x2 := hX1.cell 2 _ rfl
 have x3 := hX1.cell 3 _ rfl
 clear hb1
 cases D with
 | false =>
  go_wp2
  go_ret
  exact ⟨ret_bool (by simp), hB1⟩
 | true =>
  go_wp2
  go_ret
  exact ⟨ret_bool (by simp), hB1⟩
end Go.Proofs.YtffkakpbelknaaaGreatDoor
