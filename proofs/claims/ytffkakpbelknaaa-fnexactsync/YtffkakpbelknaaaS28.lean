/- Joined: W9u. -/
import Derived.Test.YtffkakpbelknaaaS27
/- W9u -/
namespace Go.Proofs.Ytffkakpbelknaaa
open Go.ChangeShapes Go.WideShapes Go.ChangeAt Go.RowKit
set_option linter.unusedVariables false

theorem drop_eq {α : Type} {k : Nat} {C : α → List Value} {w : World} {B n n2 c c2 : Nat} {a : Option Addr} {l : List α} (h : RecAt k C w B (.slice a n c) l) (hn : n = n2) (hc : c = c2) : RecAt k C w B (.slice a n2 c2) l := by
  subst hn hc
  exact h

set_option maxRecDepth 100000 in
set_option maxHeartbeats 1600000 in
theorem withS_any (v : Value) (ps : List (Sb × Value)) (x : Sb × Value) (w : World) (h : RecAt 3 sbC w w.heap.size v ps) (hs : SbAt w w.heap.size v (ps.map Prod.fst)) (hone : ∀ q ∈ ps, q.2.oneCell' = true) (hox : x.2.oneCell' = true) (hr : risB (sbKs (ps.map Prod.fst)) = true) (hn : ps.length ≤ 900) :
    Calls Try.prog 102 #[v, sbV x.1.u x.1.t x.2] w (OutR 43 3 sbC (putP ps (plK (sbKs (ps.map Prod.fst)) x.1.u) (fnB (sbKs (ps.map Prod.fst)) x.1.u) x) w) := by
  have HI := Lib.hid h
  have HOn := Lib.hid hone
  have HS := Lib.hid hs
  obtain ⟨a, cap, rfl, hl, hm, hc⟩ := h
  unfold maxLen at hm
  have hM := fun v w => Try.methodS v w
  have HK := Lib.hid (fun w => keyS_any x.1.u x.1.t x.2 w)
  have HP := Lib.hid (fun w h => placeOfS_any (.slice a ps.length cap) (ps.map Prod.fst) x.1.u w h (by first | omega | (rw [List.length_map]; omega)) (ris_mono hr x.1.u))
  have hpl := plK_le (sbKs (ps.map Prod.fst)) x.1.u
  rw [show (sbKs (ps.map Prod.fst)).length = ps.length by simp [sbKs]] at hpl
  have HFn : Hid (fnB (sbKs (ps.map Prod.fst)) x.1.u = true → plK (sbKs (ps.map Prod.fst)) x.1.u < ps.length) := Lib.hid (fun h => by
    unfold fnB at h
    have hsl : (sbKs (ps.map Prod.fst)).length = ps.length := by simp [sbKs]
    by_cases hp : plK (sbKs (ps.map Prod.fst)) x.1.u < (sbKs (ps.map Prod.fst)).length
    · omega
    · rw [List.getElem?_eq_none (by omega)] at h
      cases h)
  clear hc hs hone hr
  generalize plK (sbKs (ps.map Prod.fst)) x.1.u = p at HP hpl HFn ⊢
  generalize fnB (sbKs (ps.map Prod.fst)) x.1.u = f at HP HFn ⊢
  have hb0 : Below w.heap.size w (w.alloc (.cells #[.string x.1.u, .string x.1.t, x.2] 43)) := (Below.refl _ _).alloc (Nat.le_refl _) _
  have hx0 := Box.new w #[.string x.1.u, .string x.1.t, x.2] 43
  cases f with
  | false =>
    have HPt : Hid (putP ps p false x = ps.take p ++ (x :: ps.drop p)) := Lib.hid rfl
    rw [HPt.out]
    rcases Nat.eq_or_lt_of_le (show p ≤ cap by omega) with hcp | hcp
    · obtain rfl : cap = p := hcp.symm
      go_enter Try.func102, Try.ntmps102
      go_wp2_with fail
      generalize w.alloc (.cells #[.string x.1.u, .string x.1.t, x.2] 43) = W0 at hb0 hx0 ⊢
      refine (HK.out _).mono ?_
      rintro e w1 ⟨rfl, hb1⟩
      have hB1 := hb0.trans (hb1.mono hb0.size)
      have hx1 := hx0.keep hb1 hx0.lt
      clear hb0 hb1 hx0 hM
      go_wp2_with fail
      refine (HP.out _ ((HS.out.below hB1).mono hB1.size)).mono ?_
      rintro e w2 ⟨rfl, hb2⟩
      have hB2 := hB1.trans (hb2.mono hB1.size)
      have hx2 := hx1.keep hb2 hx1.lt
      clear hb2 hB1 hx1
      go_wp2
      have hx3 := hx2.drew.alloc (.cells #[.string x.1.u, .string x.1.t, x.2] 43)
      have hx4 := hx3.alloc (.cells #[.slice a cap cap, .slice (some ⟨w2.heap.size, 0, none⟩) 1 1, .slice a 0 0] 88)
      have hIA := (HI.out.below hB2).mono hB2.size
      have hrt : RecAt 3 sbC w2.drew w2.drew.heap.size (.slice a cap cap) (ps.take cap) := hIA.take cap hpl
      have hrd : RecAt 3 sbC w2.drew w2.drew.heap.size (.slice a 0 0) (ps.drop cap) := drop_eq (hIA.drop cap hpl (a2 := a) (fun hlt => by omega)) (by omega) (by omega)
      clear hIA
      refine wp_region_T (fun w' => Box w' w.heap.size #[.string x.1.u, .string x.1.t, x.2] 43) (fun _ => True) 8 (by kernel_rfl) 9 rfl ?_
      refine wpAnyT_takesA (md := .any) 4 (by kernel_rfl) (by intro d v c a w h; cases d <;> exact h) [0, 1, 2, 3, 5] _ _ _ (by decide) (by kernel_rfl) ⟨hx2.drew, fun _ => trivial⟩ ?_
      simp only [pick, List.filterMap_cons, List.filterMap_nil, List.getElem?_cons_zero, List.getElem?_cons_succ]
      refine wpIf_step (.slice a ps.length cap) (by kernel_rfl) (fun w hw => by go_simp) ?_
      refine wpIf_step (.int .i64 (cap : Int)) (by kernel_rfl) (fun w hw => by go_simp) ?_
      refine wpIf_step (.slice a cap cap) (by kernel_rfl) (fun w hw => by go_simp) ?_
      refine wpIf_step (sbV x.1.u x.1.t x.2) (by kernel_rfl) (fun w hw => by have e0 := hw.cell 0 _ rfl; have e1 := hw.cell 1 _ rfl; have e2 := hw.cell 2 _ rfl; go_simp) ?_
      refine wpIf_step (.slice a 0 0) (by kernel_rfl) (fun w hw => by go_simp) ?_
      refine wpIf_nil (fun hS => ?_)
      clear hS
      refine wpAnyT_one 4 3 (by kernel_rfl) rfl (by kernel_rfl) (fun K hK => ?_)
      go_simp
      refine hK _ _ ⟨hx3, fun _ => trivial⟩ (fun hS => ?_)
      clear hK K hS
      refine wpAnyT_one 6 2 (by kernel_rfl) rfl (by kernel_rfl) (fun K hK => ?_)
      go_simp
      refine hK _ _ ⟨hx4, fun _ => trivial⟩ (fun hS => ?_)
      clear hK K hS
      refine wpAnyT_one 7 1 (by kernel_rfl) rfl (by kernel_rfl) (fun K hK => ?_)
      go_simp
      refine (cat3S w2.drew a cap cap (.slice a 0 0) (ps.take cap) (ps.drop cap) x hrt hrd (fun q hq => HOn.out q (List.mem_of_mem_take hq)) hox (fun q hq => HOn.out q (List.mem_of_mem_drop hq)) (by rw [List.length_take, List.length_drop]; omega)).mono ?_
      rintro e w5 ⟨v5, rfl, hown5, hb5⟩
      have hx5 := hx2.drew.keep hb5 hx2.lt
      have hB5 := hB2.drew.trans (hb5.mono hB2.size)
      refine hK _ _ ⟨hx5, fun _ => trivial⟩ (fun hS => ?_)
      clear hK K hS
      refine wpAnyT_one 8 0 (by kernel_rfl) rfl (by kernel_rfl) (fun K hK => ?_)
      go_simp
      refine hK _ _ ⟨hx5, fun _ => trivial⟩ (fun hS => ?_)
      clear hK K hS
      refine wpAnyT_over (by kernel_rfl) ?_
      go_wp2
      go_ret
      exact ⟨_, rfl, (hown5.base_mono hB2.size : _), hB5⟩
    · have hcp2 : ¬ cap = p := by omega
      go_enter Try.func102, Try.ntmps102
      go_wp2_with fail
      generalize w.alloc (.cells #[.string x.1.u, .string x.1.t, x.2] 43) = W0 at hb0 hx0 ⊢
      refine (HK.out _).mono ?_
      rintro e w1 ⟨rfl, hb1⟩
      have hB1 := hb0.trans (hb1.mono hb0.size)
      have hx1 := hx0.keep hb1 hx0.lt
      clear hb0 hb1 hx0 hM
      go_wp2_with fail
      refine (HP.out _ ((HS.out.below hB1).mono hB1.size)).mono ?_
      rintro e w2 ⟨rfl, hb2⟩
      have hB2 := hB1.trans (hb2.mono hB1.size)
      have hx2 := hx1.keep hb2 hx1.lt
      clear hb2 hB1 hx1
      go_wp2
      have hx3 := hx2.drew.alloc (.cells #[.string x.1.u, .string x.1.t, x.2] 43)
      have hx4 := hx3.alloc (.cells #[.slice a p cap, .slice (some ⟨w2.heap.size, 0, none⟩) 1 1, .slice (Option.map (fun x => x.add (p * 3)) a) (ps.length - p) (cap - p)] 88)
      have hIA := (HI.out.below hB2).mono hB2.size
      have hrt : RecAt 3 sbC w2.drew w2.drew.heap.size (.slice a p cap) (ps.take p) := hIA.take p hpl
      have hrd : RecAt 3 sbC w2.drew w2.drew.heap.size (.slice (Option.map (fun x => x.add (p * 3)) a) (ps.length - p) (cap - p)) (ps.drop (p)) := hIA.drop p hpl (fun _ b off hab => by rw [hab]; simp [Addr.add_lit])
      clear hIA
      refine wp_region_T (fun w' => Box w' w.heap.size #[.string x.1.u, .string x.1.t, x.2] 43) (fun _ => True) 8 (by kernel_rfl) 9 rfl ?_
      refine wpAnyT_takesA (md := .any) 4 (by kernel_rfl) (by intro d v c a w h; cases d <;> exact h) [0, 1, 2, 3, 5] _ _ _ (by decide) (by kernel_rfl) ⟨hx2.drew, fun _ => trivial⟩ ?_
      simp only [pick, List.filterMap_cons, List.filterMap_nil, List.getElem?_cons_zero, List.getElem?_cons_succ]
      refine wpIf_step (.slice a ps.length cap) (by kernel_rfl) (fun w hw => by go_simp) ?_
      refine wpIf_step (.int .i64 (p : Int)) (by kernel_rfl) (fun w hw => by go_simp) ?_
      refine wpIf_step (.slice a p cap) (by kernel_rfl) (fun w hw => by have hcl : ¬ cap < p := (by omega); go_simp) ?_
      refine wpIf_step (sbV x.1.u x.1.t x.2) (by kernel_rfl) (fun w hw => by have e0 := hw.cell 0 _ rfl; have e1 := hw.cell 1 _ rfl; have e2 := hw.cell 2 _ rfl; go_simp) ?_
      refine wpIf_step (.slice (Option.map (fun x => x.add (p * 3)) a) (ps.length - p) (cap - p)) (by kernel_rfl) (fun w hw => by go_simp) ?_
      refine wpIf_nil (fun hS => ?_)
      clear hS
      refine wpAnyT_one 4 3 (by kernel_rfl) rfl (by kernel_rfl) (fun K hK => ?_)
      go_simp
      refine hK _ _ ⟨hx3, fun _ => trivial⟩ (fun hS => ?_)
      clear hK K hS
      refine wpAnyT_one 6 2 (by kernel_rfl) rfl (by kernel_rfl) (fun K hK => ?_)
      go_simp
      refine hK _ _ ⟨hx4, fun _ => trivial⟩ (fun hS => ?_)
      clear hK K hS
      refine wpAnyT_one 7 1 (by kernel_rfl) rfl (by kernel_rfl) (fun K hK => ?_)
      go_simp
      refine (cat3S w2.drew a p cap (.slice (Option.map (fun x => x.add (p * 3)) a) (ps.length - p) (cap - p)) (ps.take p) (ps.drop (p)) x hrt hrd (fun q hq => HOn.out q (List.mem_of_mem_take hq)) hox (fun q hq => HOn.out q (List.mem_of_mem_drop hq)) (by rw [List.length_take, List.length_drop]; omega)).mono ?_
      rintro e w5 ⟨v5, rfl, hown5, hb5⟩
      have hx5 := hx2.drew.keep hb5 hx2.lt
      have hB5 := hB2.drew.trans (hb5.mono hB2.size)
      refine hK _ _ ⟨hx5, fun _ => trivial⟩ (fun hS => ?_)
      clear hK K hS
      refine wpAnyT_one 8 0 (by kernel_rfl) rfl (by kernel_rfl) (fun K hK => ?_)
      go_simp
      refine hK _ _ ⟨hx5, fun _ => trivial⟩ (fun hS => ?_)
      clear hK K hS
      refine wpAnyT_over (by kernel_rfl) ?_
      go_wp2
      go_ret
      exact ⟨_, rfl, (hown5.base_mono hB2.size : _), hB5⟩
  | true =>
    have hpn := HFn.out rfl
    have hcp2 : ¬ cap = p := by omega
    have HPt : Hid (putP ps p true x = ps.take p ++ (x :: ps.drop (p + 1))) := Lib.hid rfl
    rw [HPt.out]
    obtain ⟨b, off, rfl⟩ : ∃ b off, a = some ⟨b, off, none⟩ := by
      obtain ⟨_, _, hv, _, _, hc⟩ := HI.out
      cases hv
      obtain ⟨b, off, ha, _⟩ := hc (by omega)
      exact ⟨b, off, ha⟩
    rcases Nat.eq_or_lt_of_le (show 1 ≤ cap - p by omega) with hcq | hcq
    · have hcq2 : cap - p = 1 := hcq.symm
      clear hcq
      go_enter Try.func102, Try.ntmps102
      go_wp2_with fail
      generalize w.alloc (.cells #[.string x.1.u, .string x.1.t, x.2] 43) = W0 at hb0 hx0 ⊢
      refine (HK.out _).mono ?_
      rintro e w1 ⟨rfl, hb1⟩
      have hB1 := hb0.trans (hb1.mono hb0.size)
      have hx1 := hx0.keep hb1 hx0.lt
      clear hb0 hb1 hx0 hM
      go_wp2_with fail
      refine (HP.out _ ((HS.out.below hB1).mono hB1.size)).mono ?_
      rintro e w2 ⟨rfl, hb2⟩
      have hB2 := hB1.trans (hb2.mono hB1.size)
      have hx2 := hx1.keep hb2 hx1.lt
      clear hb2 hB1 hx1
      go_wp2
      have hx3 := hx2.drew.alloc (.cells #[.string x.1.u, .string x.1.t, x.2] 43)
      have hx4 := hx3.alloc (.cells #[.slice (some ⟨b, off, none⟩) p cap, .slice (some ⟨w2.heap.size, 0, none⟩) 1 1, .slice (some ⟨b, off + p * 3, none⟩) (ps.length - p - 1) 0] 88)
      have hIA := (HI.out.below hB2).mono hB2.size
      have hrt : RecAt 3 sbC w2.drew w2.drew.heap.size (.slice (some ⟨b, off, none⟩) p cap) (ps.take p) := hIA.take p hpl
      have hrd : RecAt 3 sbC w2.drew w2.drew.heap.size (.slice (some ⟨b, off + p * 3, none⟩) (ps.length - p - 1) 0) (ps.drop (p + 1)) := drop_eq (hIA.drop (p + 1) (by omega) (a2 := some ⟨b, off + p * 3, none⟩) (fun hlt => by omega)) (by omega) (by omega)
      clear hIA
      refine wp_region_T (fun w' => Box w' w.heap.size #[.string x.1.u, .string x.1.t, x.2] 43) (fun _ => True) 8 (by kernel_rfl) 9 rfl ?_
      refine wpAnyT_takesA (md := .any) 4 (by kernel_rfl) (by intro d v c a w h; cases d <;> exact h) [0, 1, 2, 3, 5] _ _ _ (by decide) (by kernel_rfl) ⟨hx2.drew, fun _ => trivial⟩ ?_
      simp only [pick, List.filterMap_cons, List.filterMap_nil, List.getElem?_cons_zero, List.getElem?_cons_succ]
      refine wpIf_step (.slice (some ⟨b, off, none⟩) ps.length cap) (by kernel_rfl) (fun w hw => by go_simp) ?_
      refine wpIf_step (.int .i64 (p : Int)) (by kernel_rfl) (fun w hw => by go_simp) ?_
      refine wpIf_step (.slice (some ⟨b, off, none⟩) p cap) (by kernel_rfl) (fun w hw => by have hcl : ¬ cap < p := (by omega); go_simp) ?_
      refine wpIf_step (sbV x.1.u x.1.t x.2) (by kernel_rfl) (fun w hw => by have e0 := hw.cell 0 _ rfl; have e1 := hw.cell 1 _ rfl; have e2 := hw.cell 2 _ rfl; go_simp) ?_
      refine wpIf_step (.slice (some ⟨b, off + p * 3, none⟩) (ps.length - p - 1) 0) (by kernel_rfl) (fun w hw => by go_simp) ?_
      refine wpIf_nil (fun hS => ?_)
      clear hS
      refine wpAnyT_one 4 3 (by kernel_rfl) rfl (by kernel_rfl) (fun K hK => ?_)
      go_simp
      refine hK _ _ ⟨hx3, fun _ => trivial⟩ (fun hS => ?_)
      clear hK K hS
      refine wpAnyT_one 6 2 (by kernel_rfl) rfl (by kernel_rfl) (fun K hK => ?_)
      go_simp
      refine hK _ _ ⟨hx4, fun _ => trivial⟩ (fun hS => ?_)
      clear hK K hS
      refine wpAnyT_one 7 1 (by kernel_rfl) rfl (by kernel_rfl) (fun K hK => ?_)
      go_simp
      refine (cat3S w2.drew (some ⟨b, off, none⟩) p cap (.slice (some ⟨b, off + p * 3, none⟩) (ps.length - p - 1) 0) (ps.take p) (ps.drop (p + 1)) x hrt hrd (fun q hq => HOn.out q (List.mem_of_mem_take hq)) hox (fun q hq => HOn.out q (List.mem_of_mem_drop hq)) (by rw [List.length_take, List.length_drop]; omega)).mono ?_
      rintro e w5 ⟨v5, rfl, hown5, hb5⟩
      have hx5 := hx2.drew.keep hb5 hx2.lt
      have hB5 := hB2.drew.trans (hb5.mono hB2.size)
      refine hK _ _ ⟨hx5, fun _ => trivial⟩ (fun hS => ?_)
      clear hK K hS
      refine wpAnyT_one 8 0 (by kernel_rfl) rfl (by kernel_rfl) (fun K hK => ?_)
      go_simp
      refine hK _ _ ⟨hx5, fun _ => trivial⟩ (fun hS => ?_)
      clear hK K hS
      refine wpAnyT_over (by kernel_rfl) ?_
      go_wp2
      go_ret
      exact ⟨_, rfl, (hown5.base_mono hB2.size : _), hB5⟩
    · have hcq2 : ¬ cap - p = 1 := by omega
      go_enter Try.func102, Try.ntmps102
      go_wp2_with fail
      generalize w.alloc (.cells #[.string x.1.u, .string x.1.t, x.2] 43) = W0 at hb0 hx0 ⊢
      refine (HK.out _).mono ?_
      rintro e w1 ⟨rfl, hb1⟩
      have hB1 := hb0.trans (hb1.mono hb0.size)
      have hx1 := hx0.keep hb1 hx0.lt
      clear hb0 hb1 hx0 hM
      go_wp2_with fail
      refine (HP.out _ ((HS.out.below hB1).mono hB1.size)).mono ?_
      rintro e w2 ⟨rfl, hb2⟩
      have hB2 := hB1.trans (hb2.mono hB1.size)
      have hx2 := hx1.keep hb2 hx1.lt
      clear hb2 hB1 hx1
      go_wp2
      have hx3 := hx2.drew.alloc (.cells #[.string x.1.u, .string x.1.t, x.2] 43)
      have hx4 := hx3.alloc (.cells #[.slice (some ⟨b, off, none⟩) p cap, .slice (some ⟨w2.heap.size, 0, none⟩) 1 1, .slice (some ⟨b, off + p * 3 + 3, none⟩) (ps.length - p - 1) (cap - p - 1)] 88)
      have hIA := (HI.out.below hB2).mono hB2.size
      have hrt : RecAt 3 sbC w2.drew w2.drew.heap.size (.slice (some ⟨b, off, none⟩) p cap) (ps.take p) := hIA.take p hpl
      have hrd : RecAt 3 sbC w2.drew w2.drew.heap.size (.slice (some ⟨b, off + p * 3 + 3, none⟩) (ps.length - p - 1) (cap - p - 1)) (ps.drop (p + 1)) := drop_eq (hIA.drop (p + 1) (by omega) (a2 := some ⟨b, off + p * 3 + 3, none⟩) (fun _ b2 off2 hab => by cases hab; rw [Nat.add_mul, Nat.one_mul, Nat.add_assoc])) (by omega) (by omega)
      clear hIA
      refine wp_region_T (fun w' => Box w' w.heap.size #[.string x.1.u, .string x.1.t, x.2] 43) (fun _ => True) 8 (by kernel_rfl) 9 rfl ?_
      refine wpAnyT_takesA (md := .any) 4 (by kernel_rfl) (by intro d v c a w h; cases d <;> exact h) [0, 1, 2, 3, 5] _ _ _ (by decide) (by kernel_rfl) ⟨hx2.drew, fun _ => trivial⟩ ?_
      simp only [pick, List.filterMap_cons, List.filterMap_nil, List.getElem?_cons_zero, List.getElem?_cons_succ]
      refine wpIf_step (.slice (some ⟨b, off, none⟩) ps.length cap) (by kernel_rfl) (fun w hw => by go_simp) ?_
      refine wpIf_step (.int .i64 (p : Int)) (by kernel_rfl) (fun w hw => by go_simp) ?_
      refine wpIf_step (.slice (some ⟨b, off, none⟩) p cap) (by kernel_rfl) (fun w hw => by have hcl : ¬ cap < p := (by omega); go_simp) ?_
      refine wpIf_step (sbV x.1.u x.1.t x.2) (by kernel_rfl) (fun w hw => by have e0 := hw.cell 0 _ rfl; have e1 := hw.cell 1 _ rfl; have e2 := hw.cell 2 _ rfl; go_simp) ?_
      refine wpIf_step (.slice (some ⟨b, off + p * 3 + 3, none⟩) (ps.length - p - 1) (cap - p - 1)) (by kernel_rfl) (fun w hw => by go_simp) ?_
      refine wpIf_nil (fun hS => ?_)
      clear hS
      refine wpAnyT_one 4 3 (by kernel_rfl) rfl (by kernel_rfl) (fun K hK => ?_)
      go_simp
      refine hK _ _ ⟨hx3, fun _ => trivial⟩ (fun hS => ?_)
      clear hK K hS
      refine wpAnyT_one 6 2 (by kernel_rfl) rfl (by kernel_rfl) (fun K hK => ?_)
      go_simp
      refine hK _ _ ⟨hx4, fun _ => trivial⟩ (fun hS => ?_)
      clear hK K hS
      refine wpAnyT_one 7 1 (by kernel_rfl) rfl (by kernel_rfl) (fun K hK => ?_)
      go_simp
      refine (cat3S w2.drew (some ⟨b, off, none⟩) p cap (.slice (some ⟨b, off + p * 3 + 3, none⟩) (ps.length - p - 1) (cap - p - 1)) (ps.take p) (ps.drop (p + 1)) x hrt hrd (fun q hq => HOn.out q (List.mem_of_mem_take hq)) hox (fun q hq => HOn.out q (List.mem_of_mem_drop hq)) (by rw [List.length_take, List.length_drop]; omega)).mono ?_
      rintro e w5 ⟨v5, rfl, hown5, hb5⟩
      have hx5 := hx2.drew.keep hb5 hx2.lt
      have hB5 := hB2.drew.trans (hb5.mono hB2.size)
      refine hK _ _ ⟨hx5, fun _ => trivial⟩ (fun hS => ?_)
      clear hK K hS
      refine wpAnyT_one 8 0 (by kernel_rfl) rfl (by kernel_rfl) (fun K hK => ?_)
      go_simp
      refine hK _ _ ⟨hx5, fun _ => trivial⟩ (fun hS => ?_)
      clear hK K hS
      refine wpAnyT_over (by kernel_rfl) ?_
      go_wp2
      go_ret
      exact ⟨_, rfl, (hown5.base_mono hB2.size : _), hB5⟩

set_option maxRecDepth 100000 in
set_option maxHeartbeats 1600000 in
theorem withE_any (v : Value) (es : List (En)) (x : En) (w : World) (h : EnAt w w.heap.size v es) (hr : risB (enKs es) = true) (hn : es.length ≤ 900) :
    Calls Try.prog 150 #[v, enV x.it.id x.it.ti x.it.da x.rd x.st] w (OutR 47 5 enC (putP es (plK (enKs es) x.it.id) (fnB (enKs es) x.it.id) x) w) := by
  have HI := Lib.hid h.1
  have HS := Lib.hid h
  obtain ⟨a, cap, rfl, hl, hm, hc⟩ := h.1
  unfold maxLen at hm
  have hM := fun v w => Try.methodE v w
  have HK := Lib.hid (fun w => keyE_any x.it.id x.it.ti x.it.da x.rd x.st w)
  have HP := Lib.hid (fun w h => placeOfE_any (.slice a es.length cap) es x.it.id w h (by first | omega | (rw [List.length_map]; omega)) (ris_mono hr x.it.id))
  have hpl := plK_le (enKs es) x.it.id
  rw [show (enKs es).length = es.length by simp [enKs]] at hpl
  have HFn : Hid (fnB (enKs es) x.it.id = true → plK (enKs es) x.it.id < es.length) := Lib.hid (fun h => by
    unfold fnB at h
    have hsl : (enKs es).length = es.length := by simp [enKs]
    by_cases hp : plK (enKs es) x.it.id < (enKs es).length
    · omega
    · rw [List.getElem?_eq_none (by omega)] at h
      cases h)
  clear hc h hr
  generalize plK (enKs es) x.it.id = p at HP hpl HFn ⊢
  generalize fnB (enKs es) x.it.id = f at HP HFn ⊢
  have hb0 : Below w.heap.size w (w.alloc (.cells #[.string x.it.id, .string x.it.ti, .int .i64 x.it.da, .bool x.rd, .bool x.st] 47)) := (Below.refl _ _).alloc (Nat.le_refl _) _
  have hx0 := Box.new w #[.string x.it.id, .string x.it.ti, .int .i64 x.it.da, .bool x.rd, .bool x.st] 47
  cases f with
  | false =>
    have HPt : Hid (putP es p false x = es.take p ++ (x :: es.drop p)) := Lib.hid rfl
    rw [HPt.out]
    rcases Nat.eq_or_lt_of_le (show p ≤ cap by omega) with hcp | hcp
    · obtain rfl : cap = p := hcp.symm
      go_enter Try.func150, Try.ntmps150
      go_wp2_with fail
      generalize w.alloc (.cells #[.string x.it.id, .string x.it.ti, .int .i64 x.it.da, .bool x.rd, .bool x.st] 47) = W0 at hb0 hx0 ⊢
      refine (HK.out _).mono ?_
      rintro e w1 ⟨rfl, hb1⟩
      have hB1 := hb0.trans (hb1.mono hb0.size)
      have hx1 := hx0.keep hb1 hx0.lt
      clear hb0 hb1 hx0 hM
      go_wp2_with fail
      refine (HP.out _ ((HS.out.below hB1).mono hB1.size)).mono ?_
      rintro e w2 ⟨rfl, hb2⟩
      have hB2 := hB1.trans (hb2.mono hB1.size)
      have hx2 := hx1.keep hb2 hx1.lt
      clear hb2 hB1 hx1
      go_wp2
      have hx3 := hx2.drew.alloc (.cells #[.string x.it.id, .string x.it.ti, .int .i64 x.it.da, .bool x.rd, .bool x.st] 47)
      have hx4 := hx3.alloc (.cells #[.slice a cap cap, .slice (some ⟨w2.heap.size, 0, none⟩) 1 1, .slice a 0 0] 194)
      have hIA := (HI.out.below hB2).mono hB2.size
      have hrt : RecAt 5 enC w2.drew w2.drew.heap.size (.slice a cap cap) (es.take cap) := hIA.take cap hpl
      have hrd : RecAt 5 enC w2.drew w2.drew.heap.size (.slice a 0 0) (es.drop cap) := drop_eq (hIA.drop cap hpl (a2 := a) (fun hlt => by omega)) (by omega) (by omega)
      clear hIA
      refine wp_region_T (fun w' => Box w' w.heap.size #[.string x.it.id, .string x.it.ti, .int .i64 x.it.da, .bool x.rd, .bool x.st] 47) (fun _ => True) 8 (by kernel_rfl) 9 rfl ?_
      refine wpAnyT_takesA (md := .any) 4 (by kernel_rfl) (by intro d v c a w h; cases d <;> exact h) [0, 1, 2, 3, 5] _ _ _ (by decide) (by kernel_rfl) ⟨hx2.drew, fun _ => trivial⟩ ?_
      simp only [pick, List.filterMap_cons, List.filterMap_nil, List.getElem?_cons_zero, List.getElem?_cons_succ]
      refine wpIf_step (.slice a es.length cap) (by kernel_rfl) (fun w hw => by go_simp) ?_
      refine wpIf_step (.int .i64 (cap : Int)) (by kernel_rfl) (fun w hw => by go_simp) ?_
      refine wpIf_step (.slice a cap cap) (by kernel_rfl) (fun w hw => by go_simp) ?_
      refine wpIf_step (enV x.it.id x.it.ti x.it.da x.rd x.st) (by kernel_rfl) (fun w hw => by have e0 := hw.cell 0 _ rfl; have e1 := hw.cell 1 _ rfl; have e2 := hw.cell 2 _ rfl; have e3 := hw.cell 3 _ rfl; have e4 := hw.cell 4 _ rfl; go_simp) ?_
      refine wpIf_step (.slice a 0 0) (by kernel_rfl) (fun w hw => by go_simp) ?_
      refine wpIf_nil (fun hS => ?_)
      clear hS
      refine wpAnyT_one 4 3 (by kernel_rfl) rfl (by kernel_rfl) (fun K hK => ?_)
      go_simp
      refine hK _ _ ⟨hx3, fun _ => trivial⟩ (fun hS => ?_)
      clear hK K hS
      refine wpAnyT_one 6 2 (by kernel_rfl) rfl (by kernel_rfl) (fun K hK => ?_)
      go_simp
      refine hK _ _ ⟨hx4, fun _ => trivial⟩ (fun hS => ?_)
      clear hK K hS
      refine wpAnyT_one 7 1 (by kernel_rfl) rfl (by kernel_rfl) (fun K hK => ?_)
      go_simp
      refine (cat3E w2.drew a cap cap (.slice a 0 0) (es.take cap) (es.drop cap) x hrt hrd (by rw [List.length_take, List.length_drop]; omega)).mono ?_
      rintro e w5 ⟨v5, rfl, hown5, hb5⟩
      have hx5 := hx2.drew.keep hb5 hx2.lt
      have hB5 := hB2.drew.trans (hb5.mono hB2.size)
      refine hK _ _ ⟨hx5, fun _ => trivial⟩ (fun hS => ?_)
      clear hK K hS
      refine wpAnyT_one 8 0 (by kernel_rfl) rfl (by kernel_rfl) (fun K hK => ?_)
      go_simp
      refine hK _ _ ⟨hx5, fun _ => trivial⟩ (fun hS => ?_)
      clear hK K hS
      refine wpAnyT_over (by kernel_rfl) ?_
      go_wp2
      go_ret
      exact ⟨_, rfl, (hown5.base_mono hB2.size : _), hB5⟩
    · have hcp2 : ¬ cap = p := by omega
      go_enter Try.func150, Try.ntmps150
      go_wp2_with fail
      generalize w.alloc (.cells #[.string x.it.id, .string x.it.ti, .int .i64 x.it.da, .bool x.rd, .bool x.st] 47) = W0 at hb0 hx0 ⊢
      refine (HK.out _).mono ?_
      rintro e w1 ⟨rfl, hb1⟩
      have hB1 := hb0.trans (hb1.mono hb0.size)
      have hx1 := hx0.keep hb1 hx0.lt
      clear hb0 hb1 hx0 hM
      go_wp2_with fail
      refine (HP.out _ ((HS.out.below hB1).mono hB1.size)).mono ?_
      rintro e w2 ⟨rfl, hb2⟩
      have hB2 := hB1.trans (hb2.mono hB1.size)
      have hx2 := hx1.keep hb2 hx1.lt
      clear hb2 hB1 hx1
      go_wp2
      have hx3 := hx2.drew.alloc (.cells #[.string x.it.id, .string x.it.ti, .int .i64 x.it.da, .bool x.rd, .bool x.st] 47)
      have hx4 := hx3.alloc (.cells #[.slice a p cap, .slice (some ⟨w2.heap.size, 0, none⟩) 1 1, .slice (Option.map (fun x => x.add (p * 5)) a) (es.length - p) (cap - p)] 194)
      have hIA := (HI.out.below hB2).mono hB2.size
      have hrt : RecAt 5 enC w2.drew w2.drew.heap.size (.slice a p cap) (es.take p) := hIA.take p hpl
      have hrd : RecAt 5 enC w2.drew w2.drew.heap.size (.slice (Option.map (fun x => x.add (p * 5)) a) (es.length - p) (cap - p)) (es.drop (p)) := hIA.drop p hpl (fun _ b off hab => by rw [hab]; simp [Addr.add_lit])
      clear hIA
      refine wp_region_T (fun w' => Box w' w.heap.size #[.string x.it.id, .string x.it.ti, .int .i64 x.it.da, .bool x.rd, .bool x.st] 47) (fun _ => True) 8 (by kernel_rfl) 9 rfl ?_
      refine wpAnyT_takesA (md := .any) 4 (by kernel_rfl) (by intro d v c a w h; cases d <;> exact h) [0, 1, 2, 3, 5] _ _ _ (by decide) (by kernel_rfl) ⟨hx2.drew, fun _ => trivial⟩ ?_
      simp only [pick, List.filterMap_cons, List.filterMap_nil, List.getElem?_cons_zero, List.getElem?_cons_succ]
      refine wpIf_step (.slice a es.length cap) (by kernel_rfl) (fun w hw => by go_simp) ?_
      refine wpIf_step (.int .i64 (p : Int)) (by kernel_rfl) (fun w hw => by go_simp) ?_
      refine wpIf_step (.slice a p cap) (by kernel_rfl) (fun w hw => by have hcl : ¬ cap < p := (by omega); go_simp) ?_
      refine wpIf_step (enV x.it.id x.it.ti x.it.da x.rd x.st) (by kernel_rfl) (fun w hw => by have e0 := hw.cell 0 _ rfl; have e1 := hw.cell 1 _ rfl; have e2 := hw.cell 2 _ rfl; have e3 := hw.cell 3 _ rfl; have e4 := hw.cell 4 _ rfl; go_simp) ?_
      refine wpIf_step (.slice (Option.map (fun x => x.add (p * 5)) a) (es.length - p) (cap - p)) (by kernel_rfl) (fun w hw => by go_simp) ?_
      refine wpIf_nil (fun hS => ?_)
      clear hS
      refine wpAnyT_one 4 3 (by kernel_rfl) rfl (by kernel_rfl) (fun K hK => ?_)
      go_simp
      refine hK _ _ ⟨hx3, fun _ => trivial⟩ (fun hS => ?_)
      clear hK K hS
      refine wpAnyT_one 6 2 (by kernel_rfl) rfl (by kernel_rfl) (fun K hK => ?_)
      go_simp
      refine hK _ _ ⟨hx4, fun _ => trivial⟩ (fun hS => ?_)
      clear hK K hS
      refine wpAnyT_one 7 1 (by kernel_rfl) rfl (by kernel_rfl) (fun K hK => ?_)
      go_simp
      refine (cat3E w2.drew a p cap (.slice (Option.map (fun x => x.add (p * 5)) a) (es.length - p) (cap - p)) (es.take p) (es.drop (p)) x hrt hrd (by rw [List.length_take, List.length_drop]; omega)).mono ?_
      rintro e w5 ⟨v5, rfl, hown5, hb5⟩
      have hx5 := hx2.drew.keep hb5 hx2.lt
      have hB5 := hB2.drew.trans (hb5.mono hB2.size)
      refine hK _ _ ⟨hx5, fun _ => trivial⟩ (fun hS => ?_)
      clear hK K hS
      refine wpAnyT_one 8 0 (by kernel_rfl) rfl (by kernel_rfl) (fun K hK => ?_)
      go_simp
      refine hK _ _ ⟨hx5, fun _ => trivial⟩ (fun hS => ?_)
      clear hK K hS
      refine wpAnyT_over (by kernel_rfl) ?_
      go_wp2
      go_ret
      exact ⟨_, rfl, (hown5.base_mono hB2.size : _), hB5⟩
  | true =>
    have hpn := HFn.out rfl
    have hcp2 : ¬ cap = p := by omega
    have HPt : Hid (putP es p true x = es.take p ++ (x :: es.drop (p + 1))) := Lib.hid rfl
    rw [HPt.out]
    obtain ⟨b, off, rfl⟩ : ∃ b off, a = some ⟨b, off, none⟩ := by
      obtain ⟨_, _, hv, _, _, hc⟩ := HI.out
      cases hv
      obtain ⟨b, off, ha, _⟩ := hc (by omega)
      exact ⟨b, off, ha⟩
    rcases Nat.eq_or_lt_of_le (show 1 ≤ cap - p by omega) with hcq | hcq
    · have hcq2 : cap - p = 1 := hcq.symm
      clear hcq
      go_enter Try.func150, Try.ntmps150
      go_wp2_with fail
      generalize w.alloc (.cells #[.string x.it.id, .string x.it.ti, .int .i64 x.it.da, .bool x.rd, .bool x.st] 47) = W0 at hb0 hx0 ⊢
      refine (HK.out _).mono ?_
      rintro e w1 ⟨rfl, hb1⟩
      have hB1 := hb0.trans (hb1.mono hb0.size)
      have hx1 := hx0.keep hb1 hx0.lt
      clear hb0 hb1 hx0 hM
      go_wp2_with fail
      refine (HP.out _ ((HS.out.below hB1).mono hB1.size)).mono ?_
      rintro e w2 ⟨rfl, hb2⟩
      have hB2 := hB1.trans (hb2.mono hB1.size)
      have hx2 := hx1.keep hb2 hx1.lt
      clear hb2 hB1 hx1
      go_wp2
      have hx3 := hx2.drew.alloc (.cells #[.string x.it.id, .string x.it.ti, .int .i64 x.it.da, .bool x.rd, .bool x.st] 47)
      have hx4 := hx3.alloc (.cells #[.slice (some ⟨b, off, none⟩) p cap, .slice (some ⟨w2.heap.size, 0, none⟩) 1 1, .slice (some ⟨b, off + p * 5, none⟩) (es.length - p - 1) 0] 194)
      have hIA := (HI.out.below hB2).mono hB2.size
      have hrt : RecAt 5 enC w2.drew w2.drew.heap.size (.slice (some ⟨b, off, none⟩) p cap) (es.take p) := hIA.take p hpl
      have hrd : RecAt 5 enC w2.drew w2.drew.heap.size (.slice (some ⟨b, off + p * 5, none⟩) (es.length - p - 1) 0) (es.drop (p + 1)) := drop_eq (hIA.drop (p + 1) (by omega) (a2 := some ⟨b, off + p * 5, none⟩) (fun hlt => by omega)) (by omega) (by omega)
      clear hIA
      refine wp_region_T (fun w' => Box w' w.heap.size #[.string x.it.id, .string x.it.ti, .int .i64 x.it.da, .bool x.rd, .bool x.st] 47) (fun _ => True) 8 (by kernel_rfl) 9 rfl ?_
      refine wpAnyT_takesA (md := .any) 4 (by kernel_rfl) (by intro d v c a w h; cases d <;> exact h) [0, 1, 2, 3, 5] _ _ _ (by decide) (by kernel_rfl) ⟨hx2.drew, fun _ => trivial⟩ ?_
      simp only [pick, List.filterMap_cons, List.filterMap_nil, List.getElem?_cons_zero, List.getElem?_cons_succ]
      refine wpIf_step (.slice (some ⟨b, off, none⟩) es.length cap) (by kernel_rfl) (fun w hw => by go_simp) ?_
      refine wpIf_step (.int .i64 (p : Int)) (by kernel_rfl) (fun w hw => by go_simp) ?_
      refine wpIf_step (.slice (some ⟨b, off, none⟩) p cap) (by kernel_rfl) (fun w hw => by have hcl : ¬ cap < p := (by omega); go_simp) ?_
      refine wpIf_step (enV x.it.id x.it.ti x.it.da x.rd x.st) (by kernel_rfl) (fun w hw => by have e0 := hw.cell 0 _ rfl; have e1 := hw.cell 1 _ rfl; have e2 := hw.cell 2 _ rfl; have e3 := hw.cell 3 _ rfl; have e4 := hw.cell 4 _ rfl; go_simp) ?_
      refine wpIf_step (.slice (some ⟨b, off + p * 5, none⟩) (es.length - p - 1) 0) (by kernel_rfl) (fun w hw => by go_simp) ?_
      refine wpIf_nil (fun hS => ?_)
      clear hS
      refine wpAnyT_one 4 3 (by kernel_rfl) rfl (by kernel_rfl) (fun K hK => ?_)
      go_simp
      refine hK _ _ ⟨hx3, fun _ => trivial⟩ (fun hS => ?_)
      clear hK K hS
      refine wpAnyT_one 6 2 (by kernel_rfl) rfl (by kernel_rfl) (fun K hK => ?_)
      go_simp
      refine hK _ _ ⟨hx4, fun _ => trivial⟩ (fun hS => ?_)
      clear hK K hS
      refine wpAnyT_one 7 1 (by kernel_rfl) rfl (by kernel_rfl) (fun K hK => ?_)
      go_simp
      refine (cat3E w2.drew (some ⟨b, off, none⟩) p cap (.slice (some ⟨b, off + p * 5, none⟩) (es.length - p - 1) 0) (es.take p) (es.drop (p + 1)) x hrt hrd (by rw [List.length_take, List.length_drop]; omega)).mono ?_
      rintro e w5 ⟨v5, rfl, hown5, hb5⟩
      have hx5 := hx2.drew.keep hb5 hx2.lt
      have hB5 := hB2.drew.trans (hb5.mono hB2.size)
      refine hK _ _ ⟨hx5, fun _ => trivial⟩ (fun hS => ?_)
      clear hK K hS
      refine wpAnyT_one 8 0 (by kernel_rfl) rfl (by kernel_rfl) (fun K hK => ?_)
      go_simp
      refine hK _ _ ⟨hx5, fun _ => trivial⟩ (fun hS => ?_)
      clear hK K hS
      refine wpAnyT_over (by kernel_rfl) ?_
      go_wp2
      go_ret
      exact ⟨_, rfl, (hown5.base_mono hB2.size : _), hB5⟩
    · have hcq2 : ¬ cap - p = 1 := by omega
      go_enter Try.func150, Try.ntmps150
      go_wp2_with fail
      generalize w.alloc (.cells #[.string x.it.id, .string x.it.ti, .int .i64 x.it.da, .bool x.rd, .bool x.st] 47) = W0 at hb0 hx0 ⊢
      refine (HK.out _).mono ?_
      rintro e w1 ⟨rfl, hb1⟩
      have hB1 := hb0.trans (hb1.mono hb0.size)
      have hx1 := hx0.keep hb1 hx0.lt
      clear hb0 hb1 hx0 hM
      go_wp2_with fail
      refine (HP.out _ ((HS.out.below hB1).mono hB1.size)).mono ?_
      rintro e w2 ⟨rfl, hb2⟩
      have hB2 := hB1.trans (hb2.mono hB1.size)
      have hx2 := hx1.keep hb2 hx1.lt
      clear hb2 hB1 hx1
      go_wp2
      have hx3 := hx2.drew.alloc (.cells #[.string x.it.id, .string x.it.ti, .int .i64 x.it.da, .bool x.rd, .bool x.st] 47)
      have hx4 := hx3.alloc (.cells #[.slice (some ⟨b, off, none⟩) p cap, .slice (some ⟨w2.heap.size, 0, none⟩) 1 1, .slice (some ⟨b, off + p * 5 + 5, none⟩) (es.length - p - 1) (cap - p - 1)] 194)
      have hIA := (HI.out.below hB2).mono hB2.size
      have hrt : RecAt 5 enC w2.drew w2.drew.heap.size (.slice (some ⟨b, off, none⟩) p cap) (es.take p) := hIA.take p hpl
      have hrd : RecAt 5 enC w2.drew w2.drew.heap.size (.slice (some ⟨b, off + p * 5 + 5, none⟩) (es.length - p - 1) (cap - p - 1)) (es.drop (p + 1)) := drop_eq (hIA.drop (p + 1) (by omega) (a2 := some ⟨b, off + p * 5 + 5, none⟩) (fun _ b2 off2 hab => by cases hab; rw [Nat.add_mul, Nat.one_mul, Nat.add_assoc])) (by omega) (by omega)
      clear hIA
      refine wp_region_T (fun w' => Box w' w.heap.size #[.string x.it.id, .string x.it.ti, .int .i64 x.it.da, .bool x.rd, .bool x.st] 47) (fun _ => True) 8 (by kernel_rfl) 9 rfl ?_
      refine wpAnyT_takesA (md := .any) 4 (by kernel_rfl) (by intro d v c a w h; cases d <;> exact h) [0, 1, 2, 3, 5] _ _ _ (by decide) (by kernel_rfl) ⟨hx2.drew, fun _ => trivial⟩ ?_
      simp only [pick, List.filterMap_cons, List.filterMap_nil, List.getElem?_cons_zero, List.getElem?_cons_succ]
      refine wpIf_step (.slice (some ⟨b, off, none⟩) es.length cap) (by kernel_rfl) (fun w hw => by go_simp) ?_
      refine wpIf_step (.int .i64 (p : Int)) (by kernel_rfl) (fun w hw => by go_simp) ?_
      refine wpIf_step (.slice (some ⟨b, off, none⟩) p cap) (by kernel_rfl) (fun w hw => by have hcl : ¬ cap < p := (by omega); go_simp) ?_
      refine wpIf_step (enV x.it.id x.it.ti x.it.da x.rd x.st) (by kernel_rfl) (fun w hw => by have e0 := hw.cell 0 _ rfl; have e1 := hw.cell 1 _ rfl; have e2 := hw.cell 2 _ rfl; have e3 := hw.cell 3 _ rfl; have e4 := hw.cell 4 _ rfl; go_simp) ?_
      refine wpIf_step (.slice (some ⟨b, off + p * 5 + 5, none⟩) (es.length - p - 1) (cap - p - 1)) (by kernel_rfl) (fun w hw => by go_simp) ?_
      refine wpIf_nil (fun hS => ?_)
      clear hS
      refine wpAnyT_one 4 3 (by kernel_rfl) rfl (by kernel_rfl) (fun K hK => ?_)
      go_simp
      refine hK _ _ ⟨hx3, fun _ => trivial⟩ (fun hS => ?_)
      clear hK K hS
      refine wpAnyT_one 6 2 (by kernel_rfl) rfl (by kernel_rfl) (fun K hK => ?_)
      go_simp
      refine hK _ _ ⟨hx4, fun _ => trivial⟩ (fun hS => ?_)
      clear hK K hS
      refine wpAnyT_one 7 1 (by kernel_rfl) rfl (by kernel_rfl) (fun K hK => ?_)
      go_simp
      refine (cat3E w2.drew (some ⟨b, off, none⟩) p cap (.slice (some ⟨b, off + p * 5 + 5, none⟩) (es.length - p - 1) (cap - p - 1)) (es.take p) (es.drop (p + 1)) x hrt hrd (by rw [List.length_take, List.length_drop]; omega)).mono ?_
      rintro e w5 ⟨v5, rfl, hown5, hb5⟩
      have hx5 := hx2.drew.keep hb5 hx2.lt
      have hB5 := hB2.drew.trans (hb5.mono hB2.size)
      refine hK _ _ ⟨hx5, fun _ => trivial⟩ (fun hS => ?_)
      clear hK K hS
      refine wpAnyT_one 8 0 (by kernel_rfl) rfl (by kernel_rfl) (fun K hK => ?_)
      go_simp
      refine hK _ _ ⟨hx5, fun _ => trivial⟩ (fun hS => ?_)
      clear hK K hS
      refine wpAnyT_over (by kernel_rfl) ?_
      go_wp2
      go_ret
      exact ⟨_, rfl, (hown5.base_mono hB2.size : _), hB5⟩

end Go.Proofs.Ytffkakpbelknaaa
