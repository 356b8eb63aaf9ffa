/- Joined: W14c. -/
import Derived.Test.YtffkakpbelknaaaS29
import Derived.Test.YtffkakpbelknaaaS30
/- W14c -/
namespace Go.Proofs.Ytffkakpbelknaaa
open Go.ChangeShapes Go.WideShapes Go.ChangeAt Go.RowKit
set_option linter.unusedVariables false

set_option maxRecDepth 100000 in
set_option maxHeartbeats 1600000 in
theorem withF_any (v : Value) (es : List (Fi)) (x : Fi) (w : World) (h : FiAt w w.heap.size v es) (hr : risB (fiKs es) = true) (hn : es.length ≤ 900) :
    Calls Try.prog 140 #[v, fiV x.nm x.da] w (OutR 167 2 fiC (putP es (plK (fiKs es) x.nm) (fnB (fiKs es) x.nm) x) w) := by
  have HI := Lib.hid h.1
  have HS := Lib.hid h
  obtain ⟨a, cap, rfl, hl, hm, hc⟩ := h.1
  unfold maxLen at hm
  have hM := fun v w => Try.methodF v w
  have HK := Lib.hid (fun w => keyF_any x.nm x.da w)
  have HP := Lib.hid (fun w h => placeOfF_any (.slice a es.length cap) es x.nm w h (by first | omega | (rw [List.length_map]; omega)) (ris_mono hr x.nm))
  have hpl := plK_le (fiKs es) x.nm
  rw [show (fiKs es).length = es.length by simp [fiKs]] at hpl
  have HFn : Hid (fnB (fiKs es) x.nm = true → plK (fiKs es) x.nm < es.length) := Lib.hid (fun h => by
    unfold fnB at h
    have hsl : (fiKs es).length = es.length := by simp [fiKs]
    by_cases hp : plK (fiKs es) x.nm < (fiKs es).length
    · omega
    · rw [List.getElem?_eq_none (by omega)] at h
      cases h)
  clear hc h hr
  generalize plK (fiKs es) x.nm = p at HP hpl HFn ⊢
  generalize fnB (fiKs es) x.nm = f at HP HFn ⊢
  have hb0 : Below w.heap.size w (w.alloc (.cells #[.string x.nm, .string x.da] 167)) := (Below.refl _ _).alloc (Nat.le_refl _) _
  have hx0 := Box.new w #[.string x.nm, .string x.da] 167
  cases f with
  | false =>
    have HPt : Hid (putP es p false x = es.take p ++ (x :: es.drop p)) := Lib.hid rfl
    rw [HPt.out]
    rcases Nat.eq_or_lt_of_le (show p ≤ cap by omega) with hcp | hcp
    · obtain rfl : cap = p := hcp.symm
      go_enter Try.func140, Try.ntmps140
      go_wp2_with fail
      generalize w.alloc (.cells #[.string x.nm, .string x.da] 167) = W0 at hb0 hx0 ⊢
      refine (HK.out _).mono ?_
      rintro e w1 ⟨rfl, hb1⟩
      have hB1 := hb0.trans (hb1.mono hb0.size)
      have hx1 := hx0.keep hb1 hx0.lt
      clear hb0 hb1 hx0 hM
      go_wp2_with fail
      refine (HP.out _ ((HS.out.below hB1).mono hB1.size)).mono ?_
      rintro e w2 ⟨rfl, hb2⟩
      have hB2 := hB1.trans (hb2.mono hB1.size)
      have hx2 := hx1.keep hb2 hx1.lt
      clear hb2 hB1 hx1
      go_wp2
      have hx3 := hx2.drew.alloc (.cells #[.string x.nm, .string x.da] 167)
      have hx4 := hx3.alloc (.cells #[.slice a cap cap, .slice (some ⟨w2.heap.size, 0, none⟩) 1 1, .slice a 0 0] 111)
      have hIA := (HI.out.below hB2).mono hB2.size
      have hrt : RecAt 2 fiC w2.drew w2.drew.heap.size (.slice a cap cap) (es.take cap) := hIA.take cap hpl
      have hrd : RecAt 2 fiC w2.drew w2.drew.heap.size (.slice a 0 0) (es.drop cap) := drop_eq (hIA.drop cap hpl (a2 := a) (fun hlt => by omega)) (by omega) (by omega)
      clear hIA
      refine wp_region_T (fun w' => Box w' w.heap.size #[.string x.nm, .string x.da] 167) (fun _ => True) 8 (by kernel_rfl) 9 rfl ?_
      refine wpAnyT_takesA (md := .any) 4 (by kernel_rfl) (by intro d v c a w h; cases d <;> exact h) [0, 1, 2, 3, 5] _ _ _ (by decide) (by kernel_rfl) ⟨hx2.drew, fun _ => trivial⟩ ?_
      simp only [pick, List.filterMap_cons, List.filterMap_nil, List.getElem?_cons_zero, List.getElem?_cons_succ]
      refine wpIf_step (.slice a es.length cap) (by kernel_rfl) (fun w hw => by go_simp) ?_
      refine wpIf_step (.int .i64 (cap : Int)) (by kernel_rfl) (fun w hw => by go_simp) ?_
      refine wpIf_step (.slice a cap cap) (by kernel_rfl) (fun w hw => by go_simp) ?_
      refine wpIf_step (fiV x.nm x.da) (by kernel_rfl) (fun w hw => by have e0 := hw.cell 0 _ rfl; have e1 := hw.cell 1 _ rfl; go_simp) ?_
      refine wpIf_step (.slice a 0 0) (by kernel_rfl) (fun w hw => by go_simp) ?_
      refine wpIf_nil (fun hS => ?_)
      clear hS
      refine wpAnyT_one 4 3 (by kernel_rfl) rfl (by kernel_rfl) (fun K hK => ?_)
      go_simp
      refine hK _ _ ⟨hx3, fun _ => trivial⟩ (fun hS => ?_)
      clear hK K hS
      refine wpAnyT_one 6 2 (by kernel_rfl) rfl (by kernel_rfl) (fun K hK => ?_)
      go_simp
      refine hK _ _ ⟨hx4, fun _ => trivial⟩ (fun hS => ?_)
      clear hK K hS
      refine wpAnyT_one 7 1 (by kernel_rfl) rfl (by kernel_rfl) (fun K hK => ?_)
      go_simp
      refine (cat3F w2.drew a cap cap (.slice a 0 0) (es.take cap) (es.drop cap) x hrt hrd (by rw [List.length_take, List.length_drop]; omega)).mono ?_
      rintro e w5 ⟨v5, rfl, hown5, hb5⟩
      have hx5 := hx2.drew.keep hb5 hx2.lt
      have hB5 := hB2.drew.trans (hb5.mono hB2.size)
      refine hK _ _ ⟨hx5, fun _ => trivial⟩ (fun hS => ?_)
      clear hK K hS
      refine wpAnyT_one 8 0 (by kernel_rfl) rfl (by kernel_rfl) (fun K hK => ?_)
      go_simp
      refine hK _ _ ⟨hx5, fun _ => trivial⟩ (fun hS => ?_)
      clear hK K hS
      refine wpAnyT_over (by kernel_rfl) ?_
      go_wp2
      go_ret
      exact ⟨_, rfl, (hown5.base_mono hB2.size : _), hB5⟩
    · have hcp2 : ¬ cap = p := by omega
      go_enter Try.func140, Try.ntmps140
      go_wp2_with fail
      generalize w.alloc (.cells #[.string x.nm, .string x.da] 167) = W0 at hb0 hx0 ⊢
      refine (HK.out _).mono ?_
      rintro e w1 ⟨rfl, hb1⟩
      have hB1 := hb0.trans (hb1.mono hb0.size)
      have hx1 := hx0.keep hb1 hx0.lt
      clear hb0 hb1 hx0 hM
      go_wp2_with fail
      refine (HP.out _ ((HS.out.below hB1).mono hB1.size)).mono ?_
      rintro e w2 ⟨rfl, hb2⟩
      have hB2 := hB1.trans (hb2.mono hB1.size)
      have hx2 := hx1.keep hb2 hx1.lt
      clear hb2 hB1 hx1
      go_wp2
      have hx3 := hx2.drew.alloc (.cells #[.string x.nm, .string x.da] 167)
      have hx4 := hx3.alloc (.cells #[.slice a p cap, .slice (some ⟨w2.heap.size, 0, none⟩) 1 1, .slice (Option.map (fun x => x.add (p * 2)) a) (es.length - p) (cap - p)] 111)
      have hIA := (HI.out.below hB2).mono hB2.size
      have hrt : RecAt 2 fiC w2.drew w2.drew.heap.size (.slice a p cap) (es.take p) := hIA.take p hpl
      have hrd : RecAt 2 fiC w2.drew w2.drew.heap.size (.slice (Option.map (fun x => x.add (p * 2)) a) (es.length - p) (cap - p)) (es.drop (p)) := hIA.drop p hpl (fun _ b off hab => by rw [hab]; simp [Addr.add_lit])
      clear hIA
      refine wp_region_T (fun w' => Box w' w.heap.size #[.string x.nm, .string x.da] 167) (fun _ => True) 8 (by kernel_rfl) 9 rfl ?_
      refine wpAnyT_takesA (md := .any) 4 (by kernel_rfl) (by intro d v c a w h; cases d <;> exact h) [0, 1, 2, 3, 5] _ _ _ (by decide) (by kernel_rfl) ⟨hx2.drew, fun _ => trivial⟩ ?_
      simp only [pick, List.filterMap_cons, List.filterMap_nil, List.getElem?_cons_zero, List.getElem?_cons_succ]
      refine wpIf_step (.slice a es.length cap) (by kernel_rfl) (fun w hw => by go_simp) ?_
      refine wpIf_step (.int .i64 (p : Int)) (by kernel_rfl) (fun w hw => by go_simp) ?_
      refine wpIf_step (.slice a p cap) (by kernel_rfl) (fun w hw => by have hcl : ¬ cap < p := (by omega); go_simp) ?_
      refine wpIf_step (fiV x.nm x.da) (by kernel_rfl) (fun w hw => by have e0 := hw.cell 0 _ rfl; have e1 := hw.cell 1 _ rfl; go_simp) ?_
      refine wpIf_step (.slice (Option.map (fun x => x.add (p * 2)) a) (es.length - p) (cap - p)) (by kernel_rfl) (fun w hw => by go_simp) ?_
      refine wpIf_nil (fun hS => ?_)
      clear hS
      refine wpAnyT_one 4 3 (by kernel_rfl) rfl (by kernel_rfl) (fun K hK => ?_)
      go_simp
      refine hK _ _ ⟨hx3, fun _ => trivial⟩ (fun hS => ?_)
      clear hK K hS
      refine wpAnyT_one 6 2 (by kernel_rfl) rfl (by kernel_rfl) (fun K hK => ?_)
      go_simp
      refine hK _ _ ⟨hx4, fun _ => trivial⟩ (fun hS => ?_)
      clear hK K hS
      refine wpAnyT_one 7 1 (by kernel_rfl) rfl (by kernel_rfl) (fun K hK => ?_)
      go_simp
      refine (cat3F w2.drew a p cap (.slice (Option.map (fun x => x.add (p * 2)) a) (es.length - p) (cap - p)) (es.take p) (es.drop (p)) x hrt hrd (by rw [List.length_take, List.length_drop]; omega)).mono ?_
      rintro e w5 ⟨v5, rfl, hown5, hb5⟩
      have hx5 := hx2.drew.keep hb5 hx2.lt
      have hB5 := hB2.drew.trans (hb5.mono hB2.size)
      refine hK _ _ ⟨hx5, fun _ => trivial⟩ (fun hS => ?_)
      clear hK K hS
      refine wpAnyT_one 8 0 (by kernel_rfl) rfl (by kernel_rfl) (fun K hK => ?_)
      go_simp
      refine hK _ _ ⟨hx5, fun _ => trivial⟩ (fun hS => ?_)
      clear hK K hS
      refine wpAnyT_over (by kernel_rfl) ?_
      go_wp2
      go_ret
      exact ⟨_, rfl, (hown5.base_mono hB2.size : _), hB5⟩
  | true =>
    have hpn := HFn.out rfl
    have hcp2 : ¬ cap = p := by omega
    have HPt : Hid (putP es p true x = es.take p ++ (x :: es.drop (p + 1))) := Lib.hid rfl
    rw [HPt.out]
    obtain ⟨b, off, rfl⟩ : ∃ b off, a = some ⟨b, off, none⟩ := by
      obtain ⟨_, _, hv, _, _, hc⟩ := HI.out
      cases hv
      obtain ⟨b, off, ha, _⟩ := hc (by omega)
      exact ⟨b, off, ha⟩
    rcases Nat.eq_or_lt_of_le (show 1 ≤ cap - p by omega) with hcq | hcq
    · have hcq2 : cap - p = 1 := hcq.symm
      clear hcq
      go_enter Try.func140, Try.ntmps140
      go_wp2_with fail
      generalize w.alloc (.cells #[.string x.nm, .string x.da] 167) = W0 at hb0 hx0 ⊢
      refine (HK.out _).mono ?_
      rintro e w1 ⟨rfl, hb1⟩
      have hB1 := hb0.trans (hb1.mono hb0.size)
      have hx1 := hx0.keep hb1 hx0.lt
      clear hb0 hb1 hx0 hM
      go_wp2_with fail
      refine (HP.out _ ((HS.out.below hB1).mono hB1.size)).mono ?_
      rintro e w2 ⟨rfl, hb2⟩
      have hB2 := hB1.trans (hb2.mono hB1.size)
      have hx2 := hx1.keep hb2 hx1.lt
      clear hb2 hB1 hx1
      go_wp2
      have hx3 := hx2.drew.alloc (.cells #[.string x.nm, .string x.da] 167)
      have hx4 := hx3.alloc (.cells #[.slice (some ⟨b, off, none⟩) p cap, .slice (some ⟨w2.heap.size, 0, none⟩) 1 1, .slice (some ⟨b, off + p * 2, none⟩) (es.length - p - 1) 0] 111)
      have hIA := (HI.out.below hB2).mono hB2.size
      have hrt : RecAt 2 fiC w2.drew w2.drew.heap.size (.slice (some ⟨b, off, none⟩) p cap) (es.take p) := hIA.take p hpl
      have hrd : RecAt 2 fiC w2.drew w2.drew.heap.size (.slice (some ⟨b, off + p * 2, none⟩) (es.length - p - 1) 0) (es.drop (p + 1)) := drop_eq (hIA.drop (p + 1) (by omega) (a2 := some ⟨b, off + p * 2, none⟩) (fun hlt => by omega)) (by omega) (by omega)
      clear hIA
      refine wp_region_T (fun w' => Box w' w.heap.size #[.string x.nm, .string x.da] 167) (fun _ => True) 8 (by kernel_rfl) 9 rfl ?_
      refine wpAnyT_takesA (md := .any) 4 (by kernel_rfl) (by intro d v c a w h; cases d <;> exact h) [0, 1, 2, 3, 5] _ _ _ (by decide) (by kernel_rfl) ⟨hx2.drew, fun _ => trivial⟩ ?_
      simp only [pick, List.filterMap_cons, List.filterMap_nil, List.getElem?_cons_zero, List.getElem?_cons_succ]
      refine wpIf_step (.slice (some ⟨b, off, none⟩) es.length cap) (by kernel_rfl) (fun w hw => by go_simp) ?_
      refine wpIf_step (.int .i64 (p : Int)) (by kernel_rfl) (fun w hw => by go_simp) ?_
      refine wpIf_step (.slice (some ⟨b, off, none⟩) p cap) (by kernel_rfl) (fun w hw => by have hcl : ¬ cap < p := (by omega); go_simp) ?_
      refine wpIf_step (fiV x.nm x.da) (by kernel_rfl) (fun w hw => by have e0 := hw.cell 0 _ rfl; have e1 := hw.cell 1 _ rfl; go_simp) ?_
      refine wpIf_step (.slice (some ⟨b, off + p * 2, none⟩) (es.length - p - 1) 0) (by kernel_rfl) (fun w hw => by go_simp) ?_
      refine wpIf_nil (fun hS => ?_)
      clear hS
      refine wpAnyT_one 4 3 (by kernel_rfl) rfl (by kernel_rfl) (fun K hK => ?_)
      go_simp
      refine hK _ _ ⟨hx3, fun _ => trivial⟩ (fun hS => ?_)
      clear hK K hS
      refine wpAnyT_one 6 2 (by kernel_rfl) rfl (by kernel_rfl) (fun K hK => ?_)
      go_simp
      refine hK _ _ ⟨hx4, fun _ => trivial⟩ (fun hS => ?_)
      clear hK K hS
      refine wpAnyT_one 7 1 (by kernel_rfl) rfl (by kernel_rfl) (fun K hK => ?_)
      go_simp
      refine (cat3F w2.drew (some ⟨b, off, none⟩) p cap (.slice (some ⟨b, off + p * 2, none⟩) (es.length - p - 1) 0) (es.take p) (es.drop (p + 1)) x hrt hrd (by rw [List.length_take, List.length_drop]; omega)).mono ?_
      rintro e w5 ⟨v5, rfl, hown5, hb5⟩
      have hx5 := hx2.drew.keep hb5 hx2.lt
      have hB5 := hB2.drew.trans (hb5.mono hB2.size)
      refine hK _ _ ⟨hx5, fun _ => trivial⟩ (fun hS => ?_)
      clear hK K hS
      refine wpAnyT_one 8 0 (by kernel_rfl) rfl (by kernel_rfl) (fun K hK => ?_)
      go_simp
      refine hK _ _ ⟨hx5, fun _ => trivial⟩ (fun hS => ?_)
      clear hK K hS
      refine wpAnyT_over (by kernel_rfl) ?_
      go_wp2
      go_ret
      exact ⟨_, rfl, (hown5.base_mono hB2.size : _), hB5⟩
    · have hcq2 : ¬ cap - p = 1 := by omega
      go_enter Try.func140, Try.ntmps140
      go_wp2_with fail
      generalize w.alloc (.cells #[.string x.nm, .string x.da] 167) = W0 at hb0 hx0 ⊢
      refine (HK.out _).mono ?_
      rintro e w1 ⟨rfl, hb1⟩
      have hB1 := hb0.trans (hb1.mono hb0.size)
      have hx1 := hx0.keep hb1 hx0.lt
      clear hb0 hb1 hx0 hM
      go_wp2_with fail
      refine (HP.out _ ((HS.out.below hB1).mono hB1.size)).mono ?_
      rintro e w2 ⟨rfl, hb2⟩
      have hB2 := hB1.trans (hb2.mono hB1.size)
      have hx2 := hx1.keep hb2 hx1.lt
      clear hb2 hB1 hx1
      go_wp2
      have hx3 := hx2.drew.alloc (.cells #[.string x.nm, .string x.da] 167)
      have hx4 := hx3.alloc (.cells #[.slice (some ⟨b, off, none⟩) p cap, .slice (some ⟨w2.heap.size, 0, none⟩) 1 1, .slice (some ⟨b, off + p * 2 + 2, none⟩) (es.length - p - 1) (cap - p - 1)] 111)
      have hIA := (HI.out.below hB2).mono hB2.size
      have hrt : RecAt 2 fiC w2.drew w2.drew.heap.size (.slice (some ⟨b, off, none⟩) p cap) (es.take p) := hIA.take p hpl
      have hrd : RecAt 2 fiC w2.drew w2.drew.heap.size (.slice (some ⟨b, off + p * 2 + 2, none⟩) (es.length - p - 1) (cap - p - 1)) (es.drop (p + 1)) := drop_eq (hIA.drop (p + 1) (by omega) (a2 := some ⟨b, off + p * 2 + 2, none⟩) (fun _ b2 off2 hab => by cases hab; rw [Nat.add_mul, Nat.one_mul, Nat.add_assoc])) (by omega) (by omega)
      clear hIA
      refine wp_region_T (fun w' => Box w' w.heap.size #[.string x.nm, .string x.da] 167) (fun _ => True) 8 (by kernel_rfl) 9 rfl ?_
      refine wpAnyT_takesA (md := .any) 4 (by kernel_rfl) (by intro d v c a w h; cases d <;> exact h) [0, 1, 2, 3, 5] _ _ _ (by decide) (by kernel_rfl) ⟨hx2.drew, fun _ => trivial⟩ ?_
      simp only [pick, List.filterMap_cons, List.filterMap_nil, List.getElem?_cons_zero, List.getElem?_cons_succ]
      refine wpIf_step (.slice (some ⟨b, off, none⟩) es.length cap) (by kernel_rfl) (fun w hw => by go_simp) ?_
      refine wpIf_step (.int .i64 (p : Int)) (by kernel_rfl) (fun w hw => by go_simp) ?_
      refine wpIf_step (.slice (some ⟨b, off, none⟩) p cap) (by kernel_rfl) (fun w hw => by have hcl : ¬ cap < p := (by omega); go_simp) ?_
      refine wpIf_step (fiV x.nm x.da) (by kernel_rfl) (fun w hw => by have e0 := hw.cell 0 _ rfl; have e1 := hw.cell 1 _ rfl; go_simp) ?_
      refine wpIf_step (.slice (some ⟨b, off + p * 2 + 2, none⟩) (es.length - p - 1) (cap - p - 1)) (by kernel_rfl) (fun w hw => by go_simp) ?_
      refine wpIf_nil (fun hS => ?_)
      clear hS
      refine wpAnyT_one 4 3 (by kernel_rfl) rfl (by kernel_rfl) (fun K hK => ?_)
      go_simp
      refine hK _ _ ⟨hx3, fun _ => trivial⟩ (fun hS => ?_)
      clear hK K hS
      refine wpAnyT_one 6 2 (by kernel_rfl) rfl (by kernel_rfl) (fun K hK => ?_)
      go_simp
      refine hK _ _ ⟨hx4, fun _ => trivial⟩ (fun hS => ?_)
      clear hK K hS
      refine wpAnyT_one 7 1 (by kernel_rfl) rfl (by kernel_rfl) (fun K hK => ?_)
      go_simp
      refine (cat3F w2.drew (some ⟨b, off, none⟩) p cap (.slice (some ⟨b, off + p * 2 + 2, none⟩) (es.length - p - 1) (cap - p - 1)) (es.take p) (es.drop (p + 1)) x hrt hrd (by rw [List.length_take, List.length_drop]; omega)).mono ?_
      rintro e w5 ⟨v5, rfl, hown5, hb5⟩
      have hx5 := hx2.drew.keep hb5 hx2.lt
      have hB5 := hB2.drew.trans (hb5.mono hB2.size)
      refine hK _ _ ⟨hx5, fun _ => trivial⟩ (fun hS => ?_)
      clear hK K hS
      refine wpAnyT_one 8 0 (by kernel_rfl) rfl (by kernel_rfl) (fun K hK => ?_)
      go_simp
      refine hK _ _ ⟨hx5, fun _ => trivial⟩ (fun hS => ?_)
      clear hK K hS
      refine wpAnyT_over (by kernel_rfl) ?_
      go_wp2
      go_ret
      exact ⟨_, rfl, (hown5.base_mono hB2.size : _), hB5⟩

set_option maxRecDepth 100000 in
set_option maxHeartbeats 1600000 in
theorem withoutF_any (v : Value) (es : List (Fi)) (p : Nat) (w : World) (h : RecAt 2 fiC w w.heap.size v es) (hp : p < es.length) (hn : es.length ≤ 900) :
    Calls Try.prog 141 #[v, .int .i64 (p : Int)] w (OutR 167 2 fiC (es.take p ++ es.drop (p + 1)) w) := by
  have HI := Lib.hid h
  obtain ⟨a, cap, rfl, hl, hm, hc⟩ := h
  obtain ⟨b, off, rfl, hb, _⟩ := hc (by omega)
  unfold maxLen at hm
  clear hc
  obtain ⟨q, hq⟩ : ∃ q, p + 1 = q := ⟨_, rfl⟩
  rw [hq]
  have Hq : Hid (IntKind.i64.wrap ((p : Int) + 1) = (q : Int)) := Lib.hid (by rw [← hq]; simp; exact IntWalk.i64_in _ (by omega))
  have hqp : p < q := by omega
  have hql : q ≤ es.length := by omega
  clear hq
  rcases Nat.eq_or_lt_of_le (show q ≤ cap by omega) with hcp | hcp
  · subst hcp
    have hrt : RecAt 2 fiC w.drew w.drew.heap.size (.slice (some ⟨b, off, none⟩) p q) (es.take p) := HI.out.take p (by omega)
    have hrd : RecAt 2 fiC w.drew w.drew.heap.size (.slice (some ⟨b, off, none⟩) 0 0) (es.drop q) := drop_eq (HI.out.drop q (by omega) (a2 := some ⟨b, off, none⟩) (fun hlt => by omega)) (by omega) (by omega)
    go_enter Try.func141, Try.ntmps141
    go_wp2
    refine wp_region_T (fun w' => True) (fun _ => True) 9 (by kernel_rfl) 10 rfl ?_
    refine wpAnyT_takesA (md := .any) 3 (by kernel_rfl) (by intro d v c a w h; cases d <;> exact h) [0, 1, 2, 3, 4, 5, 6] _ _ _ (by decide) (by kernel_rfl) ⟨trivial, fun _ => trivial⟩ ?_
    simp only [pick, List.filterMap_cons, List.filterMap_nil, List.getElem?_cons_zero, List.getElem?_cons_succ]
    refine wpIf_step (.slice (some ⟨b, off, none⟩) es.length q) (by kernel_rfl) (fun w hw => by go_simp) ?_
    refine wpIf_step (.int .i64 (p : Int)) (by kernel_rfl) (fun w hw => by go_simp) ?_
    refine wpIf_step (.slice (some ⟨b, off, none⟩) p q) (by kernel_rfl) (fun w hw => by have hcl : ¬ q < p := (by omega); go_simp) ?_
    refine wpIf_step (.slice (some ⟨b, off, none⟩) es.length q) (by kernel_rfl) (fun w hw => by go_simp) ?_
    refine wpIf_step (.int .i64 (p : Int)) (by kernel_rfl) (fun w hw => by go_simp) ?_
    refine wpIf_step (.int .i64 (q : Int)) (by kernel_rfl) (fun w hw => by have hq := Hq.out; go_simp) ?_
    refine wpIf_step (.slice (some ⟨b, off, none⟩) 0 0) (by kernel_rfl) (fun w hw => by have hcl : ¬ q < q := (by omega); have hcl2 : ¬ es.length < q := (by omega); go_simp) ?_
    refine wpIf_nil (fun hS => ?_)
    clear hS
    refine wpAnyT_one 7 2 (by kernel_rfl) rfl (by kernel_rfl) (fun K hK => ?_)
    go_simp
    refine hK _ _ ⟨trivial, fun _ => trivial⟩ (fun hS => ?_)
    clear hK K hS
    refine wpAnyT_one 8 1 (by kernel_rfl) rfl (by kernel_rfl) (fun K hK => ?_)
    go_simp
    refine (cat2F w.drew (some ⟨b, off, none⟩) p q (.slice (some ⟨b, off, none⟩) 0 0) (es.take p) (es.drop q) hrt hrd (by rw [List.length_take, List.length_drop]; omega)).mono ?_
    rintro e w5 ⟨v5, rfl, hown5, hb5⟩
    refine hK _ _ ⟨trivial, fun _ => trivial⟩ (fun hS => ?_)
    clear hK K hS
    refine wpAnyT_one 9 0 (by kernel_rfl) rfl (by kernel_rfl) (fun K hK => ?_)
    go_simp
    refine hK _ _ ⟨trivial, fun _ => trivial⟩ (fun hS => ?_)
    clear hK K hS
    refine wpAnyT_over (by kernel_rfl) ?_
    go_wp2
    go_ret
    exact ⟨_, rfl, hown5, ⟨hb5.os, hb5.tape, hb5.output, hb5.size, hb5.block⟩⟩
  · have hcq : ¬ cap = q := by omega
    have hrt : RecAt 2 fiC w.drew w.drew.heap.size (.slice (some ⟨b, off, none⟩) p cap) (es.take p) := HI.out.take p (by omega)
    have hrd : RecAt 2 fiC w.drew w.drew.heap.size (.slice (some ⟨b, off + q * 2, none⟩) (es.length - q) (cap - q)) (es.drop q) := HI.out.drop q (by omega) (fun _ b2 off2 hab => by cases hab; rfl)
    go_enter Try.func141, Try.ntmps141
    go_wp2
    refine wp_region_T (fun w' => True) (fun _ => True) 9 (by kernel_rfl) 10 rfl ?_
    refine wpAnyT_takesA (md := .any) 3 (by kernel_rfl) (by intro d v c a w h; cases d <;> exact h) [0, 1, 2, 3, 4, 5, 6] _ _ _ (by decide) (by kernel_rfl) ⟨trivial, fun _ => trivial⟩ ?_
    simp only [pick, List.filterMap_cons, List.filterMap_nil, List.getElem?_cons_zero, List.getElem?_cons_succ]
    refine wpIf_step (.slice (some ⟨b, off, none⟩) es.length cap) (by kernel_rfl) (fun w hw => by go_simp) ?_
    refine wpIf_step (.int .i64 (p : Int)) (by kernel_rfl) (fun w hw => by go_simp) ?_
    refine wpIf_step (.slice (some ⟨b, off, none⟩) p cap) (by kernel_rfl) (fun w hw => by have hcl : ¬ cap < p := (by omega); go_simp) ?_
    refine wpIf_step (.slice (some ⟨b, off, none⟩) es.length cap) (by kernel_rfl) (fun w hw => by go_simp) ?_
    refine wpIf_step (.int .i64 (p : Int)) (by kernel_rfl) (fun w hw => by go_simp) ?_
    refine wpIf_step (.int .i64 (q : Int)) (by kernel_rfl) (fun w hw => by have hq := Hq.out; go_simp) ?_
    refine wpIf_step (.slice (some ⟨b, off + q * 2, none⟩) (es.length - q) (cap - q)) (by kernel_rfl) (fun w hw => by have hcl : ¬ cap < q := (by omega); have hcl2 : ¬ es.length < q := (by omega); go_simp) ?_
    refine wpIf_nil (fun hS => ?_)
    clear hS
    refine wpAnyT_one 7 2 (by kernel_rfl) rfl (by kernel_rfl) (fun K hK => ?_)
    go_simp
    refine hK _ _ ⟨trivial, fun _ => trivial⟩ (fun hS => ?_)
    clear hK K hS
    refine wpAnyT_one 8 1 (by kernel_rfl) rfl (by kernel_rfl) (fun K hK => ?_)
    go_simp
    refine (cat2F w.drew (some ⟨b, off, none⟩) p cap (.slice (some ⟨b, off + q * 2, none⟩) (es.length - q) (cap - q)) (es.take p) (es.drop q) hrt hrd (by rw [List.length_take, List.length_drop]; omega)).mono ?_
    rintro e w5 ⟨v5, rfl, hown5, hb5⟩
    refine hK _ _ ⟨trivial, fun _ => trivial⟩ (fun hS => ?_)
    clear hK K hS
    refine wpAnyT_one 9 0 (by kernel_rfl) rfl (by kernel_rfl) (fun K hK => ?_)
    go_simp
    refine hK _ _ ⟨trivial, fun _ => trivial⟩ (fun hS => ?_)
    clear hK K hS
    refine wpAnyT_over (by kernel_rfl) ?_
    go_wp2
    go_ret
    exact ⟨_, rfl, hown5, ⟨hb5.os, hb5.tape, hb5.output, hb5.size, hb5.block⟩⟩

end Go.Proofs.Ytffkakpbelknaaa
