/- Joined: W9v. -/
import Derived.Test.YtffkakpbelknaaaS28
/- W9v -/
namespace Go.Proofs.Ytffkakpbelknaaa
open Go.ChangeShapes Go.WideShapes Go.ChangeAt Go.RowKit
set_option linter.unusedVariables false

set_option maxRecDepth 100000 in
set_option maxHeartbeats 1600000 in
theorem withoutS_any (v : Value) (ps : List (Sb × Value)) (p : Nat) (w : World) (h : RecAt 3 sbC w w.heap.size v ps) (hone : ∀ q ∈ ps, q.2.oneCell' = true) (hp : p < ps.length) (hn : ps.length ≤ 900) :
    Calls Try.prog 105 #[v, .int .i64 (p : Int)] w (OutR 43 3 sbC (ps.take p ++ ps.drop (p + 1)) w) := by
  have HI := Lib.hid h
  have HOn := Lib.hid hone
  obtain ⟨a, cap, rfl, hl, hm, hc⟩ := h
  obtain ⟨b, off, rfl, hb, _⟩ := hc (by omega)
  unfold maxLen at hm
  clear hc hone
  obtain ⟨q, hq⟩ : ∃ q, p + 1 = q := ⟨_, rfl⟩
  rw [hq]
  have Hq : Hid (IntKind.i64.wrap ((p : Int) + 1) = (q : Int)) := Lib.hid (by rw [← hq]; simp; exact IntWalk.i64_in _ (by omega))
  have hqp : p < q := by omega
  have hql : q ≤ ps.length := by omega
  clear hq
  rcases Nat.eq_or_lt_of_le (show q ≤ cap by omega) with hcp | hcp
  · subst hcp
    have hrt : RecAt 3 sbC w.drew w.drew.heap.size (.slice (some ⟨b, off, none⟩) p q) (ps.take p) := HI.out.take p (by omega)
    have hrd : RecAt 3 sbC w.drew w.drew.heap.size (.slice (some ⟨b, off, none⟩) 0 0) (ps.drop q) := drop_eq (HI.out.drop q (by omega) (a2 := some ⟨b, off, none⟩) (fun hlt => by omega)) (by omega) (by omega)
    go_enter Try.func105, Try.ntmps105
    go_wp2
    refine wp_region_T (fun w' => True) (fun _ => True) 9 (by kernel_rfl) 10 rfl ?_
    refine wpAnyT_takesA (md := .any) 3 (by kernel_rfl) (by intro d v c a w h; cases d <;> exact h) [0, 1, 2, 3, 4, 5, 6] _ _ _ (by decide) (by kernel_rfl) ⟨trivial, fun _ => trivial⟩ ?_
    simp only [pick, List.filterMap_cons, List.filterMap_nil, List.getElem?_cons_zero, List.getElem?_cons_succ]
    refine wpIf_step (.slice (some ⟨b, off, none⟩) ps.length q) (by kernel_rfl) (fun w hw => by go_simp) ?_
    refine wpIf_step (.int .i64 (p : Int)) (by kernel_rfl) (fun w hw => by go_simp) ?_
    refine wpIf_step (.slice (some ⟨b, off, none⟩) p q) (by kernel_rfl) (fun w hw => by have hcl : ¬ q < p := (by omega); go_simp) ?_
    refine wpIf_step (.slice (some ⟨b, off, none⟩) ps.length q) (by kernel_rfl) (fun w hw => by go_simp) ?_
    refine wpIf_step (.int .i64 (p : Int)) (by kernel_rfl) (fun w hw => by go_simp) ?_
    refine wpIf_step (.int .i64 (q : Int)) (by kernel_rfl) (fun w hw => by have hq := Hq.out; go_simp) ?_
    refine wpIf_step (.slice (some ⟨b, off, none⟩) 0 0) (by kernel_rfl) (fun w hw => by have hcl : ¬ q < q := (by omega); have hcl2 : ¬ ps.length < q := (by omega); go_simp) ?_
    refine wpIf_nil (fun hS => ?_)
    clear hS
    refine wpAnyT_one 7 2 (by kernel_rfl) rfl (by kernel_rfl) (fun K hK => ?_)
    go_simp
    refine hK _ _ ⟨trivial, fun _ => trivial⟩ (fun hS => ?_)
    clear hK K hS
    refine wpAnyT_one 8 1 (by kernel_rfl) rfl (by kernel_rfl) (fun K hK => ?_)
    go_simp
    refine (cat2S w.drew (some ⟨b, off, none⟩) p q (.slice (some ⟨b, off, none⟩) 0 0) (ps.take p) (ps.drop q) hrt hrd (fun q hq => HOn.out q (List.mem_of_mem_take hq)) (fun q hq => HOn.out q (List.mem_of_mem_drop hq)) (by rw [List.length_take, List.length_drop]; omega)).mono ?_
    rintro e w5 ⟨v5, rfl, hown5, hb5⟩
    refine hK _ _ ⟨trivial, fun _ => trivial⟩ (fun hS => ?_)
    clear hK K hS
    refine wpAnyT_one 9 0 (by kernel_rfl) rfl (by kernel_rfl) (fun K hK => ?_)
    go_simp
    refine hK _ _ ⟨trivial, fun _ => trivial⟩ (fun hS => ?_)
    clear hK K hS
    refine wpAnyT_over (by kernel_rfl) ?_
    go_wp2
    go_ret
    exact ⟨_, rfl, hown5, ⟨hb5.os, hb5.tape, hb5.output, hb5.size, hb5.block⟩⟩
  · have hcq : ¬ cap = q := by omega
    have hrt : RecAt 3 sbC w.drew w.drew.heap.size (.slice (some ⟨b, off, none⟩) p cap) (ps.take p) := HI.out.take p (by omega)
    have hrd : RecAt 3 sbC w.drew w.drew.heap.size (.slice (some ⟨b, off + q * 3, none⟩) (ps.length - q) (cap - q)) (ps.drop q) := HI.out.drop q (by omega) (fun _ b2 off2 hab => by cases hab; rfl)
    go_enter Try.func105, Try.ntmps105
    go_wp2
    refine wp_region_T (fun w' => True) (fun _ => True) 9 (by kernel_rfl) 10 rfl ?_
    refine wpAnyT_takesA (md := .any) 3 (by kernel_rfl) (by intro d v c a w h; cases d <;> exact h) [0, 1, 2, 3, 4, 5, 6] _ _ _ (by decide) (by kernel_rfl) ⟨trivial, fun _ => trivial⟩ ?_
    simp only [pick, List.filterMap_cons, List.filterMap_nil, List.getElem?_cons_zero, List.getElem?_cons_succ]
    refine wpIf_step (.slice (some ⟨b, off, none⟩) ps.length cap) (by kernel_rfl) (fun w hw => by go_simp) ?_
    refine wpIf_step (.int .i64 (p : Int)) (by kernel_rfl) (fun w hw => by go_simp) ?_
    refine wpIf_step (.slice (some ⟨b, off, none⟩) p cap) (by kernel_rfl) (fun w hw => by have hcl : ¬ cap < p := (by omega); go_simp) ?_
    refine wpIf_step (.slice (some ⟨b, off, none⟩) ps.length cap) (by kernel_rfl) (fun w hw => by go_simp) ?_
    refine wpIf_step (.int .i64 (p : Int)) (by kernel_rfl) (fun w hw => by go_simp) ?_
    refine wpIf_step (.int .i64 (q : Int)) (by kernel_rfl) (fun w hw => by have hq := Hq.out; go_simp) ?_
    refine wpIf_step (.slice (some ⟨b, off + q * 3, none⟩) (ps.length - q) (cap - q)) (by kernel_rfl) (fun w hw => by have hcl : ¬ cap < q := (by omega); have hcl2 : ¬ ps.length < q := (by omega); go_simp) ?_
    refine wpIf_nil (fun hS => ?_)
    clear hS
    refine wpAnyT_one 7 2 (by kernel_rfl) rfl (by kernel_rfl) (fun K hK => ?_)
    go_simp
    refine hK _ _ ⟨trivial, fun _ => trivial⟩ (fun hS => ?_)
    clear hK K hS
    refine wpAnyT_one 8 1 (by kernel_rfl) rfl (by kernel_rfl) (fun K hK => ?_)
    go_simp
    refine (cat2S w.drew (some ⟨b, off, none⟩) p cap (.slice (some ⟨b, off + q * 3, none⟩) (ps.length - q) (cap - q)) (ps.take p) (ps.drop q) hrt hrd (fun q hq => HOn.out q (List.mem_of_mem_take hq)) (fun q hq => HOn.out q (List.mem_of_mem_drop hq)) (by rw [List.length_take, List.length_drop]; omega)).mono ?_
    rintro e w5 ⟨v5, rfl, hown5, hb5⟩
    refine hK _ _ ⟨trivial, fun _ => trivial⟩ (fun hS => ?_)
    clear hK K hS
    refine wpAnyT_one 9 0 (by kernel_rfl) rfl (by kernel_rfl) (fun K hK => ?_)
    go_simp
    refine hK _ _ ⟨trivial, fun _ => trivial⟩ (fun hS => ?_)
    clear hK K hS
    refine wpAnyT_over (by kernel_rfl) ?_
    go_wp2
    go_ret
    exact ⟨_, rfl, hown5, ⟨hb5.os, hb5.tape, hb5.output, hb5.size, hb5.block⟩⟩

set_option maxRecDepth 100000 in
set_option maxHeartbeats 1600000 in
theorem withoutE_any (v : Value) (es : List (En)) (p : Nat) (w : World) (h : RecAt 5 enC w w.heap.size v es) (hp : p < es.length) (hn : es.length ≤ 900) :
    Calls Try.prog 151 #[v, .int .i64 (p : Int)] w (OutR 47 5 enC (es.take p ++ es.drop (p + 1)) w) := by
  have HI := Lib.hid h
  obtain ⟨a, cap, rfl, hl, hm, hc⟩ := h
  obtain ⟨b, off, rfl, hb, _⟩ := hc (by omega)
  unfold maxLen at hm
  clear hc
  obtain ⟨q, hq⟩ : ∃ q, p + 1 = q := ⟨_, rfl⟩
  rw [hq]
  have Hq : Hid (IntKind.i64.wrap ((p : Int) + 1) = (q : Int)) := Lib.hid (by rw [← hq]; simp; exact IntWalk.i64_in _ (by omega))
  have hqp : p < q := by omega
  have hql : q ≤ es.length := by omega
  clear hq
  rcases Nat.eq_or_lt_of_le (show q ≤ cap by omega) with hcp | hcp
  · subst hcp
    have hrt : RecAt 5 enC w.drew w.drew.heap.size (.slice (some ⟨b, off, none⟩) p q) (es.take p) := HI.out.take p (by omega)
    have hrd : RecAt 5 enC w.drew w.drew.heap.size (.slice (some ⟨b, off, none⟩) 0 0) (es.drop q) := drop_eq (HI.out.drop q (by omega) (a2 := some ⟨b, off, none⟩) (fun hlt => by omega)) (by omega) (by omega)
    go_enter Try.func151, Try.ntmps151
    go_wp2
    refine wp_region_T (fun w' => True) (fun _ => True) 9 (by kernel_rfl) 10 rfl ?_
    refine wpAnyT_takesA (md := .any) 3 (by kernel_rfl) (by intro d v c a w h; cases d <;> exact h) [0, 1, 2, 3, 4, 5, 6] _ _ _ (by decide) (by kernel_rfl) ⟨trivial, fun _ => trivial⟩ ?_
    simp only [pick, List.filterMap_cons, List.filterMap_nil, List.getElem?_cons_zero, List.getElem?_cons_succ]
    refine wpIf_step (.slice (some ⟨b, off, none⟩) es.length q) (by kernel_rfl) (fun w hw => by go_simp) ?_
    refine wpIf_step (.int .i64 (p : Int)) (by kernel_rfl) (fun w hw => by go_simp) ?_
    refine wpIf_step (.slice (some ⟨b, off, none⟩) p q) (by kernel_rfl) (fun w hw => by have hcl : ¬ q < p := (by omega); go_simp) ?_
    refine wpIf_step (.slice (some ⟨b, off, none⟩) es.length q) (by kernel_rfl) (fun w hw => by go_simp) ?_
    refine wpIf_step (.int .i64 (p : Int)) (by kernel_rfl) (fun w hw => by go_simp) ?_
    refine wpIf_step (.int .i64 (q : Int)) (by kernel_rfl) (fun w hw => by have hq := Hq.out; go_simp) ?_
    refine wpIf_step (.slice (some ⟨b, off, none⟩) 0 0) (by kernel_rfl) (fun w hw => by have hcl : ¬ q < q := (by omega); have hcl2 : ¬ es.length < q := (by omega); go_simp) ?_
    refine wpIf_nil (fun hS => ?_)
    clear hS
    refine wpAnyT_one 7 2 (by kernel_rfl) rfl (by kernel_rfl) (fun K hK => ?_)
    go_simp
    refine hK _ _ ⟨trivial, fun _ => trivial⟩ (fun hS => ?_)
    clear hK K hS
    refine wpAnyT_one 8 1 (by kernel_rfl) rfl (by kernel_rfl) (fun K hK => ?_)
    go_simp
    refine (cat2E w.drew (some ⟨b, off, none⟩) p q (.slice (some ⟨b, off, none⟩) 0 0) (es.take p) (es.drop q) hrt hrd (by rw [List.length_take, List.length_drop]; omega)).mono ?_
    rintro e w5 ⟨v5, rfl, hown5, hb5⟩
    refine hK _ _ ⟨trivial, fun _ => trivial⟩ (fun hS => ?_)
    clear hK K hS
    refine wpAnyT_one 9 0 (by kernel_rfl) rfl (by kernel_rfl) (fun K hK => ?_)
    go_simp
    refine hK _ _ ⟨trivial, fun _ => trivial⟩ (fun hS => ?_)
    clear hK K hS
    refine wpAnyT_over (by kernel_rfl) ?_
    go_wp2
    go_ret
    exact ⟨_, rfl, hown5, ⟨hb5.os, hb5.tape, hb5.output, hb5.size, hb5.block⟩⟩
  · have hcq : ¬ cap = q := by omega
    have hrt : RecAt 5 enC w.drew w.drew.heap.size (.slice (some ⟨b, off, none⟩) p cap) (es.take p) := HI.out.take p (by omega)
    have hrd : RecAt 5 enC w.drew w.drew.heap.size (.slice (some ⟨b, off + q * 5, none⟩) (es.length - q) (cap - q)) (es.drop q) := HI.out.drop q (by omega) (fun _ b2 off2 hab => by cases hab; rfl)
    go_enter Try.func151, Try.ntmps151
    go_wp2
    refine wp_region_T (fun w' => True) (fun _ => True) 9 (by kernel_rfl) 10 rfl ?_
    refine wpAnyT_takesA (md := .any) 3 (by kernel_rfl) (by intro d v c a w h; cases d <;> exact h) [0, 1, 2, 3, 4, 5, 6] _ _ _ (by decide) (by kernel_rfl) ⟨trivial, fun _ => trivial⟩ ?_
    simp only [pick, List.filterMap_cons, List.filterMap_nil, List.getElem?_cons_zero, List.getElem?_cons_succ]
    refine wpIf_step (.slice (some ⟨b, off, none⟩) es.length cap) (by kernel_rfl) (fun w hw => by go_simp) ?_
    refine wpIf_step (.int .i64 (p : Int)) (by kernel_rfl) (fun w hw => by go_simp) ?_
    refine wpIf_step (.slice (some ⟨b, off, none⟩) p cap) (by kernel_rfl) (fun w hw => by have hcl : ¬ cap < p := (by omega); go_simp) ?_
    refine wpIf_step (.slice (some ⟨b, off, none⟩) es.length cap) (by kernel_rfl) (fun w hw => by go_simp) ?_
    refine wpIf_step (.int .i64 (p : Int)) (by kernel_rfl) (fun w hw => by go_simp) ?_
    refine wpIf_step (.int .i64 (q : Int)) (by kernel_rfl) (fun w hw => by have hq := Hq.out; go_simp) ?_
    refine wpIf_step (.slice (some ⟨b, off + q * 5, none⟩) (es.length - q) (cap - q)) (by kernel_rfl) (fun w hw => by have hcl : ¬ cap < q := (by omega); have hcl2 : ¬ es.length < q := (by omega); go_simp) ?_
    refine wpIf_nil (fun hS => ?_)
    clear hS
    refine wpAnyT_one 7 2 (by kernel_rfl) rfl (by kernel_rfl) (fun K hK => ?_)
    go_simp
    refine hK _ _ ⟨trivial, fun _ => trivial⟩ (fun hS => ?_)
    clear hK K hS
    refine wpAnyT_one 8 1 (by kernel_rfl) rfl (by kernel_rfl) (fun K hK => ?_)
    go_simp
    refine (cat2E w.drew (some ⟨b, off, none⟩) p cap (.slice (some ⟨b, off + q * 5, none⟩) (es.length - q) (cap - q)) (es.take p) (es.drop q) hrt hrd (by rw [List.length_take, List.length_drop]; omega)).mono ?_
    rintro e w5 ⟨v5, rfl, hown5, hb5⟩
    refine hK _ _ ⟨trivial, fun _ => trivial⟩ (fun hS => ?_)
    clear hK K hS
    refine wpAnyT_one 9 0 (by kernel_rfl) rfl (by kernel_rfl) (fun K hK => ?_)
    go_simp
    refine hK _ _ ⟨trivial, fun _ => trivial⟩ (fun hS => ?_)
    clear hK K hS
    refine wpAnyT_over (by kernel_rfl) ?_
    go_wp2
    go_ret
    exact ⟨_, rfl, hown5, ⟨hb5.os, hb5.tape, hb5.output, hb5.size, hb5.block⟩⟩

end Go.Proofs.Ytffkakpbelknaaa
