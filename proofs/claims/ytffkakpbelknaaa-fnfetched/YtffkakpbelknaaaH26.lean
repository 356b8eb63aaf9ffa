/- Joined: W9v, W9w, W9x. -/
import Derived.Laws.ResultCell
import Derived.Test.YtffkakpbelknaaaH25
/- W9v -/
namespace Go.Proofs.Ytffkakpbelknaaa
open Go.ChangeShapes Go.WideShapes Go.ChangeAt Go.RowKit
set_option linter.unusedVariables false

set_option maxRecDepth 100000 in
set_option maxHeartbeats 1600000 in
theorem withoutS_any (v : Value) (ps : List (Sb × Value)) (p : Nat) (w : World) (h : RecAt 3 sbC w w.heap.size v ps) (hone : ∀ q ∈ ps, q.2.oneCell' = true) (hp : p < ps.length) (hn : ps.length ≤ 900) :
    Calls Try.prog 105 #[v, .int .i64 (p : Int)] w (OutR 43 3 sbC (ps.take p ++ ps.drop (p + 1)) w) := by
  have HI := Lib.hid h
  have HOn := Lib.hid hone
  obtain ⟨a, cap, rfl, hl, hm, hc⟩ := h
  obtain ⟨b, off, rfl, hb, _⟩ := hc (by omega)
  unfold maxLen at hm
  clear hc hone
  obtain ⟨q, hq⟩ : ∃ q, p + 1 = q := ⟨_, rfl⟩
  rw [hq]
  have Hq : Hid (IntKind.i64.wrap ((p : Int) + 1) = (q : Int)) := Lib.hid (by rw [← hq]; simp; exact IntWalk.i64_in _ (by omega))
  have hqp : p < q := by omega
  have hql : q ≤ ps.length := by omega
  clear hq
  rcases Nat.eq_or_lt_of_le (show q ≤ cap by omega) with hcp | hcp
  · subst hcp
    have hrt : RecAt 3 sbC w.drew w.drew.heap.size (.slice (some ⟨b, off, none⟩) p q) (ps.take p) := HI.out.take p (by omega)
    have hrd : RecAt 3 sbC w.drew w.drew.heap.size (.slice (some ⟨b, off, none⟩) 0 0) (ps.drop q) := drop_eq (HI.out.drop q (by omega) (a2 := some ⟨b, off, none⟩) (fun hlt => by omega)) (by omega) (by omega)
    go_enter Try.func105, Try.ntmps105
    go_wp2
    refine wp_region_T (fun w' => True) (fun _ => True) 9 (by kernel_rfl) 10 rfl ?_
    refine wpAnyT_takesA (md := .any) 3 (by kernel_rfl) (by intro d v c a w h; cases d <;> exact h) [0, 1, 2, 3, 4, 5, 6] _ _ _ (by decide) (by kernel_rfl) ⟨trivial, fun _ => trivial⟩ ?_
    simp only [pick, List.filterMap_cons, List.filterMap_nil, List.getElem?_cons_zero, List.getElem?_cons_succ]
    refine wpIf_step (.slice (some ⟨b, off, none⟩) ps.length q) (by kernel_rfl) (fun w hw => by go_simp) ?_
    refine wpIf_step (.int .i64 (p : Int)) (by kernel_rfl) (fun w hw => by go_simp) ?_
    refine wpIf_step (.slice (some ⟨b, off, none⟩) p q) (by kernel_rfl) (fun w hw => by have hcl : ¬ q < p := (by omega); go_simp) ?_
    refine wpIf_step (.slice (some ⟨b, off, none⟩) ps.length q) (by kernel_rfl) (fun w hw => by go_simp) ?_
    refine wpIf_step (.int .i64 (p : Int)) (by kernel_rfl) (fun w hw => by go_simp) ?_
    refine wpIf_step (.int .i64 (q : Int)) (by kernel_rfl) (fun w hw => by have hq := Hq.out; go_simp) ?_
    refine wpIf_step (.slice (some ⟨b, off, none⟩) 0 0) (by kernel_rfl) (fun w hw => by have hcl : ¬ q < q := (by omega); have hcl2 : ¬ ps.length < q := (by omega); go_simp) ?_
    refine wpIf_nil (fun hS => ?_)
    clear hS
    refine wpAnyT_one 7 2 (by kernel_rfl) rfl (by kernel_rfl) (fun K hK => ?_)
    go_simp
    refine hK _ _ ⟨trivial, fun _ => trivial⟩ (fun hS => ?_)
    clear hK K hS
    refine wpAnyT_one 8 1 (by kernel_rfl) rfl (by kernel_rfl) (fun K hK => ?_)
    go_simp
    refine (cat2S w.drew (some ⟨b, off, none⟩) p q (.slice (some ⟨b, off, none⟩) 0 0) (ps.take p) (ps.drop q) hrt hrd (fun q hq => HOn.out q (List.mem_of_mem_take hq)) (fun q hq => HOn.out q (List.mem_of_mem_drop hq)) (by rw [List.length_take, List.length_drop]; omega)).mono ?_
    rintro e w5 ⟨v5, rfl, hown5, hb5⟩
    refine hK _ _ ⟨trivial, fun _ => trivial⟩ (fun hS => ?_)
    clear hK K hS
    refine wpAnyT_one 9 0 (by kernel_rfl) rfl (by kernel_rfl) (fun K hK => ?_)
    go_simp
    refine hK _ _ ⟨trivial, fun _ => trivial⟩ (fun hS => ?_)
    clear hK K hS
    refine wpAnyT_over (by kernel_rfl) ?_
    go_wp2
    go_ret
    exact ⟨_, rfl, hown5, ⟨hb5.os, hb5.tape, hb5.output, hb5.size, hb5.block⟩⟩
  · have hcq : ¬ cap = q := by omega
    have hrt : RecAt 3 sbC w.drew w.drew.heap.size (.slice (some ⟨b, off, none⟩) p cap) (ps.take p) := HI.out.take p (by omega)
    have hrd : RecAt 3 sbC w.drew w.drew.heap.size (.slice (some ⟨b, off + q * 3, none⟩) (ps.length - q) (cap - q)) (ps.drop q) := HI.out.drop q (by omega) (fun _ b2 off2 hab => by cases hab; rfl)
    go_enter Try.func105, Try.ntmps105
    go_wp2
    refine wp_region_T (fun w' => True) (fun _ => True) 9 (by kernel_rfl) 10 rfl ?_
    refine wpAnyT_takesA (md := .any) 3 (by kernel_rfl) (by intro d v c a w h; cases d <;> exact h) [0, 1, 2, 3, 4, 5, 6] _ _ _ (by decide) (by kernel_rfl) ⟨trivial, fun _ => trivial⟩ ?_
    simp only [pick, List.filterMap_cons, List.filterMap_nil, List.getElem?_cons_zero, List.getElem?_cons_succ]
    refine wpIf_step (.slice (some ⟨b, off, none⟩) ps.length cap) (by kernel_rfl) (fun w hw => by go_simp) ?_
    refine wpIf_step (.int .i64 (p : Int)) (by kernel_rfl) (fun w hw => by go_simp) ?_
    refine wpIf_step (.slice (some ⟨b, off, none⟩) p cap) (by kernel_rfl) (fun w hw => by have hcl : ¬ cap < p := (by omega); go_simp) ?_
    refine wpIf_step (.slice (some ⟨b, off, none⟩) ps.length cap) (by kernel_rfl) (fun w hw => by go_simp) ?_
    refine wpIf_step (.int .i64 (p : Int)) (by kernel_rfl) (fun w hw => by go_simp) ?_
    refine wpIf_step (.int .i64 (q : Int)) (by kernel_rfl) (fun w hw => by have hq := Hq.out; go_simp) ?_
    refine wpIf_step (.slice (some ⟨b, off + q * 3, none⟩) (ps.length - q) (cap - q)) (by kernel_rfl) (fun w hw => by have hcl : ¬ cap < q := (by omega); have hcl2 : ¬ ps.length < q := (by omega); go_simp) ?_
    refine wpIf_nil (fun hS => ?_)
    clear hS
    refine wpAnyT_one 7 2 (by kernel_rfl) rfl (by kernel_rfl) (fun K hK => ?_)
    go_simp
    refine hK _ _ ⟨trivial, fun _ => trivial⟩ (fun hS => ?_)
    clear hK K hS
    refine wpAnyT_one 8 1 (by kernel_rfl) rfl (by kernel_rfl) (fun K hK => ?_)
    go_simp
    refine (cat2S w.drew (some ⟨b, off, none⟩) p cap (.slice (some ⟨b, off + q * 3, none⟩) (ps.length - q) (cap - q)) (ps.take p) (ps.drop q) hrt hrd (fun q hq => HOn.out q (List.mem_of_mem_take hq)) (fun q hq => HOn.out q (List.mem_of_mem_drop hq)) (by rw [List.length_take, List.length_drop]; omega)).mono ?_
    rintro e w5 ⟨v5, rfl, hown5, hb5⟩
    refine hK _ _ ⟨trivial, fun _ => trivial⟩ (fun hS => ?_)
    clear hK K hS
    refine wpAnyT_one 9 0 (by kernel_rfl) rfl (by kernel_rfl) (fun K hK => ?_)
    go_simp
    refine hK _ _ ⟨trivial, fun _ => trivial⟩ (fun hS => ?_)
    clear hK K hS
    refine wpAnyT_over (by kernel_rfl) ?_
    go_wp2
    go_ret
    exact ⟨_, rfl, hown5, ⟨hb5.os, hb5.tape, hb5.output, hb5.size, hb5.block⟩⟩

set_option maxRecDepth 100000 in
set_option maxHeartbeats 1600000 in
theorem withoutE_any (v : Value) (es : List (En)) (p : Nat) (w : World) (h : RecAt 5 enC w w.heap.size v es) (hp : p < es.length) (hn : es.length ≤ 900) :
    Calls Try.prog 151 #[v, .int .i64 (p : Int)] w (OutR 47 5 enC (es.take p ++ es.drop (p + 1)) w) := by
  have HI := Lib.hid h
  obtain ⟨a, cap, rfl, hl, hm, hc⟩ := h
  obtain ⟨b, off, rfl, hb, _⟩ := hc (by omega)
  unfold maxLen at hm
  clear hc
  obtain ⟨q, hq⟩ : ∃ q, p + 1 = q := ⟨_, rfl⟩
  rw [hq]
  have Hq : Hid (IntKind.i64.wrap ((p : Int) + 1) = (q : Int)) := Lib.hid (by rw [← hq]; simp; exact IntWalk.i64_in _ (by omega))
  have hqp : p < q := by omega
  have hql : q ≤ es.length := by omega
  clear hq
  rcases Nat.eq_or_lt_of_le (show q ≤ cap by omega) with hcp | hcp
  · subst hcp
    have hrt : RecAt 5 enC w.drew w.drew.heap.size (.slice (some ⟨b, off, none⟩) p q) (es.take p) := HI.out.take p (by omega)
    have hrd : RecAt 5 enC w.drew w.drew.heap.size (.slice (some ⟨b, off, none⟩) 0 0) (es.drop q) := drop_eq (HI.out.drop q (by omega) (a2 := some ⟨b, off, none⟩) (fun hlt => by omega)) (by omega) (by omega)
    go_enter Try.func151, Try.ntmps151
    go_wp2
    refine wp_region_T (fun w' => True) (fun _ => True) 9 (by kernel_rfl) 10 rfl ?_
    refine wpAnyT_takesA (md := .any) 3 (by kernel_rfl) (by intro d v c a w h; cases d <;> exact h) [0, 1, 2, 3, 4, 5, 6] _ _ _ (by decide) (by kernel_rfl) ⟨trivial, fun _ => trivial⟩ ?_
    simp only [pick, List.filterMap_cons, List.filterMap_nil, List.getElem?_cons_zero, List.getElem?_cons_succ]
    refine wpIf_step (.slice (some ⟨b, off, none⟩) es.length q) (by kernel_rfl) (fun w hw => by go_simp) ?_
    refine wpIf_step (.int .i64 (p : Int)) (by kernel_rfl) (fun w hw => by go_simp) ?_
    refine wpIf_step (.slice (some ⟨b, off, none⟩) p q) (by kernel_rfl) (fun w hw => by have hcl : ¬ q < p := (by omega); go_simp) ?_
    refine wpIf_step (.slice (some ⟨b, off, none⟩) es.length q) (by kernel_rfl) (fun w hw => by go_simp) ?_
    refine wpIf_step (.int .i64 (p : Int)) (by kernel_rfl) (fun w hw => by go_simp) ?_
    refine wpIf_step (.int .i64 (q : Int)) (by kernel_rfl) (fun w hw => by have hq := Hq.out; go_simp) ?_
    refine wpIf_step (.slice (some ⟨b, off, none⟩) 0 0) (by kernel_rfl) (fun w hw => by have hcl : ¬ q < q := (by omega); have hcl2 : ¬ es.length < q := (by omega); go_simp) ?_
    refine wpIf_nil (fun hS => ?_)
    clear hS
    refine wpAnyT_one 7 2 (by kernel_rfl) rfl (by kernel_rfl) (fun K hK => ?_)
    go_simp
    refine hK _ _ ⟨trivial, fun _ => trivial⟩ (fun hS => ?_)
    clear hK K hS
    refine wpAnyT_one 8 1 (by kernel_rfl) rfl (by kernel_rfl) (fun K hK => ?_)
    go_simp
    refine (cat2E w.drew (some ⟨b, off, none⟩) p q (.slice (some ⟨b, off, none⟩) 0 0) (es.take p) (es.drop q) hrt hrd (by rw [List.length_take, List.length_drop]; omega)).mono ?_
    rintro e w5 ⟨v5, rfl, hown5, hb5⟩
    refine hK _ _ ⟨trivial, fun _ => trivial⟩ (fun hS => ?_)
    clear hK K hS
    refine wpAnyT_one 9 0 (by kernel_rfl) rfl (by kernel_rfl) (fun K hK => ?_)
    go_simp
    refine hK _ _ ⟨trivial, fun _ => trivial⟩ (fun hS => ?_)
    clear hK K hS
    refine wpAnyT_over (by kernel_rfl) ?_
    go_wp2
    go_ret
    exact ⟨_, rfl, hown5, ⟨hb5.os, hb5.tape, hb5.output, hb5.size, hb5.block⟩⟩
  · have hcq : ¬ cap = q := by omega
    have hrt : RecAt 5 enC w.drew w.drew.heap.size (.slice (some ⟨b, off, none⟩) p cap) (es.take p) := HI.out.take p (by omega)
    have hrd : RecAt 5 enC w.drew w.drew.heap.size (.slice (some ⟨b, off + q * 5, none⟩) (es.length - q) (cap - q)) (es.drop q) := HI.out.drop q (by omega) (fun _ b2 off2 hab => by cases hab; rfl)
    go_enter Try.func151, Try.ntmps151
    go_wp2
    refine wp_region_T (fun w' => True) (fun _ => True) 9 (by kernel_rfl) 10 rfl ?_
    refine wpAnyT_takesA (md := .any) 3 (by kernel_rfl) (by intro d v c a w h; cases d <;> exact h) [0, 1, 2, 3, 4, 5, 6] _ _ _ (by decide) (by kernel_rfl) ⟨trivial, fun _ => trivial⟩ ?_
    simp only [pick, List.filterMap_cons, List.filterMap_nil, List.getElem?_cons_zero, List.getElem?_cons_succ]
    refine wpIf_step (.slice (some ⟨b, off, none⟩) es.length cap) (by kernel_rfl) (fun w hw => by go_simp) ?_
    refine wpIf_step (.int .i64 (p : Int)) (by kernel_rfl) (fun w hw => by go_simp) ?_
    refine wpIf_step (.slice (some ⟨b, off, none⟩) p cap) (by kernel_rfl) (fun w hw => by have hcl : ¬ cap < p := (by omega); go_simp) ?_
    refine wpIf_step (.slice (some ⟨b, off, none⟩) es.length cap) (by kernel_rfl) (fun w hw => by go_simp) ?_
    refine wpIf_step (.int .i64 (p : Int)) (by kernel_rfl) (fun w hw => by go_simp) ?_
    refine wpIf_step (.int .i64 (q : Int)) (by kernel_rfl) (fun w hw => by have hq := Hq.out; go_simp) ?_
    refine wpIf_step (.slice (some ⟨b, off + q * 5, none⟩) (es.length - q) (cap - q)) (by kernel_rfl) (fun w hw => by have hcl : ¬ cap < q := (by omega); have hcl2 : ¬ es.length < q := (by omega); go_simp) ?_
    refine wpIf_nil (fun hS => ?_)
    clear hS
    refine wpAnyT_one 7 2 (by kernel_rfl) rfl (by kernel_rfl) (fun K hK => ?_)
    go_simp
    refine hK _ _ ⟨trivial, fun _ => trivial⟩ (fun hS => ?_)
    clear hK K hS
    refine wpAnyT_one 8 1 (by kernel_rfl) rfl (by kernel_rfl) (fun K hK => ?_)
    go_simp
    refine (cat2E w.drew (some ⟨b, off, none⟩) p cap (.slice (some ⟨b, off + q * 5, none⟩) (es.length - q) (cap - q)) (es.take p) (es.drop q) hrt hrd (by rw [List.length_take, List.length_drop]; omega)).mono ?_
    rintro e w5 ⟨v5, rfl, hown5, hb5⟩
    refine hK _ _ ⟨trivial, fun _ => trivial⟩ (fun hS => ?_)
    clear hK K hS
    refine wpAnyT_one 9 0 (by kernel_rfl) rfl (by kernel_rfl) (fun K hK => ?_)
    go_simp
    refine hK _ _ ⟨trivial, fun _ => trivial⟩ (fun hS => ?_)
    clear hK K hS
    refine wpAnyT_over (by kernel_rfl) ?_
    go_wp2
    go_ret
    exact ⟨_, rfl, hown5, ⟨hb5.os, hb5.tape, hb5.output, hb5.size, hb5.block⟩⟩

end Go.Proofs.Ytffkakpbelknaaa

/- W9w -/
namespace Go.Proofs.Ytffkakpbelknaaa
open Go.ChangeShapes Go.WideShapes Go.ChangeAt Go.RowKit
set_option linter.unusedVariables false

section
variable {α : Type} {k : Nat} {C : α → List Value}
theorem flat_set1 (hk : ∀ x, (C x).length = k) (l : List α) (i j : Nat) (x : α) (u : Value) (hi : i < l.length) (hj : j < k) (hx : C x = (C l[i]).set j u) : (l.flatMap C).set (i * k + j) u = (l.set i x).flatMap C := by
  have h0 : 0 < k := by omega
  apply List.ext_getElem?
  intro m
  by_cases hm : m < l.length * k
  · have hd : m / k < l.length := (Nat.div_lt_iff_lt_mul h0).2 hm
    have hr : m % k < k := Nat.mod_lt _ h0
    have e : m = m / k * k + m % k := by rw [Nat.mul_comm]; exact (Nat.div_add_mod m k).symm
    have hR : ((l.set i x).flatMap C)[m]? = (C ((l.set i x)[m / k]'(by rw [List.length_set]; exact hd)))[m % k]? := by
      have := flat_get hk (l.set i x) (m / k) (m % k) (by rw [List.length_set]; exact hd) hr
      rw [← e] at this
      exact this
    have hL : (l.flatMap C)[m]? = (C l[m / k])[m % k]? := by
      have := flat_get hk l (m / k) (m % k) hd hr
      rw [← e] at this
      exact this
    rw [hR, List.getElem?_set, List.getElem_set]
    by_cases ha : i = m / k
    · subst ha
      rw [if_pos rfl, hx, List.getElem?_set]
      by_cases hb : j = m % k
      · have hmm : m / k * k + j = m := by rw [hb]; exact e.symm
        rw [if_pos hmm, if_pos hb, if_pos (by rw [flat_len hk, hmm]; exact hm), if_pos (by rw [hk]; exact hj)]
      · rw [if_neg (by intro h; apply hb; omega), if_neg hb, hL]
    · rw [if_neg (fun h => ha h)]
      have hne : i * k + j ≠ m := by
        intro h
        apply ha
        have this : (i * k + j) / k = m / k := by rw [h]
        rw [← this, Nat.mul_comm, Nat.mul_add_div h0, Nat.div_eq_of_lt hj, Nat.add_zero]
      rw [if_neg hne, hL]
  · rw [List.getElem?_eq_none (by rw [List.length_set, flat_len hk]; omega), List.getElem?_eq_none (by rw [flat_len hk, List.length_set]; omega)]
theorem OwnR.setF {e : TypeId} {w : World} {base g n cap : Nat} {l : List α} (hk : ∀ x, (C x).length = k) (h : OwnR e k C w base (.slice (some ⟨g, 0, none⟩) n cap) l) (hn : n = l.length) (i j : Nat) (x : α) (u : Value) (hi : i < l.length) (hj : j < k) (hx : C x = (C l[i]).set j u) :
    OwnR e k C (w.setCell ⟨g, i * k + j, none⟩ u) base (.slice (some ⟨g, 0, none⟩) n cap) (l.set i x) := by
  subst hn
  have := (World.ownsRow.stored h (i * k + j) u).1
  rw [flat_set1 hk l i j x u hi hj hx] at this
  unfold OwnR
  rw [List.length_set]
  exact this
theorem OwnR.val {e : TypeId} {w : World} {base g n cap : Nat} {l : List α} (hk : ∀ x, (C x).length = k) (h : OwnR e k C w base (.slice (some ⟨g, 0, none⟩) n cap) l) (hn : n = l.length) (i j : Nat) (u : Value) (hi : i < l.length) (hu : (C l[i])[j]? = some u) : w.cell? ⟨g, i * k + j, none⟩ = some u := by
  subst hn
  have hj : j < k := by have := (List.getElem?_eq_some_iff.1 hu).1; rwa [hk] at this
  have hlt : i * k + j < l.length * k := by
    have hm' : (i + 1) * k ≤ l.length * k := Nat.mul_le_mul_right _ hi
    have e : (i + 1) * k = i * k + k := Nat.succ_mul i k
    omega
  rw [World.ownsRow.cellAt h (i * k + j) hlt, flat_get hk l i j hi hj]
  exact hu
theorem OwnR.blk {e : TypeId} {w : World} {base : Nat} {v : Value} {l : List α} (h : OwnR e k C w base v l) : v.ownBlock = none ∨ ∃ g, v.ownBlock = some g ∧ base ≤ g ∧ g < w.heap.size := by
  cases hb : v.ownBlock with
  | none => exact .inl rfl
  | some g =>
    obtain ⟨h1, h2⟩ := World.ownsRow.lt h g hb
    exact .inr ⟨g, rfl, h1, h2⟩
/-- A row stays as it is where another block is written. -/
theorem OwnR.off {e : TypeId} {w : World} {base : Nat} {v : Value} {l : List α} (h : OwnR e k C w base v l) (p : Addr) (x : Value) (hp : v.ownBlock ≠ some p.block) : OwnR e k C (w.setCell p x) base v l := by
  refine ⟨h.1, ?_⟩
  rcases h.2 with hn | ⟨g, cap, cur, rfl, hb', hg, rest⟩
  · exact .inl hn
  · refine .inr ⟨g, cap, cur, rfl, hb', ?_, rest⟩
    rw [Below.heap_setCell _ _ _ _ (fun h2 => hp (by rw [← h2]; rfl))]
    exact hg
end
/-- Blocks that lie apart from each other. -/
def ApartD (bs : List (Option Nat)) : Prop := bs.Pairwise (fun x y => x = none ∨ x ≠ y)
/-- Feeds of a reader that a call has made: no two lists share a block. -/
def OwnD (w : World) (B : Nat) (v : Value) (ps : List (Sb × Value)) : Prop := OwnR 43 3 sbC w B v ps ∧ (∀ p ∈ ps, OwnR 47 5 enC w B p.2 p.1.es) ∧ ApartD (v.ownBlock :: ps.map fun p => p.2.ownBlock)
theorem OwnD.keep {w w' : World} {B B' : Nat} {v : Value} {ps : List (Sb × Value)} (h : OwnD w B v ps) (hb : Below B' w w') (hB : w.heap.size ≤ B') : OwnD w' B v ps := ⟨h.1.keep hb hB, fun p hp => (h.2.1 p hp).keep hb hB, h.2.2⟩
theorem OwnD.one {w : World} {B : Nat} {v : Value} {ps : List (Sb × Value)} (h : OwnD w B v ps) : ∀ q ∈ ps, q.2.oneCell' = true := fun q hq => by
  obtain ⟨a, cap, e⟩ := (h.2.1 q hq).slice
  rw [e]
  rfl
theorem OwnD.ownS {w : World} {B : Nat} {v : Value} {ps : List (Sb × Value)} (h : OwnD w B v ps) : OwnS w B v (ps.map Prod.fst) := ⟨ps, rfl, h.1, h.2.1⟩

/-- A value written into a list of pairs. -/
theorem map_fst_set (qs : List (Sb × Value)) (i : Nat) (y : Value) (h : i < qs.length) : (qs.set i (qs[i].1, y)).map Prod.fst = qs.map Prod.fst := by
  rw [List.map_set]
  apply List.ext_getElem?
  intro j
  rw [List.getElem?_set]
  by_cases e : i = j
  · subst e; simp [h]
  · rw [if_neg e]
/-- What copiedSubs answers. -/
def OutD (ss : List Sb) (w : World) (e : Ending) (w' : World) : Prop := ∃ v ps, e = .returned v ∧ ps.map Prod.fst = ss ∧ OwnD w' w.heap.size v ps ∧ Below w.heap.size w w'
/-- Half way: the first k lists are copies, the others are as they came. -/
structure Half (w : World) (wr : World) (g : Nat) (v : Value) (ss : List Sb) (qs : List (Sb × Value)) (k : Nat) : Prop where
  fst : qs.map Prod.fst = ss
  own : OwnR 43 3 sbC wr w.heap.size v qs
  done : ∀ i (h : i < qs.length), i < k → OwnR 47 5 enC wr w.heap.size qs[i].2 qs[i].1.es
  left : ∀ i (h : i < qs.length), k ≤ i → EnAt w w.heap.size qs[i].2 qs[i].1.es
  apart : ApartD (some g :: ((qs.take k).map fun p => p.2.ownBlock))

theorem Half.step {w wr w2 : World} {g n cap k : Nat} {ss : List Sb} {qs : List (Sb × Value)} {y : Value} (hH : Half w wr g (.slice (some ⟨g, 0, none⟩) n cap) ss qs k) (hn : n = qs.length) (hk : k < qs.length) (hb : Below wr.heap.size wr w2) (hB : Below w.heap.size w wr) (hy : OwnR 47 5 enC w2 wr.heap.size y qs[k].1.es) :
    Half w (w2.setCell ⟨g, k * 3 + 2, none⟩ y) g (.slice (some ⟨g, 0, none⟩) n cap) ss (qs.set k (qs[k].1, y)) (k + 1) := by
  have hgl : g < wr.heap.size := by
    have := World.ownsRow.lt hH.own g rfl
    exact this.2
  have hyb : y.ownBlock ≠ some g := by
    rcases hy.blk with h | ⟨b, h, h1, _⟩
    · rw [h]; intro h2; cases h2
    · rw [h]; intro h2; cases h2; omega
  refine ⟨?_, ?_, ?_, ?_, ?_⟩
  · rw [map_fst_set qs k y hk]; exact hH.fst
  · exact (hH.own.keep hb (Nat.le_refl _)).setF sbC_len hn k 2 (qs[k].1, y) y hk (by decide) rfl
  · intro i hi hik
    rw [List.length_set] at hi
    by_cases e : i = k
    · subst e
      simp only [List.getElem_set_self]
      exact (hy.base_mono hB.size).off _ _ hyb
    · rw [List.getElem_set_ne (by omega)]
      refine ((hH.done i hi (by omega)).keep hb (Nat.le_refl _)).off _ _ ?_
      have ha := List.rel_of_pairwise_cons hH.apart (a' := qs[i].2.ownBlock) (List.mem_map.2 ⟨qs[i], List.mem_take_iff_getElem.2 ⟨i, by omega, rfl⟩, rfl⟩)
      rcases ha with h | h
      · cases h
      · exact fun h2 => h h2.symm
  · intro i hi hik
    rw [List.length_set] at hi
    rw [List.getElem_set_ne (by omega)]
    exact hH.left i hi (by omega)
  · have ht : ((qs.set k (qs[k].1, y)).take (k + 1)).map (fun p => p.2.ownBlock) = (qs.take k).map (fun p => p.2.ownBlock) ++ [y.ownBlock] := by
      rw [List.take_succ_eq_append_getElem (by rw [List.length_set]; exact hk), List.getElem_set_self, List.take_set_of_le (Nat.le_refl _), List.map_append]
      rfl
    unfold ApartD
    rw [ht, ← List.cons_append, List.pairwise_append]
    refine ⟨hH.apart, by simp, fun a ha b hb' => ?_⟩
    obtain rfl : b = y.ownBlock := by simpa using hb'
    have hlt : a = none ∨ ∃ c, a = some c ∧ c < wr.heap.size := by
      rcases List.mem_cons.1 ha with rfl | ha
      · exact .inr ⟨g, rfl, hgl⟩
      · obtain ⟨p, hp, rfl⟩ := List.mem_map.1 ha
        obtain ⟨i, hi, rfl⟩ := List.mem_take_iff_getElem.1 hp
        rcases (hH.done i (by omega) (by omega)).blk with h | ⟨c, h, _, h2⟩
        · exact .inl h
        · exact .inr ⟨c, h, h2⟩
    rcases hlt with h | ⟨c, h, h2⟩
    · exact .inl h
    · right
      rw [h]
      rcases hy.blk with h3 | ⟨d, h3, h4, _⟩
      · rw [h3]; intro h5; cases h5
      · rw [h3]; intro h5; cases h5; omega

set_option maxRecDepth 100000 in
set_option maxHeartbeats 1600000 in
theorem copiedSubs_any (v : Value) (ss : List Sb) (w : World) (h : SbAt w w.heap.size v ss) (hn : ss.length ≤ 1000) (hns : ∀ s ∈ ss, s.es.length ≤ 1000) :
    Calls Try.prog 49 #[.agg #[v]] w (OutD ss w) := by
  obtain ⟨ps, hps, hrec, hen⟩ := h
  have hlen : ps.length = ss.length := by rw [← hps, List.length_map]
  have HC := Lib.hid (fun w h => cloneS_any v ps w h (fun q hq => by obtain ⟨a, cap, e⟩ := (hen q hq).1.1.slice; rw [e]; rfl) (by omega))
  have HR := Lib.hid hrec
  have HE := Lib.hid hen
  have HPs := Lib.hid hps
  have HNS := Lib.hid hns
  have hpn : ps.length ≤ 1000 := by omega
  clear hrec hen hps hns hlen
  have hb0 : Below w.heap.size w (w.alloc (.cells #[v] 26)) := (Below.refl _ _).alloc (Nat.le_refl _) _
  go_enter Try.func49, Try.ntmps49
  go_wp2_with fail
  refine (HC.out _ ((HR.out.below hb0).mono hb0.size)).mono ?_
  rintro e w1 ⟨vS, rfl, hown1, hb1⟩
  have hB1 := hb0.trans (hb1.mono hb0.size)
  have hown1' := hown1.base_mono (show w.heap.size ≤ _ from hb0.size)
  rcases hown1.2 with ⟨rfl, hnil⟩ | ⟨g, cap, cur, rfl, hgb, hgw, hnc, hcm, _⟩
  · have hps0 : ps = [] := List.eq_nil_of_length_eq_zero hnil
    have HZ : Hid (OutD ss w (.returned (.slice none 0 0)) w1) := Lib.hid ⟨_, [], rfl, by rw [← HPs.out, hps0], ⟨OwnR.nil _ _ _, (fun p hp => by cases hp), by unfold ApartD; simp [Value.ownBlock]⟩, hB1⟩
    clear hown1 hown1' hnil hps0 hb1 hB1
    go_wp2
    go_loop [10] (fun i => i = .int .i64 0) (fun _ => 0)
    case atStart => exact rfl
    case round =>
      obtain rfl := hrel
      go_wp2
      go_ret
      exact HZ.out
  · have HH : Hid (Half w w1 g (.slice (some ⟨g, 0, none⟩) ps.length cap) ss ps 0) := Lib.hid ⟨HPs.out, hown1', (fun i h hi => by omega), (fun i h _ => (HE.out _ (List.getElem_mem h)).1), by unfold ApartD; simp⟩
    unfold maxLen at hcm
    clear hown1 hown1' hb1 hgw
    go_wp2
    go_loopw [10] (fun i wr => ∃ (k : Nat) (qs : List (Sb × Value)), k ≤ ps.length ∧ i = .int .i64 (k : Int) ∧ Hid (qs.length = ps.length) ∧ Hid (Half w wr g (.slice (some ⟨g, 0, none⟩) ps.length cap) ss qs k) ∧ Below w.heap.size w wr) (fun i _ => ps.length - (intOf i).toNat)
    case atStart => exact ⟨0, ps, Nat.zero_le _, rfl, Lib.hid rfl, HH, hB1⟩
    case round =>
      obtain ⟨k, qs, hk, rfl, HQ, HF, hB⟩ := hrel
      clear HH hB1
      by_cases hlt : k < ps.length
      · have hkq : k < qs.length := by have := HQ.out; omega
        have c2 := HF.out.own.val sbC_len HQ.out.symm k 2 _ hkq rfl
        have hl := HF.out.left k hkq (Nat.le_refl _)
        have hes : qs[k].1.es.length ≤ 1000 := HNS.out _ (by rw [← HF.out.fst]; exact List.mem_map.2 ⟨_, List.getElem_mem hkq, rfl⟩)
        have HX := Lib.hid ((hl.below hB).mono hB.size)
        have HCl := Lib.hid (fun w (hr : RecAt 5 enC w w.heap.size qs[k].2 qs[k].1.es) => cloneE_any qs[k].2 qs[k].1.es w hr (by omega))
        have HSt := Lib.hid (fun w2 y hb hy => HF.out.step (y := y) (w2 := w2) HQ.out.symm hkq hb hB hy)
        have HFr := Lib.hid (fun j => HF.out.own.free HQ.out.symm j)
        have HOw := Lib.hid HF.out.own
        obtain ⟨X, hX⟩ : ∃ X, X = qs[k].2 := ⟨_, rfl⟩
        obtain ⟨xa, xc, hxe⟩ := hl.1.slice
        rw [← hX] at c2 HX HCl hxe
        subst hxe
        obtain ⟨m, hm⟩ : ∃ m, m = qs[k].1.es.length := ⟨_, rfl⟩
        rw [← hm] at c2 HX HCl
        clear hl hX hm hes
        go_wp2_with fail
        refine (HCl.out _ HX.out.1).mono ?_
        rintro e w2 ⟨y, rfl, hy, hb2⟩
        obtain ⟨ya, yc, rfl⟩ := hy.slice
        have HS2 := Lib.hid (HSt.out w2 _ hb2 hy)
        have hB2 := hB.trans (hb2.mono hB.size)
        have hown2 := HOw.out.keep hb2 (Nat.le_refl _)
        have hfr : ∀ j, w2.frozen? ⟨g, j, none⟩ = false := fun j => hown2.free HQ.out.symm j
        have d2 := hown2.val sbC_len HQ.out.symm k 2 _ hkq rfl
        have HB3 := Lib.hid (fun u => hB2.setCell (p := ⟨g, k * 3 + 2, none⟩) (by have := World.ownsRow.lt HOw.out g rfl; exact this.1) u)
        have HQ2 : Hid (∀ z : Sb × Value, (qs.set k z).length = ps.length) := Lib.hid (fun z => by rw [List.length_set]; exact HQ.out)
        obtain ⟨m2, hm2⟩ : ∃ m2, m2 = qs[k].1.es.length := ⟨_, rfl⟩
        rw [← hm2] at HS2 ⊢
        clear hm2 hown2 hy hb2 c2 HF
        go_wp2
        refine ⟨⟨k + 1, _, by omega, by simp, Lib.hid (HQ2.out _), HS2, HB3.out _⟩, ?_⟩
        simp [intOf]; omega
      · have HZ : Hid (OutD ss w (.returned (.slice (some ⟨g, 0, none⟩) ps.length cap)) wr) := Lib.hid ⟨_, qs, rfl, HF.out.fst, ⟨HF.out.own, fun p hp => by
          obtain ⟨i, hi, rfl⟩ := List.getElem_of_mem hp
          exact HF.out.done i hi (by have := HQ.out; omega), by
          have ha := HF.out.apart
          rw [List.take_of_length_le (by have := HQ.out; omega)] at ha
          exact ha⟩, hB⟩
        go_wp2
        go_ret
        exact HZ.out
end Go.Proofs.Ytffkakpbelknaaa

/- W9x -/
namespace Go.Proofs.Ytffkakpbelknaaa
open Go.ChangeShapes Go.WideShapes Go.ChangeAt Go.RowKit
set_option linter.unusedVariables false

/-- What withFeed answers. -/
def OutWF (ps : List (Sb × Value)) (x : ByteArray) (w : World) (e : Ending) (w' : World) : Prop :=
  if fnB (sbKs (ps.map Prod.fst)) x = true ∨ ps.length = 6 then e = .returned (.tuple #[.slice none 0 0, .bool false]) ∧ Below w.heap.size w w'
  else ∃ v, e = .returned (.tuple #[v, .bool true]) ∧ OwnR 43 3 sbC w' w.heap.size v (putP ps (plK (sbKs (ps.map Prod.fst)) x) false (⟨x, ⟨#[]⟩, []⟩, .slice none 0 0)) ∧ Below w.heap.size w w'

set_option maxRecDepth 100000 in
set_option maxHeartbeats 1600000 in
theorem withFeed_any (v : Value) (ps : List (Sb × Value)) (x : ByteArray) (w : World) (h : RecAt 3 sbC w w.heap.size v ps) (hs : SbAt w w.heap.size v (ps.map Prod.fst)) (hone : ∀ q ∈ ps, q.2.oneCell' = true) (hr : risB (sbKs (ps.map Prod.fst)) = true) (hn : ps.length ≤ 900) :
    Calls Try.prog 50 #[v, .string x] w (OutWF ps x w) := by
  have HI := Lib.hid h
  have HS := Lib.hid hs
  have HP := Lib.hid (fun w h => placeOfS_any v (ps.map Prod.fst) x w h (by rw [List.length_map]; omega) (ris_mono hr x))
  have HW := Lib.hid (fun w h hs => withS_any v ps (⟨x, ⟨#[]⟩, []⟩, .slice none 0 0) w h hs hone rfl hr hn)
  obtain ⟨a, cap, rfl, hl, hm, hc⟩ := h
  clear hc hs hone hr
  unfold maxLen at hm
  have HO : Hid (∀ e w', OutWF ps x w e w' = if fnB (sbKs (ps.map Prod.fst)) x = true ∨ ps.length = 6 then e = .returned (.tuple #[.slice none 0 0, .bool false]) ∧ Below w.heap.size w w'
      else ∃ v, e = .returned (.tuple #[v, .bool true]) ∧ OwnR 43 3 sbC w' w.heap.size v (putP ps (plK (sbKs (ps.map Prod.fst)) x) false (⟨x, ⟨#[]⟩, []⟩, .slice none 0 0)) ∧ Below w.heap.size w w') := Lib.hid (fun e w' => rfl)
  simp only at HW
  generalize plK (sbKs (ps.map Prod.fst)) x = p at HP HW HO
  generalize fnB (sbKs (ps.map Prod.fst)) x = f at HP HW HO
  cases f with
  | true =>
    go_enter Try.func50, Try.ntmps50
    go_wp2_with fail
    refine (HP.out _ HS.out).mono ?_
    rintro e w1 ⟨rfl, hb1⟩
    go_wp2
    go_ret2
    rw [HO.out, if_pos (by simp)]
    exact ⟨rfl, hb1⟩
  | false =>
    by_cases h6 : ps.length = 6
    · have h6' : ((ps.length : Int) == 6) = true := beq_iff_eq.2 (by omega)
      have H6 := Lib.hid h6
      clear h6
      go_enter Try.func50, Try.ntmps50
      go_wp2_with fail
      refine (HP.out _ HS.out).mono ?_
      rintro e w1 ⟨rfl, hb1⟩
      go_wp2
      go_ret2
      rw [HO.out, if_pos (.inr H6.out)]
      exact ⟨rfl, hb1⟩
    · have h6' : ((ps.length : Int) == 6) = false := beq_eq_false_iff_ne.2 (by omega)
      have H6 := Lib.hid h6
      clear h6
      go_enter Try.func50, Try.ntmps50
      go_wp2_with fail
      refine (HP.out _ HS.out).mono ?_
      rintro e w1 ⟨rfl, hb1⟩
      go_wp2_with fail
      refine (HW.out _ ((HI.out.below hb1).mono hb1.size) ((HS.out.below hb1).mono hb1.size)).mono ?_
      rintro e w2 ⟨v2, rfl, hown2, hb2⟩
      have hB2 := hb1.trans (hb2.mono hb1.size)
      have hown3 := hown2.base_mono hb1.size
      clear hb1 hb2 hown2
      go_wp2
      go_ret2
      rw [HO.out, if_neg (by simp [H6.out])]
      exact ⟨_, rfl, hown3, hB2⟩

/-- What allRead answers: the list itself, written. -/
def rdAll (es : List En) : List En := es.map fun x => { x with rd := true }
def OutAR (s : Sb) (x : Value) (B : Nat) (w : World) (e : Ending) (w' : World) : Prop := e = .returned (sbV s.u s.t x) ∧ OwnR 47 5 enC w' B x (rdAll s.es) ∧ w.grownBy w' x.ownBlock
theorem rdAll_set (es : List En) (k : Nat) (h : k < es.length) : (rdAll (es.take k) ++ es.drop k).set k { es[k] with rd := true } = rdAll (es.take (k + 1)) ++ es.drop (k + 1) := by
  have hl : (rdAll (es.take k)).length = k := by simp [rdAll]; omega
  rw [List.set_append_right _ _ (by omega), hl, Nat.sub_self, List.take_succ_eq_append_getElem h, List.drop_eq_getElem_cons h, List.set_cons_zero]
  unfold rdAll
  rw [List.map_append]
  simp
theorem gb_set {w wr : World} {row : Option Nat} (h : w.grownBy wr row) (p : Addr) (u : Value) (hp : w.heap.size ≤ p.block ∨ row = some p.block) : w.grownBy (wr.setCell p u) row :=
  ⟨h.os, h.tape, h.output, by have := h.size; simpa [World.setCell] using this, fun k hk hne => by
    rw [Below.heap_setCell _ _ _ _ (fun e => by
      rcases hp with h1 | h1
      · omega
      · exact hne (by rw [h1, e]))]
    exact h.block k hk hne⟩
theorem gb_alloc {w wr : World} {row : Option Nat} (h : w.grownBy wr row) (o : Obj) : w.grownBy (wr.alloc o) row :=
  ⟨h.os, h.tape, h.output, by have := h.size; simp; omega, fun k hk hne => by
    rw [Below.heap_alloc _ _ _ (by have := h.size; omega)]
    exact h.block k hk hne⟩
theorem gb_below {w wr w' : World} {row : Option Nat} {B : Nat} (h : w.grownBy wr row) (hb : Below B wr w') (hB : w.heap.size ≤ B) : w.grownBy w' row :=
  ⟨hb.os.trans h.os, hb.tape.trans h.tape, hb.output.trans h.output, Nat.le_trans h.size hb.size, fun k hk hne => (hb.block k (by omega)).trans (h.block k hk hne)⟩

set_option maxRecDepth 100000 in
set_option maxHeartbeats 1600000 in
theorem allRead_any (s : Sb) (x : Value) (B : Nat) (w : World) (h : OwnR 47 5 enC w B x s.es) (hn : s.es.length ≤ 1000) :
    Calls Try.prog 106 #[sbV s.u s.t x] w (OutAR s x B w) := by
  have HI := Lib.hid ((h.alloc (.cells #[.string s.u, .string s.t, x] 43)).alloc (.cells #[.string ⟨#[]⟩, .string ⟨#[]⟩, .slice none 0 0] 43))
  have HB : Hid (∀ g, x.ownBlock = some g → g < w.heap.size) := Lib.hid (fun g hg => (World.ownsRow.lt h g hg).2)
  obtain ⟨a, cap, rfl, hle⟩ := h.len
  have hcm : cap ≤ 9223372036854775807 := by
    rcases h.2 with ⟨h1, _⟩ | ⟨g, c, cur, h1, _, _, _, h2, _⟩
    · obtain ⟨_, _, h3⟩ : a = none ∧ s.es.length = 0 ∧ cap = 0 := by simpa using h1
      omega
    · obtain ⟨_, h3⟩ : a = some ⟨g, 0, none⟩ ∧ cap = c := by simpa using h1
      unfold maxLen at h2
      omega
  have hg0 := gb_alloc (gb_alloc (World.grownBy.refl w (Value.slice a s.es.length cap).ownBlock) (.cells #[.string s.u, .string s.t, .slice a s.es.length cap] 43)) (.cells #[.string ⟨#[]⟩, .string ⟨#[]⟩, .slice none 0 0] 43)
  have hX0 := (Box.new w #[.string s.u, .string s.t, .slice a s.es.length cap] 43).alloc (.cells #[.string ⟨#[]⟩, .string ⟨#[]⟩, .slice none 0 0] 43)
  have hR0 : Box ((w.alloc (.cells #[.string s.u, .string s.t, .slice a s.es.length cap] 43)).alloc (.cells #[.string ⟨#[]⟩, .string ⟨#[]⟩, .slice none 0 0] 43)) (w.heap.size + 1) #[.string ⟨#[]⟩, .string ⟨#[]⟩, .slice none 0 0] 43 := by
    have := Box.new (w.alloc (.cells #[.string s.u, .string s.t, .slice a s.es.length cap] 43)) #[.string ⟨#[]⟩, .string ⟨#[]⟩, .slice none 0 0] 43
    simpa using this
  obtain ⟨E, hE⟩ : ∃ E, E = s.es := ⟨_, rfl⟩
  have HE := Lib.hid hE
  rw [← hE] at HI hn hle
  obtain ⟨n, hnn⟩ : ∃ n, n = E.length := ⟨_, rfl⟩
  have HN := Lib.hid hnn
  have hEn : s.es.length = n := by rw [hnn, hE]
  rw [hEn] at HB hg0 hX0 hR0 ⊢
  rw [← hnn] at HI hn hle
  clear h hE hnn hEn
  go_enter Try.func106, Try.ntmps106
  go_wp2
  generalize (w.alloc (.cells #[.string s.u, .string s.t, .slice a n cap] 43)).alloc (.cells #[.string ⟨#[]⟩, .string ⟨#[]⟩, .slice none 0 0] 43) = W at HI hg0 hX0 hR0 ⊢
  go_loopw [7] (fun i wr => ∃ k : Nat, k ≤ n ∧ i = .int .i64 (k : Int) ∧ OwnR 47 5 enC wr B (.slice a n cap) (rdAll (E.take k) ++ E.drop k) ∧ w.grownBy wr (Value.slice a n cap).ownBlock ∧ Box wr w.heap.size #[.string s.u, .string s.t, .slice a n cap] 43 ∧ Box wr (w.heap.size + 1) #[.string ⟨#[]⟩, .string ⟨#[]⟩, .slice none 0 0] 43) (fun i _ => n - (intOf i).toNat)
  case atStart => exact ⟨0, Nat.zero_le _, rfl, by simpa [rdAll] using HI.out, hg0, hX0, hR0⟩
  case round =>
    obtain ⟨k, hk, rfl, hown, hgr, hX, hR⟩ := hrel
    clear hg0 hX0 hR0
    have f0 := hX.cell 0 _ rfl
    have f1 := hX.cell 1 _ rfl
    have f2 := hX.cell 2 _ rfl
    by_cases hlt : k < n
    · have hkE : k < E.length := by have := HN.out; omega
      obtain ⟨g, rfl, hgw⟩ : ∃ g, a = some ⟨g, 0, none⟩ ∧ g < w.heap.size := by
        rcases hown.2 with ⟨h1, _⟩ | ⟨g, c, cur, h1, _⟩
        · cases h1; omega
        · cases h1; exact ⟨g, rfl, HB.out g rfl⟩
      have hll : n = (rdAll (E.take k) ++ E.drop k).length := by have := HN.out; simp [rdAll]; omega
      have hfr : ∀ j, wr.frozen? ⟨g, j, none⟩ = false := fun j => hown.free hll j
      obtain ⟨z3, c3⟩ := hown.cell enC_len hll k 3 hlt (by decide)
      have hge : (rdAll (E.take k) ++ E.drop k)[k]'(by omega) = E[k] := by
        have hl1 : (rdAll (E.take k)).length = k := by simp [rdAll]; omega
        rw [List.getElem_append_right (by omega)]
        simp [hl1]
      have hown2 := hown.setF enC_len hll k 3 { E[k] with rd := true } (.bool true) (by omega) (by decide) (by rw [hge]; rfl)
      rw [rdAll_set E k hkE] at hown2
      have hgr2 := gb_set hgr ⟨g, k * 5 + 3, none⟩ (.bool true) (.inr rfl)
      have hX2 := hX.other ⟨g, k * 5 + 3, none⟩ (.bool true) (by simp; omega)
      have hR2 := hR.other ⟨g, k * 5 + 3, none⟩ (.bool true) (by simp; omega)
      have HO2 := Lib.hid hown2
      clear hown hown2 hgr hX hR hge hll
      go_wp2
      go_roundw
      case rel => exact ⟨k + 1, by omega, by go_num, HO2.out, hgr2, hX2, hR2⟩
      case measure => simp [intOf]; omega
    · have hke : k = E.length := by have := HN.out; omega
      have hrf := hR.free
      have r0 := hR.cell 0 _ rfl
      have r1 := hR.cell 1 _ rfl
      have r2 := hR.cell 2 _ rfl
      have HOw : Hid (OwnR 47 5 enC wr B (.slice a n cap) (rdAll E)) := Lib.hid (by rw [hke, List.take_length, List.drop_length, List.append_nil] at hown; exact hown)
      have HR := Lib.hid hR
      have HG := Lib.hid hgr
      clear hown hR hgr hX hke
      go_wp2
      have hR2 := ((HR.out.set 0 (.string s.u)).set 1 (.string s.t)).set 2 (.slice a n cap)
      have hG2 := gb_set (gb_set (gb_set HG.out ⟨w.heap.size + 1, 0, none⟩ (.string s.u) (.inl (by simp))) ⟨w.heap.size + 1, 1, none⟩ (.string s.t) (.inl (by simp))) ⟨w.heap.size + 1, 2, none⟩ (.slice a n cap) (.inl (by simp))
      have hne : (Value.slice a n cap).ownBlock ≠ some (w.heap.size + 1) := fun h2 => by have := HB.out _ h2; omega
      have hO2 := ((HOw.out.off ⟨w.heap.size + 1, 0, none⟩ (.string s.u) hne).off ⟨w.heap.size + 1, 1, none⟩ (.string s.t) hne).off ⟨w.heap.size + 1, 2, none⟩ (.slice a n cap) hne
      generalize ((wr.setCell ⟨w.heap.size + 1, 0, none⟩ (.string s.u)).setCell ⟨w.heap.size + 1, 1, none⟩ (.string s.t)).setCell ⟨w.heap.size + 1, 2, none⟩ (.slice a n cap) = W2 at hR2 hG2 hO2 ⊢
      have q0 := hR2.cell 0 _ rfl
      have q1 := hR2.cell 1 _ rfl
      have q2 := hR2.cell 2 _ rfl
      exact bodyPost_ret (v := sbV s.u s.t (.slice a n cap)) (by simp [results, Try.results106, go_sem, q0, q1, q2]) rfl ⟨rfl, by rw [← HE.out]; exact hO2, hG2⟩

end Go.Proofs.Ytffkakpbelknaaa
