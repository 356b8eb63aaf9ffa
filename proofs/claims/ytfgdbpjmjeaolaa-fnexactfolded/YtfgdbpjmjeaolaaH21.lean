/- Joined: W9v, W9w. -/
import Derived.Test.YtfgdbpjmjeaolaaH20
/- W9v -/
namespace Go.Proofs.Ytfgdbpjmjeaolaa
open Go.ChangeShapes Go.WideShapes Go.ChangeAt Go.RowKit
set_option linter.unusedVariables false

set_option maxRecDepth 100000 in
set_option maxHeartbeats 1600000 in
theorem withoutS_any (v : Value) (ps : List (Sb × Value)) (p : Nat) (w : World) (h : RecAt 3 sbC w w.heap.size v ps) (hone : ∀ q ∈ ps, q.2.oneCell' = true) (hp : p < ps.length) (hn : ps.length ≤ 900) :
    Calls Try.prog 128 #[v, .int .i64 (p : Int)] w (OutR 105 3 sbC (ps.take p ++ ps.drop (p + 1)) w) := by
  have HI := Lib.hid h
  have HOn := Lib.hid hone
  obtain ⟨a, cap, rfl, hl, hm, hc⟩ := h
  obtain ⟨b, off, rfl, hb, _⟩ := hc (by omega)
  unfold maxLen at hm
  clear hc hone
  obtain ⟨q, hq⟩ : ∃ q, p + 1 = q := ⟨_, rfl⟩
  rw [hq]
  have Hq : Hid (IntKind.i64.wrap ((p : Int) + 1) = (q : Int)) := Lib.hid (by rw [← hq]; simp; exact IntWalk.i64_in _ (by omega))
  have hqp : p < q := by omega
  have hql : q ≤ ps.length := by omega
  clear hq
  rcases Nat.eq_or_lt_of_le (show q ≤ cap by omega) with hcp | hcp
  · subst hcp
    have hrt : RecAt 3 sbC w.drew w.drew.heap.size (.slice (some ⟨b, off, none⟩) p q) (ps.take p) := HI.out.take p (by omega)
    have hrd : RecAt 3 sbC w.drew w.drew.heap.size (.slice (some ⟨b, off, none⟩) 0 0) (ps.drop q) := drop_eq (HI.out.drop q (by omega) (a2 := some ⟨b, off, none⟩) (fun hlt => by omega)) (by omega) (by omega)
    go_enter Try.func128, Try.ntmps128
    go_wp2
    refine wp_region_T (fun w' => True) (fun _ => True) 9 (by kernel_rfl) 10 rfl ?_
    refine wpAnyT_takesA (md := .any) 3 (by kernel_rfl) (by intro d v c a w h; cases d <;> exact h) [0, 1, 2, 3, 4, 5, 6] _ _ _ (by decide) (by kernel_rfl) ⟨trivial, fun _ => trivial⟩ ?_
    simp only [pick, List.filterMap_cons, List.filterMap_nil, List.getElem?_cons_zero, List.getElem?_cons_succ]
    refine wpIf_step (.slice (some ⟨b, off, none⟩) ps.length q) (by kernel_rfl) (fun w hw => by go_simp) ?_
    refine wpIf_step (.int .i64 (p : Int)) (by kernel_rfl) (fun w hw => by go_simp) ?_
    refine wpIf_step (.slice (some ⟨b, off, none⟩) p q) (by kernel_rfl) (fun w hw => by have hcl : ¬ q < p := (by omega); go_simp) ?_
    refine wpIf_step (.slice (some ⟨b, off, none⟩) ps.length q) (by kernel_rfl) (fun w hw => by go_simp) ?_
    refine wpIf_step (.int .i64 (p : Int)) (by kernel_rfl) (fun w hw => by go_simp) ?_
    refine wpIf_step (.int .i64 (q : Int)) (by kernel_rfl) (fun w hw => by have hq := Hq.out; go_simp) ?_
    refine wpIf_step (.slice (some ⟨b, off, none⟩) 0 0) (by kernel_rfl) (fun w hw => by have hcl : ¬ q < q := (by omega); have hcl2 : ¬ ps.length < q := (by omega); go_simp) ?_
    refine wpIf_nil (fun hS => ?_)
    clear hS
    refine wpAnyT_one 7 2 (by kernel_rfl) rfl (by kernel_rfl) (fun K hK => ?_)
    go_simp
    refine hK _ _ ⟨trivial, fun _ => trivial⟩ (fun hS => ?_)
    clear hK K hS
    refine wpAnyT_one 8 1 (by kernel_rfl) rfl (by kernel_rfl) (fun K hK => ?_)
    go_simp
    refine (cat2S w.drew (some ⟨b, off, none⟩) p q (.slice (some ⟨b, off, none⟩) 0 0) (ps.take p) (ps.drop q) hrt hrd (fun q hq => HOn.out q (List.mem_of_mem_take hq)) (fun q hq => HOn.out q (List.mem_of_mem_drop hq)) (by rw [List.length_take, List.length_drop]; omega)).mono ?_
    rintro e w5 ⟨v5, rfl, hown5, hb5⟩
    refine hK _ _ ⟨trivial, fun _ => trivial⟩ (fun hS => ?_)
    clear hK K hS
    refine wpAnyT_one 9 0 (by kernel_rfl) rfl (by kernel_rfl) (fun K hK => ?_)
    go_simp
    refine hK _ _ ⟨trivial, fun _ => trivial⟩ (fun hS => ?_)
    clear hK K hS
    refine wpAnyT_over (by kernel_rfl) ?_
    go_wp2
    go_ret
    exact ⟨_, rfl, hown5, ⟨hb5.os, hb5.tape, hb5.output, hb5.size, hb5.block⟩⟩
  · have hcq : ¬ cap = q := by omega
    have hrt : RecAt 3 sbC w.drew w.drew.heap.size (.slice (some ⟨b, off, none⟩) p cap) (ps.take p) := HI.out.take p (by omega)
    have hrd : RecAt 3 sbC w.drew w.drew.heap.size (.slice (some ⟨b, off + q * 3, none⟩) (ps.length - q) (cap - q)) (ps.drop q) := HI.out.drop q (by omega) (fun _ b2 off2 hab => by cases hab; rfl)
    go_enter Try.func128, Try.ntmps128
    go_wp2
    refine wp_region_T (fun w' => True) (fun _ => True) 9 (by kernel_rfl) 10 rfl ?_
    refine wpAnyT_takesA (md := .any) 3 (by kernel_rfl) (by intro d v c a w h; cases d <;> exact h) [0, 1, 2, 3, 4, 5, 6] _ _ _ (by decide) (by kernel_rfl) ⟨trivial, fun _ => trivial⟩ ?_
    simp only [pick, List.filterMap_cons, List.filterMap_nil, List.getElem?_cons_zero, List.getElem?_cons_succ]
    refine wpIf_step (.slice (some ⟨b, off, none⟩) ps.length cap) (by kernel_rfl) (fun w hw => by go_simp) ?_
    refine wpIf_step (.int .i64 (p : Int)) (by kernel_rfl) (fun w hw => by go_simp) ?_
    refine wpIf_step (.slice (some ⟨b, off, none⟩) p cap) (by kernel_rfl) (fun w hw => by have hcl : ¬ cap < p := (by omega); go_simp) ?_
    refine wpIf_step (.slice (some ⟨b, off, none⟩) ps.length cap) (by kernel_rfl) (fun w hw => by go_simp) ?_
    refine wpIf_step (.int .i64 (p : Int)) (by kernel_rfl) (fun w hw => by go_simp) ?_
    refine wpIf_step (.int .i64 (q : Int)) (by kernel_rfl) (fun w hw => by have hq := Hq.out; go_simp) ?_
    refine wpIf_step (.slice (some ⟨b, off + q * 3, none⟩) (ps.length - q) (cap - q)) (by kernel_rfl) (fun w hw => by have hcl : ¬ cap < q := (by omega); have hcl2 : ¬ ps.length < q := (by omega); go_simp) ?_
    refine wpIf_nil (fun hS => ?_)
    clear hS
    refine wpAnyT_one 7 2 (by kernel_rfl) rfl (by kernel_rfl) (fun K hK => ?_)
    go_simp
    refine hK _ _ ⟨trivial, fun _ => trivial⟩ (fun hS => ?_)
    clear hK K hS
    refine wpAnyT_one 8 1 (by kernel_rfl) rfl (by kernel_rfl) (fun K hK => ?_)
    go_simp
    refine (cat2S w.drew (some ⟨b, off, none⟩) p cap (.slice (some ⟨b, off + q * 3, none⟩) (ps.length - q) (cap - q)) (ps.take p) (ps.drop q) hrt hrd (fun q hq => HOn.out q (List.mem_of_mem_take hq)) (fun q hq => HOn.out q (List.mem_of_mem_drop hq)) (by rw [List.length_take, List.length_drop]; omega)).mono ?_
    rintro e w5 ⟨v5, rfl, hown5, hb5⟩
    refine hK _ _ ⟨trivial, fun _ => trivial⟩ (fun hS => ?_)
    clear hK K hS
    refine wpAnyT_one 9 0 (by kernel_rfl) rfl (by kernel_rfl) (fun K hK => ?_)
    go_simp
    refine hK _ _ ⟨trivial, fun _ => trivial⟩ (fun hS => ?_)
    clear hK K hS
    refine wpAnyT_over (by kernel_rfl) ?_
    go_wp2
    go_ret
    exact ⟨_, rfl, hown5, ⟨hb5.os, hb5.tape, hb5.output, hb5.size, hb5.block⟩⟩

set_option maxRecDepth 100000 in
set_option maxHeartbeats 1600000 in
theorem withoutE_any (v : Value) (es : List (En)) (p : Nat) (w : World) (h : RecAt 5 enC w w.heap.size v es) (hp : p < es.length) (hn : es.length ≤ 900) :
    Calls Try.prog 178 #[v, .int .i64 (p : Int)] w (OutR 109 5 enC (es.take p ++ es.drop (p + 1)) w) := by
  have HI := Lib.hid h
  obtain ⟨a, cap, rfl, hl, hm, hc⟩ := h
  obtain ⟨b, off, rfl, hb, _⟩ := hc (by omega)
  unfold maxLen at hm
  clear hc
  obtain ⟨q, hq⟩ : ∃ q, p + 1 = q := ⟨_, rfl⟩
  rw [hq]
  have Hq : Hid (IntKind.i64.wrap ((p : Int) + 1) = (q : Int)) := Lib.hid (by rw [← hq]; simp; exact IntWalk.i64_in _ (by omega))
  have hqp : p < q := by omega
  have hql : q ≤ es.length := by omega
  clear hq
  rcases Nat.eq_or_lt_of_le (show q ≤ cap by omega) with hcp | hcp
  · subst hcp
    have hrt : RecAt 5 enC w.drew w.drew.heap.size (.slice (some ⟨b, off, none⟩) p q) (es.take p) := HI.out.take p (by omega)
    have hrd : RecAt 5 enC w.drew w.drew.heap.size (.slice (some ⟨b, off, none⟩) 0 0) (es.drop q) := drop_eq (HI.out.drop q (by omega) (a2 := some ⟨b, off, none⟩) (fun hlt => by omega)) (by omega) (by omega)
    go_enter Try.func178, Try.ntmps178
    go_wp2
    refine wp_region_T (fun w' => True) (fun _ => True) 9 (by kernel_rfl) 10 rfl ?_
    refine wpAnyT_takesA (md := .any) 3 (by kernel_rfl) (by intro d v c a w h; cases d <;> exact h) [0, 1, 2, 3, 4, 5, 6] _ _ _ (by decide) (by kernel_rfl) ⟨trivial, fun _ => trivial⟩ ?_
    simp only [pick, List.filterMap_cons, List.filterMap_nil, List.getElem?_cons_zero, List.getElem?_cons_succ]
    refine wpIf_step (.slice (some ⟨b, off, none⟩) es.length q) (by kernel_rfl) (fun w hw => by go_simp) ?_
    refine wpIf_step (.int .i64 (p : Int)) (by kernel_rfl) (fun w hw => by go_simp) ?_
    refine wpIf_step (.slice (some ⟨b, off, none⟩) p q) (by kernel_rfl) (fun w hw => by have hcl : ¬ q < p := (by omega); go_simp) ?_
    refine wpIf_step (.slice (some ⟨b, off, none⟩) es.length q) (by kernel_rfl) (fun w hw => by go_simp) ?_
    refine wpIf_step (.int .i64 (p : Int)) (by kernel_rfl) (fun w hw => by go_simp) ?_
    refine wpIf_step (.int .i64 (q : Int)) (by kernel_rfl) (fun w hw => by have hq := Hq.out; go_simp) ?_
    refine wpIf_step (.slice (some ⟨b, off, none⟩) 0 0) (by kernel_rfl) (fun w hw => by have hcl : ¬ q < q := (by omega); have hcl2 : ¬ es.length < q := (by omega); go_simp) ?_
    refine wpIf_nil (fun hS => ?_)
    clear hS
    refine wpAnyT_one 7 2 (by kernel_rfl) rfl (by kernel_rfl) (fun K hK => ?_)
    go_simp
    refine hK _ _ ⟨trivial, fun _ => trivial⟩ (fun hS => ?_)
    clear hK K hS
    refine wpAnyT_one 8 1 (by kernel_rfl) rfl (by kernel_rfl) (fun K hK => ?_)
    go_simp
    refine (cat2E w.drew (some ⟨b, off, none⟩) p q (.slice (some ⟨b, off, none⟩) 0 0) (es.take p) (es.drop q) hrt hrd (by rw [List.length_take, List.length_drop]; omega)).mono ?_
    rintro e w5 ⟨v5, rfl, hown5, hb5⟩
    refine hK _ _ ⟨trivial, fun _ => trivial⟩ (fun hS => ?_)
    clear hK K hS
    refine wpAnyT_one 9 0 (by kernel_rfl) rfl (by kernel_rfl) (fun K hK => ?_)
    go_simp
    refine hK _ _ ⟨trivial, fun _ => trivial⟩ (fun hS => ?_)
    clear hK K hS
    refine wpAnyT_over (by kernel_rfl) ?_
    go_wp2
    go_ret
    exact ⟨_, rfl, hown5, ⟨hb5.os, hb5.tape, hb5.output, hb5.size, hb5.block⟩⟩
  · have hcq : ¬ cap = q := by omega
    have hrt : RecAt 5 enC w.drew w.drew.heap.size (.slice (some ⟨b, off, none⟩) p cap) (es.take p) := HI.out.take p (by omega)
    have hrd : RecAt 5 enC w.drew w.drew.heap.size (.slice (some ⟨b, off + q * 5, none⟩) (es.length - q) (cap - q)) (es.drop q) := HI.out.drop q (by omega) (fun _ b2 off2 hab => by cases hab; rfl)
    go_enter Try.func178, Try.ntmps178
    go_wp2
    refine wp_region_T (fun w' => True) (fun _ => True) 9 (by kernel_rfl) 10 rfl ?_
    refine wpAnyT_takesA (md := .any) 3 (by kernel_rfl) (by intro d v c a w h; cases d <;> exact h) [0, 1, 2, 3, 4, 5, 6] _ _ _ (by decide) (by kernel_rfl) ⟨trivial, fun _ => trivial⟩ ?_
    simp only [pick, List.filterMap_cons, List.filterMap_nil, List.getElem?_cons_zero, List.getElem?_cons_succ]
    refine wpIf_step (.slice (some ⟨b, off, none⟩) es.length cap) (by kernel_rfl) (fun w hw => by go_simp) ?_
    refine wpIf_step (.int .i64 (p : Int)) (by kernel_rfl) (fun w hw => by go_simp) ?_
    refine wpIf_step (.slice (some ⟨b, off, none⟩) p cap) (by kernel_rfl) (fun w hw => by have hcl : ¬ cap < p := (by omega); go_simp) ?_
    refine wpIf_step (.slice (some ⟨b, off, none⟩) es.length cap) (by kernel_rfl) (fun w hw => by go_simp) ?_
    refine wpIf_step (.int .i64 (p : Int)) (by kernel_rfl) (fun w hw => by go_simp) ?_
    refine wpIf_step (.int .i64 (q : Int)) (by kernel_rfl) (fun w hw => by have hq := Hq.out; go_simp) ?_
    refine wpIf_step (.slice (some ⟨b, off + q * 5, none⟩) (es.length - q) (cap - q)) (by kernel_rfl) (fun w hw => by have hcl : ¬ cap < q := (by omega); have hcl2 : ¬ es.length < q := (by omega); go_simp) ?_
    refine wpIf_nil (fun hS => ?_)
    clear hS
    refine wpAnyT_one 7 2 (by kernel_rfl) rfl (by kernel_rfl) (fun K hK => ?_)
    go_simp
    refine hK _ _ ⟨trivial, fun _ => trivial⟩ (fun hS => ?_)
    clear hK K hS
    refine wpAnyT_one 8 1 (by kernel_rfl) rfl (by kernel_rfl) (fun K hK => ?_)
    go_simp
    refine (cat2E w.drew (some ⟨b, off, none⟩) p cap (.slice (some ⟨b, off + q * 5, none⟩) (es.length - q) (cap - q)) (es.take p) (es.drop q) hrt hrd (by rw [List.length_take, List.length_drop]; omega)).mono ?_
    rintro e w5 ⟨v5, rfl, hown5, hb5⟩
    refine hK _ _ ⟨trivial, fun _ => trivial⟩ (fun hS => ?_)
    clear hK K hS
    refine wpAnyT_one 9 0 (by kernel_rfl) rfl (by kernel_rfl) (fun K hK => ?_)
    go_simp
    refine hK _ _ ⟨trivial, fun _ => trivial⟩ (fun hS => ?_)
    clear hK K hS
    refine wpAnyT_over (by kernel_rfl) ?_
    go_wp2
    go_ret
    exact ⟨_, rfl, hown5, ⟨hb5.os, hb5.tape, hb5.output, hb5.size, hb5.block⟩⟩

end Go.Proofs.Ytfgdbpjmjeaolaa

/- W9w -/
namespace Go.Proofs.Ytfgdbpjmjeaolaa
open Go.ChangeShapes Go.WideShapes Go.ChangeAt Go.RowKit
set_option linter.unusedVariables false

section
variable {α : Type} {k : Nat} {C : α → List Value}
theorem flat_set1 (hk : ∀ x, (C x).length = k) (l : List α) (i j : Nat) (x : α) (u : Value) (hi : i < l.length) (hj : j < k) (hx : C x = (C l[i]).set j u) : (l.flatMap C).set (i * k + j) u = (l.set i x).flatMap C := by
  have h0 : 0 < k := by omega
  apply List.ext_getElem?
  intro m
  by_cases hm : m < l.length * k
  · have hd : m / k < l.length := (Nat.div_lt_iff_lt_mul h0).2 hm
    have hr : m % k < k := Nat.mod_lt _ h0
    have e : m = m / k * k + m % k := by rw [Nat.mul_comm]; exact (Nat.div_add_mod m k).symm
    have hR : ((l.set i x).flatMap C)[m]? = (C ((l.set i x)[m / k]'(by rw [List.length_set]; exact hd)))[m % k]? := by
      have := flat_get hk (l.set i x) (m / k) (m % k) (by rw [List.length_set]; exact hd) hr
      rw [← e] at this
      exact this
    have hL : (l.flatMap C)[m]? = (C l[m / k])[m % k]? := by
      have := flat_get hk l (m / k) (m % k) hd hr
      rw [← e] at this
      exact this
    rw [hR, List.getElem?_set, List.getElem_set]
    by_cases ha : i = m / k
    · subst ha
      rw [if_pos rfl, hx, List.getElem?_set]
      by_cases hb : j = m % k
      · have hmm : m / k * k + j = m := by rw [hb]; exact e.symm
        rw [if_pos hmm, if_pos hb, if_pos (by rw [flat_len hk, hmm]; exact hm), if_pos (by rw [hk]; exact hj)]
      · rw [if_neg (by intro h; apply hb; omega), if_neg hb, hL]
    · rw [if_neg (fun h => ha h)]
      have hne : i * k + j ≠ m := by
        intro h
        apply ha
        have this : (i * k + j) / k = m / k := by rw [h]
        rw [← this, Nat.mul_comm, Nat.mul_add_div h0, Nat.div_eq_of_lt hj, Nat.add_zero]
      rw [if_neg hne, hL]
  · rw [List.getElem?_eq_none (by rw [List.length_set, flat_len hk]; omega), List.getElem?_eq_none (by rw [flat_len hk, List.length_set]; omega)]
theorem OwnR.setF {e : TypeId} {w : World} {base g n cap : Nat} {l : List α} (hk : ∀ x, (C x).length = k) (h : OwnR e k C w base (.slice (some ⟨g, 0, none⟩) n cap) l) (hn : n = l.length) (i j : Nat) (x : α) (u : Value) (hi : i < l.length) (hj : j < k) (hx : C x = (C l[i]).set j u) :
    OwnR e k C (w.setCell ⟨g, i * k + j, none⟩ u) base (.slice (some ⟨g, 0, none⟩) n cap) (l.set i x) := by
  subst hn
  have := (World.ownsRow.stored h (i * k + j) u).1
  rw [flat_set1 hk l i j x u hi hj hx] at this
  unfold OwnR
  rw [List.length_set]
  exact this
theorem OwnR.val {e : TypeId} {w : World} {base g n cap : Nat} {l : List α} (hk : ∀ x, (C x).length = k) (h : OwnR e k C w base (.slice (some ⟨g, 0, none⟩) n cap) l) (hn : n = l.length) (i j : Nat) (u : Value) (hi : i < l.length) (hu : (C l[i])[j]? = some u) : w.cell? ⟨g, i * k + j, none⟩ = some u := by
  subst hn
  have hj : j < k := by have := (List.getElem?_eq_some_iff.1 hu).1; rwa [hk] at this
  have hlt : i * k + j < l.length * k := by
    have hm' : (i + 1) * k ≤ l.length * k := Nat.mul_le_mul_right _ hi
    have e : (i + 1) * k = i * k + k := Nat.succ_mul i k
    omega
  rw [World.ownsRow.cellAt h (i * k + j) hlt, flat_get hk l i j hi hj]
  exact hu
theorem OwnR.blk {e : TypeId} {w : World} {base : Nat} {v : Value} {l : List α} (h : OwnR e k C w base v l) : v.ownBlock = none ∨ ∃ g, v.ownBlock = some g ∧ base ≤ g ∧ g < w.heap.size := by
  cases hb : v.ownBlock with
  | none => exact .inl rfl
  | some g =>
    obtain ⟨h1, h2⟩ := World.ownsRow.lt h g hb
    exact .inr ⟨g, rfl, h1, h2⟩
/-- A row stays as it is where another block is written. -/
theorem OwnR.off {e : TypeId} {w : World} {base : Nat} {v : Value} {l : List α} (h : OwnR e k C w base v l) (p : Addr) (x : Value) (hp : v.ownBlock ≠ some p.block) : OwnR e k C (w.setCell p x) base v l := by
  refine ⟨h.1, ?_⟩
  rcases h.2 with hn | ⟨g, cap, cur, rfl, hb', hg, rest⟩
  · exact .inl hn
  · refine .inr ⟨g, cap, cur, rfl, hb', ?_, rest⟩
    rw [Below.heap_setCell _ _ _ _ (fun h2 => hp (by rw [← h2]; rfl))]
    exact hg
end
/-- Blocks that lie apart from each other. -/
def ApartD (bs : List (Option Nat)) : Prop := bs.Pairwise (fun x y => x = none ∨ x ≠ y)
/-- Feeds of a reader that a call has made: no two lists share a block. -/
def OwnD (w : World) (B : Nat) (v : Value) (ps : List (Sb × Value)) : Prop := OwnR 105 3 sbC w B v ps ∧ (∀ p ∈ ps, OwnR 109 5 enC w B p.2 p.1.es) ∧ ApartD (v.ownBlock :: ps.map fun p => p.2.ownBlock)
theorem OwnD.keep {w w' : World} {B B' : Nat} {v : Value} {ps : List (Sb × Value)} (h : OwnD w B v ps) (hb : Below B' w w') (hB : w.heap.size ≤ B') : OwnD w' B v ps := ⟨h.1.keep hb hB, fun p hp => (h.2.1 p hp).keep hb hB, h.2.2⟩
theorem OwnD.one {w : World} {B : Nat} {v : Value} {ps : List (Sb × Value)} (h : OwnD w B v ps) : ∀ q ∈ ps, q.2.oneCell' = true := fun q hq => by
  obtain ⟨a, cap, e⟩ := (h.2.1 q hq).slice
  rw [e]
  rfl
theorem OwnD.ownS {w : World} {B : Nat} {v : Value} {ps : List (Sb × Value)} (h : OwnD w B v ps) : OwnS w B v (ps.map Prod.fst) := ⟨ps, rfl, h.1, h.2.1⟩

/-- A value written into a list of pairs. -/
theorem map_fst_set (qs : List (Sb × Value)) (i : Nat) (y : Value) (h : i < qs.length) : (qs.set i (qs[i].1, y)).map Prod.fst = qs.map Prod.fst := by
  rw [List.map_set]
  apply List.ext_getElem?
  intro j
  rw [List.getElem?_set]
  by_cases e : i = j
  · subst e; simp [h]
  · rw [if_neg e]
/-- What copiedSubs answers. -/
def OutD (ss : List Sb) (w : World) (e : Ending) (w' : World) : Prop := ∃ v ps, e = .returned v ∧ ps.map Prod.fst = ss ∧ OwnD w' w.heap.size v ps ∧ Below w.heap.size w w'
/-- Half way: the first k lists are copies, the others are as they came. -/
structure Half (w : World) (wr : World) (g : Nat) (v : Value) (ss : List Sb) (qs : List (Sb × Value)) (k : Nat) : Prop where
  fst : qs.map Prod.fst = ss
  own : OwnR 105 3 sbC wr w.heap.size v qs
  done : ∀ i (h : i < qs.length), i < k → OwnR 109 5 enC wr w.heap.size qs[i].2 qs[i].1.es
  left : ∀ i (h : i < qs.length), k ≤ i → EnAt w w.heap.size qs[i].2 qs[i].1.es
  apart : ApartD (some g :: ((qs.take k).map fun p => p.2.ownBlock))

theorem Half.step {w wr w2 : World} {g n cap k : Nat} {ss : List Sb} {qs : List (Sb × Value)} {y : Value} (hH : Half w wr g (.slice (some ⟨g, 0, none⟩) n cap) ss qs k) (hn : n = qs.length) (hk : k < qs.length) (hb : Below wr.heap.size wr w2) (hB : Below w.heap.size w wr) (hy : OwnR 109 5 enC w2 wr.heap.size y qs[k].1.es) :
    Half w (w2.setCell ⟨g, k * 3 + 2, none⟩ y) g (.slice (some ⟨g, 0, none⟩) n cap) ss (qs.set k (qs[k].1, y)) (k + 1) := by
  have hgl : g < wr.heap.size := by
    have := World.ownsRow.lt hH.own g rfl
    exact this.2
  have hyb : y.ownBlock ≠ some g := by
    rcases hy.blk with h | ⟨b, h, h1, _⟩
    · rw [h]; intro h2; cases h2
    · rw [h]; intro h2; cases h2; omega
  refine ⟨?_, ?_, ?_, ?_, ?_⟩
  · rw [map_fst_set qs k y hk]; exact hH.fst
  · exact (hH.own.keep hb (Nat.le_refl _)).setF sbC_len hn k 2 (qs[k].1, y) y hk (by decide) rfl
  · intro i hi hik
    rw [List.length_set] at hi
    by_cases e : i = k
    · subst e
      simp only [List.getElem_set_self]
      exact (hy.base_mono hB.size).off _ _ hyb
    · rw [List.getElem_set_ne (by omega)]
      refine ((hH.done i hi (by omega)).keep hb (Nat.le_refl _)).off _ _ ?_
      have ha := List.rel_of_pairwise_cons hH.apart (a' := qs[i].2.ownBlock) (List.mem_map.2 ⟨qs[i], List.mem_take_iff_getElem.2 ⟨i, by omega, rfl⟩, rfl⟩)
      rcases ha with h | h
      · cases h
      · exact fun h2 => h h2.symm
  · intro i hi hik
    rw [List.length_set] at hi
    rw [List.getElem_set_ne (by omega)]
    exact hH.left i hi (by omega)
  · have ht : ((qs.set k (qs[k].1, y)).take (k + 1)).map (fun p => p.2.ownBlock) = (qs.take k).map (fun p => p.2.ownBlock) ++ [y.ownBlock] := by
      rw [List.take_succ_eq_append_getElem (by rw [List.length_set]; exact hk), List.getElem_set_self, List.take_set_of_le (Nat.le_refl _), List.map_append]
      rfl
    unfold ApartD
    rw [ht, ← List.cons_append, List.pairwise_append]
    refine ⟨hH.apart, by simp, fun a ha b hb' => ?_⟩
    obtain rfl : b = y.ownBlock := by simpa using hb'
    have hlt : a = none ∨ ∃ c, a = some c ∧ c < wr.heap.size := by
      rcases List.mem_cons.1 ha with rfl | ha
      · exact .inr ⟨g, rfl, hgl⟩
      · obtain ⟨p, hp, rfl⟩ := List.mem_map.1 ha
        obtain ⟨i, hi, rfl⟩ := List.mem_take_iff_getElem.1 hp
        rcases (hH.done i (by omega) (by omega)).blk with h | ⟨c, h, _, h2⟩
        · exact .inl h
        · exact .inr ⟨c, h, h2⟩
    rcases hlt with h | ⟨c, h, h2⟩
    · exact .inl h
    · right
      rw [h]
      rcases hy.blk with h3 | ⟨d, h3, h4, _⟩
      · rw [h3]; intro h5; cases h5
      · rw [h3]; intro h5; cases h5; omega

set_option maxRecDepth 100000 in
set_option maxHeartbeats 1600000 in
theorem copiedSubs_any (v : Value) (ss : List Sb) (w : World) (h : SbAt w w.heap.size v ss) (hn : ss.length ≤ 1000) (hns : ∀ s ∈ ss, s.es.length ≤ 1000) :
    Calls Try.prog 66 #[.agg #[v]] w (OutD ss w) := by
  obtain ⟨ps, hps, hrec, hen⟩ := h
  have hlen : ps.length = ss.length := by rw [← hps, List.length_map]
  have HC := Lib.hid (fun w h => cloneS_any v ps w h (fun q hq => by obtain ⟨a, cap, e⟩ := (hen q hq).1.1.slice; rw [e]; rfl) (by omega))
  have HR := Lib.hid hrec
  have HE := Lib.hid hen
  have HPs := Lib.hid hps
  have HNS := Lib.hid hns
  have hpn : ps.length ≤ 1000 := by omega
  clear hrec hen hps hns hlen
  have hb0 : Below w.heap.size w (w.alloc (.cells #[v] 26)) := (Below.refl _ _).alloc (Nat.le_refl _) _
  go_enter Try.func66, Try.ntmps66
  go_wp2_with fail
  refine (HC.out _ ((HR.out.below hb0).mono hb0.size)).mono ?_
  rintro e w1 ⟨vS, rfl, hown1, hb1⟩
  have hB1 := hb0.trans (hb1.mono hb0.size)
  have hown1' := hown1.base_mono (show w.heap.size ≤ _ from hb0.size)
  rcases hown1.2 with ⟨rfl, hnil⟩ | ⟨g, cap, cur, rfl, hgb, hgw, hnc, hcm, _⟩
  · have hps0 : ps = [] := List.eq_nil_of_length_eq_zero hnil
    have HZ : Hid (OutD ss w (.returned (.slice none 0 0)) w1) := Lib.hid ⟨_, [], rfl, by rw [← HPs.out, hps0], ⟨OwnR.nil _ _ _, (fun p hp => by cases hp), by unfold ApartD; simp [Value.ownBlock]⟩, hB1⟩
    clear hown1 hown1' hnil hps0 hb1 hB1
    go_wp2
    go_loop [10] (fun i => i = .int .i64 0) (fun _ => 0)
    case atStart => exact rfl
    case round =>
      obtain rfl := hrel
      go_wp2
      go_ret
      exact HZ.out
  · have HH : Hid (Half w w1 g (.slice (some ⟨g, 0, none⟩) ps.length cap) ss ps 0) := Lib.hid ⟨HPs.out, hown1', (fun i h hi => by omega), (fun i h _ => (HE.out _ (List.getElem_mem h)).1), by unfold ApartD; simp⟩
    unfold maxLen at hcm
    clear hown1 hown1' hb1 hgw
    go_wp2
    go_loopw [10] (fun i wr => ∃ (k : Nat) (qs : List (Sb × Value)), k ≤ ps.length ∧ i = .int .i64 (k : Int) ∧ Hid (qs.length = ps.length) ∧ Hid (Half w wr g (.slice (some ⟨g, 0, none⟩) ps.length cap) ss qs k) ∧ Below w.heap.size w wr) (fun i _ => ps.length - (intOf i).toNat)
    case atStart => exact ⟨0, ps, Nat.zero_le _, rfl, Lib.hid rfl, HH, hB1⟩
    case round =>
      obtain ⟨k, qs, hk, rfl, HQ, HF, hB⟩ := hrel
      clear HH hB1
      by_cases hlt : k < ps.length
      · have hkq : k < qs.length := by have := HQ.out; omega
        have c2 := HF.out.own.val sbC_len HQ.out.symm k 2 _ hkq rfl
        have hl := HF.out.left k hkq (Nat.le_refl _)
        have hes : qs[k].1.es.length ≤ 1000 := HNS.out _ (by rw [← HF.out.fst]; exact List.mem_map.2 ⟨_, List.getElem_mem hkq, rfl⟩)
        have HX := Lib.hid ((hl.below hB).mono hB.size)
        have HCl := Lib.hid (fun w (hr : RecAt 5 enC w w.heap.size qs[k].2 qs[k].1.es) => cloneE_any qs[k].2 qs[k].1.es w hr (by omega))
        have HSt := Lib.hid (fun w2 y hb hy => HF.out.step (y := y) (w2 := w2) HQ.out.symm hkq hb hB hy)
        have HFr := Lib.hid (fun j => HF.out.own.free HQ.out.symm j)
        have HOw := Lib.hid HF.out.own
        obtain ⟨X, hX⟩ : ∃ X, X = qs[k].2 := ⟨_, rfl⟩
        obtain ⟨xa, xc, hxe⟩ := hl.1.slice
        rw [← hX] at c2 HX HCl hxe
        subst hxe
        obtain ⟨m, hm⟩ : ∃ m, m = qs[k].1.es.length := ⟨_, rfl⟩
        rw [← hm] at c2 HX HCl
        clear hl hX hm hes
        go_wp2_with fail
        refine (HCl.out _ HX.out.1).mono ?_
        rintro e w2 ⟨y, rfl, hy, hb2⟩
        obtain ⟨ya, yc, rfl⟩ := hy.slice
        have HS2 := Lib.hid (HSt.out w2 _ hb2 hy)
        have hB2 := hB.trans (hb2.mono hB.size)
        have hown2 := HOw.out.keep hb2 (Nat.le_refl _)
        have hfr : ∀ j, w2.frozen? ⟨g, j, none⟩ = false := fun j => hown2.free HQ.out.symm j
        have d2 := hown2.val sbC_len HQ.out.symm k 2 _ hkq rfl
        have HB3 := Lib.hid (fun u => hB2.setCell (p := ⟨g, k * 3 + 2, none⟩) (by have := World.ownsRow.lt HOw.out g rfl; exact this.1) u)
        have HQ2 : Hid (∀ z : Sb × Value, (qs.set k z).length = ps.length) := Lib.hid (fun z => by rw [List.length_set]; exact HQ.out)
        obtain ⟨m2, hm2⟩ : ∃ m2, m2 = qs[k].1.es.length := ⟨_, rfl⟩
        rw [← hm2] at HS2 ⊢
        clear hm2 hown2 hy hb2 c2 HF
        go_wp2
        refine ⟨⟨k + 1, _, by omega, by simp, Lib.hid (HQ2.out _), HS2, HB3.out _⟩, ?_⟩
        simp [intOf]; omega
      · have HZ : Hid (OutD ss w (.returned (.slice (some ⟨g, 0, none⟩) ps.length cap)) wr) := Lib.hid ⟨_, qs, rfl, HF.out.fst, ⟨HF.out.own, fun p hp => by
          obtain ⟨i, hi, rfl⟩ := List.getElem_of_mem hp
          exact HF.out.done i hi (by have := HQ.out; omega), by
          have ha := HF.out.apart
          rw [List.take_of_length_le (by have := HQ.out; omega)] at ha
          exact ha⟩, hB⟩
        go_wp2
        go_ret
        exact HZ.out
end Go.Proofs.Ytfgdbpjmjeaolaa
