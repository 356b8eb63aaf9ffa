/- Joined: AppL. -/
import Derived.Test.YtffkakpbelknaaaS23
/- AppL -/
namespace Go.Proofs.Ytffkakpbelknaaa
open Go.RowKit
set_option linter.unusedVariables false

theorem appL_run {α : Type} {k : Nat} {C : α → List Value} {P : Program} {t e : TypeId} {by' : Nat} {zv : Value} (hk : ∀ x, (C x).length = k) (h0 : 0 < k) (hu : P.underlying t = some (.slice e)) (hinfo : (P.info? e).map (fun i => (i.zero, i.size, i.bytes)) = some (some zv, k, by')) (hz : zv.cells.size = k) (hby : by' ≤ 1000)
    {w : World} {base B g : Nat} {x : Value} {l2 : List α} (hown : OwnR e k C w base (.slice (some ⟨g, 0, none⟩) 0 0) ([] : List α)) (hx : RecAt k C w B x l2) (hone : ∀ y ∈ l2, ∀ u ∈ C y, u.oneCell' = true) (hn : l2.length ≤ 100000000) (hbase : base ≤ w.heap.size) (ty : TypeId) :
    ∃ v' w', (Builtin.append_ #[t, t] ty #[.slice (some ⟨g, 0, none⟩) 0 0, x]).run P w = .ok v' w' ∧ OwnR e k C w' base v' l2 ∧ Below w.heap.size w w' := by
  obtain ⟨v', w', hr, ho, _⟩ := appR_run (P := P) (t := t) hk h0 hu hinfo hz hby hown hx hone (by simpa using hn) hbase ty
  rw [List.nil_append] at ho
  refine ⟨v', w', hr, ho, ?_⟩
  obtain ⟨i0, hi, hz0, hz1, hz2⟩ := info_parts hinfo
  rcases Nat.eq_zero_or_pos l2.length with hl | hl
  · obtain ⟨a2, cap2, hv2, _⟩ := hx
    rw [hl] at hv2
    subst hv2
    rw [app_nothing w t ty e i0 hu hi (some ⟨g, 0, none⟩) 0 0 (Nat.le_refl _) a2 cap2] at hr
    injection hr with h1 h2
    subst h2
    exact Below.refl _ _
  · obtain ⟨b, off, cap, rfl, hB, hc⟩ := hx.cells hk hl
    have hb8 : l2.length * by' ≤ l2.length * 1000 := Nat.mul_le_mul_left _ hby
    rw [run_append_grow (P := P) w t ty e i0 zv hu hi hz0 ⟨g, 0, none⟩ 0 0 [] (by simp) (by intro j v h; simp at h) ⟨b, off, none⟩ l2.length cap (l2.flatMap C) (by rw [hz1]; exact flat_len hk l2) hc (by omega) (by omega) (growslice_fits (by omega) (by rw [hz2, Nat.zero_add]; omega))] at hr
    injection hr with h1 h2
    subst h2
    exact (Below.refl w.heap.size w).drew.alloc (Nat.le_refl _) _
/-- Appended or not: the row's old records stand where they stood. -/
theorem appK_run {α : Type} {k : Nat} {C : α → List Value} {P : Program} {t e : TypeId} {by' : Nat} {zv : Value} (hk : ∀ x, (C x).length = k) (h0 : 0 < k) (hu : P.underlying t = some (.slice e)) (hinfo : (P.info? e).map (fun i => (i.zero, i.size, i.bytes)) = some (some zv, k, by')) (hz : zv.cells.size = k) (hby : by' ≤ 1000)
    {w : World} {base B g n cap : Nat} {x : Value} {l l2 : List α} (hown : OwnR e k C w base (.slice (some ⟨g, 0, none⟩) n cap) l) (hx : RecAt k C w B x l2) (hone : ∀ y ∈ l2, ∀ u ∈ C y, u.oneCell' = true) (hn : l.length + l2.length ≤ 100000000) (hbase : base ≤ w.heap.size) (ty : TypeId) :
    ∃ v' w', (Builtin.append_ #[t, t] ty #[.slice (some ⟨g, 0, none⟩) n cap, x]).run P w = .ok v' w' ∧ OwnR e k C w' base v' (l ++ l2) ∧ w.grownBy w' (some g) ∧ ∀ j u, (l.flatMap C)[j]? = some u → w'.cell? ((⟨g, 0, none⟩ : Addr).add j) = some u := by
  obtain ⟨v', w', hr, ho, hgr⟩ := appR_run (P := P) (t := t) hk h0 hu hinfo hz hby hown hx hone hn hbase ty
  refine ⟨v', w', hr, ho, hgr, ?_⟩
  have hold : ∀ j u, (l.flatMap C)[j]? = some u → w.cell? ((⟨g, 0, none⟩ : Addr).add j) = some u := World.ownsRow.cells hown (g := g) rfl
  have hlt : g < w.heap.size := (World.ownsRow.lt hown g rfl).2
  have hn1 : n = l.length := by
    obtain ⟨a, c, h1, _⟩ := hown.len
    simp only [Value.slice.injEq] at h1
    exact h1.2.1
  subst hn1
  obtain ⟨i0, hi, hz0, hz1, hz2⟩ := info_parts hinfo
  rcases Nat.eq_zero_or_pos l2.length with hl | hl
  · obtain ⟨a2, cap2, hv2, _⟩ := hx
    rw [hl] at hv2
    subst hv2
    rw [app_nothing w t ty e i0 hu hi (some ⟨g, 0, none⟩) l.length cap (by obtain ⟨a, c, h1, h2⟩ := hown.len; simp only [Value.slice.injEq] at h1; omega) a2 cap2] at hr
    injection hr with h1 h2
    subst h2
    exact hold
  · obtain ⟨b, off, cap2, rfl, hB, hc⟩ := hx.cells hk hl
    have hb8 : (l.length + l2.length) * by' ≤ (l.length + l2.length) * 1000 := Nat.mul_le_mul_left _ hby
    by_cases hroom : l.length + l2.length ≤ cap
    · rcases hown.2 with ⟨h1, _⟩ | ⟨g', cap', cur, h1, hbg, hg, hnc, hcm, hcs, htake⟩
      · cases h1
      · simp only [Value.slice.injEq, Option.some.injEq, Addr.mk.injEq, and_true] at h1
        obtain ⟨rfl, rfl⟩ : g = g' ∧ cap = cap' := ⟨h1.1, h1.2.2⟩
        have hfit : l.length * i0.size + (l2.flatMap C).length ≤ cur.size := by rw [flat_len hk, hz1, hcs, ← Nat.add_mul]; exact Nat.mul_le_mul_right _ hroom
        rw [run_append_room (P := P) w t ty e i0 hu hi g l.length cap cur hg ⟨b, off, none⟩ l2.length cap2 (l2.flatMap C) (by rw [hz1]; exact flat_len hk l2) hc (fun u hu => by
          obtain ⟨y, hm, hy⟩ := List.mem_flatMap.1 hu
          exact hone y hm u hy) hroom hfit] at hr
        injection hr with h2 h3
        subst h2
        intro j u hj
        refine World.ownsRow.cells ho (g := g) rfl j u ?_
        rw [List.flatMap_append, List.getElem?_append_left (List.getElem?_eq_some_iff.1 hj).1]
        exact hj
    · rw [run_append_grow (P := P) w t ty e i0 zv hu hi hz0 ⟨g, 0, none⟩ l.length cap (l.flatMap C) (by rw [hz1]; exact flat_len hk l) hold ⟨b, off, none⟩ l2.length cap2 (l2.flatMap C) (by rw [hz1]; exact flat_len hk l2) hc (by omega) (by omega) (growslice_fits (by omega) (by rw [hz2]; omega))] at hr
      injection hr with h1 h2
      subst h2
      intro j u hj
      have hb : Below w.heap.size w (w.drew.alloc (.cells ((l.flatMap C).toArray ++ (l2.flatMap C).toArray ++ Builtin.zeroCells zv.cells (grownCap w (l.length + l2.length) cap e - (l.length + l2.length))) e)) := (Below.refl w.heap.size w).drew.alloc (Nat.le_refl _) _
      have := hold j u hj
      rw [Addr.add_lit] at this ⊢
      exact (hb.cell (p := ⟨g, 0 + j, none⟩) hlt).trans this
end Go.Proofs.Ytffkakpbelknaaa
