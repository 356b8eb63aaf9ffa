/- Rows of records: what is appended to them, whatever its address; rows cut out of rows. -/
import Derived.Test.YtgimjfffdnopiaaRecs
import Derived.Deep.Upon
import Derived.Lib.AppendZerosOnto
namespace Go.Proofs.Ytgimjfffdnopiaa
open Go.RowKit
set_option linter.unusedVariables false

theorem app_nothing {P : Program} (w : World) (t ty e : TypeId) (i : TypeInfo) (ht : P.underlying t = some (.slice e)) (hi : P.info? e = some i) (base : Option Addr) (sLen sCap : Nat) (hle : sLen ≤ sCap) (a' : Option Addr) (c' : Nat) :
    (Builtin.append_ #[t, t] ty #[.slice base sLen sCap, .slice a' 0 c']).run P w = .ok (.slice base sLen sCap) w := by
  cases base <;> cases a' <;> simp [Builtin.append_, run_underlying ht, sizeOf, typeInfo, hi, Builtin.lenOf, Builtin.firstCells, hle, storeCells, loadCells, loadCellsFrom, Result.andThen]

section
variable {α : Type} {k : Nat} {C : α → List Value}
theorem OwnR.lit (e : TypeId) (w : World) (base : Nat) (hb : base ≤ w.heap.size) : OwnR e k C (w.alloc (.cells #[] e)) base (.slice (some ⟨w.heap.size, 0, none⟩) 0 0) ([] : List α) :=
  World.ownsRow_made w #[] 0 hb (Nat.zero_le _) (by simp)
theorem OwnR.len {e : TypeId} {w : World} {base : Nat} {v : Value} {l : List α} (h : OwnR e k C w base v l) : ∃ a cap, v = .slice a l.length cap ∧ l.length ≤ cap := by
  rcases h.2 with ⟨rfl, hn⟩ | ⟨g, cap, cur, rfl, _, _, hnc, _⟩
  · exact ⟨none, 0, by rw [hn], by omega⟩
  · exact ⟨_, _, rfl, hnc⟩
theorem RecAt.cells {w : World} {B : Nat} {v : Value} {l : List α} (hk : ∀ x, (C x).length = k) (h : RecAt k C w B v l) (hp : 0 < l.length) : ∃ b off cap, v = .slice (some ⟨b, off, none⟩) l.length cap ∧ b < B ∧ ∀ j u, (l.flatMap C)[j]? = some u → w.cell? (Addr.add ⟨b, off, none⟩ j) = some u := by
  obtain ⟨a, cap, hv, h1, h2, hc⟩ := h
  obtain ⟨b, off, rfl, hB, hr⟩ := hc hp
  refine ⟨b, off, cap, hv, hB, fun j u hu => ?_⟩
  have hj : j < l.length * k := by have := (List.getElem?_eq_some_iff.1 hu).1; rwa [flat_len hk] at this
  have h0 : 0 < k := by
    rcases Nat.eq_zero_or_pos k with h | h
    · subst h; omega
    · exact h
  have hd : j / k < l.length := (Nat.div_lt_iff_lt_mul h0).2 hj
  have hm : j % k < k := Nat.mod_lt _ h0
  have e : j = j / k * k + j % k := by rw [Nat.mul_comm]; exact (Nat.div_add_mod j k).symm
  rw [e, flat_get hk l _ _ hd hm] at hu
  have := hr (j / k) hd (j % k) u hu
  rw [Addr.add_lit]
  rw [e, ← Nat.add_assoc]
  exact this
theorem appR_run {P : Program} {t e : TypeId} {by' : Nat} {zv : Value} (hk : ∀ x, (C x).length = k) (h0 : 0 < k) (hu : P.underlying t = some (.slice e)) (hinfo : (P.info? e).map (fun i => (i.zero, i.size, i.bytes)) = some (some zv, k, by')) (hz : zv.cells.size = k) (hby : by' ≤ 1000)
    {w : World} {base B : Nat} {v x : Value} {l l2 : List α} (hown : OwnR e k C w base v l) (hx : RecAt k C w B x l2) (hone : ∀ y ∈ l2, ∀ u ∈ C y, u.oneCell' = true) (hn : l.length + l2.length ≤ 100000000) (hbase : base ≤ w.heap.size) (ty : TypeId) :
    ∃ v' w', (Builtin.append_ #[t, t] ty #[v, x]).run P w = .ok v' w' ∧ OwnR e k C w' base v' (l ++ l2) ∧ w.grownBy w' v.ownBlock := by
  obtain ⟨i0, hi, hz0, hz1, hz2⟩ := info_parts hinfo
  rcases Nat.eq_zero_or_pos l2.length with hl | hl
  · have : l2 = [] := List.eq_nil_of_length_eq_zero hl
    subst this
    obtain ⟨a, cap, rfl, hle⟩ := hown.len
    obtain ⟨a2, cap2, hv2, _⟩ := hx
    subst hv2
    refine ⟨_, w, app_nothing w t ty e i0 hu hi a l.length cap hle a2 cap2, by rw [List.append_nil]; exact hown, World.grownBy.refl _ _⟩
  · obtain ⟨b, off, cap, rfl, hB, hc⟩ := hx.cells hk hl
    have hb8 : (l.length + l2.length) * by' ≤ (l.length + l2.length) * 1000 := Nat.mul_le_mul_left _ hby
    obtain ⟨v', w', hr, ho, hg, _⟩ := run_append_own w base t ty e i0 zv k by' hu hi hz0 hz1 hz2 hz h0 v l.length (l.flatMap C) hown ⟨b, off, none⟩ l2.length cap (l2.flatMap C) (flat_len hk l2) hc (fun u hu => by
      obtain ⟨y, hm, hy⟩ := List.mem_flatMap.1 hu
      exact hone y hm u hy) (by unfold maxLen; omega) (by omega) hbase
    refine ⟨v', w', hr, ?_, hg⟩
    unfold OwnR
    rw [List.length_append, List.flatMap_append]
    exact ho
/-- append(out, s...) of records. -/
theorem wpList_appR {P : Program} {t e : TypeId} {by' : Nat} {zv : Value} (hk : ∀ x, (C x).length = k) (h0 : 0 < k) (hu : P.underlying t = some (.slice e)) (hinfo : (P.info? e).map (fun i => (i.zero, i.size, i.bytes)) = some (some zv, k, by')) (hz : zv.cells.size = k) (hby : by' ≤ 1000)
    {w : World} {ops : Array Oper} {rest : List Oper} {o : Oper} {a : Act} {Q : Exit → Act → World → Prop} (hgd : o.guard = none) (s x : Operand)
    (ho : o.op = .call { callee := .builtin .append, args := #[s, x], argTypes := #[t, t] })
    (base B : Nat) (v xv : Value) (l l2 : List α) (hs : a.eval s = v) (hxe : a.eval x = xv) (hown : OwnR e k C w base v l) (hx : RecAt k C w B xv l2) (hone : ∀ y ∈ l2, ∀ u ∈ C y, u.oneCell' = true) (hn : l.length + l2.length ≤ 100000000) (hbase : base ≤ w.heap.size)
    (h : ∀ v' w', OwnR e k C w' base v' (l ++ l2) → w.grownBy w' v.ownBlock → wpList P ops Q rest (a.put o.dst v') w') :
    wpList P ops Q (o :: rest) a w := by
  refine wpList_plain hgd fun K hK' => ?_
  obtain ⟨v', w', hrun, r1, r2⟩ := appR_run (P := P) (t := t) hk h0 hu hinfo hz hby hown hx hone hn hbase o.type
  unfold Oper.wp
  simp [execOp, ho, resolve, invoke, builtin, hs, hxe, hrun, Result.andThen]
  exact hK' _ _ (h v' w' r1 r2)
end
end Go.Proofs.Ytgimjfffdnopiaa
