/- Parts of the proof. -/
import Derived.Deep.Upon
import Derived.Lib.AppendZerosOnto
import Derived.Test.YtffkakpbelknaaaGreatDoorO3
namespace Go.Proofs.YtffkakpbelknaaaGreatDoor
set_option maxHeartbeats 4000000
set_option maxRecDepth 100000
open Go.RowKit
set_option linter.unusedVariables false
theorem app_nothing {P : Program} (w : World) (t ty e : TypeId) (i : TypeInfo) (ht : P.underlying t = some (.slice e)) (hi : P.info? e = some i) (base : Option Addr) (sLen sCap : Nat) (hle : sLen <= sCap) (a' : Option Addr) (c' : Nat) :
  (Builtin.append_ #[t, t] ty #[.slice base sLen sCap, .slice a' 0 c']).run P w = .ok (.slice base sLen sCap) w := by
 cases base <;> cases a' <;> simp [Builtin.append_, run_underlying ht, sizeOf, typeInfo, hi, Builtin.lenOf, Builtin.firstCells, hle, storeCells, loadCells, loadCellsFrom, Result.andThen]
section
variable {α : Type} {k : Nat} {C : α -> List Value}
theorem OwnR.lit (e : TypeId) (w : World) (base : Nat) (hb : base <= w.heap.size) : OwnR e k C (w.alloc (.cells #[] e)) base (.slice (some ⟨w.heap.size, 0, none⟩) 0 0) ([] : List α) :=
 World.ownsRow_made w #[] 0 hb (Nat.zero_le _) (by simp)
theorem OwnR.len {e : TypeId} {w : World} {base : Nat} {v : Value} {l : List α} (h : OwnR e k C w base v l) : ∃ a cap, v = .slice a l.length cap /\ l.length <= cap := by
 rcases h.2 with ⟨rfl, hn⟩ | ⟨g, cap, cur, rfl, _, _, hnc, _⟩
 ·exact ⟨none, 0, by rw [hn], by omega⟩
 ·exact ⟨_, _, rfl, hnc⟩
theorem RecAt.cells {w : World} {B : Nat} {v : Value} {l : List α} (hk : ∀ x, (C x).length = k) (h : RecAt k C w B v l) (hp : 0 < l.length) : ∃ b off cap, v = .slice (some ⟨b, off, none⟩) l.length cap /\ b < B /\ ∀ j u, (l.flatMap C)[j]? = some u -> w.cell? (Addr.add ⟨b, off, none⟩ j) = some u := by
 obtain ⟨a, cap, hv, h1, h2, hc⟩ := h
 obtain ⟨b, off, rfl, hB, hr⟩ := hc hp
 refine ⟨b, off, cap, hv, hB, fun j u hu => ?_⟩
 have hj : j < l.length * k := by have := (List.getElem?_eq_some_iff.1 hu).1; rwa [flat_len hk] at this
 have h0 : 0 < k := by
  rcases Nat.eq_zero_or_pos k with h | h
  ·subst h; omega
  ·exact h
 have hd : j / k < l.length := (Nat.div_lt_iff_lt_mul h0).2 hj
 have hm : j % k < k := Nat.mod_lt _ h0
 have e : j = j / k * k + j % k := by rw [Nat.mul_comm]; exact (Nat.div_add_mod j k).symm
 rw [e, flat_get hk l _ _ hd hm] at hu
 have := hr (j / k) hd (j % k) u hu
 rw [Addr.add_lit]
 rw [e, <- Nat.add_assoc]
 exact this
theorem appR_run {P : Program} {t e : TypeId} {by' : Nat} {zv : Value} (hk : ∀ x, (C x).length = k) (h0 : 0 < k) (hu : P.underlying t = some (.slice e)) (hinfo : (P.info? e).map (fun i => (i.zero, i.size, i.bytes)) = some (some zv, k, by')) (hz : zv.cells.size = k) (hby : by' <= 1000)
  {w : World} {base B : Nat} {v x : Value} {l l2 : List α} (hown : OwnR e k C w base v l) (hx : RecAt k C w B x l2) (hone : ∀ y ∈ l2, ∀ u ∈ C y, u.oneCell' = true) (hn : l.length + l2.length <= 100000000) (hbase : base <= w.heap.size) (ty : TypeId) :
  ∃ v' w', (Builtin.append_ #[t, t] ty #[v, x]).run P w = .ok v' w' /\ OwnR e k C w' base v' (l ++ l2) /\ w.grownBy w' v.ownBlock := by
 obtain ⟨i0, hi, hz0, hz1, hz2⟩ := info_parts hinfo
 rcases Nat.eq_zero_or_pos l2.length with hl | hl
 ·have : l2 = [] := List.eq_nil_of_length_eq_zero hl
  subst this
  obtain ⟨a, cap, rfl, hle⟩ := hown.len
  obtain ⟨a2, cap2, hv2, _⟩ := hx
  subst hv2
  refine ⟨_, w, app_nothing w t ty e i0 hu hi a l.length cap hle a2 cap2, by rw [List.append_nil]; exact hown, World.grownBy.refl _ _⟩
 ·obtain ⟨b, off, cap, rfl, hB, hc⟩ := hx.cells hk hl
  have hb8 : (l.length + l2.length) * by' <= (l.length + l2.length) * 1000 := Nat.mul_le_mul_left _ hby
  obtain ⟨v', w', hr, ho, hg, _⟩ := run_append_own w base t ty e i0 zv k by' hu hi hz0 hz1 hz2 hz h0 v l.length (l.flatMap C) hown ⟨b, off, none⟩ l2.length cap (l2.flatMap C) (flat_len hk l2) hc (fun u hu => by
   obtain ⟨y, hm, hy⟩ := List.mem_flatMap.1 hu
   exact hone y hm u hy) (by unfold maxLen; omega) (by omega) hbase
  refine ⟨v', w', hr, ?_, hg⟩
  unfold OwnR
  rw [List.length_append, List.flatMap_append]
  exact ho
theorem wpList_appR {P : Program} {t e : TypeId} {by' : Nat} {zv : Value} (hk : ∀ x, (C x).length = k) (h0 : 0 < k) (hu : P.underlying t = some (.slice e)) (hinfo : (P.info? e).map (fun i => (i.zero, i.size, i.bytes)) = some (some zv, k, by')) (hz : zv.cells.size = k) (hby : by' <= 1000)
  {w : World} {ops : Array Oper} {rest : List Oper} {o : Oper} {a : Act} {Q : Exit -> Act -> World -> Prop} (hgd : o.guard = none) (s x : Operand)
  (ho : o.op = .call { callee := .builtin .append, args := #[s, x], argTypes := #[t, t] })
  (base B : Nat) (v xv : Value) (l l2 : List α) (hs : a.eval s = v) (hxe : a.eval x = xv) (hown : OwnR e k C w base v l) (hx : RecAt k C w B xv l2) (hone : ∀ y ∈ l2, ∀ u ∈ C y, u.oneCell' = true) (hn : l.length + l2.length <= 100000000) (hbase : base <= w.heap.size)
  (h : ∀ v' w', OwnR e k C w' base v' (l ++ l2) -> w.grownBy w' v.ownBlock -> wpList P ops Q rest (a.put o.dst v') w') :
  wpList P ops Q (o :: rest) a w := by
 refine wpList_plain hgd fun K hK' => ?_
 obtain ⟨v', w', hrun, r1, r2⟩ := appR_run (P := P) (t := t) hk h0 hu hinfo hz hby hown hx hone hn hbase o.type
 unfold Oper.wp
 simp [execOp, ho, resolve, invoke, builtin, hs, hxe, hrun, Result.andThen]
 exact hK' _ _ (h v' w' r1 r2)
end
end Go.Proofs.YtffkakpbelknaaaGreatDoor
namespace Go.Proofs.YtffkakpbelknaaaGreatDoor
open Go.RowKit
set_option linter.unusedVariables false
theorem appK_run {α : Type} {k : Nat} {C : α -> List Value} {P : Program} {t e : TypeId} {by' : Nat} {zv : Value} (hk : ∀ x, (C x).length = k) (h0 : 0 < k) (hu : P.underlying t = some (.slice e)) (hinfo : (P.info? e).map (fun i => (i.zero, i.size, i.bytes)) = some (some zv, k, by')) (hz : zv.cells.size = k) (hby : by' <= 1000)
  {w : World} {base B g n cap : Nat} {x : Value} {l l2 : List α} (hown : OwnR e k C w base (.slice (some ⟨g, 0, none⟩) n cap) l) (hx : RecAt k C w B x l2) (hone : ∀ y ∈ l2, ∀ u ∈ C y, u.oneCell' = true) (hn : l.length + l2.length <= 100000000) (hbase : base <= w.heap.size) (ty : TypeId) :
  ∃ v' w', (Builtin.append_ #[t, t] ty #[.slice (some ⟨g, 0, none⟩) n cap, x]).run P w = .ok v' w' /\ OwnR e k C w' base v' (l ++ l2) /\ w.grownBy w' (some g) /\ ∀ j u, (l.flatMap C)[j]? = some u -> w'.cell? ((⟨g, 0, none⟩ : Addr).add j) = some u := by
 obtain ⟨v', w', hr, ho, hgr⟩ := appR_run (P := P) (t := t) hk h0 hu hinfo hz hby hown hx hone hn hbase ty
 refine ⟨v', w', hr, ho, hgr, ?_⟩
 have hold : ∀ j u, (l.flatMap C)[j]? = some u -> w.cell? ((⟨g, 0, none⟩ : Addr).add j) = some u := World.ownsRow.cells hown (g := g) rfl
 have hlt : g < w.heap.size := (World.ownsRow.lt hown g rfl).2
 have hn1 : n = l.length := by
  obtain ⟨a, c, h1, _⟩ := hown.len
  simp only [Value.slice.injEq] at h1
  exact h1.2.1
 subst hn1
 obtain ⟨i0, hi, hz0, hz1, hz2⟩ := info_parts hinfo
 rcases Nat.eq_zero_or_pos l2.length with hl | hl
 ·obtain ⟨a2, cap2, hv2, _⟩ := hx
  rw [hl] at hv2
  subst hv2
  rw [app_nothing w t ty e i0 hu hi (some ⟨g, 0, none⟩) l.length cap (by obtain ⟨a, c, h1, h2⟩ := hown.len; simp only [Value.slice.injEq] at h1; omega) a2 cap2] at hr
  injection hr with h1 h2
  subst h2
  exact hold
 ·obtain ⟨b, off, cap2, rfl, hB, hc⟩ := hx.cells hk hl
  have hb8 : (l.length + l2.length) * by' <= (l.length + l2.length) * 1000 := Nat.mul_le_mul_left _ hby
  by_cases hroom : l.length + l2.length <= cap
  ·rcases hown.2 with ⟨h1, _⟩ | ⟨g', cap', cur, h1, hbg, hg, hnc, hcm, hcs, htake⟩
   ·cases h1
   ·simp only [Value.slice.injEq, Option.some.injEq, Addr.mk.injEq, and_true] at h1
    obtain ⟨rfl, rfl⟩ : g = g' /\ cap = cap' := ⟨h1.1, h1.2.2⟩
    have hfit : l.length * i0.size + (l2.flatMap C).length <= cur.size := by rw [flat_len hk, hz1, hcs, <- Nat.add_mul]; exact Nat.mul_le_mul_right _ hroom
    rw [run_append_room (P := P) w t ty e i0 hu hi g l.length cap cur hg ⟨b, off, none⟩ l2.length cap2 (l2.flatMap C) (by rw [hz1]; exact flat_len hk l2) hc (fun u hu => by
     obtain ⟨y, hm, hy⟩ := List.mem_flatMap.1 hu
     exact hone y hm u hy) hroom hfit] at hr
    injection hr with h2 h3
    subst h2
    intro j u hj
    refine World.ownsRow.cells ho (g := g) rfl j u ?_
    rw [List.flatMap_append, List.getElem?_append_left (List.getElem?_eq_some_iff.1 hj).1]
    exact hj
  ·rw [run_append_grow (P := P) w t ty e i0 zv hu hi hz0 ⟨g, 0, none⟩ l.length cap (l.flatMap C) (by rw [hz1]; exact flat_len hk l) hold ⟨b, off, none⟩ l2.length cap2 (l2.flatMap C) (by rw [hz1]; exact flat_len hk l2) hc (by omega) (by omega) (growslice_fits (by omega) (by rw [hz2]; omega))] at hr
   injection hr with h1 h2
   subst h2
   intro j u hj
   have hb : Below w.heap.size w (w.drew.alloc (.cells ((l.flatMap C).toArray ++ (l2.flatMap C).toArray ++ Builtin.zeroCells zv.cells (grownCap w (l.length + l2.length) cap e - (l.length + l2.length))) e)) := (Below.refl w.heap.size w).drew.alloc (Nat.le_refl _) _
   have := hold j u hj
   rw [Addr.add_lit] at this ⊢
   exact (hb.cell (p := ⟨g, 0 + j, none⟩) hlt).trans this
end Go.Proofs.YtffkakpbelknaaaGreatDoor
