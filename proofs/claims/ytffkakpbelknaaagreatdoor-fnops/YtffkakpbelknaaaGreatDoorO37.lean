/- Parts of the proof. -/
import Derived.Laws.ResultCell
import Derived.Test.YtffkakpbelknaaaGreatDoorO35
import Derived.Test.YtffkakpbelknaaaGreatDoorO36
set_option maxHeartbeats 4000000
set_option maxRecDepth 100000
namespace Go.Proofs.YtffkakpbelknaaaGreatDoor
open Go.ChangeShapes Go.WideShapes Go.ChangeAt Go.RowKit
set_option linter.unusedVariables false
section
variable {α : Type} {k : Nat} {C : α -> List Value}
theorem RecAt.take {w : World} {B n cap : Nat} {a : Option Addr} {l : List α} (h : RecAt k C w B (.slice a n cap) l) (p : Nat) (hp : p <= l.length) : RecAt k C w B (.slice a p cap) (l.take p) := by
 obtain ⟨a', cap', hv, h1, h2, hc⟩ := h
 cases hv
 have hl : (l.take p).length = p := by rw [List.length_take]; omega
 refine ⟨a, cap, by rw [hl], by omega, h2, fun hp0 => ?_⟩
 obtain ⟨b, off, ha, hB, hr⟩ := hc (by omega)
 refine ⟨b, off, ha, hB, fun i hi j u hu => hr i (by omega) j u ?_⟩
 rw [List.getElem_take] at hu
 exact hu
theorem RecAt.drop {w : World} {B n cap : Nat} {a a2 : Option Addr} {l : List α} (h : RecAt k C w B (.slice a n cap) l) (p : Nat) (hp : p <= l.length) (ha2 : p < cap -> ∀ b off, a = some ⟨b, off, none⟩ -> a2 = some ⟨b, off + p * k, none⟩) : RecAt k C w B (.slice a2 (n - p) (cap - p)) (l.drop p) := by
 obtain ⟨a', cap', hv, h1, h2, hc⟩ := h
 cases hv
 refine ⟨a2, cap - p, by rw [List.length_drop], by rw [List.length_drop]; omega, by omega, fun hp0 => ?_⟩
 rw [List.length_drop] at hp0
 obtain ⟨b, off, ha, hB, hr⟩ := hc (by omega)
 refine ⟨b, off + p * k, ha2 (by omega) b off ha, hB, fun i hi j u hu => ?_⟩
 rw [List.length_drop] at hi
 rw [List.getElem_drop] at hu
 have := hr (p + i) (by omega) j u hu
 rw [Nat.add_mul] at this
 rw [show off + p * k + i * k + j = off + (p * k + i * k) + j by omega]
 exact this
end
def putP {α : Type} (l : List α) (p : Nat) (f : Bool) (x : α) : List α := l.take p ++ (x :: l.drop (if f then p + 1 else p))
theorem one_rec {α : Type} {k : Nat} {C : α -> List Value} (hk : ∀ x, (C x).length = k) (w : World) (e : TypeId) (x : α) (cs : Array Value) (hcs : cs.toList = C x) : RecAt k C (w.alloc (.cells cs e)) (w.heap.size + 1) (.slice (some ⟨w.heap.size, 0, none⟩) 1 1) [x] := by
 refine ⟨_, 1, rfl, Nat.le_refl _, by unfold maxLen; omega, fun _ => ⟨w.heap.size, 0, rfl, Nat.lt_succ_self _, fun i hi j u hu => ?_⟩⟩
 have hi0 : i = 0 := by simpa using hi
 subst hi0
 rw [cell_of_row _ _ _ cs e (0, 0) (heap_alloc_new w _)]
 simp only [Nat.zero_mul, Nat.zero_add]
 rw [<- Array.getElem?_toList, hcs]
 exact hu
def OutB {α : Type} (e : TypeId) (k : Nat) (C : α -> List Value) (l : List α) (B : Nat) (w : World) (x : Ending) (w' : World) : Prop := ∃ v, x = .returned v /\ OwnR e k C w' B v l /\ Below B w w'
end Go.Proofs.YtffkakpbelknaaaGreatDoor
namespace Go.Proofs.YtffkakpbelknaaaGreatDoor
open Go.ChangeShapes Go.WideShapes Go.ChangeAt Go.RowKit
set_option linter.unusedVariables false
theorem drop_eq {α : Type} {k : Nat} {C : α -> List Value} {w : World} {B n n2 c c2 : Nat} {a : Option Addr} {l : List α} (h : RecAt k C w B (.slice a n c) l) (hn : n = n2) (hc : c = c2) : RecAt k C w B (.slice a n2 c2) l := by
 subst hn hc
 exact h
end Go.Proofs.YtffkakpbelknaaaGreatDoor
namespace Go.Proofs.YtffkakpbelknaaaGreatDoor
open Go.ChangeShapes Go.WideShapes Go.ChangeAt Go.RowKit
set_option linter.unusedVariables false
end Go.Proofs.YtffkakpbelknaaaGreatDoor
namespace Go.Proofs.YtffkakpbelknaaaGreatDoor
open Go.ChangeShapes Go.WideShapes Go.ChangeAt Go.RowKit
set_option linter.unusedVariables false
section
variable {α : Type} {k : Nat} {C : α -> List Value}
theorem flat_set1 (hk : ∀ x, (C x).length = k) (l : List α) (i j : Nat) (x : α) (u : Value) (hi : i < l.length) (hj : j < k) (hx : C x = (C l[i]).set j u) : (l.flatMap C).set (i * k + j) u = (l.set i x).flatMap C := by
 have h0 : 0 < k := by omega
 apply List.ext_getElem?
 intro m
 by_cases hm : m < l.length * k
 ·have hd : m / k < l.length := (Nat.div_lt_iff_lt_mul h0).2 hm
  have hr : m % k < k := Nat.mod_lt _ h0
  have e : m = m / k * k + m % k := by rw [Nat.mul_comm]; exact (Nat.div_add_mod m k).symm
  have hR : ((l.set i x).flatMap C)[m]? = (C ((l.set i x)[m / k]'(by rw [List.length_set]; exact hd)))[m % k]? := by
   have := flat_get hk (l.set i x) (m / k) (m % k) (by rw [List.length_set]; exact hd) hr
   rw [<- e] at this
   exact this
  have hL : (l.flatMap C)[m]? = (C l[m / k])[m % k]? := by
   have := flat_get hk l (m / k) (m % k) hd hr
   rw [<- e] at this
   exact this
  rw [hR, List.getElem?_set, List.getElem_set]
  by_cases ha : i = m / k
  ·subst ha
   rw [if_pos rfl, hx, List.getElem?_set]
   by_cases hb : j = m % k
   ·have hmm : m / k * k + j = m := by rw [hb]; exact e.symm
    rw [if_pos hmm, if_pos hb, if_pos (by rw [flat_len hk, hmm]; exact hm), if_pos (by rw [hk]; exact hj)]
   ·rw [if_neg (by intro h; apply hb; omega), if_neg hb, hL]
  ·rw [if_neg (fun h => ha h)]
   have hne : i * k + j ≠ m := by
    intro h
    apply ha
    have this : (i * k + j) / k = m / k := by rw [h]
    rw [<- this, Nat.mul_comm, Nat.mul_add_div h0, Nat.div_eq_of_lt hj, Nat.add_zero]
   rw [if_neg hne, hL]
 ·rw [List.getElem?_eq_none (by rw [List.length_set, flat_len hk]; omega), List.getElem?_eq_none (by rw [flat_len hk, List.length_set]; omega)]
theorem OwnR.setF {e : TypeId} {w : World} {base g n cap : Nat} {l : List α} (hk : ∀ x, (C x).length = k) (h : OwnR e k C w base (.slice (some ⟨g, 0, none⟩) n cap) l) (hn : n = l.length) (i j : Nat) (x : α) (u : Value) (hi : i < l.length) (hj : j < k) (hx : C x = (C l[i]).set j u) :
  OwnR e k C (w.setCell ⟨g, i * k + j, none⟩ u) base (.slice (some ⟨g, 0, none⟩) n cap) (l.set i x) := by
 subst hn
 have := (World.ownsRow.stored h (i * k + j) u).1
 rw [flat_set1 hk l i j x u hi hj hx] at this
 unfold OwnR
 rw [List.length_set]
 exact this
theorem OwnR.val {e : TypeId} {w : World} {base g n cap : Nat} {l : List α} (hk : ∀ x, (C x).length = k) (h : OwnR e k C w base (.slice (some ⟨g, 0, none⟩) n cap) l) (hn : n = l.length) (i j : Nat) (u : Value) (hi : i < l.length) (hu : (C l[i])[j]? = some u) : w.cell? ⟨g, i * k + j, none⟩ = some u := by
 subst hn
 have hj : j < k := by have := (List.getElem?_eq_some_iff.1 hu).1; rwa [hk] at this
 have hlt : i * k + j < l.length * k := by
  have hm' : (i + 1) * k <= l.length * k := Nat.mul_le_mul_right _ hi
  have e : (i + 1) * k = i * k + k := Nat.succ_mul i k
  omega
 rw [World.ownsRow.cellAt h (i * k + j) hlt, flat_get hk l i j hi hj]
 exact hu
theorem OwnR.blk {e : TypeId} {w : World} {base : Nat} {v : Value} {l : List α} (h : OwnR e k C w base v l) : v.ownBlock = none \/ ∃ g, v.ownBlock = some g /\ base <= g /\ g < w.heap.size := by
 cases hb : v.ownBlock with
 | none => exact .inl rfl
 | some g =>
  obtain ⟨h1, h2⟩ := World.ownsRow.lt h g hb
  exact .inr ⟨g, rfl, h1, h2⟩
theorem OwnR.off {e : TypeId} {w : World} {base : Nat} {v : Value} {l : List α} (h : OwnR e k C w base v l) (p : Addr) (x : Value) (hp : v.ownBlock ≠ some p.block) : OwnR e k C (w.setCell p x) base v l := by
 refine ⟨h.1, ?_⟩
 rcases h.2 with hn | ⟨g, cap, cur, rfl, hb', hg, rest⟩
 ·exact .inl hn
 ·refine .inr ⟨g, cap, cur, rfl, hb', ?_, rest⟩
  rw [Below.heap_setCell _ _ _ _ (fun h2 => hp (by rw [<- h2]; rfl))]
  exact hg
end
def ApartD (bs : List (Option Nat)) : Prop := bs.Pairwise (fun x y => x = none \/ x ≠ y)
def OwnD (w : World) (B : Nat) (v : Value) (ps : List (Sb × Value)) : Prop := OwnR 94 3 sbC w B v ps /\ (∀ p ∈ ps, OwnR 97 5 enC w B p.2 p.1.es) /\ ApartD (v.ownBlock :: ps.map fun p => p.2.ownBlock)
theorem OwnD.keep {w w' : World} {B B' : Nat} {v : Value} {ps : List (Sb × Value)} (h : OwnD w B v ps) (hb : Below B' w w') (hB : w.heap.size <= B') : OwnD w' B v ps := ⟨h.1.keep hb hB, fun p hp => (h.2.1 p hp).keep hb hB, h.2.2⟩
theorem OwnD.one {w : World} {B : Nat} {v : Value} {ps : List (Sb × Value)} (h : OwnD w B v ps) : ∀ q ∈ ps, q.2.oneCell' = true := fun q hq => by
 obtain ⟨a, cap, e⟩ := (h.2.1 q hq).slice
 rw [e]
 rfl
theorem map_fst_set (qs : List (Sb × Value)) (i : Nat) (y : Value) (h : i < qs.length) : (qs.set i (qs[i].1, y)).map Prod.fst = qs.map Prod.fst := by
 rw [List.map_set]
 apply List.ext_getElem?
 intro j
 rw [List.getElem?_set]
 by_cases e : i = j
 ·subst e; simp [h]
 ·rw [if_neg e]
structure Half (w : World) (wr : World) (g : Nat) (v : Value) (ss : List Sb) (qs : List (Sb × Value)) (k : Nat) : Prop where
 fst : qs.map Prod.fst = ss
 own : OwnR 94 3 sbC wr w.heap.size v qs
 done : ∀ i (h : i < qs.length), i < k -> OwnR 97 5 enC wr w.heap.size qs[i].2 qs[i].1.es
 left : ∀ i (h : i < qs.length), k <= i -> EnAt w w.heap.size qs[i].2 qs[i].1.es
 apart : ApartD (some g :: ((qs.take k).map fun p => p.2.ownBlock))
theorem Half.step {w wr w2 : World} {g n cap k : Nat} {ss : List Sb} {qs : List (Sb × Value)} {y : Value} (hH : Half w wr g (.slice (some ⟨g, 0, none⟩) n cap) ss qs k) (hn : n = qs.length) (hk : k < qs.length) (hb : Below wr.heap.size wr w2) (hB : Below w.heap.size w wr) (hy : OwnR 97 5 enC w2 wr.heap.size y qs[k].1.es) :
  Half w (w2.setCell ⟨g, k * 3 + 2, none⟩ y) g (.slice (some ⟨g, 0, none⟩) n cap) ss (qs.set k (qs[k].1, y)) (k + 1) := by
 have hgl : g < wr.heap.size := by
  have := World.ownsRow.lt hH.own g rfl
  exact this.2
 have hyb : y.ownBlock ≠ some g := by
  rcases hy.blk with h | ⟨b, h, h1, _⟩
  ·rw [h]; intro h2; cases h2
  ·rw [h]; intro h2; cases h2; omega
 refine ⟨?_, ?_, ?_, ?_, ?_⟩
 ·rw [map_fst_set qs k y hk]; exact hH.fst
 ·exact (hH.own.keep hb (Nat.le_refl _)).setF sbC_len hn k 2 (qs[k].1, y) y hk (by decide) rfl
 ·intro i hi hik
  rw [List.length_set] at hi
  by_cases e : i = k
  ·subst e
   simp only [List.getElem_set_self]
   exact (hy.base_mono hB.size).off _ _ hyb
  ·rw [List.getElem_set_ne (by omega)]
   refine ((hH.done i hi (by omega)).keep hb (Nat.le_refl _)).off _ _ ?_
   have ha := List.rel_of_pairwise_cons hH.apart (a' := qs[i].2.ownBlock) (List.mem_map.2 ⟨qs[i], List.mem_take_iff_getElem.2 ⟨i, by omega, rfl⟩, rfl⟩)
   rcases ha with h | h
   ·cases h
   ·exact fun h2 => h h2.symm
 ·intro i hi hik
  rw [List.length_set] at hi
  rw [List.getElem_set_ne (by omega)]
  exact hH.left i hi (by omega)
 ·have ht : ((qs.set k (qs[k].1, y)).take (k + 1)).map (fun p => p.2.ownBlock) = (qs.take k).map (fun p => p.2.ownBlock) ++ [y.ownBlock] := by
   rw [List.take_succ_eq_append_getElem (by rw [List.length_set]; exact hk), List.getElem_set_self, List.take_set_of_le (Nat.le_refl _), List.map_append]
   rfl
  unfold ApartD
  rw [ht, <- List.cons_append, List.pairwise_append]
  refine ⟨hH.apart, by simp, fun a ha b hb' => ?_⟩
  obtain rfl : b = y.ownBlock := by simpa using hb'
  have hlt : a = none \/ ∃ c, a = some c /\ c < wr.heap.size := by
   rcases List.mem_cons.1 ha with rfl | ha
   ·exact .inr ⟨g, rfl, hgl⟩
   ·obtain ⟨p, hp, rfl⟩ := List.mem_map.1 ha
    obtain ⟨i, hi, rfl⟩ := List.mem_take_iff_getElem.1 hp
    rcases (hH.done i (by omega) (by omega)).blk with h | ⟨c, h, _, h2⟩
    ·exact .inl h
    ·exact .inr ⟨c, h, h2⟩
  rcases hlt with h | ⟨c, h, h2⟩
  ·exact .inl h
  ·right
   rw [h]
   rcases hy.blk with h3 | ⟨d, h3, h4, _⟩
   ·rw [h3]; intro h5; cases h5
   ·rw [h3]; intro h5; cases h5; omega
end Go.Proofs.YtffkakpbelknaaaGreatDoor
namespace Go.Proofs.YtffkakpbelknaaaGreatDoor
open Go.ChangeShapes Go.WideShapes Go.ChangeAt Go.RowKit
set_option linter.unusedVariables false
def rdAll (es : List En) : List En := es.map fun x => { x with rd := true }
theorem gb_set {w wr : World} {row : Option Nat} (h : w.grownBy wr row) (p : Addr) (u : Value) (hp : w.heap.size <= p.block \/ row = some p.block) : w.grownBy (wr.setCell p u) row :=
 ⟨h.os, h.tape, h.output, by have := h.size; simpa [World.setCell] using this, fun k hk hne => by
  rw [Below.heap_setCell _ _ _ _ (fun e => by
   rcases hp with h1 | h1
   ·omega
   ·exact hne (by rw [h1, e]))]
  exact h.block k hk hne⟩
end Go.Proofs.YtffkakpbelknaaaGreatDoor
namespace Go.Proofs.YtffkakpbelknaaaGreatDoor
open Go.ChangeShapes Go.WideShapes Go.ChangeAt Go.RowKit
set_option linter.unusedVariables false
def mkE (x : En) (k : Int) : En := if k = 4 then { x with rd := true } else if k = 5 then { x with rd := false } else if k = 6 then { x with st := true } else { x with st := false }
def mkAt (es : List En) (p : Nat) (k : Int) : List En := match es[p]? with
 | some x => es.set p (mkE x k)
 | none => es
end Go.Proofs.YtffkakpbelknaaaGreatDoor
namespace Go.Proofs.YtffkakpbelknaaaGreatDoor
open Go.ChangeShapes Go.WideShapes Go.ChangeAt Go.RowKit
set_option linter.unusedVariables false
def pgB (x : En) (d : Int) : Bool := x.rd && (!x.st) && decide (x.it.da < d)
end Go.Proofs.YtffkakpbelknaaaGreatDoor
namespace Go.Proofs.YtffkakpbelknaaaGreatDoor
open Go.ChangeShapes Go.WideShapes Go.ChangeAt Go.RowKit
set_option linter.unusedVariables false
def ghB (x y : En) : Bool := if x.st != y.st then y.st else decide (x.it.da < y.it.da)
def goP (es : List En) : Nat -> Nat
 | 0 => 0
 | k + 1 => if ghB (es[k]?.getD en0) (es[goP es k]?.getD en0) then k else goP es k
theorem goP_lt (es : List En) (k : Nat) : goP es k <= k /\ (0 < k -> goP es k < k) := by
 induction k with
 | zero => exact ⟨Nat.le_refl _, fun h => absurd h (Nat.lt_irrefl _)⟩
 | succ k ih =>
  unfold goP
  split
  ·exact ⟨by omega, fun _ => by omega⟩
  ·exact ⟨by omega, fun _ => by omega⟩
theorem goP_step (es : List En) (k p : Nat) (hk : k < es.length) (hp : p < es.length) (e : goP es k = p) : goP es (k + 1) = if ghB es[k] es[p] then k else p := by
 conv => lhs; unfold goP
 rw [e]
 simp [hk, hp]
end Go.Proofs.YtffkakpbelknaaaGreatDoor
namespace Go.Proofs.YtffkakpbelknaaaGreatDoor
open Go.ChangeShapes Go.WideShapes Go.ChangeAt Go.RowKit
set_option linter.unusedVariables false
theorem OwnR.take {α : Type} {k : Nat} {C : α -> List Value} {e : TypeId} {w : World} {B g n cap : Nat} {l : List α} (hk : ∀ x, (C x).length = k) (h : OwnR e k C w B (.slice (some ⟨g, 0, none⟩) n cap) l) (hn : n = l.length) (i : Nat) (hi : i <= n) : OwnR e k C w B (.slice (some ⟨g, 0, none⟩) i cap) (l.take i) := by
 subst hn
 have hli : (l.take i).length = i := by rw [List.length_take]; omega
 rcases h.2 with ⟨h1, _⟩ | ⟨g', c', cur, h1, h2, h3, h4, h5, h6, h7⟩
 ·cases h1
 ·cases h1
  refine ⟨by rw [flat_len hk], .inr ⟨g, cap, cur, by rw [hli], h2, h3, by omega, h5, h6, ?_⟩⟩
  rw [hli, <- flat_take hk, <- h7, List.take_take]
  congr 1
  have := Nat.mul_le_mul_right k hi
  omega
end Go.Proofs.YtffkakpbelknaaaGreatDoor
namespace Go.Proofs.YtffkakpbelknaaaGreatDoor
open Go.ChangeShapes Go.WideShapes Go.ChangeAt Go.RowKit
set_option linter.unusedVariables false
def pgL (es : List En) (d : Int) : List En := es.filter (fun x => !pgB x d)
structure DelL (es : List En) (d : Int) (i j : Nat) (L : List En) : Prop where
 len : L.length = es.length
 kept : L.take i = pgL (es.take j) d
 rest : L.drop j = es.drop j
theorem DelL.at {es L : List En} {d : Int} {i j : Nat} (h : DelL es d i j L) (hj : j < es.length) (hj2 : j < L.length) : L[j] = es[j] := by
 have := congrArg (fun l => l[0]?) h.rest
 simp only [List.getElem?_drop, Nat.add_zero] at this
 rw [List.getElem?_eq_getElem hj2, List.getElem?_eq_getElem hj] at this
 exact Option.some.inj this
theorem DelL.stays {es L : List En} {d : Int} {i j : Nat} (h : DelL es d i j L) (hij : i < j) (hj : j < es.length) (hg : pgB es[j] d = false) : DelL es d (i + 1) (j + 1) (L.set i es[j]) := by
 have hL := h.len
 refine ⟨by rw [List.length_set]; exact hL, ?_, ?_⟩
 ·have e : pgL (es.take (j + 1)) d = pgL (es.take j) d ++ [es[j]] := by
   unfold pgL; rw [List.take_succ_eq_append_getElem hj, List.filter_append]; simp [hg]
  rw [e, <- h.kept, List.take_succ_eq_append_getElem (by rw [List.length_set]; omega), List.getElem_set_self, List.take_set_of_le (Nat.le_refl _)]
 ·rw [List.drop_set_of_lt (by omega), <- List.drop_drop, <- List.drop_drop, h.rest]
theorem DelL.over {es L : List En} {d : Int} {i j : Nat} (h : DelL es d i j L) (hj : ¬ j < es.length) : L.take i = pgL es d := by
 rw [h.kept, List.take_of_length_le (by omega)]
end Go.Proofs.YtffkakpbelknaaaGreatDoor
namespace Go.Proofs.YtffkakpbelknaaaGreatDoor
open Go.ChangeShapes Go.WideShapes Go.ChangeAt Go.RowKit
set_option linter.unusedVariables false
def pg1 (d : Int) (s : Sb) : Sb := { s with es := pgL s.es d }
def pgS (ss : List Sb) (d : Int) : List Sb := ss.map (pg1 d)
theorem gb_Below {w w' : World} {row : Option Nat} {B : Nat} (h : w.grownBy w' row) (hB : B <= w.heap.size) (hr : ∀ b, row = some b -> B <= b) : Below B w w' :=
 ⟨h.os, h.tape, h.output, h.size, fun k hk => h.block k (by omega) (fun e => by have := hr k e.symm; omega)⟩
theorem apart_head {b : Option Nat} {bs : List (Option Nat)} (h : ApartD (b :: bs)) {c : Option Nat} (hc : c ∈ bs) : b = none \/ b ≠ c := List.rel_of_pairwise_cons h hc
theorem apart_two {bs : List (Option Nat)} (h : ApartD bs) (i j : Nat) (hi : i < bs.length) (hj : j < bs.length) (hij : i ≠ j) : bs[i] = none \/ bs[i] ≠ bs[j] := by
 rcases Nat.lt_or_gt_of_ne hij with h1 | h1
 ·exact List.pairwise_iff_getElem.1 h i j hi hj h1
 ·rcases List.pairwise_iff_getElem.1 h j i hj hi h1 with h2 | h2
  ·by_cases e : bs[i] = none
   ·exact .inl e
   ·exact .inr (by rw [h2]; exact e)
  ·exact .inr (fun e => h2 e.symm)
structure PgH (w wr : World) (B : Nat) (v : Value) (ss : List Sb) (d : Int) (k : Nat) (qs : List (Sb × Value)) : Prop where
 fst : qs.map Prod.fst = pgS (ss.take k) d ++ ss.drop k
 own : OwnD wr B v qs
 lt : ∀ q ∈ qs, ∀ b, q.2.ownBlock = some b -> b < w.heap.size
 box : Box wr w.heap.size #[.int .i64 d] 2
 bel : Below B w wr
theorem PgH.len {w wr : World} {B : Nat} {v : Value} {ss : List Sb} {d : Int} {k : Nat} {qs : List (Sb × Value)} (h : PgH w wr B v ss d k qs) : qs.length = ss.length := by
 have := congrArg List.length h.fst
 simp [pgS] at this
 omega
theorem PgH.at {w wr : World} {B : Nat} {v : Value} {ss : List Sb} {d : Int} {k : Nat} {qs : List (Sb × Value)} (h : PgH w wr B v ss d k qs) (hk : k < qs.length) (hk2 : k < ss.length) : qs[k].1 = ss[k] := by
 have := congrArg (fun l => l[k]?) h.fst
 simp only [List.getElem?_map, List.getElem?_eq_getElem hk, Option.map_some] at this
 rw [List.getElem?_append_right (by simp [pgS]; omega)] at this
 have e : k - (pgS (ss.take k) d).length = 0 := by simp [pgS]; omega
 rw [e, List.getElem?_drop, Nat.add_zero, List.getElem?_eq_getElem hk2] at this
 exact Option.some.inj this
theorem pgS_set (ss : List Sb) (d : Int) (k : Nat) (hk : k < ss.length) : (pgS (ss.take k) d ++ ss.drop k).set k (pg1 d ss[k]) = pgS (ss.take (k + 1)) d ++ ss.drop (k + 1) := by
 have hl : (pgS (ss.take k) d).length = k := by simp [pgS]; omega
 rw [List.set_append_right _ _ (by omega), hl, Nat.sub_self, List.take_succ_eq_append_getElem hk, List.drop_eq_getElem_cons hk, List.set_cons_zero]
 unfold pgS
 rw [List.map_append]
 simp
theorem PgH.step {w wr w2 : World} {B g n cap k : Nat} {ss : List Sb} {d : Int} {qs : List (Sb × Value)} {y : Value} (hH : PgH w wr B (.slice (some ⟨g, 0, none⟩) n cap) ss d k qs) (hB : B <= w.heap.size) (hgw : g < w.heap.size) (hn : n = qs.length) (hk : k < qs.length) (hk2 : k < ss.length)
  (hy : OwnR 97 5 enC w2 B y (pgL qs[k].1.es d)) (hyb : y.ownBlock = qs[k].2.ownBlock) (hgr : wr.grownBy w2 qs[k].2.ownBlock) :
  PgH w (w2.setCell ⟨g, k * 3 + 2, none⟩ y) B (.slice (some ⟨g, 0, none⟩) n cap) ss d (k + 1) (qs.set k (pg1 d qs[k].1, y)) := by
 have hap := hH.own.2.2
 have hgk : (some g : Option Nat) ≠ qs[k].2.ownBlock := by
  rcases apart_head hap (c := qs[k].2.ownBlock) (List.mem_map.2 ⟨_, List.getElem_mem hk, rfl⟩) with h | h
  ·cases h
  ·exact h
 have hBg : B <= g := (World.ownsRow.lt hH.own.1 g rfl).1
 have hrow : ∀ b, qs[k].2.ownBlock = some b -> B <= b := fun b hb => (World.ownsRow.lt (hH.own.2.1 _ (List.getElem_mem hk)) b hb).1
 have hb2 : Below B wr w2 := gb_Below hgr (Nat.le_trans hB hH.bel.size) hrow
 refine ⟨?_, ⟨?_, ?_, ?_⟩, ?_, ?_, ?_⟩
 ·rw [List.map_set, hH.fst, hH.at hk hk2]
  exact pgS_set ss d k hk2
 ·have h1 : OwnR 94 3 sbC w2 B (.slice (some ⟨g, 0, none⟩) n cap) qs := World.ownsRow.kept hH.own.1 hgr (.inr hgk)
  exact h1.setF sbC_len hn k 2 (pg1 d qs[k].1, y) y hk (by decide) rfl
 ·intro p hp
  obtain ⟨i, hi, rfl⟩ := List.getElem_of_mem hp
  rw [List.length_set] at hi
  by_cases e : i = k
  ·subst e
   simp only [List.getElem_set_self]
   exact hy.off _ _ (by rw [hyb]; exact fun h => hgk h.symm)
  ·rw [List.getElem_set_ne (fun h => e h.symm)]
   have h2 := apart_two (List.pairwise_cons.1 hap).2 i k (by rw [List.length_map]; exact hi) (by rw [List.length_map]; exact hk) e
   simp only [List.getElem_map] at h2
   have h1 : OwnR 97 5 enC w2 B qs[i].2 qs[i].1.es := World.ownsRow.kept (hH.own.2.1 _ (List.getElem_mem hi)) hgr h2
   refine h1.off _ _ ?_
   rcases apart_head hap (c := qs[i].2.ownBlock) (List.mem_map.2 ⟨_, List.getElem_mem hi, rfl⟩) with h | h
   ·cases h
   ·exact fun h3 => h h3.symm
 ·have e : (qs.set k (pg1 d qs[k].1, y)).map (fun p => p.2.ownBlock) = qs.map (fun p => p.2.ownBlock) := by
   rw [List.map_set, hyb]
   apply List.ext_getElem?
   intro j
   rw [List.getElem?_set]
   by_cases e : k = j
   ·subst e; simp [hk]
   ·rw [if_neg e]
  rw [e]
  exact hap
 ·intro q hq b hb
  obtain ⟨i, hi, rfl⟩ := List.getElem_of_mem hq
  rw [List.length_set] at hi
  by_cases e : i = k
  ·subst e
   simp only [List.getElem_set_self] at hb
   exact hH.lt _ (List.getElem_mem hk) b (by rw [<- hyb]; exact hb)
  ·rw [List.getElem_set_ne (fun h => e h.symm)] at hb
   exact hH.lt _ (List.getElem_mem hi) b hb
 ·have h1 : Box w2 w.heap.size #[.int .i64 d] 2 := (hgr.block _ hH.box.lt (fun h => by
   have := hH.lt _ (List.getElem_mem hk) _ h.symm
   omega)).trans hH.box
  exact h1.other _ _ (by show w.heap.size ≠ g; omega)
 ·exact (hH.bel.trans hb2).setCell (p := ⟨g, k * 3 + 2, none⟩) hBg y
theorem PgH.over {w wr : World} {B : Nat} {v : Value} {ss : List Sb} {d : Int} {k : Nat} {qs : List (Sb × Value)} (h : PgH w wr B v ss d k qs) (hk : ¬ k < ss.length) : qs.map Prod.fst = pgS ss d := by
 rw [h.fst, List.take_of_length_le (by omega), List.drop_eq_nil_of_le (by omega), List.append_nil]
end Go.Proofs.YtffkakpbelknaaaGreatDoor
namespace Go.Proofs.YtffkakpbelknaaaGreatDoor
open Go.ChangeShapes Go.WideShapes Go.ChangeAt Go.RowKit
set_option linter.unusedVariables false
theorem less_tri (x y : List UInt8) (h1 : Op.bytesLess x y = false) (h2 : x ≠ y) : Op.bytesLess y x = true := by
 have h3 : ¬ Lib.compareBytes x y < 0 := by rw [cmp_less]; simp [h1]
 clear h1
 induction x generalizing y with
 | nil => cases y with
  | nil => exact absurd rfl h2
  | cons q y => exact absurd (by simp [Lib.compareBytes]) h3
 | cons p x ih =>
  cases y with
  | nil => simp [Op.bytesLess]
  | cons q y =>
   unfold Lib.compareBytes at h3
   unfold Op.bytesLess
   by_cases hpq : p < q
   ·simp [hpq] at h3
   ·by_cases hqp : q < p
    ·have : q ≠ p := fun h => by subst h; exact UInt8.lt_irrefl _ hqp
     simp [hqp]
    ·have : p = q := UInt8.le_antisymm (UInt8.not_lt.1 hqp) (UInt8.not_lt.1 hpq)
     subst this
     simp [hpq] at h3
     have := ih y (fun e => h2 (by rw [e])) (by omega)
     simp [hpq, this]
theorem ltK_tri {a x : ByteArray} (h1 : ¬ cmpB a x < 0) (h2 : cmpB a x ≠ 0) : ltK x a = true := by
 have h3 : ltK a x = false := by rw [ltK_cmp]; exact decide_eq_false h1
 have h4 : a ≠ x := fun e => h2 ((cmpB_zero _ _).2 e)
 refine less_tri _ _ h3 (fun e => h4 ?_)
 have := str_eq a x
 rw [e] at this
 simpa using this.symm
theorem ris_iff (ks : List ByteArray) : risB ks = true ↔ ks.Pairwise (fun a b => ltK a b = true) := by
 constructor
 ·intro h
  rw [List.pairwise_iff_getElem]
  intro i j hi hj hij
  exact ris_lt h i j hj hij
 ·intro h
  rw [List.pairwise_iff_getElem] at h
  refine allB_end ks.length (Nat.lt_irrefl _) (fun j hj => ?_)
  cases j with
  | zero => rfl
  | succ q =>
   have h2 := ordK_at (fun k : ByteArray => k) ks q hj
   rw [List.map_id'] at h2
   rw [h2]
   exact h q (q + 1) (by omega) hj (by omega)
theorem ris_put {ks : List ByteArray} (h : risB ks = true) (x : ByteArray) : risB (putP ks (plK ks x) (fnB ks x) x) = true := by
 have hp := (ris_iff ks).1 h
 have hlo : ∀ a ∈ ks.take (plK ks x), ltK a x = true := fun a ha => by
  obtain ⟨i, hi, rfl⟩ := List.mem_take_iff_getElem.1 ha
  rw [ltK_cmp]
  exact decide_eq_true (plK_lo ks x i (by omega))
 have hhi : ∀ b ∈ ks.drop (if fnB ks x then plK ks x + 1 else plK ks x), ltK x b = true := fun b hb => by
  cases hfb : fnB ks x with
  | true =>
   rw [hfb, if_pos rfl] at hb
   obtain ⟨i, hi, rfl⟩ := List.getElem_of_mem hb
   rw [List.length_drop] at hi
   have hpl : plK ks x < ks.length := by omega
   have hf : fnB ks x = (cmpB ks[plK ks x] x == 0) := by unfold fnB; rw [List.getElem?_eq_getElem hpl]
   rw [hfb] at hf
   have e : ks[plK ks x] = x := (cmpB_zero _ _).1 (by simpa using hf.symm)
   have := ris_lt h (plK ks x) (plK ks x + 1 + i) (by omega) (by omega)
   rw [e] at this
   rw [List.getElem_drop]
   exact this
  | false =>
   rw [hfb, if_neg (by simp)] at hb
   obtain ⟨i, hi, rfl⟩ := List.getElem_of_mem hb
   rw [List.length_drop] at hi
   have hpl : plK ks x < ks.length := by omega
   have hf : fnB ks x = (cmpB ks[plK ks x] x == 0) := by unfold fnB; rw [List.getElem?_eq_getElem hpl]
   rw [hfb] at hf
   have e := ltK_tri (plK_hi hpl) (by simpa using hf.symm)
   rw [List.getElem_drop]
   rcases Nat.eq_zero_or_pos i with h0 | h0
   ·subst h0; simpa using e
   ·exact ltK_trans e (ris_lt h (plK ks x) (plK ks x + i) (by omega) (by omega))
 rw [ris_iff]
 unfold putP
 rw [List.pairwise_append]
 refine ⟨hp.sublist (List.take_sublist _ _), ?_, ?_⟩
 ·rw [List.pairwise_cons]
  exact ⟨hhi, hp.sublist (List.drop_sublist _ _)⟩
 ·intro a ha b hb
  rcases List.mem_cons.1 hb with rfl | hb
  ·exact hlo a ha
  ·exact ltK_trans (hlo a ha) (hhi b hb)
theorem ris_cut {ks : List ByteArray} (h : risB ks = true) (p : Nat) : risB (ks.take p ++ ks.drop (p + 1)) = true := by
 rw [ris_iff, <- List.eraseIdx_eq_take_drop_succ]
 exact ((ris_iff ks).1 h).sublist (List.eraseIdx_sublist _ _)
def neE (es : List En) (it : It) : En := if fnB (enKs es) it.id then ⟨it, (es[plK (enKs es) it.id]?.getD en0).rd, (es[plK (enKs es) it.id]?.getD en0).st⟩ else ⟨it, false, false⟩
def ft1 (es : List En) (it : It) : List En := putP es (plK (enKs es) it.id) (fnB (enKs es) it.id) (neE es it)
def ftN (es : List En) (its : List It) : List En := its.foldl ft1 es
def cut1 (es : List En) : List En := es.take (goP es es.length) ++ es.drop (goP es es.length + 1)
def cutE : Nat -> List En -> List En
 | 0, es => es
 | n + 1, es => if 12 < es.length then cutE n (cut1 es) else es
def ftV (es : List En) (its : List It) : List En := cutE (es.length + its.length) (ftN es its)
theorem neE_it (es : List En) (it : It) : (neE es it).it = it := by unfold neE; split <;> rfl
theorem enKs_put (es : List En) (p : Nat) (f : Bool) (x : En) : enKs (putP es p f x) = putP (enKs es) p f x.it.id := by
 unfold enKs putP
 rw [List.map_append, List.map_take, List.map_cons, List.map_drop]
theorem ris_ft1 {es : List En} (h : risB (enKs es) = true) (it : It) : risB (enKs (ft1 es it)) = true := by
 unfold ft1
 rw [enKs_put, neE_it]
 exact ris_put h it.id
theorem len_ft1 (es : List En) (it : It) : (ft1 es it).length <= es.length + 1 := by
 unfold ft1 putP
 rw [List.length_append, List.length_take, List.length_cons, List.length_drop]
 split <;> omega
theorem ftN_step (es : List En) (its : List It) (k : Nat) (hk : k < its.length) : ftN es (its.take (k + 1)) = ft1 (ftN es (its.take k)) its[k] := by
 unfold ftN
 rw [List.take_succ_eq_append_getElem hk, List.foldl_append]
 rfl
theorem ris_ftN {es : List En} (h : risB (enKs es) = true) (its : List It) : risB (enKs (ftN es its)) = true := by
 unfold ftN
 induction its generalizing es with
 | nil => exact h
 | cons it its ih => exact ih (ris_ft1 h it)
theorem len_ftN (es : List En) (its : List It) : (ftN es its).length <= es.length + its.length := by
 unfold ftN
 induction its generalizing es with
 | nil => exact Nat.le_refl _
 | cons it its ih =>
  have h1 := ih (ft1 es it)
  have h2 := len_ft1 es it
  rw [List.foldl_cons, List.length_cons]
  omega
theorem len_cut1 (es : List En) (h : 0 < es.length) : (cut1 es).length + 1 = es.length := by
 have := (goP_lt es es.length).2 h
 unfold cut1
 rw [List.length_append, List.length_take, List.length_drop]
 omega
theorem cutE_end (n : Nat) (es : List En) (h : ¬ 12 < es.length) : cutE n es = es := by
 cases n with
 | zero => rfl
 | succ n => unfold cutE; rw [if_neg h]
theorem ris_cut1 {es : List En} (h : risB (enKs es) = true) : risB (enKs (cut1 es)) = true := by
 unfold cut1 enKs
 rw [List.map_append, List.map_take, List.map_drop]
 exact ris_cut h _
end Go.Proofs.YtffkakpbelknaaaGreatDoor
namespace Go.Proofs.YtffkakpbelknaaaGreatDoor
open Go.ChangeShapes Go.WideShapes Go.ChangeAt Go.RowKit
set_option linter.unusedVariables false
theorem sz_cut {es : List En} (h : ∀ x ∈ es, EnSz x) : ∀ y ∈ cut1 es, EnSz y := by
 intro y hy
 unfold cut1 at hy
 rcases List.mem_append.1 hy with h1 | h1
 ·exact h y (List.mem_of_mem_take h1)
 ·exact h y (List.mem_of_mem_drop h1)
structure FtH (w wr : World) (B : Nat) (x y : Value) (es : List En) : Prop where
 own : OwnR 97 5 enC wr B y es
 new : y = x \/ OwnR 97 5 enC wr w.heap.size y es
 sz : ∀ z ∈ es, EnSz z
 ris : risB (enKs es) = true
 bel : Below w.heap.size w wr
 far : y.ownBlock ≠ some (w.heap.size + 1 + 1)
theorem FtH.keep {w wr w2 : World} {B : Nat} {x y : Value} {es : List En} (h : FtH w wr B x y es) (hb : Below wr.heap.size wr w2) : FtH w w2 B x y es :=
 ⟨h.own.keep hb (Nat.le_refl _), h.new.elim .inl (fun h => .inr (h.keep hb (Nat.le_refl _))), h.sz, h.ris, h.bel.trans (hb.mono h.bel.size), h.far⟩
theorem FtH.next {w w1 w2 : World} {B C : Nat} {x y v : Value} {es L : List En} (h : FtH w w1 B x y es) (hB : B <= w.heap.size) (hC : w.heap.size + 3 <= C) (ho : OwnR 97 5 enC w2 C v L) (hb : Below C w1 w2) (hz : ∀ z ∈ L, EnSz z) (hr : risB (enKs L) = true) : FtH w w2 B x v L :=
 ⟨ho.base_mono (by omega), .inr (ho.base_mono (by omega)), hz, hr, h.bel.trans (hb.mono (by omega)), fun e => by have := (World.ownsRow.lt ho _ e).1; omega⟩
def lenOf : Value -> Nat
 | .slice _ n _ => n
 | _ => 0
theorem FtH.off {w wr : World} {B : Nat} {x y : Value} {es : List En} (h : FtH w wr B x y es) (p : Addr) (z : Value) (hp : y.ownBlock ≠ some p.block) (hw : w.heap.size <= p.block) : FtH w (wr.setCell p z) B x y es :=
 ⟨h.own.off _ _ hp, h.new.elim .inl (fun h2 => .inr (h2.off _ _ hp)), h.sz, h.ris, h.bel.setCell (p := p) hw z, h.far⟩
theorem FtH.drew {w wr : World} {B : Nat} {x y : Value} {es : List En} (h : FtH w wr B x y es) : FtH w wr.drew B x y es :=
 ⟨h.own.drew, h.new.elim .inl (fun h2 => .inr h2.drew), h.sz, h.ris, h.bel.drew, h.far⟩
end Go.Proofs.YtffkakpbelknaaaGreatDoor
namespace Go.Proofs.YtffkakpbelknaaaGreatDoor
open Go.ChangeShapes Go.WideShapes Go.ChangeAt Go.RowKit
set_option linter.unusedVariables false
end Go.Proofs.YtffkakpbelknaaaGreatDoor
