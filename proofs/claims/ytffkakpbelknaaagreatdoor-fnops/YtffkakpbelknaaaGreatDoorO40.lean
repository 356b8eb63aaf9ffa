/- Parts of the proof. -/
import Derived.Test.YtffkakpbelknaaaGreatDoorO20
import Derived.Test.YtffkakpbelknaaaGreatDoorO23
import Derived.Test.YtffkakpbelknaaaGreatDoorO36
import Derived.Test.YtffkakpbelknaaaGreatDoorO37
set_option maxHeartbeats 4000000
set_option maxRecDepth 100000
namespace Go.Proofs.YtffkakpbelknaaaGreatDoor
open Go.ChangeShapes Go.WideShapes Go.ChangeAt Go.RowKit
set_option linter.unusedVariables false
theorem OwnD.outer {w w' : World} {B : Nat} {v v' : Value} {ps qs : List (Sb × Value)} (h : OwnD w B v ps) (hB : B <= w.heap.size) (hb : Below w.heap.size w w') (ho : OwnR 94 3 sbC w' w.heap.size v' qs) (hs : qs.Sublist ps) : OwnD w' B v' qs := by
 refine ⟨ho.base_mono hB, fun p hp => (h.2.1 p (hs.subset hp)).keep hb (Nat.le_refl _), ?_⟩
 unfold ApartD
 rw [List.pairwise_cons]
 refine ⟨fun c hc => ?_, (List.pairwise_cons.1 h.2.2).2.sublist (hs.map _)⟩
 obtain ⟨p, hp, rfl⟩ := List.mem_map.1 hc
 rcases ho.blk with h1 | ⟨g, h1, h2, _⟩
 ·exact .inl h1
 ·right
  rw [h1]
  intro h3
  have := (World.ownsRow.lt (h.2.1 p (hs.subset hp)) g h3.symm).2
  omega
def opU (o : OpD) : ByteArray := if o.k = 3 then o.fu else o.u
end Go.Proofs.YtffkakpbelknaaaGreatDoor
namespace Go.Proofs.YtffkakpbelknaaaGreatDoor
open Go.ChangeShapes Go.WideShapes Go.ChangeAt Go.RowKit
set_option linter.unusedVariables false
theorem OwnD.some {w : World} {B : Nat} {v : Value} {ps : List (Sb × Value)} (h : OwnD w B v ps) (hp : 0 < ps.length) : ∃ g cap, v = .slice (some ⟨g, 0, none⟩) ps.length cap /\ g < w.heap.size /\ B <= g /\ cap <= 9223372036854775807 /\ ps.length <= cap := by
 rcases h.1.2 with ⟨h1, h2⟩ | ⟨g, c, cur, h1, h2, h3, h4, h5, _⟩
 ·omega
 ·unfold maxLen at h5
  exact ⟨g, c, h1, (World.ownsRow.lt h.1 g (by rw [h1]; rfl)).2, h2, by omega, h4⟩
end Go.Proofs.YtffkakpbelknaaaGreatDoor
namespace Go.Proofs.YtffkakpbelknaaaGreatDoor
open Go.ChangeShapes Go.WideShapes Go.ChangeAt Go.RowKit
set_option linter.unusedVariables false
theorem putP_set {α : Type} (l : List α) (p : Nat) (x : α) (h : p < l.length) : putP l p true x = l.set p x := by
 unfold putP
 rw [if_pos rfl, List.set_eq_take_append_cons_drop, if_pos h]
theorem flat_same (ps : List (Sb × Value)) (P : Nat) (hP : P < ps.length) (s : Sb) (hu : s.u = ps[P].1.u) (ht : s.t = ps[P].1.t) : (ps.set P (s, ps[P].2)).flatMap sbC = ps.flatMap sbC := by
 have e : (ps.set P (s, ps[P].2)).map sbC = ps.map sbC := by
  rw [List.map_set]
  apply List.ext_getElem?
  intro j
  rw [List.getElem?_set]
  by_cases e : P = j
  ·subst e
   simp only [List.length_map, hP, if_true, List.getElem?_map, List.getElem?_eq_getElem hP, Option.map_some]
   unfold sbC
   rw [hu, ht]
  ·rw [if_neg e]
 rw [List.flatMap_def, List.flatMap_def, e]
theorem OwnD.inplace {w w2 : World} {B : Nat} {v : Value} {ps : List (Sb × Value)} (h : OwnD w B v ps) (P : Nat) (hP : P < ps.length) (s : Sb) (hu : s.u = ps[P].1.u) (ht : s.t = ps[P].1.t) (hg : w.grownBy w2 ps[P].2.ownBlock) (ho : OwnR 97 5 enC w2 B ps[P].2 s.es) : OwnD w2 B v (ps.set P (s, ps[P].2)) := by
 have hap := h.2.2
 have hv : v.ownBlock = none \/ v.ownBlock ≠ ps[P].2.ownBlock := apart_head hap (List.mem_map.2 ⟨_, List.getElem_mem hP, rfl⟩)
 refine ⟨?_, ?_, ?_⟩
 ·have h1 : OwnR 94 3 sbC w2 B v ps := World.ownsRow.kept h.1 hg hv
  unfold OwnR at h1 ⊢
  rw [List.length_set, flat_same ps P hP s hu ht]
  exact h1
 ·intro p hp
  obtain ⟨i, hi, rfl⟩ := List.getElem_of_mem hp
  rw [List.length_set] at hi
  by_cases e : i = P
  ·subst e
   simp only [List.getElem_set_self]
   exact ho
  ·rw [List.getElem_set_ne (fun h => e h.symm)]
   have h2 := apart_two (List.pairwise_cons.1 hap).2 i P (by rw [List.length_map]; exact hi) (by rw [List.length_map]; exact hP) e
   simp only [List.getElem_map] at h2
   exact World.ownsRow.kept (h.2.1 _ (List.getElem_mem hi)) hg h2
 ·have e : (ps.set P (s, ps[P].2)).map (fun p => p.2.ownBlock) = ps.map (fun p => p.2.ownBlock) := by
   rw [List.map_set]
   apply List.ext_getElem?
   intro j
   rw [List.getElem?_set]
   by_cases e : P = j
   ·subst e; simp [hP]
   ·rw [if_neg e]
  rw [e]
  exact hap
theorem OwnD.off {w : World} {B : Nat} {v : Value} {ps : List (Sb × Value)} (h : OwnD w B v ps) (p : Addr) (z : Value) (hv : v.ownBlock ≠ Option.some p.block) (hp : ∀ q ∈ ps, q.2.ownBlock ≠ Option.some p.block) : OwnD (w.setCell p z) B v ps :=
 ⟨h.1.off _ _ hv, fun q hq => (h.2.1 q hq).off _ _ (hp q hq), h.2.2⟩
end Go.Proofs.YtffkakpbelknaaaGreatDoor
namespace Go.Proofs.YtffkakpbelknaaaGreatDoor
open Go.ChangeShapes Go.WideShapes Go.ChangeAt Go.RowKit
set_option linter.unusedVariables false
end Go.Proofs.YtffkakpbelknaaaGreatDoor
namespace Go.Proofs.YtffkakpbelknaaaGreatDoor
open Go.ChangeShapes Go.WideShapes Go.ChangeAt Go.RowKit
set_option linter.unusedVariables false
def alS (s : Sb) : Sb := { s with es := rdAll s.es }
end Go.Proofs.YtffkakpbelknaaaGreatDoor
namespace Go.Proofs.YtffkakpbelknaaaGreatDoor
open Go.ChangeShapes Go.WideShapes Go.ChangeAt Go.RowKit
set_option linter.unusedVariables false
def mkS (s : Sb) (id : ByteArray) (k : Int) : Sb := { s with es := mkAt s.es (plK (enKs s.es) id) k }
theorem mkE_it (x : En) (k : Int) : (mkE x k).it = x.it := by
 unfold mkE
 by_cases h4 : k = 4
 ·rw [if_pos h4]
 ·rw [if_neg h4]
  by_cases h5 : k = 5
  ·rw [if_pos h5]
  ·rw [if_neg h5]
   by_cases h6 : k = 6
   ·rw [if_pos h6]
   ·rw [if_neg h6]
end Go.Proofs.YtffkakpbelknaaaGreatDoor
namespace Go.Proofs.YtffkakpbelknaaaGreatDoor
open Go.ChangeShapes Go.WideShapes Go.ChangeAt Go.RowKit
set_option linter.unusedVariables false
end Go.Proofs.YtffkakpbelknaaaGreatDoor
namespace Go.Proofs.YtffkakpbelknaaaGreatDoor
open Go.ChangeShapes Go.WideShapes Go.ChangeAt Go.RowKit
set_option linter.unusedVariables false
end Go.Proofs.YtffkakpbelknaaaGreatDoor
namespace Go.Proofs.YtffkakpbelknaaaGreatDoor
open Go.ChangeShapes Go.WideShapes Go.ChangeAt Go.RowKit
set_option linter.unusedVariables false
def ftS (s : Sb) (t : ByteArray) (its : List It) : Sb := ⟨s.u, t, ftV s.es its⟩
end Go.Proofs.YtffkakpbelknaaaGreatDoor
namespace Go.Proofs.YtffkakpbelknaaaGreatDoor
open Go.ChangeShapes Go.WideShapes Go.ChangeAt Go.RowKit
set_option linter.unusedVariables false
def chV (ss : List Sb) (o : OpD) : Option (List Sb) := match ss[plK (sbKs ss) (opU o)]? with
 | none => none
 | some s => if fnB (sbKs ss) (opU o) = true then
   (if o.k = 2 then some (ss.take (plK (sbKs ss) (opU o)) ++ ss.drop (plK (sbKs ss) (opU o) + 1))
    else if o.k = 8 then some (ss.set (plK (sbKs ss) (opU o)) (alS s))
    else if o.k = 3 then some (ss.set (plK (sbKs ss) (opU o)) (ftS s o.ft o.its))
    else if fnB (enKs s.es) o.i = true then some (ss.set (plK (sbKs ss) (opU o)) (mkS s o.i o.k)) else none)
  else none
def doI (ss : List Sb) (o : OpD) : Option (List Sb) :=
 if o.k = 1 then (if fnB (sbKs ss) o.u = true \/ ss.length = 6 then none else some (putP ss (plK (sbKs ss) o.u) false ⟨o.u, ⟨#[]⟩, []⟩))
 else if o.k = 9 then some (pgS ss o.d)
 else chV ss o
def doV (ss : List Sb) (o : OpD) : Option (List Sb) := if rdB ss = true /\ opB o = true then doI ss o else none
theorem rd_len {ss : List Sb} (h : rdB ss = true) : ss.length <= 6 := by
 unfold rdB at h
 simp only [Bool.and_eq_true, decide_eq_true_eq] at h
 exact h.1
theorem rd_ris {ss : List Sb} (h : rdB ss = true) : risB (sbKs ss) = true := by
 unfold rdB at h
 simp only [Bool.and_eq_true, decide_eq_true_eq] at h
 exact h.2.2
theorem rd_sub {ss : List Sb} (h : rdB ss = true) (s : Sb) (hs : s ∈ ss) : sbB s = true := by
 unfold rdB at h
 simp only [Bool.and_eq_true, decide_eq_true_eq] at h
 obtain ⟨i, hi, rfl⟩ := List.getElem_of_mem hs
 have := allB_at h.2.1 i hi
 rw [sbsB_at ss i hi] at this
 exact this
theorem sb_len {s : Sb} (h : sbB s = true) : s.es.length <= 12 := by
 unfold sbB at h
 simp only [Bool.and_eq_true, decide_eq_true_eq] at h
 exact h.1.2
theorem sb_ris {s : Sb} (h : sbB s = true) : risB (enKs s.es) = true := by
 unfold sbB ensB at h
 simp only [Bool.and_eq_true, decide_eq_true_eq] at h
 exact h.2.2
theorem op_kinds {o : OpD} (h : opB o = true) : o.k = 1 \/ o.k = 2 \/ o.k = 3 \/ o.k = 4 \/ o.k = 5 \/ o.k = 6 \/ o.k = 7 \/ o.k = 8 \/ o.k = 9 := by
 unfold opB at h
 by_cases h1 : o.k = 1 \/ o.k = 2 \/ o.k = 8
 ·omega
 ·rw [if_neg h1] at h
  by_cases h3 : o.k = 3
  ·omega
  ·rw [if_neg h3] at h
   by_cases h4 : o.k = 4 \/ o.k = 5 \/ o.k = 6 \/ o.k = 7
   ·omega
   ·rw [if_neg h4] at h
    by_cases h9 : o.k = 9
    ·omega
    ·rw [if_neg h9] at h
     cases h
theorem fdB_len9 {u t : ByteArray} {its : List It} (h : fdB u t its = true) : its.length <= 12 := by
 unfold fdB at h
 simp only [Bool.and_eq_true, decide_eq_true_eq] at h
 exact h.2.2
theorem op_its {o : OpD} (h : opB o = true) (hk : o.k = 3) : o.its.length <= 12 := by
 unfold opB at h
 rw [if_neg (by omega), if_pos hk] at h
 simp only [Bool.and_eq_true] at h
 exact fdB_len9 h.2
end Go.Proofs.YtffkakpbelknaaaGreatDoor
namespace Go.Proofs.YtffkakpbelknaaaGreatDoor
open Go.ChangeShapes Go.WideShapes Go.ChangeAt Go.RowKit
set_option linter.unusedVariables false
theorem OwnD.lower {w : World} {B B' : Nat} {v : Value} {ps : List (Sb × Value)} (h : OwnD w B v ps) (hB : B' <= B) : OwnD w B' v ps := ⟨h.1.base_mono hB, fun p hp => (h.2.1 p hp).base_mono hB, h.2.2⟩
theorem OwnD.aside {w : World} {B : Nat} {v : Value} {ps : List (Sb × Value)} (h : OwnD w B v ps) (p : Addr) (x : Value) (hp : p.block < B) : OwnD (w.setCell p x) B v ps := ⟨h.1.other p x hp, fun q hq => (h.2.1 q hq).other p x hp, h.2.2⟩
theorem OwnD.putNil {w w' : World} {B : Nat} {v v' : Value} {ps : List (Sb × Value)} (h : OwnD w B v ps) (hB : B <= w.heap.size) (hb : Below w.heap.size w w') (P : Nat) (u t : ByteArray) (ho : OwnR 94 3 sbC w' w.heap.size v' (putP ps P false (⟨u, t, []⟩, .slice none 0 0))) : OwnD w' B v' (putP ps P false (⟨u, t, []⟩, .slice none 0 0)) := by
 have hm : ∀ p ∈ putP ps P false ((⟨u, t, []⟩, .slice none 0 0) : Sb × Value), p ∈ ps \/ p = (⟨u, t, []⟩, .slice none 0 0) := fun p hp => by
  unfold putP at hp
  rcases List.mem_append.1 hp with h1 | h1
  ·exact .inl (List.mem_of_mem_take h1)
  ·rcases List.mem_cons.1 h1 with h2 | h2
   ·exact .inr h2
   ·exact .inl (List.mem_of_mem_drop h2)
 have hap := (List.pairwise_cons.1 h.2.2).2
 refine ⟨ho.base_mono hB, fun p hp => ?_, ?_⟩
 ·rcases hm p hp with h1 | rfl
  ·exact (h.2.1 p h1).keep hb (Nat.le_refl _)
  ·exact OwnR.nil _ _ _
 ·unfold ApartD
  rw [List.pairwise_cons]
  refine ⟨fun c hc => ?_, ?_⟩
  ·obtain ⟨p, hp, rfl⟩ := List.mem_map.1 hc
   rcases ho.blk with h1 | ⟨g, h1, h2, _⟩
   ·exact .inl h1
   ·right
    rw [h1]
    intro h3
    rcases hm p hp with h4 | rfl
    ·have := (World.ownsRow.lt (h.2.1 p h4) g h3.symm).2
     omega
    ·cases h3
  ·unfold putP
   rw [List.map_append, List.map_cons, List.map_take, List.map_drop, List.pairwise_append]
   refine ⟨hap.sublist (List.take_sublist _ _), ?_, fun a ha b hb2 => ?_⟩
   ·rw [List.pairwise_cons]
    exact ⟨fun b _ => .inl rfl, hap.sublist (List.drop_sublist _ _)⟩
   ·rcases List.mem_cons.1 hb2 with rfl | hb3
    ·cases a with
     | none => exact .inl rfl
     | some x => exact .inr (fun h5 => by cases h5)
    ·have hs : (List.map (fun p : Sb × Value => p.2.ownBlock) ps) = List.take P (List.map (fun p : Sb × Value => p.2.ownBlock) ps) ++ List.drop P (List.map (fun p : Sb × Value => p.2.ownBlock) ps) := (List.take_append_drop _ _).symm
     rw [hs, List.pairwise_append] at hap
     exact hap.2.2 a ha b hb3
def OutDn (r : Option (List Sb)) (w : World) (e : Ending) (w' : World) : Prop := match r with
 | none => e = .returned (.tuple #[.agg #[.slice none 0 0], .bool false]) /\ Below w.heap.size w w'
 | some ss => ∃ v qs, e = .returned (.tuple #[.agg #[v], .bool true]) /\ qs.map Prod.fst = ss /\ OwnD w' w.heap.size v qs /\ Below w.heap.size w w'
theorem OutDn.none11 {r : Option (List Sb)} {w w' : World} {e : Ending} (h : r = none) (h1 : e = .returned (.tuple #[.agg #[.slice none 0 0], .bool false])) (h2 : Below w.heap.size w w') : OutDn r w e w' := by
 subst h
 exact ⟨h1, h2⟩
theorem OutDn.some11 {r : Option (List Sb)} {ss : List Sb} {w w' : World} {e : Ending} (h : r = some ss) (h1 : ∃ v qs, e = .returned (.tuple #[.agg #[v], .bool true]) /\ qs.map Prod.fst = ss /\ OwnD w' w.heap.size v qs /\ Below w.heap.size w w') : OutDn r w e w' := by
 subst h
 exact h1
end Go.Proofs.YtffkakpbelknaaaGreatDoor
namespace Go.Proofs.YtffkakpbelknaaaGreatDoor
open Go.ChangeShapes Go.WideShapes Go.ChangeAt Go.RowKit
set_option linter.unusedVariables false
end Go.Proofs.YtffkakpbelknaaaGreatDoor
namespace Go.Proofs.YtffkakpbelknaaaGreatDoor
open Go.ChangeShapes Go.WideShapes Go.ChangeAt Go.RowKit
set_option linter.unusedVariables false
end Go.Proofs.YtffkakpbelknaaaGreatDoor
namespace Go.Proofs.YtffkakpbelknaaaGreatDoor
open Go.ChangeShapes Go.WideShapes Go.ChangeAt Go.RowKit
set_option linter.unusedVariables false
end Go.Proofs.YtffkakpbelknaaaGreatDoor
namespace Go.Proofs.YtffkakpbelknaaaGreatDoor
open Go.ChangeShapes Go.WideShapes Go.ChangeAt Go.RowKit
set_option linter.unusedVariables false
theorem l9Find_any (v : Value) (es : List En) (x : ByteArray) (w : World) (h : EnAt w w.heap.size v es) :
  Calls Tryz.prog 225 #[v, .string x] w fun e w' => e = .returned (.int .i64 (atK (enKs es) x)) /\ Below w.heap.size w w' := by
 have HI := Lib.hid h
 obtain ⟨a, cap, rfl, hl, hm, hc⟩ := h.raw
 clear hc h
 unfold maxLen at hm
 have HL : Hid ((enKs es).length = es.length) := Lib.hid (by simp [enKs])
 have HX : Hid (∀ k (hk : k < es.length), (es[k].it.id.toList == x.toList) = true -> (∀ j (hj : j < es.length), j < k -> (es[j].it.id.toList == x.toList) = false) -> atK (enKs es) x = (k : Int)) := Lib.hid (fun k hk h1 h2 => by
  have : ixK (enKs es) x = some k := by
   unfold ixK
   rw [List.findIdx?_eq_some_iff_getElem]
   refine ⟨by rw [HL.out]; exact hk, by simpa [enKs] using h1, fun j hj => ?_⟩
   have := h2 j (by omega) hj
   simpa [enKs] using this
  unfold atK
  rw [this])
 have HD : Hid ((∀ j (hj : j < es.length), (es[j].it.id.toList == x.toList) = false) -> atK (enKs es) x = -1) := Lib.hid (fun h2 => by
  have : ixK (enKs es) x = none := by
   unfold ixK
   rw [List.findIdx?_eq_none_iff]
   intro k hk
   obtain ⟨s, hs, rfl⟩ := List.mem_map.1 hk
   obtain ⟨j, hj, rfl⟩ := List.getElem_of_mem hs
   exact h2 j hj
  unfold atK
  rw [this])
 generalize atK (enKs es) x = R at HX HD ⊢
 go_enter Tryz.func225, Tryz.ntmps225
 go_wp2
 go_loop [5] (fun i => ∃ k : Nat, k <= es.length /\ i = .int .i64 (k : Int) /\ Hid (∀ j (hj : j < es.length), j < k -> (es[j].it.id.toList == x.toList) = false)) (fun i => es.length - (intOf i).toNat)
 case atStart => exact ⟨0, Nat.zero_le _, rfl, Lib.hid (fun j hj h => by omega)⟩
 case round =>
  obtain ⟨k, hk, rfl, HO⟩ := hrel
  by_cases hlt : k < es.length
  ·obtain ⟨a', cap', hv, _, _, hc⟩ := HI.out.raw
   cases hv
   obtain ⟨b, off, rfl, hb, hr⟩ := hc k hlt
   obtain ⟨c0, c1, c2, c3, c4, _, _⟩ := hr k hlt
   have HK := Lib.hid (HX.out k hlt)
   have HN : Hid ((es[k].it.id.toList == x.toList) = false -> ∀ j (hj : j < es.length), j < k + 1 -> (es[j].it.id.toList == x.toList) = false) := Lib.hid (fun h j hj hjk => by
    by_cases e : j = k
    ·subst e; exact h
    ·exact HO.out j hj (by omega))
   obtain ⟨U, hU⟩ : ∃ U, U = es[k].it.id := ⟨_, rfl⟩
   rw [<- hU] at c0 HK HN
   clear hr hc hU c1 c2 c3 c4
   obtain ⟨e, he⟩ : ∃ e, (U.toList == x.toList) = e := ⟨_, rfl⟩
   rw [he] at HK HN
   cases e with
   | true =>
    have HZ : Hid (R = (k : Int)) := Lib.hid (HK.out rfl HO.out)
    go_wp2
    go_ret
    exact ⟨ret_int HZ.out.symm, Below.refl _ _⟩
   | false =>
    have HO' := Lib.hid (HN.out rfl)
    go_wp2
    refine ⟨⟨k + 1, by omega, by simp, HO'⟩, ?_⟩
    simp [intOf]; omega
  ·have HZ : Hid (R = -1) := Lib.hid (HD.out (fun j hj => HO.out j hj (by omega)))
   go_wp2
   go_ret
   exact ⟨ret_int HZ.out.symm, Below.refl _ _⟩
theorem pgL_snoc (es : List En) (d : Int) (k : Nat) (h : k < es.length) : pgL (es.take (k + 1)) d = pgL (es.take k) d ++ (if pgB es[k] d then [] else [es[k]]) := by
 unfold pgL
 rw [List.take_succ_eq_append_getElem h, List.filter_append]
 congr 1
 cases hh : pgB es[k] d with
 | true => simp [hh]
 | false => simp [hh]
theorem pgL_len (es : List En) (d : Int) (k : Nat) : (pgL (es.take k) d).length <= k := by
 unfold pgL
 have := List.length_filter_le (fun x => !pgB x d) (es.take k)
 rw [List.length_take] at this
 omega
theorem l9Purge_any (v : Value) (es : List En) (d : Int) (w : World) (h : EnAt w w.heap.size v es) (hn : es.length <= 100000) :
  Calls Tryz.prog 223 #[v, .int .i64 d] w (OutB 97 5 enC (pgL es d) w.heap.size w) := by
 have HI := Lib.hid h
 obtain ⟨a, cap, rfl, hl, hm, hc⟩ := h.raw
 clear hc h
 unfold maxLen at hm
 have ho0 := OwnR.lit (k := 5) (C := enC) 97 w w.heap.size (Nat.le_refl _)
 have hb0 : Below w.heap.size w (w.alloc (.cells #[] 97)) := (Below.refl _ _).alloc (Nat.le_refl _) _
 go_enter Tryz.func223, Tryz.ntmps223
 go_wp2
 go_loopw [5, 6] (fun o i wr => ∃ k : Nat, k <= es.length /\ i = .int .i64 (k : Int) /\ OwnR 97 5 enC wr w.heap.size o (pgL (es.take k) d) /\ Below w.heap.size w wr) (fun _ i _ => es.length - (intOf i).toNat)
 case atStart => exact ⟨0, Nat.zero_le _, rfl, ho0, hb0⟩
 case round =>
  obtain ⟨k, hk, rfl, hown, hB⟩ := hrel
  clear ho0 hb0
  by_cases hlt : k < es.length
  ·obtain ⟨a', cap', hv, _, _, hc⟩ := (HI.out.below hB).raw
   cases hv
   obtain ⟨b, off, rfl, hb, hr⟩ := hc k hlt
   obtain ⟨c0, c1, c2, c3, c4, _, _⟩ := hr k hlt
   have HS := Lib.hid (pgL_snoc es d k hlt)
   have hpl := pgL_len es d k
   obtain ⟨x, hx⟩ : ∃ x, x = es[k] := ⟨_, rfl⟩
   rw [<- hx] at c0 c1 c2 c3 c4 HS
   have HPg : Hid (pgB x d = (x.rd && (!x.st) && decide (x.it.da < d))) := Lib.hid rfl
   obtain ⟨oa, oc, rfl⟩ := hown.slice
   generalize pgL (es.take k) d = LL at hown HS hpl
   have ho1 := hown.alloc (.cells #[.string x.it.id, .string x.it.ti, .int .i64 x.it.da, .bool x.rd, .bool x.st] 97)
   have hone := one_rec enC_len wr 97 x #[.string x.it.id, .string x.it.ti, .int .i64 x.it.da, .bool x.rd, .bool x.st] rfl
   have hba := hB.alloc hB.size (.cells #[.string x.it.id, .string x.it.ti, .int .i64 x.it.da, .bool x.rd, .bool x.st] 97)
   obtain ⟨⟨S0, S1, S2⟩, S3, S4⟩ := x
   simp only at c0 c1 c2 c3 c4 HPg ho1 hone hba
   have HOw := Lib.hid hown
   have HO1 := Lib.hid ho1
   have HOn := Lib.hid hone
   have HBa := Lib.hid hba
   have HBs := Lib.hid hB
   have hsz : w.heap.size <= wr.heap.size := hB.size
   clear hr hc hx hown ho1 hone hba hB
   by_cases hp : pgB ⟨⟨S0, S1, S2⟩, S3, S4⟩ d = true
   ·rw [hp, if_pos rfl, List.append_nil] at HS
    have hq := HPg.out
    rw [hp] at hq
    obtain ⟨rfl, rfl, hd⟩ : S3 = true /\ S4 = false /\ S2 < d := by
     cases S3 <;> cases S4 <;> simp at hq
     exact ⟨rfl, rfl, hq⟩
    have hdd : decide (d <= S2) = false := decide_eq_false (by omega)
    have HN : Hid (OwnR 97 5 enC wr w.heap.size (.slice oa LL.length oc) (pgL (es.take (k + 1)) d)) := Lib.hid (by rw [HS.out]; exact HOw.out)
    clear hp hq HPg HS HO1 HOn HBa HOw
    go_wp2
    go_roundw
    case rel => exact ⟨k + 1, by omega, by go_num, HN.out, HBs.out⟩
    case measure => simp [intOf]; omega
   ·rw [if_neg hp] at HS
    have HN : Hid (∀ v' w', OwnR 97 5 enC w' w.heap.size v' (LL ++ [⟨⟨S0, S1, S2⟩, S3, S4⟩]) -> OwnR 97 5 enC w' w.heap.size v' (pgL (es.take (k + 1)) d)) := Lib.hid (fun v' w' h => by rw [HS.out]; exact h)
    have hq : (S3 && (!S4) && decide (S2 < d)) = false := by rw [<- HPg.out]; simpa using hp
    clear hp HPg HS
    cases S3 with
    | false =>
     clear hq
     go_wp2_with (at_builtin; refine wpList_appR enC_len (by decide) Tryz.underlying92 Tryz.infoEntry rfl (by decide) rfl (.tmp 37) (.tmp 42) rfl w.heap.size (wr.heap.size + 1) _ _ _ [⟨⟨S0, S1, S2⟩, false, S4⟩] rfl rfl HO1.out HOn.out (fun y _ => enC_one y) (by simp; omega) (by simp; omega) ?_; intro v1 w1 hown1 hg1)
     have hown2 := HN.out _ _ hown1
     have hB2 := HBa.out.trans (gb_Below hg1 (by simp; omega) (ownBlock_base HOw.out))
     clear hown1 hg1
     go_wp2
     go_roundw
     case rel => exact ⟨k + 1, by omega, by go_num, hown2, hB2⟩
     case measure => simp [intOf]; omega
    | true =>
     cases S4 with
     | true =>
      clear hq
      go_wp2_with (at_builtin; refine wpList_appR enC_len (by decide) Tryz.underlying92 Tryz.infoEntry rfl (by decide) rfl (.tmp 37) (.tmp 42) rfl w.heap.size (wr.heap.size + 1) _ _ _ [⟨⟨S0, S1, S2⟩, true, true⟩] rfl rfl HO1.out HOn.out (fun y _ => enC_one y) (by simp; omega) (by simp; omega) ?_; intro v1 w1 hown1 hg1)
      have hown2 := HN.out _ _ hown1
      have hB2 := HBa.out.trans (gb_Below hg1 (by simp; omega) (ownBlock_base HOw.out))
      clear hown1 hg1
      go_wp2
      go_roundw
      case rel => exact ⟨k + 1, by omega, by go_num, hown2, hB2⟩
      case measure => simp [intOf]; omega
     | false =>
      have hdd : decide (d <= S2) = true := decide_eq_true (by simp at hq; omega)
      clear hq
      go_wp2_with (at_builtin; refine wpList_appR enC_len (by decide) Tryz.underlying92 Tryz.infoEntry rfl (by decide) rfl (.tmp 37) (.tmp 42) rfl w.heap.size (wr.heap.size + 1) _ _ _ [⟨⟨S0, S1, S2⟩, true, false⟩] rfl rfl HO1.out HOn.out (fun y _ => enC_one y) (by simp; omega) (by simp; omega) ?_; intro v1 w1 hown1 hg1)
      have hown2 := HN.out _ _ hown1
      have hB2 := HBa.out.trans (gb_Below hg1 (by simp; omega) (ownBlock_base HOw.out))
      clear hown1 hg1
      go_wp2
      go_roundw
      case rel => exact ⟨k + 1, by omega, by go_num, hown2, hB2⟩
      case measure => simp [intOf]; omega
  ·have hke : k = es.length := by omega
   subst hke
   rw [List.take_length] at hown
   go_wp2
   go_ret
   exact ⟨_, rfl, hown, hB⟩
end Go.Proofs.YtffkakpbelknaaaGreatDoor
namespace Go.Proofs.YtffkakpbelknaaaGreatDoor
open Go.ChangeShapes Go.WideShapes Go.ChangeAt Go.RowKit
set_option linter.unusedVariables false
theorem l9Mark_any (x : En) (k : Int) (w : World) (hk : k = 4 \/ k = 5 \/ k = 6 \/ k = 7) :
  Calls Tryz.prog 226 #[enV x.it.id x.it.ti x.it.da x.rd x.st, .int .i64 k] w fun e w' => e = .returned (enV (mkE x k).it.id (mkE x k).it.ti (mkE x k).it.da (mkE x k).rd (mkE x k).st) /\ Below w.heap.size w w' := by
 obtain ⟨⟨s, t, d⟩, r, b⟩ := x
 simp only
 have hW : ∀ o1 o2, Below w.heap.size w ((w.alloc o1).alloc o2) := fun o1 o2 => ((Below.refl _ _).alloc (Nat.le_refl _) _).alloc (by simp) _
 rcases hk with rfl | rfl | rfl | rfl
 ·go_enter Tryz.func226, Tryz.ntmps226
  go_wp2
  refine bodyPost_ret (v := enV s t d true b) (by simp [results, Tryz.results226, go_sem]) rfl ⟨?_, ?_⟩
  ·rfl
  ·exact hW _ _
 ·go_enter Tryz.func226, Tryz.ntmps226
  go_wp2
  refine bodyPost_ret (v := enV s t d false b) (by simp [results, Tryz.results226, go_sem]) rfl ⟨?_, ?_⟩
  ·rfl
  ·exact hW _ _
 ·go_enter Tryz.func226, Tryz.ntmps226
  go_wp2
  refine bodyPost_ret (v := enV s t d r true) (by simp [results, Tryz.results226, go_sem]) rfl ⟨?_, ?_⟩
  ·rfl
  ·exact hW _ _
 ·go_enter Tryz.func226, Tryz.ntmps226
  go_wp2
  refine bodyPost_ret (v := enV s t d r false) (by simp [results, Tryz.results226, go_sem]) rfl ⟨?_, ?_⟩
  ·rfl
  ·exact hW _ _
theorem l9Oldest_any (v : Value) (es : List En) (w : World) (h : EnAt w w.heap.size v es) (h0 : 0 < es.length) :
  Calls Tryz.prog 244 #[v] w fun e w' => e = .returned (.int .i64 ((goP es es.length : Nat) : Int)) /\ Below w.heap.size w w' := by
 have HI := Lib.hid h
 obtain ⟨a, cap, rfl, hl, hm, hc⟩ := h.raw
 clear hc h
 unfold maxLen at hm
 go_enter Tryz.func244, Tryz.ntmps244
 go_wp2
 go_loopw [3, 4] (fun p i wr => ∃ k : Nat, k <= es.length /\ i = .int .i64 (k : Int) /\ ((k = 0 /\ p = .int .i64 (-1)) \/ (0 < k /\ p = .int .i64 ((goP es k : Nat) : Int))) /\ Below w.heap.size w wr) (fun _ i _ => es.length - (intOf i).toNat)
 case atStart => exact ⟨0, Nat.zero_le _, rfl, .inl ⟨rfl, rfl⟩, Below.refl _ _⟩
 case round =>
  obtain ⟨k, hk, rfl, hp, hB⟩ := hrel
  have HB : Hid (∀ n, Below w.heap.size w (wr.drewN n)) := Lib.hid (fun n => below_drewN hB n)
  by_cases hlt : k < es.length
  ·obtain ⟨a', cap', hv, _, _, hc⟩ := (HI.out.below hB).raw
   cases hv
   obtain ⟨b, off, rfl, hb, hr⟩ := hc k hlt
   obtain ⟨c0, c1, c2, c3, c4, _, _⟩ := hr k hlt
   rcases hp with ⟨rfl, rfl⟩ | ⟨hk0, rfl⟩
   ·have HG : Hid (goP es (0 + 1) = 0) := Lib.hid (by have := goP_step es 0 0 hlt hlt rfl; rw [this]; split <;> rfl)
    clear c0 c1 c2 c3 c4 hr hc hB
    have hk1 : decide ((-1 : Int) < 0) = true := rfl
    go_wp2
    go_quiet (fail)
    go_wp2
    go_roundw
    case rel => exact ⟨0 + 1, by omega, by go_num, .inr ⟨by omega, by rw [HG.out]⟩, HB.out _⟩
    case measure => simp [intOf]; omega
   ·obtain ⟨p, hpe⟩ : ∃ p, goP es k = p := ⟨_, rfl⟩
    have hpk : p < k := by rw [<- hpe]; exact (goP_lt es k).2 hk0
    have hpl : p < es.length := by omega
    obtain ⟨e0, e1, e2, e3, e4, _, _⟩ := hr p hpl
    have HG0 := Lib.hid (goP_step es k p hlt hpl hpe)
    rw [hpe]
    have HGh : Hid (ghB es[k] es[p] = if es[k].st != es[p].st then es[p].st else decide (es[k].it.da < es[p].it.da)) := Lib.hid rfl
    generalize ghB es[k] es[p] = Q at HG0 HGh
    obtain ⟨s1, hs1⟩ : ∃ x, x = es[k].st := ⟨_, rfl⟩
    obtain ⟨s2, hs2⟩ : ∃ x, x = es[p].st := ⟨_, rfl⟩
    obtain ⟨n1, hn1⟩ : ∃ x, x = es[k].it.da := ⟨_, rfl⟩
    obtain ⟨n2, hn2⟩ : ∃ x, x = es[p].it.da := ⟨_, rfl⟩
    rw [<- hs1] at c4 HGh
    rw [<- hs2] at e4 HGh
    rw [<- hn1] at c2 HGh
    rw [<- hn2] at e2 HGh
    have hp0 : decide ((p : Int) < 0) = false := decide_eq_false (by omega)
    clear c0 c1 c3 e0 e1 e3 hr hc hB hs1 hs2 hn1 hn2 hpe
    cases s1 with
    | false =>
     cases s2 with
     | true =>
      have HG : Hid (goP es (k + 1) = k) := Lib.hid (by have := HGh.out; rw [HG0.out, this]; rfl)
      go_wp2
      go_quiet (fail)
      go_wp2
      go_roundw
      case rel => exact ⟨k + 1, by omega, by go_num, .inr ⟨by omega, by rw [HG.out]⟩, HB.out _⟩
      case measure => simp [intOf]; omega
     | false =>
      by_cases hd : n1 < n2
      ·have hdd : decide (n1 < n2) = true := decide_eq_true hd
       have HG : Hid (goP es (k + 1) = k) := Lib.hid (by have := HGh.out; rw [HG0.out, this, hdd]; rfl)
       go_wp2
       go_quiet (fail)
       go_wp2
       go_roundw
       case rel => exact ⟨k + 1, by omega, by go_num, .inr ⟨by omega, by rw [HG.out]⟩, HB.out _⟩
       case measure => simp [intOf]; omega
      ·have hdd : decide (n1 < n2) = false := decide_eq_false hd
       have HG : Hid (goP es (k + 1) = p) := Lib.hid (by have := HGh.out; rw [HG0.out, this, hdd]; rfl)
       go_wp2
       go_quiet (fail)
       go_wp2
       go_roundw
       case rel => exact ⟨k + 1, by omega, by go_num, .inr ⟨by omega, by rw [HG.out]⟩, HB.out _⟩
       case measure => simp [intOf]; omega
    | true =>
     cases s2 with
     | false =>
      have HG : Hid (goP es (k + 1) = p) := Lib.hid (by have := HGh.out; rw [HG0.out, this]; rfl)
      go_wp2
      go_quiet (fail)
      go_wp2
      go_roundw
      case rel => exact ⟨k + 1, by omega, by go_num, .inr ⟨by omega, by rw [HG.out]⟩, HB.out _⟩
      case measure => simp [intOf]; omega
     | true =>
      by_cases hd : n1 < n2
      ·have hdd : decide (n1 < n2) = true := decide_eq_true hd
       have HG : Hid (goP es (k + 1) = k) := Lib.hid (by have := HGh.out; rw [HG0.out, this, hdd]; rfl)
       go_wp2
       go_quiet (fail)
       go_wp2
       go_roundw
       case rel => exact ⟨k + 1, by omega, by go_num, .inr ⟨by omega, by rw [HG.out]⟩, HB.out _⟩
       case measure => simp [intOf]; omega
      ·have hdd : decide (n1 < n2) = false := decide_eq_false hd
       have HG : Hid (goP es (k + 1) = p) := Lib.hid (by have := HGh.out; rw [HG0.out, this, hdd]; rfl)
       go_wp2
       go_quiet (fail)
       go_wp2
       go_roundw
       case rel => exact ⟨k + 1, by omega, by go_num, .inr ⟨by omega, by rw [HG.out]⟩, HB.out _⟩
       case measure => simp [intOf]; omega
  ·have hke : k = es.length := by omega
   obtain ⟨_, rfl⟩ : 0 < k /\ _ := by
    rcases hp with ⟨rfl, _⟩ | h
    ·omega
    ·exact h
   subst hke
   go_wp2
   go_ret
   exact ⟨rfl, hB⟩
end Go.Proofs.YtffkakpbelknaaaGreatDoor
namespace Go.Proofs.YtffkakpbelknaaaGreatDoor
open Go.ChangeShapes Go.WideShapes Go.ChangeAt Go.RowKit
set_option linter.unusedVariables false
theorem ft1_there {es : List En} {it : It} {p : Nat} (hf : fnB (enKs es) it.id = true) (hpl : plK (enKs es) it.id = p) (hp : p < es.length) : ft1 es it = es.set p ⟨it, es[p].rd, es[p].st⟩ := by
 unfold ft1 neE
 rw [hf, hpl, if_pos rfl, putP_set _ _ _ hp, List.getElem?_eq_getElem hp]
 rfl
theorem ft1_new {es : List En} {it : It} {p : Nat} (hf : fnB (enKs es) it.id = false) (hpl : plK (enKs es) it.id = p) : ft1 es it = (es.take p ++ [⟨it, false, false⟩]) ++ es.drop p := by
 unfold ft1 neE putP
 rw [hf, hpl, if_neg (by simp), if_neg (by simp), List.append_assoc]
 rfl
theorem atK_there {ks : List ByteArray} (hr : risB ks = true) {x : ByteArray} (hf : fnB ks x = true) : atK ks x = ((plK ks x : Nat) : Int) := by
 unfold atK
 rw [ix_pl hr, hf]
 rfl
theorem atK_not {ks : List ByteArray} (hr : risB ks = true) {x : ByteArray} (hf : fnB ks x = false) : atK ks x = -1 := by
 unfold atK
 rw [ix_pl hr, hf]
 rfl
theorem fn_lt {ks : List ByteArray} {x : ByteArray} (hf : fnB ks x = true) : plK ks x < ks.length := by
 unfold fnB at hf
 rcases Nat.lt_or_ge (plK ks x) ks.length with h | h
 ·exact h
 ·rw [List.getElem?_eq_none h] at hf; cases hf
theorem l9Put_there (v : Value) (es : List En) (it : It) (w : World) (h : EnAt w w.heap.size v es) (hr : risB (enKs es) = true) (hn : es.length <= 1000) (hf : fnB (enKs es) it.id = true) :
  Calls Tryz.prog 243 #[v, itV it.id it.ti it.da] w (OutB 97 5 enC (ft1 es it) w.heap.size w) := by
 have hP := fn_lt hf
 rw [show (enKs es).length = es.length by simp [enKs]] at hP
 have HF := Lib.hid (fun w h => l9Find_any v es it.id w h)
 rw [atK_there hr hf] at HF
 have HE := Lib.hid (ft1_there hf rfl hP)
 rw [HE.out]
 generalize plK (enKs es) it.id = p at hP HF
 have HI := Lib.hid h
 obtain ⟨a, cap, rfl, hl, hm, hc⟩ := h.raw
 unfold maxLen at hm
 clear hc h hr hf HE
 have hb0 : Below w.heap.size w (w.alloc (.cells #[.string it.id, .string it.ti, .int .i64 it.da] 55)) := (Below.refl _ _).alloc (Nat.le_refl _) _
 have hx0 := Box.new w #[.string it.id, .string it.ti, .int .i64 it.da] 55
 have hge : decide (0 <= (p : Int)) = true := decide_eq_true (by omega)
 obtain ⟨R, hR⟩ : ∃ R, es.set p ⟨it, es[p].rd, es[p].st⟩ = R := ⟨_, rfl⟩
 have HR := Lib.hid hR
 rw [hR]
 clear hR
 obtain ⟨I0, I1, I2⟩ := it
 simp only at hx0 hb0 HF HR ⊢
 go_enter Tryz.func243, Tryz.ntmps243
 go_wp2_with fail
 refine (HF.out _ ((HI.out.below hb0).mono hb0.size)).mono ?_
 rintro e w1 ⟨rfl, hb1⟩
 have hB1 := hb0.trans (hb1.mono hb0.size)
 have hx1 := hx0.keep hb1 hx0.lt
 have HRc := Lib.hid (((HI.out.below hB1).mono hB1.size).1)
 have hba1 : Below w1.heap.size w1 (w1.alloc (.cells #[] 97)) := (Below.refl _ _).alloc (Nat.le_refl _) _
 have HRc2 := Lib.hid ((HRc.out.below hba1))
 have HL0 := Lib.hid (OwnR.lit (k := 5) (C := enC) 97 w1 w1.heap.size (Nat.le_refl _))
 clear hb0 hb1 hx0 HRc
 go_wp2_with (
  at_builtin
  refine wpList_appR enC_len (by decide) Tryz.underlying92 Tryz.infoEntry rfl (by decide) rfl (.tmp 12) (.tmp 13) rfl w1.heap.size w1.heap.size _ _ [] es rfl rfl HL0.out HRc2.out (fun y _ => enC_one y) (by simp; omega) (by simp) ?_
  intro v2 w2 hown2 hg2
  have hb2 : Below w1.heap.size w1 w2 := hba1.trans (gb_Below hg2 (by simp) (ownBlock_base HL0.out))
  have hx2 := hx1.keep hb2 hx1.lt
  rw [List.nil_append] at hown2
  rcases hown2.2 with ⟨_, hz⟩ | ⟨g, c2, cur, rfl, hgb, _, hlc, hcm, _⟩
  ·have : es.length = 0 := hz
   omega
  have d0 : w2.cell? ⟨g, p * 5 + 0, none⟩ = some (.string es[p].it.id) := hown2.val enC_len rfl p 0 _ hP rfl
  have d1 : w2.cell? ⟨g, p * 5 + 1, none⟩ = some (.string es[p].it.ti) := hown2.val enC_len rfl p 1 _ hP rfl
  have d2 : w2.cell? ⟨g, p * 5 + 2, none⟩ = some (.int .i64 es[p].it.da) := hown2.val enC_len rfl p 2 _ hP rfl
  have hfr := hown2.free rfl
  have f0 : w2.cell? ⟨w.heap.size, 0, none⟩ = some (.string I0) := hx2.cell 0 _ rfl
  have f1 : w2.cell? ⟨w.heap.size, 1, none⟩ = some (.string I1) := hx2.cell 1 _ rfl
  have f2 : w2.cell? ⟨w.heap.size, 2, none⟩ = some (.int .i64 I2) := hx2.cell 2 _ rfl
  have HO := Lib.hid hown2
  have HB2 := Lib.hid (hB1.trans (hb2.mono hB1.size))
  have hws : w.heap.size <= w1.heap.size := hB1.size
  unfold maxLen at hcm
  rw [Nat.add_zero] at d0
  have hgx : w.heap.size ≠ g := by have := hx1.lt; omega
  clear hown2 hg2 hb2 hB1 hx1 hx2 hba1 HRc2 HL0 HI HF)
 have e1 := HO.out.setF enC_len rfl p 0 ⟨⟨I0, es[p].it.ti, es[p].it.da⟩, es[p].rd, es[p].st⟩ (.string I0) hP (by decide) rfl
 have e2 := e1.setF enC_len (by simp) p 1 ⟨⟨I0, I1, es[p].it.da⟩, es[p].rd, es[p].st⟩ (.string I1) (by simp; omega) (by decide) (by rw [List.getElem_set_self]; rfl)
 have e3 := e2.setF enC_len (by simp) p 2 ⟨⟨I0, I1, I2⟩, es[p].rd, es[p].st⟩ (.int .i64 I2) (by simp; omega) (by decide) (by rw [List.getElem_set_self]; rfl)
 rw [List.set_set, List.set_set, HR.out] at e3
 rw [Nat.add_zero] at e3
 have hB3 := ((HB2.out.setCell (p := ⟨g, p * 5, none⟩) (by simp; omega) (.string I0)).setCell (p := ⟨g, p * 5 + 1, none⟩) (by simp; omega) (.string I1)).setCell (p := ⟨g, p * 5 + 2, none⟩) (by simp; omega) (.int .i64 I2)
 go_ret
 exact ⟨_, rfl, e3.base_mono hws, hB3⟩
theorem l9Put_new (v : Value) (es : List En) (it : It) (w : World) (h : EnAt w w.heap.size v es) (hr : risB (enKs es) = true) (hn : es.length <= 1000) (hf : fnB (enKs es) it.id = false) :
  Calls Tryz.prog 243 #[v, itV it.id it.ti it.da] w (OutB 97 5 enC (ft1 es it) w.heap.size w) := by
 have hpl := plK_le (enKs es) it.id
 rw [show (enKs es).length = es.length by simp [enKs]] at hpl
 have HF := Lib.hid (fun w h => l9Find_any v es it.id w h)
 rw [atK_not hr hf] at HF
 have HE := Lib.hid (ft1_new hf (p := plK (enKs es) it.id) rfl)
 have HLo : Hid (∀ t (ht : t < es.length), t < plK (enKs es) it.id -> Op.bytesLess es[t].it.id.toList it.id.toList = true) := Lib.hid (fun t ht htp => by
  have h1 := plK_lo (enKs es) it.id t htp
  have htk : t < (enKs es).length := by simpa [enKs] using ht
  have h2 : ltK (enKs es)[t] it.id = true := by rw [ltK_cmp]; exact decide_eq_true h1
  simpa [enKs, ltK] using h2)
 have HHi : Hid (∀ (ht : plK (enKs es) it.id < es.length), Op.bytesLess es[plK (enKs es) it.id].it.id.toList it.id.toList = false) := Lib.hid (fun ht => by
  have htk : plK (enKs es) it.id < (enKs es).length := by simpa [enKs] using ht
  have h1 := plK_hi (ks := enKs es) (x := it.id) htk
  have h2 : ltK (enKs es)[plK (enKs es) it.id] it.id = false := by rw [ltK_cmp]; exact decide_eq_false h1
  simpa [enKs, ltK] using h2)
 rw [HE.out]
 generalize plK (enKs es) it.id = p at hpl HF HLo HHi ⊢
 have HI := Lib.hid h
 obtain ⟨a, cap, rfl, hl, hm, hc⟩ := h.raw
 unfold maxLen at hm
 clear hc h hr hf HE
 have hb0 : Below w.heap.size w (w.alloc (.cells #[.string it.id, .string it.ti, .int .i64 it.da] 55)) := (Below.refl _ _).alloc (Nat.le_refl _) _
 have hx0 := Box.new w #[.string it.id, .string it.ti, .int .i64 it.da] 55
 go_enter Tryz.func243, Tryz.ntmps243
 go_wp2_with fail
 refine (HF.out _ ((HI.out.below hb0).mono hb0.size)).mono ?_
 rintro e w1 ⟨rfl, hb1⟩
 have hB1 := hb0.trans (hb1.mono hb0.size)
 have hx1 := hx0.keep hb1 hx0.lt
 have HRc := Lib.hid (((HI.out.below hB1).mono hB1.size).1)
 have hba1 : Below w1.heap.size w1 (w1.alloc (.cells #[] 97)) := (Below.refl _ _).alloc (Nat.le_refl _) _
 have HRc2 := Lib.hid ((HRc.out.below hba1))
 have HL0 := Lib.hid (OwnR.lit (k := 5) (C := enC) 97 w1 w1.heap.size (Nat.le_refl _))
 clear hb0 hb1 hx0 HRc
 go_wp2_with (
  at_builtin
  refine wpList_appR enC_len (by decide) Tryz.underlying92 Tryz.infoEntry rfl (by decide) rfl (.tmp 12) (.tmp 13) rfl w1.heap.size w1.heap.size _ _ [] es rfl rfl HL0.out HRc2.out (fun y _ => enC_one y) (by simp; omega) (by simp) ?_
  intro v2 w2 hown2 hg2
  have hb2 : Below w1.heap.size w1 w2 := hba1.trans (gb_Below hg2 (by simp) (ownBlock_base HL0.out))
  have hx2 := hx1.keep hb2 hx1.lt
  have hB2 := hB1.trans (hb2.mono hB1.size)
  clear hown2 hg2 hb2 hB1 hx1 hba1 HRc2 HL0 HF)
 go_loopw [7] (fun i wr => ∃ k : Nat, k <= p /\ i = .int .i64 (k : Int) /\ Box wr w.heap.size #[.string it.id, .string it.ti, .int .i64 it.da] 55 /\ Below w.heap.size w wr) (fun i _ => p - (intOf i).toNat)
 case atStart => exact ⟨0, Nat.zero_le _, rfl, hx2, hB2⟩
 case round =>
  obtain ⟨k, hk, rfl, hx, hB⟩ := hrel
  clear hx2 hB2
  have f0 := hx.cell 0 _ rfl
  have f1 := hx.cell 1 _ rfl
  have f2 := hx.cell 2 _ rfl
  have HBn : Hid (∀ n, Below w.heap.size w (wr.drewN n)) := Lib.hid (fun n => below_drewN hB n)
  have HXn : Hid (∀ n, Box (wr.drewN n) w.heap.size #[.string it.id, .string it.ti, .int .i64 it.da] 55) := Lib.hid (fun n => hx)
  by_cases hkp : k < p
  ·have hlt : k < es.length := by omega
   obtain ⟨a', cap', hv, _, _, hc⟩ := (HI.out.below hB).raw
   cases hv
   obtain ⟨b, off, rfl, hb, hr⟩ := hc k hlt
   obtain ⟨c0, _, _, _, _, _, _⟩ := hr k hlt
   have hlo := HLo.out k hlt hkp
   have hkl : decide ((k : Int) < (es.length : Int)) = true := decide_eq_true (by omega)
   clear hr hc hB hx
   go_wp2
   go_quiet (fail)
   go_wp2
   go_roundw
   case rel => exact ⟨k + 1, by omega, by go_num, HXn.out _, HBn.out _⟩
   case measure => simp [intOf]; omega
  ·obtain rfl : k = p := by omega
   by_cases hke : k < es.length
   ·obtain ⟨a', cap', hv, _, _, hc⟩ := (HI.out.below hB).raw
    cases hv
    obtain ⟨b, off, rfl, hb, hr⟩ := hc k hke
    obtain ⟨c0, _, _, _, _, _, _⟩ := hr k hke
    have HLf := Lib.hid (HHi.out hke)
    have HKl : Hid (decide ((k : Int) < (es.length : Int)) = true) := Lib.hid (decide_eq_true (by omega))
    have hcp : ¬ cap = k := by omega
    clear hr hc f0 f1 f2 HBn HXn
    go_wp2
    refine wp_region_T (fun w' => (Box w' w.heap.size #[.string it.id, .string it.ti, .int .i64 it.da] 55) /\ w'.cell? ⟨b, off + k * 5, none⟩ = some (.string es[k].it.id)) (fun _ => True) 14 (by kernel_rfl) 15 rfl ?_
    refine wA 1 [0, 1, 2, 3, 4, 5, 6, 7, 8, 9, 10, 11, 12, 13] ⟨⟨hx.drew, c0⟩, fun _ => trivial⟩ ?_
    simp only [pick, List.filterMap_cons, List.filterMap_nil, List.getElem?_cons_zero, List.getElem?_cons_succ]
    refine wS (.int .i64 (k : Int)) (fun w hw => by go_simp) ?_
    refine wS (.slice (some ⟨b, off, none⟩) es.length cap) (fun w hw => by go_simp) ?_
    refine wS (.int .i64 (es.length : Int)) (fun w hw => by go_simp) ?_
    refine wS (.bool true) (fun w hw => by have hkl := HKl.out; go_simp) ?_
    refine wS (.bool true) (fun w hw => by go_simp) ?_
    refine wS (.slice (some ⟨b, off, none⟩) es.length cap) (fun w hw => by go_simp) ?_
    refine wS (.int .i64 (k : Int)) (fun w hw => by go_simp) ?_
    refine wS (.pointer (some ⟨b, off + k * 5, none⟩)) (fun w hw => by go_simp) ?_
    refine wS (.pointer (some ⟨b, off + k * 5, none⟩)) (fun w hw => by go_simp) ?_
    refine wS (.pointer (some ⟨b, off + k * 5, none⟩)) (fun w hw => by go_simp) ?_
    refine wS (.string es[k].it.id) (fun w hw => by have e0 := hw.2; go_simp) ?_
    refine wS (.pointer (some ⟨w.heap.size, 0, none⟩)) (fun w hw => by go_simp) ?_
    refine wS (.string it.id) (fun w hw => by have e0 : w.cell? ⟨_, 0, none⟩ = some (.string it.id) := hw.1.cell 0 _ rfl; go_simp) ?_
    refine wS (.bool false) (fun w hw => by have hlo := HLf.out; go_simp) ?_
    refine wpIf_nil (fun hS => ?_)
    clear hS
    refine wO 14 0 (fun K hK => ?_)
    go_simp
    refine hK _ _ ⟨⟨hx.drew, c0⟩, fun _ => trivial⟩ (fun hS => ?_)
    clear hK K hS
    refine wpAnyT_over (by kernel_rfl) ?_
    clear c0 HLf HKl
    have hWb : Below w.heap.size w wr.drew := hB.drew
    have HRw := Lib.hid (((HI.out.below hWb).mono hWb.size).1)
    have HXw := Lib.hid hx.drew
    have HWb := Lib.hid hWb
    clear hB hx hWb
    generalize wr.drew = W at HRw HXw HWb ⊢
    have hws : w.heap.size <= W.heap.size := HWb.out.size
    have HT0 : Hid (RecAt 5 enC (W.alloc (.cells #[] 97)) W.heap.size (.slice (some ⟨b, off, none⟩) k cap) (es.take k)) := Lib.hid ((HRw.out.take k hpl).below ((Below.refl _ _).alloc (Nat.le_refl _) _))
    have HL0 := Lib.hid (OwnR.lit (k := 5) (C := enC) 97 W w.heap.size hws)
    have HA0 := Lib.hid (HWb.out.alloc HWb.out.size (.cells #[] 97))
    have htl : (es.take k).length = k := by rw [List.length_take]; omega
    have hdl : (es.drop k).length = es.length - k := List.length_drop
    go_wp2_with (first
     | (at_builtin
        refine wpList_appR enC_len (by decide) Tryz.underlying92 Tryz.infoEntry rfl (by decide) rfl (.tmp 40) (.tmp 43) rfl w.heap.size W.heap.size _ _ [] (es.take k) rfl rfl HL0.out HT0.out (fun y _ => enC_one y) (by simp; omega) (by simp; omega) ?_
        intro v3 w3 hown3 hg3
        have hB3 := HA0.out.trans (gb_Below hg3 (by simp; omega) (ownBlock_base HL0.out))
        have hb3 : Below W.heap.size W w3 := ((Below.refl _ _).alloc (Nat.le_refl _) _).trans (gb_Below hg3 (by simp) (by intro b hb; cases hb; exact Nat.le_refl _))
        rw [List.nil_append] at hown3
        have HX3 := HXw.out.keep hb3 HXw.out.lt
        have f0 : w3.cell? ⟨w.heap.size, 0, none⟩ = some (.string it.id) := HX3.cell 0 _ rfl
        have f1 : w3.cell? ⟨w.heap.size, 1, none⟩ = some (.string it.ti) := HX3.cell 1 _ rfl
        have f2 : w3.cell? ⟨w.heap.size, 2, none⟩ = some (.int .i64 it.da) := HX3.cell 2 _ rfl
        have HO3 := Lib.hid (hown3.alloc (.cells #[.string it.id, .string it.ti, .int .i64 it.da, .bool false, .bool false] 97))
        have HN3 := Lib.hid (one_rec enC_len w3 97 ⟨it, false, false⟩ #[.string it.id, .string it.ti, .int .i64 it.da, .bool false, .bool false] rfl)
        have HB3 := Lib.hid (hB3.alloc hB3.size (.cells #[.string it.id, .string it.ti, .int .i64 it.da, .bool false, .bool false] 97))
        have hs3 : w.heap.size <= w3.heap.size := hB3.size
        have Hb3 := Lib.hid hb3
        have HOb := Lib.hid (ownBlock_base hown3)
        clear hown3 hg3 hB3 hb3 HX3)
     | (at_builtin
        refine wpList_appR enC_len (by decide) Tryz.underlying92 Tryz.infoEntry rfl (by decide) rfl (.tmp 45) (.tmp 48) rfl w.heap.size (w3.heap.size + 1) _ _ (es.take k) [⟨it, false, false⟩] rfl rfl HO3.out HN3.out (fun y _ => enC_one y) (by simp; omega) (by simp; omega) ?_
        intro v4 w4 hown4 hg4
        have HB4 := Lib.hid (HB3.out.trans (gb_Below hg4 (by simp; omega) HOb.out))
        have HO4 := Lib.hid hown4
        have hs4 : w.heap.size <= w4.heap.size := HB4.out.size
        have HR4 : Hid (RecAt 5 enC w4 w.heap.size (.slice (some ⟨b, off + k * 5, none⟩) (es.length - k) (cap - k)) (es.drop k)) := Lib.hid (by
         exact (HI.out.below HB4.out).1.drop k hpl (fun _ b2 off2 hab => by cases hab; rfl))
        have HOb4 := Lib.hid (ownBlock_base hown4)
        clear hown4 hg4)
     | (at_builtin
        refine wpList_appR enC_len (by decide) Tryz.underlying92 Tryz.infoEntry rfl (by decide) rfl (.tmp 50) (.tmp 53) rfl w.heap.size w.heap.size _ _ (es.take k ++ ([⟨it, false, false⟩] : List En)) (es.drop k) rfl rfl HO4.out HR4.out (fun y _ => enC_one y) (by simp; omega) hs4 ?_
        intro v5 w5 hown5 hg5
        have hB5 := HB4.out.trans (gb_Below hg5 hs4 HOb4.out)))
    go_ret
    exact ⟨_, rfl, hown5, hB5⟩
   ·have hkl : decide ((k : Int) < (es.length : Int)) = false := decide_eq_false (by omega)
    clear f0 f1 f2 HBn HXn
    rcases Nat.eq_or_lt_of_le (show k <= cap by omega) with hcp | hcp
    ·obtain rfl : cap = k := hcp.symm
     clear hcp
     go_wp2
     refine wp_region_T (fun w' => Box w' w.heap.size #[.string it.id, .string it.ti, .int .i64 it.da] 55) (fun _ => True) 14 (by kernel_rfl) 15 rfl ?_
     refine wA 1 [0, 1, 2, 3, 4, 5, 6, 7, 8, 9, 10, 11, 12, 13] ⟨hx.drew, fun _ => trivial⟩ ?_
     simp only [pick, List.filterMap_cons, List.filterMap_nil, List.getElem?_cons_zero, List.getElem?_cons_succ]
     refine wS (.int .i64 (cap : Int)) (fun w hw => by go_simp) ?_
     refine wS (.slice a es.length cap) (fun w hw => by go_simp) ?_
     refine wS (.int .i64 (es.length : Int)) (fun w hw => by go_simp) ?_
     refine wS (.bool false) (fun w hw => by go_simp) ?_
     refine wS (.bool false) (fun w hw => by go_simp) ?_
     refine wpIf_skip (by kernel_rfl) ?_
     refine wpIf_skip (by kernel_rfl) ?_
     refine wpIf_skip (by kernel_rfl) ?_
     refine wpIf_skip (by kernel_rfl) ?_
     refine wpIf_skip (by kernel_rfl) ?_
     refine wpIf_skip (by kernel_rfl) ?_
     refine wpIf_skip (by kernel_rfl) ?_
     refine wpIf_skip (by kernel_rfl) ?_
     refine wpIf_skip (by kernel_rfl) ?_
     refine wpIf_nil (fun hS => ?_)
     clear hS
     refine wO 14 0 (fun K hK => ?_)
     go_simp
     refine hK _ _ ⟨hx.drew, fun _ => trivial⟩ (fun hS => ?_)
     clear hK K hS
     refine wpAnyT_over (by kernel_rfl) ?_
     have hWb : Below w.heap.size w wr.drew := hB.drew
     have HRw := Lib.hid (((HI.out.below hWb).mono hWb.size).1)
     have HXw := Lib.hid hx.drew
     have HWb := Lib.hid hWb
     clear hB hx hWb
     generalize wr.drew = W at HRw HXw HWb ⊢
     have hws : w.heap.size <= W.heap.size := HWb.out.size
     have HT0 : Hid (RecAt 5 enC (W.alloc (.cells #[] 97)) W.heap.size (.slice a cap cap) (es.take cap)) := Lib.hid ((HRw.out.take cap hpl).below ((Below.refl _ _).alloc (Nat.le_refl _) _))
     have HL0 := Lib.hid (OwnR.lit (k := 5) (C := enC) 97 W w.heap.size hws)
     have HA0 := Lib.hid (HWb.out.alloc HWb.out.size (.cells #[] 97))
     have htl : (es.take cap).length = cap := by rw [List.length_take]; omega
     have hdl : (es.drop cap).length = es.length - cap := List.length_drop
     go_wp2_with (first
      | (at_builtin
         refine wpList_appR enC_len (by decide) Tryz.underlying92 Tryz.infoEntry rfl (by decide) rfl (.tmp 40) (.tmp 43) rfl w.heap.size W.heap.size _ _ [] (es.take cap) rfl rfl HL0.out HT0.out (fun y _ => enC_one y) (by simp; omega) (by simp; omega) ?_
         intro v3 w3 hown3 hg3
         have hB3 := HA0.out.trans (gb_Below hg3 (by simp; omega) (ownBlock_base HL0.out))
         have hb3 : Below W.heap.size W w3 := ((Below.refl _ _).alloc (Nat.le_refl _) _).trans (gb_Below hg3 (by simp) (by intro b hb; cases hb; exact Nat.le_refl _))
         rw [List.nil_append] at hown3
         have HX3 := HXw.out.keep hb3 HXw.out.lt
         have f0 : w3.cell? ⟨w.heap.size, 0, none⟩ = some (.string it.id) := HX3.cell 0 _ rfl
         have f1 : w3.cell? ⟨w.heap.size, 1, none⟩ = some (.string it.ti) := HX3.cell 1 _ rfl
         have f2 : w3.cell? ⟨w.heap.size, 2, none⟩ = some (.int .i64 it.da) := HX3.cell 2 _ rfl
         have HO3 := Lib.hid (hown3.alloc (.cells #[.string it.id, .string it.ti, .int .i64 it.da, .bool false, .bool false] 97))
         have HN3 := Lib.hid (one_rec enC_len w3 97 ⟨it, false, false⟩ #[.string it.id, .string it.ti, .int .i64 it.da, .bool false, .bool false] rfl)
         have HB3 := Lib.hid (hB3.alloc hB3.size (.cells #[.string it.id, .string it.ti, .int .i64 it.da, .bool false, .bool false] 97))
         have hs3 : w.heap.size <= w3.heap.size := hB3.size
         have Hb3 := Lib.hid hb3
         have HOb := Lib.hid (ownBlock_base hown3)
         clear hown3 hg3 hB3 hb3 HX3)
      | (at_builtin
         refine wpList_appR enC_len (by decide) Tryz.underlying92 Tryz.infoEntry rfl (by decide) rfl (.tmp 45) (.tmp 48) rfl w.heap.size (w3.heap.size + 1) _ _ (es.take cap) [⟨it, false, false⟩] rfl rfl HO3.out HN3.out (fun y _ => enC_one y) (by simp; omega) (by simp; omega) ?_
         intro v4 w4 hown4 hg4
         have HB4 := Lib.hid (HB3.out.trans (gb_Below hg4 (by simp; omega) HOb.out))
         have HO4 := Lib.hid hown4
         have hs4 : w.heap.size <= w4.heap.size := HB4.out.size
         have HR4 : Hid (RecAt 5 enC w4 w.heap.size (.slice a 0 0) (es.drop cap)) := Lib.hid (by
          exact drop_eq (((HI.out.below HB4.out).1.drop cap hpl (a2 := a) (fun hlt => by omega))) (by omega) (by omega))
         have HOb4 := Lib.hid (ownBlock_base hown4)
         clear hown4 hg4)
      | (at_builtin
         refine wpList_appR enC_len (by decide) Tryz.underlying92 Tryz.infoEntry rfl (by decide) rfl (.tmp 50) (.tmp 53) rfl w.heap.size w.heap.size _ _ (es.take cap ++ ([⟨it, false, false⟩] : List En)) (es.drop cap) rfl rfl HO4.out HR4.out (fun y _ => enC_one y) (by simp; omega) hs4 ?_
         intro v5 w5 hown5 hg5
         have hB5 := HB4.out.trans (gb_Below hg5 hs4 HOb4.out)))
     go_ret
     exact ⟨_, rfl, hown5, hB5⟩
    ·have hcq : ¬ cap = k := by omega
     go_wp2
     refine wp_region_T (fun w' => Box w' w.heap.size #[.string it.id, .string it.ti, .int .i64 it.da] 55) (fun _ => True) 14 (by kernel_rfl) 15 rfl ?_
     refine wA 1 [0, 1, 2, 3, 4, 5, 6, 7, 8, 9, 10, 11, 12, 13] ⟨hx.drew, fun _ => trivial⟩ ?_
     simp only [pick, List.filterMap_cons, List.filterMap_nil, List.getElem?_cons_zero, List.getElem?_cons_succ]
     refine wS (.int .i64 (k : Int)) (fun w hw => by go_simp) ?_
     refine wS (.slice a es.length cap) (fun w hw => by go_simp) ?_
     refine wS (.int .i64 (es.length : Int)) (fun w hw => by go_simp) ?_
     refine wS (.bool false) (fun w hw => by go_simp) ?_
     refine wS (.bool false) (fun w hw => by go_simp) ?_
     refine wpIf_skip (by kernel_rfl) ?_
     refine wpIf_skip (by kernel_rfl) ?_
     refine wpIf_skip (by kernel_rfl) ?_
     refine wpIf_skip (by kernel_rfl) ?_
     refine wpIf_skip (by kernel_rfl) ?_
     refine wpIf_skip (by kernel_rfl) ?_
     refine wpIf_skip (by kernel_rfl) ?_
     refine wpIf_skip (by kernel_rfl) ?_
     refine wpIf_skip (by kernel_rfl) ?_
     refine wpIf_nil (fun hS => ?_)
     clear hS
     refine wO 14 0 (fun K hK => ?_)
     go_simp
     refine hK _ _ ⟨hx.drew, fun _ => trivial⟩ (fun hS => ?_)
     clear hK K hS
     refine wpAnyT_over (by kernel_rfl) ?_
     have hWb : Below w.heap.size w wr.drew := hB.drew
     have HRw := Lib.hid (((HI.out.below hWb).mono hWb.size).1)
     have HXw := Lib.hid hx.drew
     have HWb := Lib.hid hWb
     clear hB hx hWb
     generalize wr.drew = W at HRw HXw HWb ⊢
     have hws : w.heap.size <= W.heap.size := HWb.out.size
     have HT0 : Hid (RecAt 5 enC (W.alloc (.cells #[] 97)) W.heap.size (.slice a k cap) (es.take k)) := Lib.hid ((HRw.out.take k hpl).below ((Below.refl _ _).alloc (Nat.le_refl _) _))
     have HL0 := Lib.hid (OwnR.lit (k := 5) (C := enC) 97 W w.heap.size hws)
     have HA0 := Lib.hid (HWb.out.alloc HWb.out.size (.cells #[] 97))
     have htl : (es.take k).length = k := by rw [List.length_take]; omega
     have hdl : (es.drop k).length = es.length - k := List.length_drop
     go_wp2_with (first
      | (at_builtin
         refine wpList_appR enC_len (by decide) Tryz.underlying92 Tryz.infoEntry rfl (by decide) rfl (.tmp 40) (.tmp 43) rfl w.heap.size W.heap.size _ _ [] (es.take k) rfl rfl HL0.out HT0.out (fun y _ => enC_one y) (by simp; omega) (by simp; omega) ?_
         intro v3 w3 hown3 hg3
         have hB3 := HA0.out.trans (gb_Below hg3 (by simp; omega) (ownBlock_base HL0.out))
         have hb3 : Below W.heap.size W w3 := ((Below.refl _ _).alloc (Nat.le_refl _) _).trans (gb_Below hg3 (by simp) (by intro b hb; cases hb; exact Nat.le_refl _))
         rw [List.nil_append] at hown3
         have HX3 := HXw.out.keep hb3 HXw.out.lt
         have f0 : w3.cell? ⟨w.heap.size, 0, none⟩ = some (.string it.id) := HX3.cell 0 _ rfl
         have f1 : w3.cell? ⟨w.heap.size, 1, none⟩ = some (.string it.ti) := HX3.cell 1 _ rfl
         have f2 : w3.cell? ⟨w.heap.size, 2, none⟩ = some (.int .i64 it.da) := HX3.cell 2 _ rfl
         have HO3 := Lib.hid (hown3.alloc (.cells #[.string it.id, .string it.ti, .int .i64 it.da, .bool false, .bool false] 97))
         have HN3 := Lib.hid (one_rec enC_len w3 97 ⟨it, false, false⟩ #[.string it.id, .string it.ti, .int .i64 it.da, .bool false, .bool false] rfl)
         have HB3 := Lib.hid (hB3.alloc hB3.size (.cells #[.string it.id, .string it.ti, .int .i64 it.da, .bool false, .bool false] 97))
         have hs3 : w.heap.size <= w3.heap.size := hB3.size
         have Hb3 := Lib.hid hb3
         have HOb := Lib.hid (ownBlock_base hown3)
         clear hown3 hg3 hB3 hb3 HX3)
      | (at_builtin
         refine wpList_appR enC_len (by decide) Tryz.underlying92 Tryz.infoEntry rfl (by decide) rfl (.tmp 45) (.tmp 48) rfl w.heap.size (w3.heap.size + 1) _ _ (es.take k) [⟨it, false, false⟩] rfl rfl HO3.out HN3.out (fun y _ => enC_one y) (by simp; omega) (by simp; omega) ?_
         intro v4 w4 hown4 hg4
         have HB4 := Lib.hid (HB3.out.trans (gb_Below hg4 (by simp; omega) HOb.out))
         have HO4 := Lib.hid hown4
         have hs4 : w.heap.size <= w4.heap.size := HB4.out.size
         have HR4 : Hid (RecAt 5 enC w4 w.heap.size (.slice (Option.map (fun x => x.add (k * 5)) a) (es.length - k) (cap - k)) (es.drop k)) := Lib.hid (by
          exact (HI.out.below HB4.out).1.drop k hpl (fun _ b off hab => by rw [hab]; simp [Addr.add_lit]))
         have HOb4 := Lib.hid (ownBlock_base hown4)
         clear hown4 hg4)
      | (at_builtin
         refine wpList_appR enC_len (by decide) Tryz.underlying92 Tryz.infoEntry rfl (by decide) rfl (.tmp 50) (.tmp 53) rfl w.heap.size w.heap.size _ _ (es.take k ++ ([⟨it, false, false⟩] : List En)) (es.drop k) rfl rfl HO4.out HR4.out (fun y _ => enC_one y) (by simp; omega) hs4 ?_
         intro v5 w5 hown5 hg5
         have hB5 := HB4.out.trans (gb_Below hg5 hs4 HOb4.out)))
     go_ret
     exact ⟨_, rfl, hown5, hB5⟩
end Go.Proofs.YtffkakpbelknaaaGreatDoor
namespace Go.Proofs.YtffkakpbelknaaaGreatDoor
open Go.ChangeShapes Go.WideShapes Go.ChangeAt Go.RowKit
set_option linter.unusedVariables false
theorem own_apart {α β : Type} {k k' : Nat} {C : α -> List Value} {D : β -> List Value} {e e' : TypeId} {w : World} {B B' : Nat} {v v' : Value} {l : List α} {l' : List β} (he : e ≠ e') (h : OwnR e k C w B v l) (h' : OwnR e' k' D w B' v' l') : v.ownBlock = none \/ v.ownBlock ≠ v'.ownBlock := by
 rcases h.2 with ⟨rfl, _⟩ | ⟨g, cap, cur, rfl, _, hg, _⟩
 ·exact .inl rfl
 ·right
  rcases h'.2 with ⟨rfl, _⟩ | ⟨g', cap', cur', rfl, _, hg', _⟩
  ·intro h2; cases h2
  ·intro h2
   have : g = g' := by simpa [Value.ownBlock] using h2
   subst this
   rw [hg] at hg'
   have h3 := Option.some.inj hg'
   injection h3 with _ h4
   exact he h4
theorem OwnD.snoc {w w' : World} {B : Nat} {v v' y : Value} {qs : List (Sb × Value)} {s : Sb} (h : OwnD w B v qs) (hy : OwnR 97 5 enC w B y s.es) (hyn : ∀ p ∈ qs, p.2.ownBlock = none \/ p.2.ownBlock ≠ y.ownBlock) (hg : w.grownBy w' v.ownBlock) (ho : OwnR 94 3 sbC w' B v' (qs ++ [(s, y)])) : OwnD w' B v' (qs ++ [(s, y)]) := by
 have hk : ∀ z l, OwnR 97 5 enC w B z l -> OwnR 97 5 enC w' B z l := fun z l hz => by
  refine World.ownsRow.kept hz hg ?_
  exact own_apart (by decide) hz h.1
 have hall : ∀ p ∈ qs ++ [(s, y)], OwnR 97 5 enC w' B p.2 p.1.es := fun p hp => by
  rcases List.mem_append.1 hp with h1 | h1
  ·exact hk _ _ (h.2.1 p h1)
  ·obtain rfl : p = (s, y) := by simpa using h1
   exact hk _ _ hy
 refine ⟨ho, hall, ?_⟩
 unfold ApartD
 rw [List.pairwise_cons]
 refine ⟨fun c hc => ?_, ?_⟩
 ·obtain ⟨p, hp, rfl⟩ := List.mem_map.1 hc
  exact own_apart (by decide) ho (hall p hp)
 ·rw [List.map_append, List.pairwise_append]
  refine ⟨(List.pairwise_cons.1 h.2.2).2, by simp, fun a ha b hb => ?_⟩
  obtain ⟨p, hp, rfl⟩ := List.mem_map.1 ha
  obtain rfl : b = y.ownBlock := by simpa using hb
  exact hyn p hp
def OutCp (ss : List Sb) (w : World) (e : Ending) (w' : World) : Prop := ∃ v qs, e = .returned (.agg #[v]) /\ qs.map Prod.fst = ss /\ OwnD w' w.heap.size v qs /\ Below w.heap.size w w'
theorem l9Copy_any (v : Value) (ss : List Sb) (w : World) (h : SbAt w w.heap.size v ss) (hn : ss.length <= 1000) (hns : ∀ s ∈ ss, s.es.length <= 1000) :
  Calls Tryz.prog 221 #[.agg #[v]] w (OutCp ss w) := by
 have HI := Lib.hid h
 have HNS := Lib.hid hns
 obtain ⟨a, cap, rfl, hl, hm, hc⟩ := h.raw
 unfold maxLen at hm
 clear hc h hns
 have hb0 : Below w.heap.size w (((w.alloc (.cells #[.slice a ss.length cap] 42)).alloc (.cells #[.slice none 0 0] 42)).alloc (.cells #[.slice none 0 0] 42)) := (((Below.refl _ _).alloc (Nat.le_refl _) _).alloc (by simp) _).alloc (by simp; omega) _
 have hR0 := ((Box.new w #[.slice a ss.length cap] 42).alloc (.cells #[.slice none 0 0] 42)).alloc (.cells #[.slice none 0 0] 42)
 have hZ0 : Box (((w.alloc (.cells #[.slice a ss.length cap] 42)).alloc (.cells #[.slice none 0 0] 42)).alloc (.cells #[.slice none 0 0] 42)) (w.heap.size + 1) #[.slice none 0 0] 42 := by
  have := (Box.new (w.alloc (.cells #[.slice a ss.length cap] 42)) #[.slice none 0 0] 42).alloc (.cells #[.slice none 0 0] 42)
  simpa using this
 have hO0 : Box (((w.alloc (.cells #[.slice a ss.length cap] 42)).alloc (.cells #[.slice none 0 0] 42)).alloc (.cells #[.slice none 0 0] 42)) (w.heap.size + 1 + 1) #[.slice none 0 0] 42 := by
  have := Box.new ((w.alloc (.cells #[.slice a ss.length cap] 42)).alloc (.cells #[.slice none 0 0] 42)) #[.slice none 0 0] 42
  simpa using this
 have hs0 : (((w.alloc (.cells #[.slice a ss.length cap] 42)).alloc (.cells #[.slice none 0 0] 42)).alloc (.cells #[.slice none 0 0] 42)).heap.size = w.heap.size + 3 := by simp
 have HD0 : Hid (OwnD (((w.alloc (.cells #[.slice a ss.length cap] 42)).alloc (.cells #[.slice none 0 0] 42)).alloc (.cells #[.slice none 0 0] 42)) (w.heap.size + 3) (.slice none 0 0) []) := Lib.hid ⟨OwnR.nil _ _ _, (fun p hp => by cases hp), by unfold ApartD; simp⟩
 go_enter Tryz.func221, Tryz.ntmps221
 go_wp2
 generalize (((w.alloc (.cells #[.slice a ss.length cap] 42)).alloc (.cells #[.slice none 0 0] 42)).alloc (.cells #[.slice none 0 0] 42)) = W0 at hb0 hR0 hZ0 hO0 hs0 HD0 ⊢
 go_loopw [4] (fun i wr => ∃ (k : Nat) (ov : Value) (qs : List (Sb × Value)), k <= ss.length /\ i = .int .i64 (k : Int) /\ Hid (qs.map Prod.fst = ss.take k) /\ Box wr w.heap.size #[.slice a ss.length cap] 42 /\ Box wr (w.heap.size + 1) #[.slice none 0 0] 42 /\ Box wr (w.heap.size + 1 + 1) #[ov] 42 /\ Hid (OwnD wr (w.heap.size + 3) ov qs) /\ Below w.heap.size w wr /\ w.heap.size + 3 <= wr.heap.size) (fun i _ => ss.length - (intOf i).toNat)
 case atStart => exact ⟨0, _, [], Nat.zero_le _, rfl, Lib.hid rfl, hR0, hZ0, hO0, HD0, hb0, by omega⟩
 case round =>
  obtain ⟨k, ov, qs, hk, rfl, HQ, hR, hZ, hO, HD, hB, hsr⟩ := hrel
  clear hb0 hR0 hZ0 hO0 hs0 HD0
  have f0 : wr.cell? ⟨w.heap.size, 0, none⟩ = some (.slice a ss.length cap) := hR.cell 0 _ rfl
  obtain ⟨oa, oc, rfl⟩ := HD.out.1.slice
  by_cases hlt : k < ss.length
  ·obtain ⟨a', cap', hv, _, _, hc⟩ := (HI.out.below hB).raw
   cases hv
   obtain ⟨b, off, rfl, hb, hr⟩ := hc k hlt
   obtain ⟨y, c0, c1, c2, hy, s0, s1⟩ := hr k hlt
   have hes := HNS.out _ (List.getElem_mem hlt)
   have HQn : Hid (∀ z, (qs ++ [(ss[k], z)]).map Prod.fst = ss.take (k + 1)) := Lib.hid (fun z => by rw [List.map_append, HQ.out, List.take_succ_eq_append_getElem hlt]; rfl)
   obtain ⟨ya, yc, rfl⟩ := hy.1.slice
   obtain ⟨P, hP⟩ : ∃ P, P = ss[k] := ⟨_, rfl⟩
   rw [<- hP] at c0 c1 c2 hy hes HQn
   have HQl : Hid (qs.length = k) := Lib.hid (by have := congrArg List.length HQ.out; simpa [hk] using this)
   have HY : Hid (RecAt 5 enC ((wr.alloc (.cells #[.string P.u, .string P.t, .slice ya P.es.length yc] 94)).alloc (.cells #[] 97)) wr.heap.size (.slice ya P.es.length yc) P.es) := Lib.hid (((hy.mono hB.size).1).below (((Below.refl _ _).alloc (Nat.le_refl _) _).alloc (by simp) _))
   have hw1 : (wr.alloc (.cells #[.string P.u, .string P.t, .slice ya P.es.length yc] 94)).heap.size = wr.heap.size + 1 := by simp
   have HL0 : Hid (OwnR 97 5 enC ((wr.alloc (.cells #[.string P.u, .string P.t, .slice ya P.es.length yc] 94)).alloc (.cells #[] 97)) (wr.heap.size + 1) (.slice (some ⟨wr.heap.size + 1, 0, none⟩) 0 0) []) := Lib.hid (by
    have := OwnR.lit (k := 5) (C := enC) 97 (wr.alloc (.cells #[.string P.u, .string P.t, .slice ya P.es.length yc] 94)) (wr.heap.size + 1) (by rw [hw1]; exact Nat.le_refl _)
    rw [hw1] at this
    exact this)
   have hS0 := (Box.new wr #[.string P.u, .string P.t, .slice ya P.es.length yc] 94).alloc (.cells #[] 97)
   have hba : Below wr.heap.size wr ((wr.alloc (.cells #[.string P.u, .string P.t, .slice ya P.es.length yc] 94)).alloc (.cells #[] 97)) := ((Below.refl _ _).alloc (Nat.le_refl _) _).alloc (by simp) _
   have hsb : ((wr.alloc (.cells #[.string P.u, .string P.t, .slice ya P.es.length yc] 94)).alloc (.cells #[] 97)).heap.size = wr.heap.size + 2 := by simp
   clear hr hc hP s0 s1 hy hw1
   go_wp2_with (first
    | (at_builtin
       refine wpList_appR enC_len (by decide) Tryz.underlying92 Tryz.infoEntry rfl (by decide) rfl (.tmp 19) (.tmp 21) rfl (wr.heap.size + 1) wr.heap.size _ _ [] P.es rfl rfl HL0.out HY.out (fun y _ => enC_one y) (by simp; omega) (by simp) ?_
       intro y2 w2 hown2 hg2
       rw [List.nil_append] at hown2
       obtain ⟨ya2, yc2, rfl⟩ := hown2.slice
       have hbg : Below (wr.heap.size + 1) ((wr.alloc (.cells #[.string P.u, .string P.t, .slice ya P.es.length yc] 94)).alloc (.cells #[] 97)) w2 := gb_Below hg2 (by omega) (ownBlock_base HL0.out)
       have hb2 : Below wr.heap.size wr w2 := hba.trans (hbg.mono (by omega))
       have hS2 := hS0.keep hbg (by omega)
       have t0 : w2.cell? ⟨wr.heap.size, 2, none⟩ = some (.slice ya P.es.length yc) := hS2.cell 2 _ rfl
       have tf := hS2.free
       have hS3 := hS2.set 2 (.slice ya2 P.es.length yc2)
       have hb3 : Below wr.heap.size wr (w2.setCell ⟨wr.heap.size, 2, none⟩ (.slice ya2 P.es.length yc2)) := hb2.setCell (p := ⟨wr.heap.size, 2, none⟩) (Nat.le_refl _) _
       have u0 : (w2.setCell ⟨wr.heap.size, 2, none⟩ (.slice ya2 P.es.length yc2)).cell? ⟨wr.heap.size, 0, none⟩ = some (.string P.u) := hS3.cell 0 _ rfl
       have u1 : (w2.setCell ⟨wr.heap.size, 2, none⟩ (.slice ya2 P.es.length yc2)).cell? ⟨wr.heap.size, 1, none⟩ = some (.string P.t) := hS3.cell 1 _ rfl
       have u2 : (w2.setCell ⟨wr.heap.size, 2, none⟩ (.slice ya2 P.es.length yc2)).cell? ⟨wr.heap.size, 2, none⟩ = some (.slice ya2 P.es.length yc2) := hS3.cell 2 _ rfl
       have hO3 := hO.keep hb3 (by omega)
       have o0 : (w2.setCell ⟨wr.heap.size, 2, none⟩ (.slice ya2 P.es.length yc2)).cell? ⟨w.heap.size + 1 + 1, 0, none⟩ = some (.slice oa qs.length oc) := hO3.cell 0 _ rfl
       have HD3 := Lib.hid (HD.out.keep hb3 (Nat.le_refl _))
       have HY3 : Hid (OwnR 97 5 enC (w2.setCell ⟨wr.heap.size, 2, none⟩ (.slice ya2 P.es.length yc2)) (wr.heap.size + 1) (.slice ya2 P.es.length yc2) P.es) := Lib.hid (hown2.other ⟨wr.heap.size, 2, none⟩ _ (by simp))
       have HR3 := Lib.hid (hR.keep hb3 (by omega))
       have HZ3 := Lib.hid (hZ.keep hb3 (by omega))
       have HO3 := Lib.hid hO3
       have HB3 := Lib.hid (hB.trans (hb3.mono hB.size))
       have hs3 : wr.heap.size <= (w2.setCell ⟨wr.heap.size, 2, none⟩ (.slice ya2 P.es.length yc2)).heap.size := hb3.size
       have hXs : (w2.setCell ⟨wr.heap.size, 2, none⟩ (.slice ya2 P.es.length yc2)).heap.size = w2.heap.size := by simp [World.setCell]
       have HXs := Lib.hid hXs
       have HN5 : Hid (RecAt 3 sbC ((w2.setCell ⟨wr.heap.size, 2, none⟩ (.slice ya2 P.es.length yc2)).alloc (.cells #[.string P.u, .string P.t, .slice ya2 P.es.length yc2] 94)) (w2.heap.size + 1) (.slice (some ⟨w2.heap.size, 0, none⟩) 1 1) [(P, Value.slice ya2 P.es.length yc2)]) := Lib.hid (by
        have h := one_rec sbC_len (w2.setCell ⟨wr.heap.size, 2, none⟩ (.slice ya2 P.es.length yc2)) 94 (P, Value.slice ya2 P.es.length yc2) #[.string P.u, .string P.t, .slice ya2 P.es.length yc2] rfl
        rw [hXs] at h
        exact h)
       have hs4 : wr.heap.size <= w2.heap.size := by rw [<- hXs]; exact hs3
       clear hXs hs3
       clear hown2 hg2 hbg hb2 hS2 hS3 hb3 hO3 HY HL0 hS0 hba hsb hR hZ hO hB)
    | (at_builtin
       refine wpList_appR sbC_len (by decide) Tryz.underlying40 Tryz.infoSub rfl (by decide) rfl (.tmp 25) (.tmp 27) rfl (w.heap.size + 3) (w2.heap.size + 1) _ _ qs [(P, .slice ya2 P.es.length yc2)] rfl rfl (HD3.out.1.alloc (.cells #[.string P.u, .string P.t, .slice ya2 P.es.length yc2] 94)) HN5.out (fun y hy => by
        obtain rfl : y = (P, .slice ya2 P.es.length yc2) := by simpa using hy
        exact sbC_one _ rfl) (by have := HQl.out; simp; omega) (by have := HXs.out; simp only [World.size_alloc]; omega) ?_
       intro v5 w5 hown5 hg5
       have hXs := HXs.out
       have hal : Below (w2.setCell ⟨wr.heap.size, 2, none⟩ (.slice ya2 P.es.length yc2)).heap.size (w2.setCell ⟨wr.heap.size, 2, none⟩ (.slice ya2 P.es.length yc2)) ((w2.setCell ⟨wr.heap.size, 2, none⟩ (.slice ya2 P.es.length yc2)).alloc (.cells #[.string P.u, .string P.t, .slice ya2 P.es.length yc2] 94)) := (Below.refl _ _).alloc (Nat.le_refl _) _
       have HD4 := HD3.out.keep hal (Nat.le_refl _)
       have HY4 := HY3.out.alloc (.cells #[.string P.u, .string P.t, .slice ya2 P.es.length yc2] 94)
       have hbg5 : Below (w.heap.size + 3) ((w2.setCell ⟨wr.heap.size, 2, none⟩ (.slice ya2 P.es.length yc2)).alloc (.cells #[.string P.u, .string P.t, .slice ya2 P.es.length yc2] 94)) w5 := gb_Below hg5 (by simp only [World.size_alloc]; omega) (ownBlock_base HD4.1)
       have hb5 : Below (w.heap.size + 3) (w2.setCell ⟨wr.heap.size, 2, none⟩ (.slice ya2 P.es.length yc2)) w5 := (hal.mono (by omega)).trans hbg5
       have HD5 := HD4.snoc (HY4.base_mono (by omega)) (fun p hp => by
        rcases (HD.out.2.1 p hp).blk with h1 | ⟨g, h1, _, h2⟩
        ·exact .inl h1
        ·right
         rw [h1]
         rcases HY4.blk with h3 | ⟨g2, h3, h4, _⟩
         ·rw [h3]; intro h5; cases h5
         ·rw [h3]; intro h5; cases h5; omega) hg5 hown5
       have hO5 := HO3.out.keep hb5 (by omega)
       have hR5 := HR3.out.keep hb5 (by omega)
       have hZ5 := HZ3.out.keep hb5 (by omega)
       have hB5 := HB3.out.trans (hb5.mono (by omega))
       obtain ⟨va5, vc5, hv5⟩ := hown5.slice
       obtain ⟨n5, hn5⟩ : ∃ n, (qs ++ [(P, Value.slice ya2 P.es.length yc2)]).length = n := ⟨_, rfl⟩
       rw [hn5] at hv5
       subst hv5
       have z0 : w5.cell? ⟨w.heap.size + 1 + 1, 0, none⟩ = some (.slice oa qs.length oc) := hO5.cell 0 _ rfl
       have zf := hO5.free
       have HE1 := Lib.hid (hR5.other ⟨w.heap.size + 1 + 1, 0, none⟩ (.slice va5 n5 vc5) (show w.heap.size ≠ w.heap.size + 1 + 1 by omega))
       have HE2 := Lib.hid (hZ5.other ⟨w.heap.size + 1 + 1, 0, none⟩ (.slice va5 n5 vc5) (show w.heap.size + 1 ≠ w.heap.size + 1 + 1 by omega))
       have HE3 := Lib.hid (hO5.set 0 (.slice va5 n5 vc5))
       have HE4 := Lib.hid (HD5.aside ⟨w.heap.size + 1 + 1, 0, none⟩ (.slice va5 n5 vc5) (show w.heap.size + 1 + 1 < w.heap.size + 3 by omega))
       have HE5 := Lib.hid (hB5.setCell (p := ⟨w.heap.size + 1 + 1, 0, none⟩) (show w.heap.size <= w.heap.size + 1 + 1 by omega) (.slice va5 n5 vc5))
       have hE6 : w.heap.size + 3 <= w5.heap.size := by have := hb5.size; omega
       clear hown5 hg5 hal HD4 HY4 hbg5 hb5 HD5 hO5 hR5 hZ5 hB5 hn5 HD3 HY3 HR3 HZ3 HO3 HB3 u0 u1 u2 o0 t0 tf hs4 hXs HXs HN5))
   refine ⟨⟨k + 1, _, qs ++ [(P, Value.slice ya2 P.es.length yc2)], by omega, by simp, Lib.hid (HQn.out _), HE1.out, HE2.out, HE3.out, HE4, HE5.out, by simpa [World.setCell] using hE6⟩, ?_⟩
   simp [intOf]; omega
  ·have HZe : Hid (qs.map Prod.fst = ss) := Lib.hid (by have h1 := HQ.out; rw [List.take_of_length_le (by omega)] at h1; exact h1)
   have o0 : wr.cell? ⟨w.heap.size + 1 + 1, 0, none⟩ = some (.slice oa qs.length oc) := hO.cell 0 _ rfl
   have z0 : wr.cell? ⟨w.heap.size + 1, 0, none⟩ = some (.slice none 0 0) := hZ.cell 0 _ rfl
   have zf := hZ.free
   go_wp2
   have hZe := hZ.set 0 (.slice oa qs.length oc)
   have hBe := hB.setCell (p := ⟨w.heap.size + 1, 0, none⟩) (by simp) (.slice oa qs.length oc)
   have hDe := (HD.out.aside ⟨w.heap.size + 1, 0, none⟩ (.slice oa qs.length oc) (by simp)).lower (show w.heap.size <= w.heap.size + 3 by omega)
   generalize wr.setCell ⟨w.heap.size + 1, 0, none⟩ (.slice oa qs.length oc) = We at hZe hBe hDe ⊢
   have p0 : We.cell? ⟨w.heap.size + 1, 0, none⟩ = some (.slice oa qs.length oc) := hZe.cell 0 _ rfl
   exact bodyPost_ret (v := .agg #[.slice oa qs.length oc]) (by simp [results, Tryz.results221, go_sem, p0]) rfl ⟨_, qs, rfl, HZe.out, hDe, hBe⟩
end Go.Proofs.YtffkakpbelknaaaGreatDoor
namespace Go.Proofs.YtffkakpbelknaaaGreatDoor
open Go.ChangeShapes Go.WideShapes Go.ChangeAt Go.RowKit
set_option linter.unusedVariables false
theorem l9Put_any (v : Value) (es : List En) (it : It) (w : World) (h : EnAt w w.heap.size v es) (hr : risB (enKs es) = true) (hn : es.length <= 1000) :
  Calls Tryz.prog 243 #[v, itV it.id it.ti it.da] w (OutB 97 5 enC (ft1 es it) w.heap.size w) := by
 cases hf : fnB (enKs es) it.id with
 | true => exact l9Put_there v es it w h hr hn hf
 | false => exact l9Put_new v es it w h hr hn hf
theorem ft1_sz {es : List En} {it : It} (h : ∀ x ∈ es, EnSz x) (hi : it.id.size <= maxLen /\ it.ti.size <= maxLen) : ∀ x ∈ ft1 es it, EnSz x := by
 intro x hx
 unfold ft1 putP at hx
 rcases List.mem_append.1 hx with h1 | h1
 ·exact h x (List.mem_of_mem_take h1)
 ·rcases List.mem_cons.1 h1 with h2 | h2
  ·subst h2
   unfold EnSz
   rw [neE_it]
   exact hi
  ·exact h x (List.mem_of_mem_drop h2)
theorem ftN_sz {es : List En} {its : List It} (h : ∀ x ∈ es, EnSz x) (hi : ∀ x ∈ its, x.id.size <= maxLen /\ x.ti.size <= maxLen) : ∀ x ∈ ftN es its, EnSz x := by
 unfold ftN
 induction its generalizing es with
 | nil => exact h
 | cons it its ih => exact ih (ft1_sz h (hi it (List.mem_cons_self))) (fun y hy => hi y (List.mem_cons_of_mem _ hy))
def FyAt (w : World) (B : Nat) (x y : Value) (es l : List En) : Prop := (y = x /\ l = es) \/ OwnR 97 5 enC w B y l
theorem wp_appE {w w' : World} {o : Oper} {a : Act} {K : Act -> World -> Prop} {Q : Exit -> Act -> World -> Prop} (s x : Operand) (ho : o.op = .call { callee := .builtin .append, args := #[s, x], argTypes := #[92, 92] }) (v xv v' : Value) (hs : a.eval s = v) (hx : a.eval x = xv) (hrun : (Builtin.append_ #[92, 92] o.type #[v, xv]).run Tryz.prog w = .ok v' w') (h : K (a.put o.dst v') w') : o.wp Tryz.prog a w K Q := by
 unfold Oper.wp
 simp [execOp, ho, resolve, invoke, builtin, hs, hx, hrun, Result.andThen]
 exact h
def lenIn (w : World) (g : Nat) : Nat := match w.cell? ⟨g, 2, none⟩ with
 | some (.slice _ n _) => n
 | _ => 0
theorem l9Fetch_any (s : Sb) (x : Value) (fu ft : ByteArray) (v : Value) (its : List It) (w : World) (h : EnAt w w.heap.size x s.es) (hv : ItAt w w.heap.size v its) (hr : risB (enKs s.es) = true) (hn : s.es.length <= 100) (hni : its.length <= 100) :
  Calls Tryz.prog 224 #[sbV s.u s.t x, .agg #[.string fu, .string ft, v]] w fun e w' => ∃ y, e = .returned (sbV s.u ft y) /\ FyAt w' w.heap.size x y s.es (ftV s.es its) /\ Below w.heap.size w w' := by
 have HE := Lib.hid h
 have HV := Lib.hid hv
 have HR := Lib.hid hr
 obtain ⟨xa, xc, rfl⟩ := h.1.slice
 obtain ⟨ia, ic, hvv, hil, him, _⟩ := hv.raw
 subst hvv
 unfold maxLen at him
 clear h hv hr
 have hb0 : Below w.heap.size w (((w.alloc (.cells #[.string s.u, .string ft, .slice xa s.es.length xc] 94)).alloc (.cells #[.string fu, .string ft, .slice ia its.length ic] 26)).alloc (.cells #[.string ⟨#[]⟩, .string ⟨#[]⟩, .slice none 0 0] 94)) := (((Below.refl _ _).alloc (Nat.le_refl _) _).alloc (by simp) _).alloc (by simp; omega) _
 have hS0 : Box (((w.alloc (.cells #[.string s.u, .string ft, .slice xa s.es.length xc] 94)).alloc (.cells #[.string fu, .string ft, .slice ia its.length ic] 26)).alloc (.cells #[.string ⟨#[]⟩, .string ⟨#[]⟩, .slice none 0 0] 94)) w.heap.size #[.string s.u, .string ft, .slice xa s.es.length xc] 94 := ((Box.new w #[.string s.u, .string ft, .slice xa s.es.length xc] 94).alloc _).alloc _
 have hF0 : Box (((w.alloc (.cells #[.string s.u, .string ft, .slice xa s.es.length xc] 94)).alloc (.cells #[.string fu, .string ft, .slice ia its.length ic] 26)).alloc (.cells #[.string ⟨#[]⟩, .string ⟨#[]⟩, .slice none 0 0] 94)) (w.heap.size + 1) #[.string fu, .string ft, .slice ia its.length ic] 26 := by
  have := (Box.new (w.alloc (.cells #[.string s.u, .string ft, .slice xa s.es.length xc] 94)) #[.string fu, .string ft, .slice ia its.length ic] 26).alloc (.cells #[.string ⟨#[]⟩, .string ⟨#[]⟩, .slice none 0 0] 94)
  simpa using this
 have hZ0 : Box (((w.alloc (.cells #[.string s.u, .string ft, .slice xa s.es.length xc] 94)).alloc (.cells #[.string fu, .string ft, .slice ia its.length ic] 26)).alloc (.cells #[.string ⟨#[]⟩, .string ⟨#[]⟩, .slice none 0 0] 94)) (w.heap.size + 1 + 1) #[.string ⟨#[]⟩, .string ⟨#[]⟩, .slice none 0 0] 94 := by
  have := Box.new ((w.alloc (.cells #[.string s.u, .string ft, .slice xa s.es.length xc] 94)).alloc (.cells #[.string fu, .string ft, .slice ia its.length ic] 26)) #[.string ⟨#[]⟩, .string ⟨#[]⟩, .slice none 0 0] 94
  simpa using this
 have hs0 : (((w.alloc (.cells #[.string s.u, .string ft, .slice xa s.es.length xc] 94)).alloc (.cells #[.string fu, .string ft, .slice ia its.length ic] 26)).alloc (.cells #[.string ⟨#[]⟩, .string ⟨#[]⟩, .slice none 0 0] 94)).heap.size = w.heap.size + 3 := by simp
 go_enter Tryz.func224, Tryz.ntmps224
 go_wp2
 generalize (((w.alloc (.cells #[.string s.u, .string ft, .slice xa s.es.length xc] 94)).alloc (.cells #[.string fu, .string ft, .slice ia its.length ic] 26)).alloc (.cells #[.string ⟨#[]⟩, .string ⟨#[]⟩, .slice none 0 0] 94)) = W0 at hb0 hS0 hF0 hZ0 hs0 ⊢
 go_loopw [5] (fun i wr => ∃ (k n : Nat) (ya : Option Addr) (yc : Nat), k <= its.length /\ i = .int .i64 (k : Int) /\ Box wr w.heap.size #[.string s.u, .string ft, .slice ya n yc] 94 /\ Box wr (w.heap.size + 1) #[.string fu, .string ft, .slice ia its.length ic] 26 /\ Box wr (w.heap.size + 1 + 1) #[.string ⟨#[]⟩, .string ⟨#[]⟩, .slice none 0 0] 94 /\ Hid (FyAt wr (w.heap.size + 3) (.slice xa s.es.length xc) (.slice ya n yc) s.es (ftN s.es (its.take k))) /\ Below w.heap.size w wr /\ w.heap.size + 3 <= wr.heap.size) (fun i _ => its.length - (intOf i).toNat)
 case atStart => exact ⟨0, _, _, _, Nat.zero_le _, rfl, hS0, hF0, hZ0, Lib.hid (.inl ⟨rfl, rfl⟩), hb0, by omega⟩
 case round =>
  obtain ⟨k, n, ya, yc, hk, rfl, hS, hF, hZ, HFy, hB, hsr⟩ := hrel
  clear hb0 hS0 hF0 hZ0 hs0
  have f0 : wr.cell? ⟨w.heap.size + 1, 2, none⟩ = some (.slice ia its.length ic) := hF.cell 2 _ rfl
  by_cases hlt : k < its.length
  ·obtain ⟨a', cap', hv, _, _, hc⟩ := (HV.out.below hB).raw
   cases hv
   obtain ⟨b, off, rfl, hb, hrr⟩ := hc k hlt
   obtain ⟨c0, c1, c2, z0, z1⟩ := hrr k hlt
   have HSt := Lib.hid (ftN_step s.es its k hlt)
   have hll := len_ftN s.es (its.take k)
   rw [List.length_take] at hll
   have hrl := ris_ftN HR.out (its.take k)
   have HSzl : Hid (∀ x ∈ ftN s.es (its.take k), EnSz x) := Lib.hid (ftN_sz HE.out.2 (fun x hx => HV.out.2 x (List.mem_of_mem_take hx)))
   obtain ⟨it, hit⟩ : ∃ it, it = its[k] := ⟨_, rfl⟩
   rw [<- hit] at c0 c1 c2 HSt
   generalize ftN s.es (its.take k) = LL at HFy HSt hll hrl HSzl
   have HY : Hid (EnAt wr wr.heap.size (.slice ya n yc) LL) := Lib.hid (by
    rcases HFy.out with ⟨h1, h2⟩ | h1
    ·rw [h1, h2]; exact (HE.out.below hB).mono hB.size
    ·exact ⟨h1.at enC_len, HSzl.out⟩)
   have HP := Lib.hid (fun w h => l9Put_any (.slice ya n yc) LL it w h hrl (by omega))
   unfold OutB at HP
   have hbw : b < wr.heap.size := by have := hB.size; omega
   have hbs : b ≠ w.heap.size := by omega
   have hA : (fun w' => (Box w' (w.heap.size + 1) #[.string fu, .string ft, .slice (some ⟨b, off, none⟩) its.length ic] 26) /\ w'.cell? ⟨b, off + k * 3, none⟩ = some (.string it.id) /\ w'.cell? ⟨b, off + k * 3 + 1, none⟩ = some (.string it.ti) /\ w'.cell? ⟨b, off + k * 3 + 2, none⟩ = some (.int .i64 it.da)) wr.drew := ⟨hF.drew, c0, c1, c2⟩
   have HKA : Hid (∀ w2, Below wr.drew.heap.size wr.drew w2 -> (fun w' => (Box w' (w.heap.size + 1) #[.string fu, .string ft, .slice (some ⟨b, off, none⟩) its.length ic] 26) /\ w'.cell? ⟨b, off + k * 3, none⟩ = some (.string it.id) /\ w'.cell? ⟨b, off + k * 3 + 1, none⟩ = some (.string it.ti) /\ w'.cell? ⟨b, off + k * 3 + 2, none⟩ = some (.int .i64 it.da)) w2) := Lib.hid (fun w2 hb2 => by
    have kc : ∀ o x, wr.cell? ⟨b, o, none⟩ = some x -> w2.cell? ⟨b, o, none⟩ = some x := fun o x h => by
     rw [hb2.cell (p := ⟨b, o, none⟩) hbw]; exact h
    exact ⟨hF.drew.keep hb2 hF.lt, kc _ _ c0, kc _ _ c1, kc _ _ c2⟩)
   have HKB : Hid (∀ (w2 : World) (u : Value), (fun w' => (Box w' (w.heap.size + 1) #[.string fu, .string ft, .slice (some ⟨b, off, none⟩) its.length ic] 26) /\ w'.cell? ⟨b, off + k * 3, none⟩ = some (.string it.id) /\ w'.cell? ⟨b, off + k * 3 + 1, none⟩ = some (.string it.ti) /\ w'.cell? ⟨b, off + k * 3 + 2, none⟩ = some (.int .i64 it.da)) w2 -> (fun w' => (Box w' (w.heap.size + 1) #[.string fu, .string ft, .slice (some ⟨b, off, none⟩) its.length ic] 26) /\ w'.cell? ⟨b, off + k * 3, none⟩ = some (.string it.id) /\ w'.cell? ⟨b, off + k * 3 + 1, none⟩ = some (.string it.ti) /\ w'.cell? ⟨b, off + k * 3 + 2, none⟩ = some (.int .i64 it.da)) (w2.setCell ⟨w.heap.size, 2, none⟩ u)) := Lib.hid (fun w2 u h2 => by
    have kc : ∀ o x, w2.cell? ⟨b, o, none⟩ = some x -> (w2.setCell ⟨w.heap.size, 2, none⟩ u).cell? ⟨b, o, none⟩ = some x := fun o x h => by
     rw [World.cell?_setCell_other _ _ _ _ (show (⟨w.heap.size, 2, none⟩ : Addr) ≠ ⟨b, o, none⟩ from fun e => hbs (by cases e; rfl))]; exact h
    exact ⟨h2.1.other ⟨w.heap.size, 2, none⟩ u (show w.heap.size + 1 ≠ w.heap.size by omega), kc _ _ h2.2.1, kc _ _ h2.2.2.1, kc _ _ h2.2.2.2⟩)
   clear hrr hc hit z0 z1
   go_wp2
   refine wp_region_T (fun w' => (Box w' (w.heap.size + 1) #[.string fu, .string ft, .slice (some ⟨b, off, none⟩) its.length ic] 26) /\ w'.cell? ⟨b, off + k * 3, none⟩ = some (.string it.id) /\ w'.cell? ⟨b, off + k * 3 + 1, none⟩ = some (.string it.ti) /\ w'.cell? ⟨b, off + k * 3 + 2, none⟩ = some (.int .i64 it.da)) (fun w' => Box w' w.heap.size #[.string s.u, .string ft, .slice ya n yc] 94) 9 (by kernel_rfl) 10 rfl ?_
   refine wA 4 [0, 2, 3, 4, 5, 6] ⟨hA, fun _ => hS.drew⟩ ?_
   simp only [pick, List.filterMap_cons, List.filterMap_nil, List.getElem?_cons_zero, List.getElem?_cons_succ]
   refine wS (.pointer (some ⟨w.heap.size, 2, none⟩)) (fun w hw => by go_simp) ?_
   refine wS (.pointer (some ⟨w.heap.size + 1, 2, none⟩)) (fun w hw => by go_simp) ?_
   refine wS (.slice (some ⟨b, off, none⟩) its.length ic) (fun w hw => by have e0 := hw.1.cell 2 _ rfl; go_simp) ?_
   refine wS (.int .i64 (k : Int)) (fun w hw => by go_simp) ?_
   refine wS (.pointer (some ⟨b, off + k * 3, none⟩)) (fun w hw => by go_simp) ?_
   refine wS (itV it.id it.ti it.da) (fun w hw => by have e0 := hw.2.1; have e1 := hw.2.2.1; have e2 := hw.2.2.2; go_simp) ?_
   refine wpIf_nil (fun hS0 => ?_)
   refine wpAnyT_takesB (md := .any) 3 (by kernel_rfl) (by intro d v c a w h; cases d <;> exact h) [1] _ _ _ (by decide) (by kernel_rfl) (by kernel_rfl) (by kernel_rfl) hS0 ?_
   simp only [pick, List.filterMap_cons, List.filterMap_nil, List.getElem?_cons_zero, List.getElem?_cons_succ]
   refine wS (.slice ya n yc) (fun w hw => by have e0 := hw.2.cell 2 _ rfl; go_simp) ?_
   refine wpIf_nil (fun hS0 => ?_)
   clear hS0
   refine wO 7 2 (fun K hK => ?_)
   go_simp
   refine (HP.out wr.drew HY.out).mono ?_
   rintro e w2 ⟨y2, rfl, ho2, hb2⟩
   have hS2 := hS.drew.keep hb2 hS.lt
   have hF2 := hF.drew.keep hb2 hF.lt
   have hZ2 := hZ.drew.keep hb2 hZ.lt
   have hB2 := hB.drew.trans (hb2.mono hB.size)
   have hs2 : w.heap.size + 3 <= w2.heap.size := by have h9 := hb2.size; simp only [World.drew] at h9; omega
   have hA2 := HKA.out w2 hb2
   have HO2 := Lib.hid ho2
   obtain ⟨ya2, yc2, rfl⟩ := ho2.slice
   obtain ⟨n2, hn2⟩ : ∃ n, n = (ft1 LL it).length := ⟨_, rfl⟩
   rw [<- hn2] at HO2 ⊢
   refine hK _ _ ⟨hA2, fun _ => hS2⟩ (fun hS0 => ?_)
   clear hK K hS0 hb2 ho2 hn2
   refine wA 1 [8] ⟨hA2, fun _ => hS2⟩ ?_
   simp only [pick, List.filterMap_cons, List.filterMap_nil, List.getElem?_cons_zero, List.getElem?_cons_succ]
   refine wS (.pointer (some ⟨w.heap.size, 2, none⟩)) (fun w hw => by go_simp) ?_
   refine wpIf_nil (fun hS0 => ?_)
   clear hS0
   have q0 : w2.cell? ⟨w.heap.size, 2, none⟩ = some (.slice ya n yc) := hS2.cell 2 _ rfl
   have qf := hS2.free
   refine wO 9 0 (fun K hK => ?_)
   go_simp
   have hA3 := HKB.out w2 (.slice ya2 n2 yc2) hA2
   refine hK _ _ ⟨hA3, fun h => by exact absurd h (by decide)⟩ (fun hS0 => ?_)
   clear hK K hS0 q0 qf hA3 hA2 hA
   refine wpAnyT_over (by kernel_rfl) ?_
   have hS3 := hS2.set 2 (.slice ya2 n2 yc2)
   have hF3 := hF2.other ⟨w.heap.size, 2, none⟩ (.slice ya2 n2 yc2) (show w.heap.size + 1 ≠ w.heap.size by omega)
   have hZ3 := hZ2.other ⟨w.heap.size, 2, none⟩ (.slice ya2 n2 yc2) (show w.heap.size + 1 + 1 ≠ w.heap.size by omega)
   have hB3 := hB2.setCell (p := ⟨w.heap.size, 2, none⟩) (Nat.le_refl _) (.slice ya2 n2 yc2)
   have HO3 : Hid (FyAt (w2.setCell ⟨w.heap.size, 2, none⟩ (.slice ya2 n2 yc2)) (w.heap.size + 3) (.slice xa s.es.length xc) (.slice ya2 n2 yc2) s.es (ftN s.es (its.take (k + 1)))) := Lib.hid (.inr (by rw [HSt.out]; exact (HO2.out.base_mono (show w.heap.size + 3 <= wr.drew.heap.size from hsr)).other ⟨w.heap.size, 2, none⟩ _ (show w.heap.size < w.heap.size + 3 by omega)))
   have hs3 : w.heap.size + 3 <= (w2.setCell ⟨w.heap.size, 2, none⟩ (.slice ya2 n2 yc2)).heap.size := by simpa [World.setCell] using hs2
   generalize w2.setCell ⟨w.heap.size, 2, none⟩ (.slice ya2 n2 yc2) = W3 at hS3 hF3 hZ3 hB3 HO3 hs3 ⊢
   clear hS2 hF2 hZ2 hB2 hS hF hZ hB hs2 HP HY HO2
   go_wp2
   refine ⟨⟨k + 1, n2, ya2, yc2, by omega, by simp, hS3, hF3, hZ3, HO3, hB3, hs3⟩, ?_⟩
   simp [intOf]; omega
  ·have HFy0 : Hid (∃ M m, FyAt wr (w.heap.size + 3) (.slice xa s.es.length xc) (.slice ya n yc) s.es M /\ cutE m M = ftV s.es its /\ M.length <= m + 12 /\ risB (enKs M) = true /\ (∀ x ∈ M, EnSz x) /\ M.length <= 200) := Lib.hid (by
    have h1 := HFy.out
    rw [List.take_of_length_le (by omega)] at h1
    refine ⟨_, s.es.length + its.length, h1, rfl, ?_, ris_ftN HR.out its, ftN_sz HE.out.2 HV.out.2, ?_⟩
    ·have := len_ftN s.es its; omega
    ·have := len_ftN s.es its; omega)
   have hkd : decide ((k : Int) < (its.length : Int)) = false := decide_eq_false (by omega)
   clear HFy hk
   go_wp2
   go_loopw [6] (fun _ wr => ∃ (n : Nat) (ya : Option Addr) (yc : Nat) (M : List En) (m : Nat), Box wr w.heap.size #[.string s.u, .string ft, .slice ya n yc] 94 /\ Box wr (w.heap.size + 1 + 1) #[.string ⟨#[]⟩, .string ⟨#[]⟩, .slice none 0 0] 94 /\ Hid (FyAt wr (w.heap.size + 3) (.slice xa s.es.length xc) (.slice ya n yc) s.es M) /\ Hid (cutE m M = ftV s.es its) /\ M.length <= m + 12 /\ Hid (risB (enKs M) = true /\ ∀ x ∈ M, EnSz x) /\ M.length <= 200 /\ n = M.length /\ Below w.heap.size w wr /\ w.heap.size + 3 <= wr.heap.size) (fun _ wr => lenIn wr w.heap.size)
   case atStart =>
    obtain ⟨M, m, h1, h2, h3, h4, h5, h6⟩ := HFy0.out
    refine ⟨n, ya, yc, M, m, hS, hZ, Lib.hid h1, Lib.hid h2, h3, Lib.hid ⟨h4, h5⟩, h6, ?_, hB, hsr⟩
    rcases h1 with ⟨e1, e2⟩ | e1
    ·cases e1; rw [e2]
    ·obtain ⟨_, _, e2⟩ := e1.slice; cases e2; rfl
   case round =>
    obtain ⟨n, ya, yc, M, m, hS, hZ, HFy, HCu, hmm, HMr, hM2, rfl, hB, hsr⟩ := hrel
    clear f0 HFy0
    have f2 : wr.cell? ⟨w.heap.size, 2, none⟩ = some (.slice ya M.length yc) := hS.cell 2 _ rfl
    have HY : Hid (EnAt wr wr.heap.size (.slice ya M.length yc) M) := Lib.hid (by
     rcases HFy.out with ⟨h1, h2⟩ | h1
     ·rw [h1, h2]; exact (HE.out.below hB).mono hB.size
     ·exact ⟨h1.at enC_len, HMr.out.2⟩)
    by_cases h12 : 12 < M.length
    ·obtain ⟨m', rfl⟩ : ∃ m', m = m' + 1 := ⟨m - 1, by omega⟩
     have HV2 : Hid (cutE m' (cut1 M) = ftV s.es its) := Lib.hid (by rw [<- HCu.out]; conv => rhs; unfold cutE; rw [if_pos h12])
     have hlc := len_cut1 M (by omega)
     have hgo := (goP_lt M M.length).2 (by omega)
     have HGo := Lib.hid (fun w h => l9Oldest_any (.slice ya M.length yc) M w h (by omega))
     have HSz : Hid (risB (enKs (cut1 M)) = true /\ ∀ x ∈ cut1 M, EnSz x) := Lib.hid ⟨ris_cut1 HMr.out.1, sz_cut HMr.out.2⟩
     have HCt : Hid (cut1 M = M.take (goP M M.length) ++ M.drop (goP M M.length + 1)) := Lib.hid rfl
     generalize goP M M.length = P at HGo hgo HCt
     obtain ⟨L, hL⟩ : ∃ L, L = cut1 M := ⟨_, rfl⟩
     rw [<- hL] at HCt HV2 hlc HSz
     obtain ⟨a', cap', hv, hyl, hym, hc⟩ := HY.out.raw
     cases hv
     obtain ⟨b, off, rfl, hbB, _⟩ := hc 0 (by omega)
     unfold maxLen at hym
     have hd12 : decide (12 < (M.length : Int)) = true := decide_eq_true (by omega)
     have HF2 := Lib.hid f2
     clear hc hL HCu HFy
     go_wp2_with fail
     refine (HGo.out _ HY.out).mono ?_
     rintro e w1 ⟨rfl, hb1⟩
     have hS1 := hS.keep hb1 hS.lt
     have hZ1 := hZ.keep hb1 hZ.lt
     have hB1 := hB.trans (hb1.mono hB.size)
     have hs1 : w.heap.size + 3 <= w1.heap.size := by have := hb1.size; omega
     clear hS hZ hB f2
     rcases Nat.eq_or_lt_of_le (show P + 1 <= yc by omega) with hcp | hcp
     ·have HCp := Lib.hid hcp
      clear hcp
      go_wp2
      refine wp_region_T (fun _ => True) (fun w' => Box w' w.heap.size #[.string s.u, .string ft, .slice (some ⟨b, off, none⟩) M.length yc] 94) 13 (by kernel_rfl) 14 rfl ?_
      have hSd := hS1.drew
      have hZd := hZ1.drew
      have hBd := hB1.drew
      have HRd : Hid (RecAt 5 enC w1.drew w1.drew.heap.size (.slice (some ⟨b, off, none⟩) M.length yc) M) := Lib.hid ((HY.out.below hb1.drew).mono hb1.drew.size).1
      have hsd : w.heap.size + 3 <= w1.drew.heap.size := hs1
      clear hS1 hZ1 hB1 hb1 hs1
      generalize w1.drew = W at hSd hZd hBd HRd hsd ⊢
      refine wA 9 [1, 3, 6, 8, 9] ⟨trivial, fun _ => hSd⟩ ?_
      simp only [pick, List.filterMap_cons, List.filterMap_nil, List.getElem?_cons_zero, List.getElem?_cons_succ]
      refine wS (.pointer (some ⟨w.heap.size, 2, none⟩)) (fun w hw => by go_simp) ?_
      refine wS (.int .i64 (P : Int)) (fun w hw => by go_simp) ?_
      refine wS (.pointer (some ⟨w.heap.size, 2, none⟩)) (fun w hw => by go_simp) ?_
      refine wS (.int .i64 (P : Int)) (fun w hw => by go_simp) ?_
      refine wS (.int .i64 ((P : Int) + 1)) (fun w hw => by go_simp; rw [IntKind.wrap_i64]; omega) ?_
      refine wpIf_nil (fun hS0 => ?_)
      refine wpAnyT_takesB (md := .any) 7 (by kernel_rfl) (by intro d v c a w h; cases d <;> exact h) [2, 7] _ _ _ (by decide) (by kernel_rfl) (by kernel_rfl) (by kernel_rfl) hS0 ?_
      simp only [pick, List.filterMap_cons, List.filterMap_nil, List.getElem?_cons_zero, List.getElem?_cons_succ]
      refine wS (.slice (some ⟨b, off, none⟩) M.length yc) (fun w hw => by have e0 := hw.2.cell 2 _ rfl; go_simp) ?_
      refine wS (.slice (some ⟨b, off, none⟩) M.length yc) (fun w hw => by have e0 := hw.2.cell 2 _ rfl; go_simp) ?_
      refine wpIf_nil (fun hS0 => ?_)
      clear hS0
      refine wA 5 [4, 10] ⟨trivial, fun _ => hSd⟩ ?_
      simp only [pick, List.filterMap_cons, List.filterMap_nil, List.getElem?_cons_zero, List.getElem?_cons_succ]
      refine wS (.slice (some ⟨b, off, none⟩) P yc) (fun w hw => by go_simp; intro h; omega) ?_
      refine wS (.slice (some ⟨b, off, none⟩) (M.length - (P + 1)) (yc - (P + 1))) (fun w hw => by go_simp; rw [if_pos (show (0 : Int) <= (P : Int) + 1 /\ (P : Int) + 1 <= (M.length : Int) by omega), if_pos (show yc = P + 1 from HCp.out.symm)]) ?_
      refine wpIf_nil (fun hS0 => ?_)
      clear hS0
      refine wO 0 4 (fun K hK => ?_)
      go_simp
      refine hK _ _ ⟨trivial, fun _ => hSd.alloc _⟩ (fun hS0 => ?_)
      clear hK K hS0
      have HL0 := Lib.hid (OwnR.lit (k := 5) (C := enC) 97 W (w.heap.size + 3) hsd)
      have HT0 : Hid (RecAt 5 enC (W.alloc (.cells #[] 97)) W.heap.size (.slice (some ⟨b, off, none⟩) P yc) (M.take P)) := Lib.hid ((HRd.out.take P (by omega)).below ((Below.refl _ _).alloc (Nat.le_refl _) _))
      have htl : (M.take P).length = P := by rw [List.length_take]; omega
      have hdl : (M.drop (P + 1)).length = M.length - (P + 1) := List.length_drop
      obtain ⟨v3, w3, hrun3, hown3, hg3⟩ := appR_run (P := Tryz.prog) (t := 92) enC_len (by decide) Tryz.underlying92 Tryz.infoEntry rfl (by decide) HL0.out HT0.out (fun y _ => enC_one y) (by simp; omega) (by simp; omega) 92
      rw [List.nil_append] at hown3
      have hb3 : Below (w.heap.size + 3) W w3 := ((Below.refl _ _).alloc hsd _).trans (gb_Below hg3 (by simp; omega) (ownBlock_base HL0.out))
      have hb3W : Below W.heap.size W w3 := ((Below.refl _ _).alloc (Nat.le_refl _) _).trans (gb_Below hg3 (by simp) (by intro b hb; cases hb; exact Nat.le_refl _))
      obtain ⟨v3a, v3c, rfl⟩ := hown3.slice
      rw [htl] at hown3 hrun3
      refine wO 5 3 (fun K hK => ?_)
      refine wp_appE (.tmp 33) (.tmp 37) rfl _ _ (.slice v3a P v3c) rfl rfl hrun3 ?_
      have hS3 := hSd.keep hb3 (by omega)
      have hZ3 := hZd.keep hb3 (by omega)
      have hB3 := hBd.trans (hb3.mono (by omega))
      have hs3 : w.heap.size + 3 <= w3.heap.size := by have := hb3.size; omega
      have HR3 : Hid (RecAt 5 enC w3 W.heap.size (.slice (some ⟨b, off, none⟩) (M.length - (P + 1)) (yc - (P + 1))) (M.drop (P + 1))) := Lib.hid (by exact (HRd.out.below hb3W).drop (P + 1) (by omega) (fun h b2 off2 hab => absurd h (by have := HCp.out; omega)))
      go_simp
      refine hK _ _ ⟨trivial, fun _ => hS3⟩ (fun hS0 => ?_)
      clear hK K hS0
      obtain ⟨v4, w4, hrun4, hown4, hg4⟩ := appR_run (P := Tryz.prog) (t := 92) enC_len (by decide) Tryz.underlying92 Tryz.infoEntry rfl (by decide) hown3 HR3.out (fun y _ => enC_one y) (by omega) hs3 92
      have hb4 : Below (w.heap.size + 3) w3 w4 := gb_Below hg4 hs3 (ownBlock_base hown3)
      rw [<- HCt.out] at hown4
      obtain ⟨v4a, v4c, rfl⟩ := hown4.slice
      refine wO 11 2 (fun K hK => ?_)
      refine wp_appE (.tmp 38) (.tmp 43) rfl _ _ (.slice v4a L.length v4c) rfl rfl hrun4 ?_
      have hS4 := hS3.keep hb4 (by omega)
      have hZ4 := hZ3.keep hb4 (by omega)
      have hB4 := hB3.trans (hb4.mono (by omega))
      have hs4 : w.heap.size + 3 <= w4.heap.size := by have := hb4.size; omega
      go_simp
      refine hK _ _ ⟨trivial, fun _ => hS4⟩ (fun hS0 => ?_)
      clear hK K hS0
      refine wA 1 [12] ⟨trivial, fun _ => hS4⟩ ?_
      simp only [pick, List.filterMap_cons, List.filterMap_nil, List.getElem?_cons_zero, List.getElem?_cons_succ]
      refine wS (.pointer (some ⟨w.heap.size, 2, none⟩)) (fun w hw => by go_simp) ?_
      refine wpIf_nil (fun hS0 => ?_)
      clear hS0
      have q0 : w4.cell? ⟨w.heap.size, 2, none⟩ = some (.slice (some ⟨b, off, none⟩) M.length yc) := hS4.cell 2 _ rfl
      have qf := hS4.free
      refine wO 13 0 (fun K hK => ?_)
      go_simp
      refine hK _ _ ⟨trivial, fun h => by exact absurd h (by decide)⟩ (fun hS0 => ?_)
      clear hK K hS0 q0 qf
      refine wpAnyT_over (by kernel_rfl) ?_
      have hS5 := hS4.set 2 (.slice v4a L.length v4c)
      have hZ5 := hZ4.other ⟨w.heap.size, 2, none⟩ (.slice v4a L.length v4c) (show w.heap.size + 1 + 1 ≠ w.heap.size by omega)
      have hB5 := hB4.setCell (p := ⟨w.heap.size, 2, none⟩) (Nat.le_refl _) (.slice v4a L.length v4c)
      have HO5 : Hid (FyAt (w4.setCell ⟨w.heap.size, 2, none⟩ (.slice v4a L.length v4c)) (w.heap.size + 3) (.slice xa s.es.length xc) (.slice v4a L.length v4c) s.es L) := Lib.hid (.inr (hown4.other ⟨w.heap.size, 2, none⟩ _ (show w.heap.size < w.heap.size + 3 by omega)))
      have hs5 : w.heap.size + 3 <= (w4.setCell ⟨w.heap.size, 2, none⟩ (.slice v4a L.length v4c)).heap.size := by simpa [World.setCell] using hs4
      generalize w4.setCell ⟨w.heap.size, 2, none⟩ (.slice v4a L.length v4c) = W5 at hS5 hZ5 hB5 HO5 hs5 ⊢
      have HM5 : Hid (lenIn W5 w.heap.size < lenIn wr w.heap.size) := Lib.hid (by unfold lenIn; rw [hS5.cell 2 _ rfl, HF2.out]; simp; omega)
      clear hS4 hZ4 hB4 hS3 hZ3 hB3 hSd hZd hBd hown4 hown3 hb3 hb3W hb4 hrun3 hrun4 hg3 hg4
      go_wp2
      exact ⟨⟨L.length, v4a, v4c, L, m', hS5, hZ5, HO5, HV2, by omega, HSz, by omega, rfl, hB5, hs5⟩, HM5.out⟩
     ·have HCp := Lib.hid hcp
      clear hcp
      go_wp2
      refine wp_region_T (fun _ => True) (fun w' => Box w' w.heap.size #[.string s.u, .string ft, .slice (some ⟨b, off, none⟩) M.length yc] 94) 13 (by kernel_rfl) 14 rfl ?_
      have hSd := hS1.drew
      have hZd := hZ1.drew
      have hBd := hB1.drew
      have HRd : Hid (RecAt 5 enC w1.drew w1.drew.heap.size (.slice (some ⟨b, off, none⟩) M.length yc) M) := Lib.hid ((HY.out.below hb1.drew).mono hb1.drew.size).1
      have hsd : w.heap.size + 3 <= w1.drew.heap.size := hs1
      clear hS1 hZ1 hB1 hb1 hs1
      generalize w1.drew = W at hSd hZd hBd HRd hsd ⊢
      refine wA 9 [1, 3, 6, 8, 9] ⟨trivial, fun _ => hSd⟩ ?_
      simp only [pick, List.filterMap_cons, List.filterMap_nil, List.getElem?_cons_zero, List.getElem?_cons_succ]
      refine wS (.pointer (some ⟨w.heap.size, 2, none⟩)) (fun w hw => by go_simp) ?_
      refine wS (.int .i64 (P : Int)) (fun w hw => by go_simp) ?_
      refine wS (.pointer (some ⟨w.heap.size, 2, none⟩)) (fun w hw => by go_simp) ?_
      refine wS (.int .i64 (P : Int)) (fun w hw => by go_simp) ?_
      refine wS (.int .i64 ((P : Int) + 1)) (fun w hw => by go_simp; rw [IntKind.wrap_i64]; omega) ?_
      refine wpIf_nil (fun hS0 => ?_)
      refine wpAnyT_takesB (md := .any) 7 (by kernel_rfl) (by intro d v c a w h; cases d <;> exact h) [2, 7] _ _ _ (by decide) (by kernel_rfl) (by kernel_rfl) (by kernel_rfl) hS0 ?_
      simp only [pick, List.filterMap_cons, List.filterMap_nil, List.getElem?_cons_zero, List.getElem?_cons_succ]
      refine wS (.slice (some ⟨b, off, none⟩) M.length yc) (fun w hw => by have e0 := hw.2.cell 2 _ rfl; go_simp) ?_
      refine wS (.slice (some ⟨b, off, none⟩) M.length yc) (fun w hw => by have e0 := hw.2.cell 2 _ rfl; go_simp) ?_
      refine wpIf_nil (fun hS0 => ?_)
      clear hS0
      refine wA 5 [4, 10] ⟨trivial, fun _ => hSd⟩ ?_
      simp only [pick, List.filterMap_cons, List.filterMap_nil, List.getElem?_cons_zero, List.getElem?_cons_succ]
      refine wS (.slice (some ⟨b, off, none⟩) P yc) (fun w hw => by go_simp; intro h; omega) ?_
      refine wS (.slice (some ⟨b, off + (P + 1) * 5, none⟩) (M.length - (P + 1)) (yc - (P + 1))) (fun w hw => by go_simp; rw [if_pos (show (0 : Int) <= (P : Int) + 1 /\ (P : Int) + 1 <= (M.length : Int) by omega), if_neg (show ¬ yc = P + 1 by have := HCp.out; omega)]) ?_
      refine wpIf_nil (fun hS0 => ?_)
      clear hS0
      refine wO 0 4 (fun K hK => ?_)
      go_simp
      refine hK _ _ ⟨trivial, fun _ => hSd.alloc _⟩ (fun hS0 => ?_)
      clear hK K hS0
      have HL0 := Lib.hid (OwnR.lit (k := 5) (C := enC) 97 W (w.heap.size + 3) hsd)
      have HT0 : Hid (RecAt 5 enC (W.alloc (.cells #[] 97)) W.heap.size (.slice (some ⟨b, off, none⟩) P yc) (M.take P)) := Lib.hid ((HRd.out.take P (by omega)).below ((Below.refl _ _).alloc (Nat.le_refl _) _))
      have htl : (M.take P).length = P := by rw [List.length_take]; omega
      have hdl : (M.drop (P + 1)).length = M.length - (P + 1) := List.length_drop
      obtain ⟨v3, w3, hrun3, hown3, hg3⟩ := appR_run (P := Tryz.prog) (t := 92) enC_len (by decide) Tryz.underlying92 Tryz.infoEntry rfl (by decide) HL0.out HT0.out (fun y _ => enC_one y) (by simp; omega) (by simp; omega) 92
      rw [List.nil_append] at hown3
      have hb3 : Below (w.heap.size + 3) W w3 := ((Below.refl _ _).alloc hsd _).trans (gb_Below hg3 (by simp; omega) (ownBlock_base HL0.out))
      have hb3W : Below W.heap.size W w3 := ((Below.refl _ _).alloc (Nat.le_refl _) _).trans (gb_Below hg3 (by simp) (by intro b hb; cases hb; exact Nat.le_refl _))
      obtain ⟨v3a, v3c, rfl⟩ := hown3.slice
      rw [htl] at hown3 hrun3
      refine wO 5 3 (fun K hK => ?_)
      refine wp_appE (.tmp 33) (.tmp 37) rfl _ _ (.slice v3a P v3c) rfl rfl hrun3 ?_
      have hS3 := hSd.keep hb3 (by omega)
      have hZ3 := hZd.keep hb3 (by omega)
      have hB3 := hBd.trans (hb3.mono (by omega))
      have hs3 : w.heap.size + 3 <= w3.heap.size := by have := hb3.size; omega
      have HR3 : Hid (RecAt 5 enC w3 W.heap.size (.slice (some ⟨b, off + (P + 1) * 5, none⟩) (M.length - (P + 1)) (yc - (P + 1))) (M.drop (P + 1))) := Lib.hid (by exact (HRd.out.below hb3W).drop (P + 1) (by omega) (fun _ b2 off2 hab => by cases hab; rfl))
      go_simp
      refine hK _ _ ⟨trivial, fun _ => hS3⟩ (fun hS0 => ?_)
      clear hK K hS0
      obtain ⟨v4, w4, hrun4, hown4, hg4⟩ := appR_run (P := Tryz.prog) (t := 92) enC_len (by decide) Tryz.underlying92 Tryz.infoEntry rfl (by decide) hown3 HR3.out (fun y _ => enC_one y) (by omega) hs3 92
      have hb4 : Below (w.heap.size + 3) w3 w4 := gb_Below hg4 hs3 (ownBlock_base hown3)
      rw [<- HCt.out] at hown4
      obtain ⟨v4a, v4c, rfl⟩ := hown4.slice
      refine wO 11 2 (fun K hK => ?_)
      refine wp_appE (.tmp 38) (.tmp 43) rfl _ _ (.slice v4a L.length v4c) rfl rfl hrun4 ?_
      have hS4 := hS3.keep hb4 (by omega)
      have hZ4 := hZ3.keep hb4 (by omega)
      have hB4 := hB3.trans (hb4.mono (by omega))
      have hs4 : w.heap.size + 3 <= w4.heap.size := by have := hb4.size; omega
      go_simp
      refine hK _ _ ⟨trivial, fun _ => hS4⟩ (fun hS0 => ?_)
      clear hK K hS0
      refine wA 1 [12] ⟨trivial, fun _ => hS4⟩ ?_
      simp only [pick, List.filterMap_cons, List.filterMap_nil, List.getElem?_cons_zero, List.getElem?_cons_succ]
      refine wS (.pointer (some ⟨w.heap.size, 2, none⟩)) (fun w hw => by go_simp) ?_
      refine wpIf_nil (fun hS0 => ?_)
      clear hS0
      have q0 : w4.cell? ⟨w.heap.size, 2, none⟩ = some (.slice (some ⟨b, off, none⟩) M.length yc) := hS4.cell 2 _ rfl
      have qf := hS4.free
      refine wO 13 0 (fun K hK => ?_)
      go_simp
      refine hK _ _ ⟨trivial, fun h => by exact absurd h (by decide)⟩ (fun hS0 => ?_)
      clear hK K hS0 q0 qf
      refine wpAnyT_over (by kernel_rfl) ?_
      have hS5 := hS4.set 2 (.slice v4a L.length v4c)
      have hZ5 := hZ4.other ⟨w.heap.size, 2, none⟩ (.slice v4a L.length v4c) (show w.heap.size + 1 + 1 ≠ w.heap.size by omega)
      have hB5 := hB4.setCell (p := ⟨w.heap.size, 2, none⟩) (Nat.le_refl _) (.slice v4a L.length v4c)
      have HO5 : Hid (FyAt (w4.setCell ⟨w.heap.size, 2, none⟩ (.slice v4a L.length v4c)) (w.heap.size + 3) (.slice xa s.es.length xc) (.slice v4a L.length v4c) s.es L) := Lib.hid (.inr (hown4.other ⟨w.heap.size, 2, none⟩ _ (show w.heap.size < w.heap.size + 3 by omega)))
      have hs5 : w.heap.size + 3 <= (w4.setCell ⟨w.heap.size, 2, none⟩ (.slice v4a L.length v4c)).heap.size := by simpa [World.setCell] using hs4
      generalize w4.setCell ⟨w.heap.size, 2, none⟩ (.slice v4a L.length v4c) = W5 at hS5 hZ5 hB5 HO5 hs5 ⊢
      have HM5 : Hid (lenIn W5 w.heap.size < lenIn wr w.heap.size) := Lib.hid (by unfold lenIn; rw [hS5.cell 2 _ rfl, HF2.out]; simp; omega)
      clear hS4 hZ4 hB4 hS3 hZ3 hB3 hSd hZd hBd hown4 hown3 hb3 hb3W hb4 hrun3 hrun4 hg3 hg4
      go_wp2
      exact ⟨⟨L.length, v4a, v4c, L, m', hS5, hZ5, HO5, HV2, by omega, HSz, by omega, rfl, hB5, hs5⟩, HM5.out⟩
    ·have hd12 : decide (12 < (M.length : Int)) = false := decide_eq_false (by omega)
     have HMe : Hid (M = ftV s.es its) := Lib.hid (by rw [<- HCu.out, cutE_end _ _ h12])
     have f0 : wr.cell? ⟨w.heap.size, 0, none⟩ = some (.string s.u) := hS.cell 0 _ rfl
     have f1 : wr.cell? ⟨w.heap.size, 1, none⟩ = some (.string ft) := hS.cell 1 _ rfl
     have z0 : wr.cell? ⟨w.heap.size + 1 + 1, 0, none⟩ = some (.string ⟨#[]⟩) := hZ.cell 0 _ rfl
     have z1 : wr.cell? ⟨w.heap.size + 1 + 1, 1, none⟩ = some (.string ⟨#[]⟩) := hZ.cell 1 _ rfl
     have z2 : wr.cell? ⟨w.heap.size + 1 + 1, 2, none⟩ = some (.slice none 0 0) := hZ.cell 2 _ rfl
     have zf := hZ.free
     have HZ := Lib.hid hZ
     have HB := Lib.hid hB
     clear hS hZ hB HY h12 HCu
     go_wp2
     have hZe := ((HZ.out.set 0 (.string s.u)).set 1 (.string ft)).set 2 (.slice ya M.length yc)
     have hBe := ((HB.out.setCell (p := ⟨w.heap.size + 1 + 1, 0, none⟩) (show w.heap.size <= w.heap.size + 1 + 1 by omega) (.string s.u)).setCell (p := ⟨w.heap.size + 1 + 1, 1, none⟩) (show w.heap.size <= w.heap.size + 1 + 1 by omega) (.string ft)).setCell (p := ⟨w.heap.size + 1 + 1, 2, none⟩) (show w.heap.size <= w.heap.size + 1 + 1 by omega) (.slice ya M.length yc)
     have hFe : FyAt (((wr.setCell ⟨w.heap.size + 1 + 1, 0, none⟩ (.string s.u)).setCell ⟨w.heap.size + 1 + 1, 1, none⟩ (.string ft)).setCell ⟨w.heap.size + 1 + 1, 2, none⟩ (.slice ya M.length yc)) w.heap.size (.slice xa s.es.length xc) (.slice ya M.length yc) s.es (ftV s.es its) := by
      rw [<- HMe.out]
      rcases HFy.out with h1 | h1
      ·exact .inl h1
      ·exact .inr ((((h1.other ⟨w.heap.size + 1 + 1, 0, none⟩ _ (show w.heap.size + 1 + 1 < w.heap.size + 3 by omega)).other ⟨w.heap.size + 1 + 1, 1, none⟩ _ (show w.heap.size + 1 + 1 < w.heap.size + 3 by omega)).other ⟨w.heap.size + 1 + 1, 2, none⟩ _ (show w.heap.size + 1 + 1 < w.heap.size + 3 by omega)).base_mono (by omega))
     generalize ((wr.setCell ⟨w.heap.size + 1 + 1, 0, none⟩ (.string s.u)).setCell ⟨w.heap.size + 1 + 1, 1, none⟩ (.string ft)).setCell ⟨w.heap.size + 1 + 1, 2, none⟩ (.slice ya M.length yc) = We at hZe hBe hFe ⊢
     have p0 : We.cell? ⟨w.heap.size + 1 + 1, 0, none⟩ = some (.string s.u) := hZe.cell 0 _ rfl
     have p1 : We.cell? ⟨w.heap.size + 1 + 1, 1, none⟩ = some (.string ft) := hZe.cell 1 _ rfl
     have p2 : We.cell? ⟨w.heap.size + 1 + 1, 2, none⟩ = some (.slice ya M.length yc) := hZe.cell 2 _ rfl
     exact bodyPost_ret (v := sbV s.u ft (.slice ya M.length yc)) (by simp [results, Tryz.results224, go_sem, p0, p1, p2]) rfl ⟨_, rfl, hFe, hBe⟩
end Go.Proofs.YtffkakpbelknaaaGreatDoor
namespace Go.Proofs.YtffkakpbelknaaaGreatDoor
open Go.ChangeShapes Go.WideShapes Go.ChangeAt Go.RowKit
set_option linter.unusedVariables false
theorem specDone_of (HDn : Hid (∀ (v x : Value) (ss : List Sb) (o : OpD) (w : World), SbAt w w.heap.size v ss -> ItAt w w.heap.size x o.its -> OpSz o -> rdB ss = true -> opB o = true -> Calls Tryz.prog 191 #[.agg #[v], opV o x] w (OutDn (doI ss o) w))) (v x : Value) (ss : List Sb) (o : OpD) (w : World) (h : SbAt w w.heap.size v ss) (hx : ItAt w w.heap.size x o.its) (hz : OpSz o) :
  Calls Tryz.prog 164 #[.agg #[v], opV o x] w (OutDn (doV ss o) w) := by
 have HI := Lib.hid h
 have HX := Lib.hid hx
 have HSz := Lib.hid h.size
 have HCr := Lib.hid (fun w h => specReaderOk_any v ss w h)
 have HCo := Lib.hid (fun w h => specOpOk_any o x w h hz)
 obtain ⟨a, cap, rfl, hl, hm, hc⟩ := h.raw
 obtain ⟨xa, xc, rfl⟩ := hx.1.slice
 clear hc h hx
 have hb0 : Below w.heap.size w (((w.alloc (.cells #[.slice a ss.length cap] 42)).alloc (.cells #[.int .i64 o.k, .string o.u, .string o.i, .int .i64 o.d, .string o.fu, .string o.ft, .slice xa o.its.length xc] 35)).alloc (.cells #[.slice none 0 0] 42)) := (((Below.refl _ _).alloc (Nat.le_refl _) _).alloc (by simp) _).alloc (by simp; omega) _
 have hR0 := ((Box.new w #[.slice a ss.length cap] 42).alloc (.cells #[.int .i64 o.k, .string o.u, .string o.i, .int .i64 o.d, .string o.fu, .string o.ft, .slice xa o.its.length xc] 35)).alloc (.cells #[.slice none 0 0] 42)
 have hO0 : Box (((w.alloc (.cells #[.slice a ss.length cap] 42)).alloc (.cells #[.int .i64 o.k, .string o.u, .string o.i, .int .i64 o.d, .string o.fu, .string o.ft, .slice xa o.its.length xc] 35)).alloc (.cells #[.slice none 0 0] 42)) (w.heap.size + 1) #[.int .i64 o.k, .string o.u, .string o.i, .int .i64 o.d, .string o.fu, .string o.ft, .slice xa o.its.length xc] 35 := by
  have := (Box.new (w.alloc (.cells #[.slice a ss.length cap] 42)) #[.int .i64 o.k, .string o.u, .string o.i, .int .i64 o.d, .string o.fu, .string o.ft, .slice xa o.its.length xc] 35).alloc (.cells #[.slice none 0 0] 42)
  simpa using this
 have hZ0 : Box (((w.alloc (.cells #[.slice a ss.length cap] 42)).alloc (.cells #[.int .i64 o.k, .string o.u, .string o.i, .int .i64 o.d, .string o.fu, .string o.ft, .slice xa o.its.length xc] 35)).alloc (.cells #[.slice none 0 0] 42)) (w.heap.size + 1 + 1) #[.slice none 0 0] 42 := by
  have := Box.new ((w.alloc (.cells #[.slice a ss.length cap] 42)).alloc (.cells #[.int .i64 o.k, .string o.u, .string o.i, .int .i64 o.d, .string o.fu, .string o.ft, .slice xa o.its.length xc] 35)) #[.slice none 0 0] 42
  simpa using this
 have hsz0 : (((w.alloc (.cells #[.slice a ss.length cap] 42)).alloc (.cells #[.int .i64 o.k, .string o.u, .string o.i, .int .i64 o.d, .string o.fu, .string o.ft, .slice xa o.its.length xc] 35)).alloc (.cells #[.slice none 0 0] 42)).heap.size = w.heap.size + 3 := by simp
 cases hrd : rdB ss with
 | false =>
  have HV : Hid (doV ss o = none) := Lib.hid (by unfold doV; rw [if_neg (fun h => by rw [hrd] at h; cases h.1)])
  rw [HV.out]
  rw [hrd] at HCr
  clear hrd HV
  go_enter Tryz.func164, Tryz.ntmps164
  go_wp2_with fail
  generalize ((w.alloc (.cells #[.slice a ss.length cap] 42)).alloc (.cells #[.int .i64 o.k, .string o.u, .string o.i, .int .i64 o.d, .string o.fu, .string o.ft, .slice xa o.its.length xc] 35)).alloc (.cells #[.slice none 0 0] 42) = W0 at hb0 hR0 hO0 hZ0 hsz0 ⊢
  refine (HCr.out _ ((HI.out.below hb0).mono hb0.size)).mono ?_
  rintro e w1 ⟨rfl, hb1⟩
  have hB1 := hb0.trans (hb1.mono hb0.size)
  have hZ1 := hZ0.keep hb1 hZ0.lt
  have q0 : w1.cell? ⟨w.heap.size + 1 + 1, 0, none⟩ = some (.slice none 0 0) := hZ1.cell 0 _ rfl
  have qf := hZ1.free
  clear hb1 hb0 hR0 hO0 hZ0
  go_wp2
  have hZ2 := hZ1.set 0 (.slice none 0 0)
  have hB2 := hB1.setCell (p := ⟨w.heap.size + 1 + 1, 0, none⟩) (by simp; omega) (.slice none 0 0)
  generalize w1.setCell ⟨w.heap.size + 1 + 1, 0, none⟩ (.slice none 0 0) = W2 at hZ2 hB2 ⊢
  have p0 : W2.cell? ⟨w.heap.size + 1 + 1, 0, none⟩ = some (.slice none 0 0) := hZ2.cell 0 _ rfl
  exact bodyPost_ret (v := .tuple #[.agg #[.slice none 0 0], .bool false]) (by simp [results, Tryz.results164, go_sem, p0]) rfl ⟨rfl, hB2⟩
 | true =>
  cases hop : opB o with
  | false =>
   have HV : Hid (doV ss o = none) := Lib.hid (by unfold doV; rw [if_neg (fun h => by rw [hop] at h; cases h.2)])
   rw [HV.out]
   rw [hrd] at HCr
   rw [hop] at HCo
   clear hrd hop HV
   go_enter Tryz.func164, Tryz.ntmps164
   go_wp2_with fail
   generalize ((w.alloc (.cells #[.slice a ss.length cap] 42)).alloc (.cells #[.int .i64 o.k, .string o.u, .string o.i, .int .i64 o.d, .string o.fu, .string o.ft, .slice xa o.its.length xc] 35)).alloc (.cells #[.slice none 0 0] 42) = W0 at hb0 hR0 hO0 hZ0 hsz0 ⊢
   refine (HCr.out _ ((HI.out.below hb0).mono hb0.size)).mono ?_
   rintro e w1 ⟨rfl, hb1⟩
   have hB1 := hb0.trans (hb1.mono hb0.size)
   have hZ1 := hZ0.keep hb1 hZ0.lt
   have hO1 := hO0.keep hb1 hO0.lt
   have hR1 := hR0.keep hb1 hR0.lt
   have f0 : w1.cell? ⟨w.heap.size + 1, 0, none⟩ = some (.int .i64 o.k) := hO1.cell 0 _ rfl
   have f1 : w1.cell? ⟨w.heap.size + 1, 1, none⟩ = some (.string o.u) := hO1.cell 1 _ rfl
   have f2 : w1.cell? ⟨w.heap.size + 1, 2, none⟩ = some (.string o.i) := hO1.cell 2 _ rfl
   have f3 : w1.cell? ⟨w.heap.size + 1, 3, none⟩ = some (.int .i64 o.d) := hO1.cell 3 _ rfl
   have f4 : w1.cell? ⟨w.heap.size + 1, 4, none⟩ = some (.string o.fu) := hO1.cell 4 _ rfl
   have f5 : w1.cell? ⟨w.heap.size + 1, 5, none⟩ = some (.string o.ft) := hO1.cell 5 _ rfl
   have f6 : w1.cell? ⟨w.heap.size + 1, 6, none⟩ = some (.slice xa o.its.length xc) := hO1.cell 6 _ rfl
   have hs1 : w.heap.size + 3 <= w1.heap.size := by have := hb1.size; omega
   clear hb1 hb0 hR0 hO0 hZ0 hsz0
   go_wp2_with fail
   refine (HCo.out _ ((HX.out.below hB1).mono hB1.size)).mono ?_
   rintro e w2 ⟨rfl, hb2⟩
   have hB2 := hB1.trans (hb2.mono hB1.size)
   have hZ2 := hZ1.keep hb2 hZ1.lt
   have hO2 := hO1.keep hb2 hO1.lt
   have hR2 := hR1.keep hb2 hR1.lt
   have hs2 : w.heap.size + 3 <= w2.heap.size := by have := hb2.size; omega
   clear hb2 hB1 hZ1 hO1 hR1 f0 f1 f2 f3 f4 f5 f6
   have q0 : w2.cell? ⟨w.heap.size + 1 + 1, 0, none⟩ = some (.slice none 0 0) := hZ2.cell 0 _ rfl
   have qf := hZ2.free
   go_wp2
   have hZe := hZ2.set 0 (.slice none 0 0)
   have hBe := hB2.setCell (p := ⟨w.heap.size + 1 + 1, 0, none⟩) (by simp; omega) (.slice none 0 0)
   generalize w2.setCell ⟨w.heap.size + 1 + 1, 0, none⟩ (.slice none 0 0) = We at hZe hBe ⊢
   have p0 : We.cell? ⟨w.heap.size + 1 + 1, 0, none⟩ = some (.slice none 0 0) := hZe.cell 0 _ rfl
   exact bodyPost_ret (v := .tuple #[.agg #[.slice none 0 0], .bool false]) (by simp [results, Tryz.results164, go_sem, p0]) rfl ⟨rfl, hBe⟩
  | true =>
   have HV : Hid (doV ss o = doI ss o) := Lib.hid (by unfold doV; rw [if_pos ⟨hrd, hop⟩])
   rw [HV.out]
   have HRd := Lib.hid hrd
   have HOp := Lib.hid hop
   have HOz := Lib.hid hz
   rw [hrd] at HCr
   rw [hop] at HCo
   clear hrd hop HV hz
   go_enter Tryz.func164, Tryz.ntmps164
   go_wp2_with fail
   generalize ((w.alloc (.cells #[.slice a ss.length cap] 42)).alloc (.cells #[.int .i64 o.k, .string o.u, .string o.i, .int .i64 o.d, .string o.fu, .string o.ft, .slice xa o.its.length xc] 35)).alloc (.cells #[.slice none 0 0] 42) = W0 at hb0 hR0 hO0 hZ0 hsz0 ⊢
   refine (HCr.out _ ((HI.out.below hb0).mono hb0.size)).mono ?_
   rintro e w1 ⟨rfl, hb1⟩
   have hB1 := hb0.trans (hb1.mono hb0.size)
   have hZ1 := hZ0.keep hb1 hZ0.lt
   have hO1 := hO0.keep hb1 hO0.lt
   have hR1 := hR0.keep hb1 hR0.lt
   have f0 : w1.cell? ⟨w.heap.size + 1, 0, none⟩ = some (.int .i64 o.k) := hO1.cell 0 _ rfl
   have f1 : w1.cell? ⟨w.heap.size + 1, 1, none⟩ = some (.string o.u) := hO1.cell 1 _ rfl
   have f2 : w1.cell? ⟨w.heap.size + 1, 2, none⟩ = some (.string o.i) := hO1.cell 2 _ rfl
   have f3 : w1.cell? ⟨w.heap.size + 1, 3, none⟩ = some (.int .i64 o.d) := hO1.cell 3 _ rfl
   have f4 : w1.cell? ⟨w.heap.size + 1, 4, none⟩ = some (.string o.fu) := hO1.cell 4 _ rfl
   have f5 : w1.cell? ⟨w.heap.size + 1, 5, none⟩ = some (.string o.ft) := hO1.cell 5 _ rfl
   have f6 : w1.cell? ⟨w.heap.size + 1, 6, none⟩ = some (.slice xa o.its.length xc) := hO1.cell 6 _ rfl
   have hs1 : w.heap.size + 3 <= w1.heap.size := by have := hb1.size; omega
   clear hb1 hb0 hR0 hO0 hZ0 hsz0
   go_wp2_with fail
   refine (HCo.out _ ((HX.out.below hB1).mono hB1.size)).mono ?_
   rintro e w2 ⟨rfl, hb2⟩
   have hB2 := hB1.trans (hb2.mono hB1.size)
   have hZ2 := hZ1.keep hb2 hZ1.lt
   have hO2 := hO1.keep hb2 hO1.lt
   have hR2 := hR1.keep hb2 hR1.lt
   have hs2 : w.heap.size + 3 <= w2.heap.size := by have := hb2.size; omega
   have r0 : w2.cell? ⟨w.heap.size, 0, none⟩ = some (.slice a ss.length cap) := hR2.cell 0 _ rfl
   clear f0 f1 f2 f3 f4 f5 f6
   have g0 : w2.cell? ⟨w.heap.size + 1, 0, none⟩ = some (.int .i64 o.k) := hO2.cell 0 _ rfl
   have g1 : w2.cell? ⟨w.heap.size + 1, 1, none⟩ = some (.string o.u) := hO2.cell 1 _ rfl
   have g2 : w2.cell? ⟨w.heap.size + 1, 2, none⟩ = some (.string o.i) := hO2.cell 2 _ rfl
   have g3 : w2.cell? ⟨w.heap.size + 1, 3, none⟩ = some (.int .i64 o.d) := hO2.cell 3 _ rfl
   have g4 : w2.cell? ⟨w.heap.size + 1, 4, none⟩ = some (.string o.fu) := hO2.cell 4 _ rfl
   have g5 : w2.cell? ⟨w.heap.size + 1, 5, none⟩ = some (.string o.ft) := hO2.cell 5 _ rfl
   have g6 : w2.cell? ⟨w.heap.size + 1, 6, none⟩ = some (.slice xa o.its.length xc) := hO2.cell 6 _ rfl
   have HL := Lib.hid (HDn.out (.slice a ss.length cap) (.slice xa o.its.length xc) ss o w2 ((HI.out.below hB2).mono hB2.size) ((HX.out.below hB2).mono hB2.size) HOz.out HRd.out HOp.out)
   clear hb2 hB1 hZ1 hO1 hR1 hR2 hO2 HCr HCo
   cases hcv : doI ss o with
   | none =>
    have HCv := Lib.hid hcv
    rw [hcv] at HL
    unfold OutDn at HL
    go_wp2_with fail
    refine HL.out.mono ?_
    rintro e w4 ⟨rfl, hb4⟩
    have hB4 := hB2.trans (hb4.mono hB2.size)
    have hZ4 := hZ2.keep hb4 hZ2.lt
    clear hb4 hB2 hZ2 r0 g0 g1 g2 g3 g4 g5 g6 HL hcv
    have q0 : w4.cell? ⟨w.heap.size + 1 + 1, 0, none⟩ = some (.slice none 0 0) := hZ4.cell 0 _ rfl
    have qf := hZ4.free
    go_wp2
    have hZe := hZ4.set 0 (.slice none 0 0)
    have hBe := hB4.setCell (p := ⟨w.heap.size + 1 + 1, 0, none⟩) (by simp; omega) (.slice none 0 0)
    generalize w4.setCell ⟨w.heap.size + 1 + 1, 0, none⟩ (.slice none 0 0) = We at hZe hBe ⊢
    have p0 : We.cell? ⟨w.heap.size + 1 + 1, 0, none⟩ = some (.slice none 0 0) := hZe.cell 0 _ rfl
    exact bodyPost_ret (v := .tuple #[.agg #[.slice none 0 0], .bool false]) (by simp [results, Tryz.results164, go_sem, p0]) rfl (OutDn.none11 HCv.out rfl hBe)
   | some rs =>
    have HCv := Lib.hid hcv
    rw [hcv] at HL
    unfold OutDn at HL
    go_wp2_with fail
    refine HL.out.mono ?_
    rintro e w4 ⟨v4, qs, rfl, hq, hD4, hb4⟩
    have hB4 := hB2.trans (hb4.mono hB2.size)
    have hZ4 := hZ2.keep hb4 hZ2.lt
    have HD4 := Lib.hid hD4
    have HQ := Lib.hid hq
    clear hb4 hB2 hZ2 r0 g0 g1 g2 g3 g4 g5 g6 HL hcv hq hD4
    obtain ⟨va, vc, rfl⟩ := HD4.out.1.slice
    have q0 : w4.cell? ⟨w.heap.size + 1 + 1, 0, none⟩ = some (.slice none 0 0) := hZ4.cell 0 _ rfl
    have qf := hZ4.free
    go_wp2
    have hZe := hZ4.set 0 (.slice va qs.length vc)
    have hBe := hB4.setCell (p := ⟨w.heap.size + 1 + 1, 0, none⟩) (by simp; omega) (.slice va qs.length vc)
    have hDe := (HD4.out.aside ⟨w.heap.size + 1 + 1, 0, none⟩ (.slice va qs.length vc) (by simp; omega)).lower (show w.heap.size <= w2.heap.size by omega)
    generalize w4.setCell ⟨w.heap.size + 1 + 1, 0, none⟩ (.slice va qs.length vc) = We at hZe hBe hDe ⊢
    have p0 : We.cell? ⟨w.heap.size + 1 + 1, 0, none⟩ = some (.slice va qs.length vc) := hZe.cell 0 _ rfl
    exact bodyPost_ret (v := .tuple #[.agg #[.slice va qs.length vc], .bool true]) (by simp [results, Tryz.results164, go_sem, p0]) rfl (OutDn.some11 HCv.out ⟨_, qs, rfl, HQ.out, hDe, hBe⟩)
end Go.Proofs.YtffkakpbelknaaaGreatDoor
namespace Go.Proofs.YtffkakpbelknaaaGreatDoor
open Go.ChangeShapes Go.WideShapes Go.ChangeAt Go.RowKit
set_option linter.unusedVariables false
theorem l9Done_gone (v x : Value) (ss : List Sb) (o : OpD) (w : World) (h : SbAt w w.heap.size v ss) (hx : ItAt w w.heap.size x o.its) (hr : rdB ss = true) (hk1 : ¬ o.k = 1) (hk9 : ¬ o.k = 9) (hf : fnB (sbKs ss) (opU o) = false) :
  Calls Tryz.prog 191 #[.agg #[v], opV o x] w fun e w' => e = .returned (.tuple #[.agg #[.slice none 0 0], .bool false]) /\ Below w.heap.size w w' := by
 have HI := Lib.hid h
 have HX := Lib.hid hx
 have h6 := rd_len hr
 have HCp := Lib.hid (fun w h => l9Copy_any v ss w h (by omega) (fun s hs => by have := sb_len (rd_sub hr s hs); omega))
 have HAt := Lib.hid (fun w h => l9At_any v ss (opU o) w h)
 rw [atK_not (rd_ris hr) hf] at HAt
 obtain ⟨a, cap, rfl, hl, hm, hc⟩ := h.raw
 obtain ⟨xa, xc, rfl⟩ := hx.1.slice
 clear hc h hx hr hf
 have hb0 : Below w.heap.size w (((w.alloc (.cells #[.slice a ss.length cap] 42)).alloc (.cells #[.int .i64 o.k, .string o.u, .string o.i, .int .i64 o.d, .string o.fu, .string o.ft, .slice xa o.its.length xc] 35)).alloc (.cells #[.slice none 0 0] 42)) := (((Below.refl _ _).alloc (Nat.le_refl _) _).alloc (by simp) _).alloc (by simp; omega) _
 have hR0 := ((Box.new w #[.slice a ss.length cap] 42).alloc (.cells #[.int .i64 o.k, .string o.u, .string o.i, .int .i64 o.d, .string o.fu, .string o.ft, .slice xa o.its.length xc] 35)).alloc (.cells #[.slice none 0 0] 42)
 have hO0 : Box (((w.alloc (.cells #[.slice a ss.length cap] 42)).alloc (.cells #[.int .i64 o.k, .string o.u, .string o.i, .int .i64 o.d, .string o.fu, .string o.ft, .slice xa o.its.length xc] 35)).alloc (.cells #[.slice none 0 0] 42)) (w.heap.size + 1) #[.int .i64 o.k, .string o.u, .string o.i, .int .i64 o.d, .string o.fu, .string o.ft, .slice xa o.its.length xc] 35 := by
  have := (Box.new (w.alloc (.cells #[.slice a ss.length cap] 42)) #[.int .i64 o.k, .string o.u, .string o.i, .int .i64 o.d, .string o.fu, .string o.ft, .slice xa o.its.length xc] 35).alloc (.cells #[.slice none 0 0] 42)
  simpa using this
 have hZ0 : Box (((w.alloc (.cells #[.slice a ss.length cap] 42)).alloc (.cells #[.int .i64 o.k, .string o.u, .string o.i, .int .i64 o.d, .string o.fu, .string o.ft, .slice xa o.its.length xc] 35)).alloc (.cells #[.slice none 0 0] 42)) (w.heap.size + 1 + 1) #[.slice none 0 0] 42 := by
  have := Box.new ((w.alloc (.cells #[.slice a ss.length cap] 42)).alloc (.cells #[.int .i64 o.k, .string o.u, .string o.i, .int .i64 o.d, .string o.fu, .string o.ft, .slice xa o.its.length xc] 35)) #[.slice none 0 0] 42
  simpa using this
 have hsz0 : (((w.alloc (.cells #[.slice a ss.length cap] 42)).alloc (.cells #[.int .i64 o.k, .string o.u, .string o.i, .int .i64 o.d, .string o.fu, .string o.ft, .slice xa o.its.length xc] 35)).alloc (.cells #[.slice none 0 0] 42)).heap.size = w.heap.size + 3 := by simp
 have hkk : (o.k == 1) = false := beq_eq_false_iff_ne.2 hk1
 have hk99 : (o.k == 9) = false := beq_eq_false_iff_ne.2 hk9
 clear hk1 hk9
 unfold OutCp at HCp
 by_cases hk3 : o.k = 3
 ·have HU : Hid (opU o = o.fu) := Lib.hid (by unfold opU; rw [if_pos hk3])
  rw [HU.out] at HAt
  have hk33 : (o.k == 3) = true := beq_iff_eq.2 hk3
  clear hk3 HU
  go_enter Tryz.func191, Tryz.ntmps191
  go_wp2_with fail
  generalize ((w.alloc (.cells #[.slice a ss.length cap] 42)).alloc (.cells #[.int .i64 o.k, .string o.u, .string o.i, .int .i64 o.d, .string o.fu, .string o.ft, .slice xa o.its.length xc] 35)).alloc (.cells #[.slice none 0 0] 42) = W0 at hb0 hR0 hO0 hZ0 hsz0 ⊢
  refine (HCp.out _ ((HI.out.below hb0).mono hb0.size)).mono ?_
  rintro e w1 ⟨v1, qs, rfl, hq1, hD1, hb1⟩
  obtain ⟨va, vc, rfl⟩ := hD1.1.slice
  have hs1 : w.heap.size + 3 <= w1.heap.size := by have := hb1.size; omega
  have hB1 := (hb0.trans (hb1.mono hb0.size)).alloc (by omega) (.cells #[.slice va qs.length vc] 42)
  have hZ1 := (hZ0.keep hb1 hZ0.lt).alloc (.cells #[.slice va qs.length vc] 42)
  have hO1 := (hO0.keep hb1 hO0.lt).alloc (.cells #[.slice va qs.length vc] 42)
  have hR1 := (hR0.keep hb1 hR0.lt).alloc (.cells #[.slice va qs.length vc] 42)
  clear hb1 hb0 hR0 hO0 hZ0 hsz0 hq1 hD1 HCp
  have f0 : (w1.alloc (.cells #[.slice va qs.length vc] 42)).cell? ⟨w.heap.size + 1, 0, none⟩ = some (.int .i64 o.k) := hO1.cell 0 _ rfl
  have f1 : (w1.alloc (.cells #[.slice va qs.length vc] 42)).cell? ⟨w.heap.size + 1, 1, none⟩ = some (.string o.u) := hO1.cell 1 _ rfl
  have f4 : (w1.alloc (.cells #[.slice va qs.length vc] 42)).cell? ⟨w.heap.size + 1, 4, none⟩ = some (.string o.fu) := hO1.cell 4 _ rfl
  have r0 : (w1.alloc (.cells #[.slice va qs.length vc] 42)).cell? ⟨w.heap.size, 0, none⟩ = some (.slice a ss.length cap) := hR1.cell 0 _ rfl
  go_wp2_with fail
  refine (HAt.out _ ((HI.out.below hB1).mono hB1.size)).mono ?_
  rintro e w2 ⟨rfl, hb2⟩
  have hB2 := hB1.trans (hb2.mono hB1.size)
  have hZ2 := hZ1.keep hb2 hZ1.lt
  have hO2 := hO1.keep hb2 hO1.lt
  have g0 : w2.cell? ⟨w.heap.size + 1, 0, none⟩ = some (.int .i64 o.k) := hO2.cell 0 _ rfl
  clear hb2 hB1 hZ1 hO1 hR1 f0 f1 f4 r0 HAt
  have q0 : w2.cell? ⟨w.heap.size + 1 + 1, 0, none⟩ = some (.slice none 0 0) := hZ2.cell 0 _ rfl
  have qf := hZ2.free
  go_wp2
  have hZe := hZ2.set 0 (.slice none 0 0)
  have hBe := hB2.setCell (p := ⟨w.heap.size + 1 + 1, 0, none⟩) (by simp; omega) (.slice none 0 0)
  generalize w2.setCell ⟨w.heap.size + 1 + 1, 0, none⟩ (.slice none 0 0) = We at hZe hBe ⊢
  have p0 : We.cell? ⟨w.heap.size + 1 + 1, 0, none⟩ = some (.slice none 0 0) := hZe.cell 0 _ rfl
  exact bodyPost_ret (v := .tuple #[.agg #[.slice none 0 0], .bool false]) (by simp [results, Tryz.results191, go_sem, p0]) rfl ⟨rfl, hBe⟩
 ·have HU : Hid (opU o = o.u) := Lib.hid (by unfold opU; rw [if_neg hk3])
  rw [HU.out] at HAt
  have hk33 : (o.k == 3) = false := beq_eq_false_iff_ne.2 hk3
  clear hk3 HU
  go_enter Tryz.func191, Tryz.ntmps191
  go_wp2_with fail
  generalize ((w.alloc (.cells #[.slice a ss.length cap] 42)).alloc (.cells #[.int .i64 o.k, .string o.u, .string o.i, .int .i64 o.d, .string o.fu, .string o.ft, .slice xa o.its.length xc] 35)).alloc (.cells #[.slice none 0 0] 42) = W0 at hb0 hR0 hO0 hZ0 hsz0 ⊢
  refine (HCp.out _ ((HI.out.below hb0).mono hb0.size)).mono ?_
  rintro e w1 ⟨v1, qs, rfl, hq1, hD1, hb1⟩
  obtain ⟨va, vc, rfl⟩ := hD1.1.slice
  have hs1 : w.heap.size + 3 <= w1.heap.size := by have := hb1.size; omega
  have hB1 := (hb0.trans (hb1.mono hb0.size)).alloc (by omega) (.cells #[.slice va qs.length vc] 42)
  have hZ1 := (hZ0.keep hb1 hZ0.lt).alloc (.cells #[.slice va qs.length vc] 42)
  have hO1 := (hO0.keep hb1 hO0.lt).alloc (.cells #[.slice va qs.length vc] 42)
  have hR1 := (hR0.keep hb1 hR0.lt).alloc (.cells #[.slice va qs.length vc] 42)
  clear hb1 hb0 hR0 hO0 hZ0 hsz0 hq1 hD1 HCp
  have f0 : (w1.alloc (.cells #[.slice va qs.length vc] 42)).cell? ⟨w.heap.size + 1, 0, none⟩ = some (.int .i64 o.k) := hO1.cell 0 _ rfl
  have f1 : (w1.alloc (.cells #[.slice va qs.length vc] 42)).cell? ⟨w.heap.size + 1, 1, none⟩ = some (.string o.u) := hO1.cell 1 _ rfl
  have f4 : (w1.alloc (.cells #[.slice va qs.length vc] 42)).cell? ⟨w.heap.size + 1, 4, none⟩ = some (.string o.fu) := hO1.cell 4 _ rfl
  have r0 : (w1.alloc (.cells #[.slice va qs.length vc] 42)).cell? ⟨w.heap.size, 0, none⟩ = some (.slice a ss.length cap) := hR1.cell 0 _ rfl
  go_wp2_with fail
  refine (HAt.out _ ((HI.out.below hB1).mono hB1.size)).mono ?_
  rintro e w2 ⟨rfl, hb2⟩
  have hB2 := hB1.trans (hb2.mono hB1.size)
  have hZ2 := hZ1.keep hb2 hZ1.lt
  have hO2 := hO1.keep hb2 hO1.lt
  have g0 : w2.cell? ⟨w.heap.size + 1, 0, none⟩ = some (.int .i64 o.k) := hO2.cell 0 _ rfl
  clear hb2 hB1 hZ1 hO1 hR1 f0 f1 f4 r0 HAt
  have q0 : w2.cell? ⟨w.heap.size + 1 + 1, 0, none⟩ = some (.slice none 0 0) := hZ2.cell 0 _ rfl
  have qf := hZ2.free
  go_wp2
  have hZe := hZ2.set 0 (.slice none 0 0)
  have hBe := hB2.setCell (p := ⟨w.heap.size + 1 + 1, 0, none⟩) (by simp; omega) (.slice none 0 0)
  generalize w2.setCell ⟨w.heap.size + 1 + 1, 0, none⟩ (.slice none 0 0) = We at hZe hBe ⊢
  have p0 : We.cell? ⟨w.heap.size + 1 + 1, 0, none⟩ = some (.slice none 0 0) := hZe.cell 0 _ rfl
  exact bodyPost_ret (v := .tuple #[.agg #[.slice none 0 0], .bool false]) (by simp [results, Tryz.results191, go_sem, p0]) rfl ⟨rfl, hBe⟩
theorem l9Done_there (v x : Value) (ss : List Sb) (o : OpD) (w : World) (h : SbAt w w.heap.size v ss) (hx : ItAt w w.heap.size x o.its) (hr : rdB ss = true) (hk1 : o.k = 1) (hf : fnB (sbKs ss) o.u = true) :
  Calls Tryz.prog 191 #[.agg #[v], opV o x] w fun e w' => e = .returned (.tuple #[.agg #[.slice none 0 0], .bool false]) /\ Below w.heap.size w w' := by
 have HI := Lib.hid h
 have HX := Lib.hid hx
 have h6 := rd_len hr
 have HCp := Lib.hid (fun w h => l9Copy_any v ss w h (by omega) (fun s hs => by have := sb_len (rd_sub hr s hs); omega))
 have HAt := Lib.hid (fun w h => l9At_any v ss o.u w h)
 rw [atK_there (rd_ris hr) hf] at HAt
 generalize plK (sbKs ss) o.u = p at HAt
 have hge : decide (0 <= (p : Int)) = true := decide_eq_true (by omega)
 obtain ⟨a, cap, rfl, hl, hm, hc⟩ := h.raw
 obtain ⟨xa, xc, rfl⟩ := hx.1.slice
 clear hc h hx hr hf
 have hb0 : Below w.heap.size w (((w.alloc (.cells #[.slice a ss.length cap] 42)).alloc (.cells #[.int .i64 o.k, .string o.u, .string o.i, .int .i64 o.d, .string o.fu, .string o.ft, .slice xa o.its.length xc] 35)).alloc (.cells #[.slice none 0 0] 42)) := (((Below.refl _ _).alloc (Nat.le_refl _) _).alloc (by simp) _).alloc (by simp; omega) _
 have hR0 := ((Box.new w #[.slice a ss.length cap] 42).alloc (.cells #[.int .i64 o.k, .string o.u, .string o.i, .int .i64 o.d, .string o.fu, .string o.ft, .slice xa o.its.length xc] 35)).alloc (.cells #[.slice none 0 0] 42)
 have hO0 : Box (((w.alloc (.cells #[.slice a ss.length cap] 42)).alloc (.cells #[.int .i64 o.k, .string o.u, .string o.i, .int .i64 o.d, .string o.fu, .string o.ft, .slice xa o.its.length xc] 35)).alloc (.cells #[.slice none 0 0] 42)) (w.heap.size + 1) #[.int .i64 o.k, .string o.u, .string o.i, .int .i64 o.d, .string o.fu, .string o.ft, .slice xa o.its.length xc] 35 := by
  have := (Box.new (w.alloc (.cells #[.slice a ss.length cap] 42)) #[.int .i64 o.k, .string o.u, .string o.i, .int .i64 o.d, .string o.fu, .string o.ft, .slice xa o.its.length xc] 35).alloc (.cells #[.slice none 0 0] 42)
  simpa using this
 have hZ0 : Box (((w.alloc (.cells #[.slice a ss.length cap] 42)).alloc (.cells #[.int .i64 o.k, .string o.u, .string o.i, .int .i64 o.d, .string o.fu, .string o.ft, .slice xa o.its.length xc] 35)).alloc (.cells #[.slice none 0 0] 42)) (w.heap.size + 1 + 1) #[.slice none 0 0] 42 := by
  have := Box.new ((w.alloc (.cells #[.slice a ss.length cap] 42)).alloc (.cells #[.int .i64 o.k, .string o.u, .string o.i, .int .i64 o.d, .string o.fu, .string o.ft, .slice xa o.its.length xc] 35)) #[.slice none 0 0] 42
  simpa using this
 have hsz0 : (((w.alloc (.cells #[.slice a ss.length cap] 42)).alloc (.cells #[.int .i64 o.k, .string o.u, .string o.i, .int .i64 o.d, .string o.fu, .string o.ft, .slice xa o.its.length xc] 35)).alloc (.cells #[.slice none 0 0] 42)).heap.size = w.heap.size + 3 := by simp
 have hkk : (o.k == 1) = true := beq_iff_eq.2 hk1
 have hk99 : (o.k == 9) = false := beq_eq_false_iff_ne.2 (by omega)
 have hk33 : (o.k == 3) = false := beq_eq_false_iff_ne.2 (by omega)
 clear hk1
 unfold OutCp at HCp
 go_enter Tryz.func191, Tryz.ntmps191
 go_wp2_with fail
 generalize ((w.alloc (.cells #[.slice a ss.length cap] 42)).alloc (.cells #[.int .i64 o.k, .string o.u, .string o.i, .int .i64 o.d, .string o.fu, .string o.ft, .slice xa o.its.length xc] 35)).alloc (.cells #[.slice none 0 0] 42) = W0 at hb0 hR0 hO0 hZ0 hsz0 ⊢
 refine (HCp.out _ ((HI.out.below hb0).mono hb0.size)).mono ?_
 rintro e w1 ⟨v1, qs, rfl, hq1, hD1, hb1⟩
 obtain ⟨va, vc, rfl⟩ := hD1.1.slice
 have hs1 : w.heap.size + 3 <= w1.heap.size := by have := hb1.size; omega
 have hB1 := (hb0.trans (hb1.mono hb0.size)).alloc (by omega) (.cells #[.slice va qs.length vc] 42)
 have hZ1 := (hZ0.keep hb1 hZ0.lt).alloc (.cells #[.slice va qs.length vc] 42)
 have hO1 := (hO0.keep hb1 hO0.lt).alloc (.cells #[.slice va qs.length vc] 42)
 have hR1 := (hR0.keep hb1 hR0.lt).alloc (.cells #[.slice va qs.length vc] 42)
 clear hb1 hb0 hR0 hO0 hZ0 hsz0 hq1 hD1 HCp
 have f0 : (w1.alloc (.cells #[.slice va qs.length vc] 42)).cell? ⟨w.heap.size + 1, 0, none⟩ = some (.int .i64 o.k) := hO1.cell 0 _ rfl
 have f1 : (w1.alloc (.cells #[.slice va qs.length vc] 42)).cell? ⟨w.heap.size + 1, 1, none⟩ = some (.string o.u) := hO1.cell 1 _ rfl
 have f4 : (w1.alloc (.cells #[.slice va qs.length vc] 42)).cell? ⟨w.heap.size + 1, 4, none⟩ = some (.string o.fu) := hO1.cell 4 _ rfl
 have r0 : (w1.alloc (.cells #[.slice va qs.length vc] 42)).cell? ⟨w.heap.size, 0, none⟩ = some (.slice a ss.length cap) := hR1.cell 0 _ rfl
 go_wp2_with fail
 refine (HAt.out _ ((HI.out.below hB1).mono hB1.size)).mono ?_
 rintro e w2 ⟨rfl, hb2⟩
 have hB2 := hB1.trans (hb2.mono hB1.size)
 have hZ2 := hZ1.keep hb2 hZ1.lt
 have hO2 := hO1.keep hb2 hO1.lt
 have g0 : w2.cell? ⟨w.heap.size + 1, 0, none⟩ = some (.int .i64 o.k) := hO2.cell 0 _ rfl
 have s0 : w2.cell? ⟨w.heap.size, 0, none⟩ = some (.slice a ss.length cap) := (hR1.keep hb2 hR1.lt).cell 0 _ rfl; clear hb2 hB1 hZ1 hO1 hR1 f0 f1 f4 r0 HAt
 have q0 : w2.cell? ⟨w.heap.size + 1 + 1, 0, none⟩ = some (.slice none 0 0) := hZ2.cell 0 _ rfl
 have qf := hZ2.free
 go_wp2
 have hZe := hZ2.set 0 (.slice none 0 0)
 have hBe := hB2.setCell (p := ⟨w.heap.size + 1 + 1, 0, none⟩) (by simp; omega) (.slice none 0 0)
 generalize w2.setCell ⟨w.heap.size + 1 + 1, 0, none⟩ (.slice none 0 0) = We at hZe hBe ⊢
 have p0 : We.cell? ⟨w.heap.size + 1 + 1, 0, none⟩ = some (.slice none 0 0) := hZe.cell 0 _ rfl
 exact bodyPost_ret (v := .tuple #[.agg #[.slice none 0 0], .bool false]) (by simp [results, Tryz.results191, go_sem, p0]) rfl ⟨rfl, hBe⟩
theorem l9Done_full (v x : Value) (ss : List Sb) (o : OpD) (w : World) (h : SbAt w w.heap.size v ss) (hx : ItAt w w.heap.size x o.its) (hr : rdB ss = true) (hk1 : o.k = 1) (hf : fnB (sbKs ss) o.u = false) (h66 : ss.length = 6) :
  Calls Tryz.prog 191 #[.agg #[v], opV o x] w fun e w' => e = .returned (.tuple #[.agg #[.slice none 0 0], .bool false]) /\ Below w.heap.size w w' := by
 have HI := Lib.hid h
 have HX := Lib.hid hx
 have h6 := rd_len hr
 have HCp := Lib.hid (fun w h => l9Copy_any v ss w h (by omega) (fun s hs => by have := sb_len (rd_sub hr s hs); omega))
 have HAt := Lib.hid (fun w h => l9At_any v ss o.u w h)
 rw [atK_not (rd_ris hr) hf] at HAt
 have hge : ((ss.length : Int) == 6) = true := beq_iff_eq.2 (by omega)
 clear h66 h6
 obtain ⟨a, cap, rfl, hl, hm, hc⟩ := h.raw
 obtain ⟨xa, xc, rfl⟩ := hx.1.slice
 clear hc h hx hr hf
 have hb0 : Below w.heap.size w (((w.alloc (.cells #[.slice a ss.length cap] 42)).alloc (.cells #[.int .i64 o.k, .string o.u, .string o.i, .int .i64 o.d, .string o.fu, .string o.ft, .slice xa o.its.length xc] 35)).alloc (.cells #[.slice none 0 0] 42)) := (((Below.refl _ _).alloc (Nat.le_refl _) _).alloc (by simp) _).alloc (by simp; omega) _
 have hR0 := ((Box.new w #[.slice a ss.length cap] 42).alloc (.cells #[.int .i64 o.k, .string o.u, .string o.i, .int .i64 o.d, .string o.fu, .string o.ft, .slice xa o.its.length xc] 35)).alloc (.cells #[.slice none 0 0] 42)
 have hO0 : Box (((w.alloc (.cells #[.slice a ss.length cap] 42)).alloc (.cells #[.int .i64 o.k, .string o.u, .string o.i, .int .i64 o.d, .string o.fu, .string o.ft, .slice xa o.its.length xc] 35)).alloc (.cells #[.slice none 0 0] 42)) (w.heap.size + 1) #[.int .i64 o.k, .string o.u, .string o.i, .int .i64 o.d, .string o.fu, .string o.ft, .slice xa o.its.length xc] 35 := by
  have := (Box.new (w.alloc (.cells #[.slice a ss.length cap] 42)) #[.int .i64 o.k, .string o.u, .string o.i, .int .i64 o.d, .string o.fu, .string o.ft, .slice xa o.its.length xc] 35).alloc (.cells #[.slice none 0 0] 42)
  simpa using this
 have hZ0 : Box (((w.alloc (.cells #[.slice a ss.length cap] 42)).alloc (.cells #[.int .i64 o.k, .string o.u, .string o.i, .int .i64 o.d, .string o.fu, .string o.ft, .slice xa o.its.length xc] 35)).alloc (.cells #[.slice none 0 0] 42)) (w.heap.size + 1 + 1) #[.slice none 0 0] 42 := by
  have := Box.new ((w.alloc (.cells #[.slice a ss.length cap] 42)).alloc (.cells #[.int .i64 o.k, .string o.u, .string o.i, .int .i64 o.d, .string o.fu, .string o.ft, .slice xa o.its.length xc] 35)) #[.slice none 0 0] 42
  simpa using this
 have hsz0 : (((w.alloc (.cells #[.slice a ss.length cap] 42)).alloc (.cells #[.int .i64 o.k, .string o.u, .string o.i, .int .i64 o.d, .string o.fu, .string o.ft, .slice xa o.its.length xc] 35)).alloc (.cells #[.slice none 0 0] 42)).heap.size = w.heap.size + 3 := by simp
 have hkk : (o.k == 1) = true := beq_iff_eq.2 hk1
 have hk99 : (o.k == 9) = false := beq_eq_false_iff_ne.2 (by omega)
 have hk33 : (o.k == 3) = false := beq_eq_false_iff_ne.2 (by omega)
 clear hk1
 unfold OutCp at HCp
 go_enter Tryz.func191, Tryz.ntmps191
 go_wp2_with fail
 generalize ((w.alloc (.cells #[.slice a ss.length cap] 42)).alloc (.cells #[.int .i64 o.k, .string o.u, .string o.i, .int .i64 o.d, .string o.fu, .string o.ft, .slice xa o.its.length xc] 35)).alloc (.cells #[.slice none 0 0] 42) = W0 at hb0 hR0 hO0 hZ0 hsz0 ⊢
 refine (HCp.out _ ((HI.out.below hb0).mono hb0.size)).mono ?_
 rintro e w1 ⟨v1, qs, rfl, hq1, hD1, hb1⟩
 obtain ⟨va, vc, rfl⟩ := hD1.1.slice
 have hs1 : w.heap.size + 3 <= w1.heap.size := by have := hb1.size; omega
 have hB1 := (hb0.trans (hb1.mono hb0.size)).alloc (by omega) (.cells #[.slice va qs.length vc] 42)
 have hZ1 := (hZ0.keep hb1 hZ0.lt).alloc (.cells #[.slice va qs.length vc] 42)
 have hO1 := (hO0.keep hb1 hO0.lt).alloc (.cells #[.slice va qs.length vc] 42)
 have hR1 := (hR0.keep hb1 hR0.lt).alloc (.cells #[.slice va qs.length vc] 42)
 clear hb1 hb0 hR0 hO0 hZ0 hsz0 hq1 hD1 HCp
 have f0 : (w1.alloc (.cells #[.slice va qs.length vc] 42)).cell? ⟨w.heap.size + 1, 0, none⟩ = some (.int .i64 o.k) := hO1.cell 0 _ rfl
 have f1 : (w1.alloc (.cells #[.slice va qs.length vc] 42)).cell? ⟨w.heap.size + 1, 1, none⟩ = some (.string o.u) := hO1.cell 1 _ rfl
 have f4 : (w1.alloc (.cells #[.slice va qs.length vc] 42)).cell? ⟨w.heap.size + 1, 4, none⟩ = some (.string o.fu) := hO1.cell 4 _ rfl
 have r0 : (w1.alloc (.cells #[.slice va qs.length vc] 42)).cell? ⟨w.heap.size, 0, none⟩ = some (.slice a ss.length cap) := hR1.cell 0 _ rfl
 go_wp2_with fail
 refine (HAt.out _ ((HI.out.below hB1).mono hB1.size)).mono ?_
 rintro e w2 ⟨rfl, hb2⟩
 have hB2 := hB1.trans (hb2.mono hB1.size)
 have hZ2 := hZ1.keep hb2 hZ1.lt
 have hO2 := hO1.keep hb2 hO1.lt
 have g0 : w2.cell? ⟨w.heap.size + 1, 0, none⟩ = some (.int .i64 o.k) := hO2.cell 0 _ rfl
 have s0 : w2.cell? ⟨w.heap.size, 0, none⟩ = some (.slice a ss.length cap) := (hR1.keep hb2 hR1.lt).cell 0 _ rfl; clear hb2 hB1 hZ1 hO1 hR1 f0 f1 f4 r0 HAt
 have q0 : w2.cell? ⟨w.heap.size + 1 + 1, 0, none⟩ = some (.slice none 0 0) := hZ2.cell 0 _ rfl
 have qf := hZ2.free
 go_wp2
 have hZe := hZ2.set 0 (.slice none 0 0)
 have hBe := hB2.setCell (p := ⟨w.heap.size + 1 + 1, 0, none⟩) (by simp; omega) (.slice none 0 0)
 generalize w2.setCell ⟨w.heap.size + 1 + 1, 0, none⟩ (.slice none 0 0) = We at hZe hBe ⊢
 have p0 : We.cell? ⟨w.heap.size + 1 + 1, 0, none⟩ = some (.slice none 0 0) := hZe.cell 0 _ rfl
 exact bodyPost_ret (v := .tuple #[.agg #[.slice none 0 0], .bool false]) (by simp [results, Tryz.results191, go_sem, p0]) rfl ⟨rfl, hBe⟩
end Go.Proofs.YtffkakpbelknaaaGreatDoor
