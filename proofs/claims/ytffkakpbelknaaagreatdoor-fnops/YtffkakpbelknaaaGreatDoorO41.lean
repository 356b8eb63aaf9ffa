/- Parts of the proof. -/
import Derived.Test.YtffkakpbelknaaaGreatDoorO23
import Derived.Test.YtffkakpbelknaaaGreatDoorO40
set_option maxHeartbeats 4000000
set_option maxRecDepth 100000
namespace Go.Proofs.YtffkakpbelknaaaGreatDoor
open Go.ChangeShapes Go.WideShapes Go.ChangeAt Go.RowKit
set_option linter.unusedVariables false
theorem OwnD.drew {w : World} {B : Nat} {v : Value} {ps : List (Sb × Value)} (h : OwnD w B v ps) : OwnD w.drew B v ps := h
theorem cell_blk {w w' : World} {g : Nat} (h : w'.heap[g]? = w.heap[g]?) (j : Nat) : w'.cell? ⟨g, j, none⟩ = w.cell? ⟨g, j, none⟩ := by
 unfold World.cell?; rw [h]
theorem gb_set1 {w w1 : World} (b o : Nat) (u : Value) (h : w.grownBy w1 (some b)) : w.grownBy (w1.setCell ⟨b, o, none⟩ u) (some b) :=
 ⟨h.os, h.tape, h.output, by simpa [World.setCell] using h.size, fun k hk hn => (Below.heap_setCell _ _ _ _ (fun e => hn (by rw [e]))).trans (h.block k hk hn)⟩
theorem OwnD.putSub {w w2 w4 : World} {B : Nat} {v y : Value} {ps : List (Sb × Value)} (h : OwnD w B v ps) (P : Nat) (hP : P < ps.length) (s : Sb) (hB : B <= w.heap.size) (hb : Below w.heap.size w w2) (hyb : (y = ps[P].2 /\ s.es = ps[P].1.es) \/ OwnR 97 5 enC w2 w.heap.size y s.es) (hg : w2.grownBy w4 v.ownBlock) (ho : OwnR 94 3 sbC w4 B v (ps.set P (s, y))) : OwnD w4 B v (ps.set P (s, y)) := by
 have hy : OwnR 97 5 enC w2 B y s.es := by
  rcases hyb with ⟨h1, h2⟩ | h1
  ·rw [h1, h2]; exact (h.2.1 _ (List.getElem_mem hP)).keep hb (Nat.le_refl _)
  ·exact h1.base_mono hB
 have hent : ∀ p ∈ ps.set P (s, y), OwnR 97 5 enC w2 B p.2 p.1.es := by
  intro p hp
  rcases List.mem_or_eq_of_mem_set hp with h1 | h1
  ·exact (h.2.1 p h1).keep hb (Nat.le_refl _)
  ·rw [h1]; exact hy
 have hrow := h.1.keep hb (Nat.le_refl _)
 have hent4 : ∀ p ∈ ps.set P (s, y), OwnR 97 5 enC w4 B p.2 p.1.es := fun p hp => by
  refine World.ownsRow.kept (hent p hp) hg ?_
  exact own_apart (by decide) (hent p hp) hrow
 refine ⟨ho, hent4, ?_⟩
 unfold ApartD
 rw [List.pairwise_cons]
 refine ⟨fun c hc => ?_, ?_⟩
 ·obtain ⟨p, hp, rfl⟩ := List.mem_map.1 hc
  exact own_apart (by decide) ho (hent4 p hp)
 ·have hap := (List.pairwise_cons.1 h.2.2).2
  rcases hyb with ⟨e, _⟩ | hnew
  ·have e2 : (ps.set P (s, y)).map (fun p => p.2.ownBlock) = ps.map (fun p => p.2.ownBlock) := by
    rw [List.map_set, e]
    apply List.ext_getElem?
    intro j
    rw [List.getElem?_set]
    by_cases e : P = j
    ·subst e; simp [hP]
    ·rw [if_neg e]
   rw [e2]
   exact hap
  ·have hold : ∀ i (hi : i < ps.length) b, ps[i].2.ownBlock = Option.some b -> b < w.heap.size := fun i hi b hb => (World.ownsRow.lt (h.2.1 _ (List.getElem_mem hi)) b hb).2
   have hyn : ∀ b, y.ownBlock = Option.some b -> w.heap.size <= b := fun b hb => (World.ownsRow.lt hnew b hb).1
   rw [List.pairwise_iff_getElem] at hap ⊢
   intro i j hi hj hij
   simp only [List.length_map, List.length_set] at hi hj
   simp only [List.getElem_map, List.getElem_set]
   by_cases ei : P = i
   ·rw [if_pos ei, if_neg (by omega)]
    show y.ownBlock = none \/ y.ownBlock ≠ ps[j].2.ownBlock
    cases hy' : y.ownBlock with
    | none => exact .inl rfl
    | some b => exact .inr (fun e => by have h1 := hold j hj b e.symm; have h2 := hyn b hy'; omega)
   ·rw [if_neg ei]
    by_cases ej : P = j
    ·rw [if_pos ej]
     show ps[i].2.ownBlock = none \/ ps[i].2.ownBlock ≠ y.ownBlock
     cases hy' : ps[i].2.ownBlock with
     | none => exact .inl rfl
     | some b => exact .inr (fun e => by have h1 := hold i hi b hy'; have h2 := hyn b e.symm; omega)
    ·rw [if_neg ej]
     have := hap i j (by rw [List.length_map]; exact hi) (by rw [List.length_map]; exact hj) hij
     simpa only [List.getElem_map] using this
theorem OwnD.setEs {w w2 : World} {B g n cap : Nat} {y : Value} {ps : List (Sb × Value)} (h : OwnD w B (.slice (Option.some ⟨g, 0, none⟩) n cap) ps) (hn : n = ps.length) (P : Nat) (hP : P < ps.length) (es : List En) (hB : B <= w.heap.size) (hb : Below w.heap.size w w2) (hy : OwnR 97 5 enC w2 w.heap.size y es) : OwnD (w2.setCell ⟨g, P * 3 + 2, none⟩ y) B (.slice (Option.some ⟨g, 0, none⟩) n cap) (ps.set P (⟨ps[P].1.u, ps[P].1.t, es⟩, y)) := by
 refine h.putSub P hP _ hB hb (.inr hy) (gb_set1 g (P * 3 + 2) y (World.grownBy.refl _ _)) ?_
 exact (h.1.keep hb (Nat.le_refl _)).setF sbC_len hn P 2 _ y hP (by decide) rfl
theorem OwnR.form {α : Type} {k : Nat} {C : α -> List Value} {e : TypeId} {w : World} {B n cap : Nat} {a : Option Addr} {l : List α} (h : OwnR e k C w B (.slice a n cap) l) (h0 : 0 < l.length) : ∃ g, a = some ⟨g, 0, none⟩ /\ B <= g /\ g < w.heap.size /\ n = l.length := by
 rcases h.2 with ⟨hv, hn⟩ | ⟨g, cap', cur, hv, hb, hg, rest⟩
 ·omega
 ·cases hv
  exact ⟨g, rfl, hb, (Array.getElem?_eq_some_iff.1 hg).1, rfl⟩
theorem OwnR.capLe {α : Type} {k : Nat} {C : α -> List Value} {e : TypeId} {w : World} {B n cap : Nat} {a : Option Addr} {l : List α} (h : OwnR e k C w B (.slice a n cap) l) : l.length <= cap := by
 obtain ⟨a2, c2, e2, h2⟩ := h.len
 injection e2 with _ _ h3
 omega
theorem OwnR.noneCap {α : Type} {k : Nat} {C : α -> List Value} {e : TypeId} {w : World} {B n cap : Nat} {l : List α} (h : OwnR e k C w B (.slice none n cap) l) : n = 0 /\ cap = 0 := by
 rcases h.2 with ⟨hv, hn⟩ | ⟨g, cap', cur, hv, hb, hg, rest⟩
 ·injection hv with _ h2 h3
  exact ⟨h2, h3⟩
 ·injection hv with h1
  cases h1
theorem OwnR.someForm {α : Type} {k : Nat} {C : α -> List Value} {e : TypeId} {w : World} {B n cap : Nat} {a : Addr} {l : List α} (h : OwnR e k C w B (.slice (some a) n cap) l) : ∃ g, a = ⟨g, 0, none⟩ /\ B <= g /\ g < w.heap.size := by
 rcases h.2 with ⟨hv, hn⟩ | ⟨g, cap', cur, hv, hb, hg, rest⟩
 ·injection hv with h1
  cases h1
 ·injection hv with h1
  exact ⟨g, Option.some.inj h1, hb, (Array.getElem?_eq_some_iff.1 hg).1⟩
theorem pg_at {qs : List (Sb × Value)} {ss : List Sb} {d : Int} {k : Nat} (h : qs.map Prod.fst = pgS (ss.take k) d ++ ss.drop k) (hk : k < qs.length) (hk2 : k < ss.length) : qs[k].1 = ss[k] := by
 have := congrArg (fun l => l[k]?) h
 simp only [List.getElem?_map, List.getElem?_eq_getElem hk, Option.map_some] at this
 rw [List.getElem?_append_right (by simp [pgS]; omega)] at this
 have e : k - (pgS (ss.take k) d).length = 0 := by simp [pgS]; omega
 rw [e, List.getElem?_drop, Nat.add_zero, List.getElem?_eq_getElem hk2] at this
 exact Option.some.inj this
theorem fst_at {qs : List (Sb × Value)} {ss : List Sb} (h : qs.map Prod.fst = ss) (k : Nat) (hk : k < qs.length) (hk2 : k < ss.length) : qs[k].1 = ss[k] := by
 subst h
 simp
theorem chV_at {ss : List Sb} {o : OpD} (hf : fnB (sbKs ss) (opU o) = true) {P : Nat} (hpl : plK (sbKs ss) (opU o) = P) (hP : P < ss.length) : chV ss o = (if o.k = 2 then some (ss.take P ++ ss.drop (P + 1)) else if o.k = 8 then some (ss.set P (alS ss[P])) else if o.k = 3 then some (ss.set P (ftS ss[P] o.ft o.its)) else if fnB (enKs ss[P].es) o.i = true then some (ss.set P (mkS ss[P] o.i o.k)) else none) := by
 unfold chV
 rw [hf, hpl, List.getElem?_eq_getElem hP]
 rfl
theorem fn_pl {ss : List Sb} {u : ByteArray} (hf : fnB (sbKs ss) u = true) : plK (sbKs ss) u < ss.length := by
 have := fn_lt hf
 simpa [sbKs] using this
theorem fn_pe {es : List En} {u : ByteArray} (hf : fnB (enKs es) u = true) : plK (enKs es) u < es.length := by
 have := fn_lt hf
 simpa [enKs] using this
theorem wp_appQ {w w' : World} {o : Oper} {a : Act} {K : Act -> World -> Prop} {Q : Exit -> Act -> World -> Prop} (t : TypeId) (s x : Operand) (ho : o.op = .call { callee := .builtin .append, args := #[s, x], argTypes := #[t, t] }) (v xv v' : Value) (hs : a.eval s = v) (hx : a.eval x = xv) (hrun : (Builtin.append_ #[t, t] o.type #[v, xv]).run Tryz.prog w = .ok v' w') (h : K (a.put o.dst v') w') : o.wp Tryz.prog a w K Q := by
 unfold Oper.wp
 simp [execOp, ho, resolve, invoke, builtin, hs, hx, hrun, Result.andThen]
 exact h
def alH (es : List En) (k : Nat) : List En := rdAll (es.take k) ++ es.drop k
theorem alH_len (es : List En) (k : Nat) : (alH es k).length = es.length := by
 unfold alH rdAll
 rw [List.length_append, List.length_map, List.length_take, List.length_drop]
 omega
theorem alH_zero (es : List En) : alH es 0 = es := rfl
theorem alH_end (es : List En) (k : Nat) (h : ¬ k < es.length) : alH es k = rdAll es := by
 unfold alH
 rw [List.take_of_length_le (by omega), List.drop_of_length_le (by omega), List.append_nil]
theorem alH_get (es : List En) (k : Nat) (h : k < es.length) (h2 : k < (alH es k).length) : (alH es k)[k] = es[k] := by
 have hl : (rdAll (es.take k)).length = k := by unfold rdAll; rw [List.length_map, List.length_take]; omega
 have e : (alH es k)[k]? = es[k]? := by
  unfold alH
  rw [List.getElem?_append_right (by omega), hl, Nat.sub_self, List.getElem?_drop, Nat.add_zero]
 rw [List.getElem?_eq_getElem h2, List.getElem?_eq_getElem h] at e
 exact Option.some.inj e
theorem alH_set (es : List En) (k : Nat) (h : k < es.length) : (alH es k).set k { es[k] with rd := true } = alH es (k + 1) := by
 have hl : (rdAll (es.take k)).length = k := by unfold rdAll; rw [List.length_map, List.length_take]; omega
 unfold alH
 rw [List.set_append_right _ _ (by omega), hl, Nat.sub_self, List.drop_eq_getElem_cons h, List.set_cons_zero, List.take_succ_eq_append_getElem h]
 unfold rdAll
 rw [List.map_append, List.append_assoc]
 rfl
theorem OwnD.allStep {w : World} {B g n cap h yc P k : Nat} {qs : List (Sb × Value)} {U V : ByteArray} {E : List En} (hD : OwnD w B (.slice (Option.some ⟨g, 0, none⟩) n cap) (qs.set P ((⟨U, V, alH E k⟩ : Sb), Value.slice (Option.some ⟨h, 0, none⟩) E.length yc))) (hP : P < qs.length) (hk : k < E.length) :
  OwnD (w.setCell ⟨h, k * 5 + 3, none⟩ (.bool true)) B (.slice (Option.some ⟨g, 0, none⟩) n cap) (qs.set P ((⟨U, V, alH E (k + 1)⟩ : Sb), Value.slice (Option.some ⟨h, 0, none⟩) E.length yc)) := by
 have hP2 : P < (qs.set P ((⟨U, V, alH E k⟩ : Sb), Value.slice (Option.some ⟨h, 0, none⟩) E.length yc)).length := by rw [List.length_set]; exact hP
 have e : (qs.set P ((⟨U, V, alH E k⟩ : Sb), Value.slice (Option.some ⟨h, 0, none⟩) E.length yc))[P] = ((⟨U, V, alH E k⟩ : Sb), Value.slice (Option.some ⟨h, 0, none⟩) E.length yc) := List.getElem_set_self _
 have hrow := hD.2.1 _ (List.getElem_mem hP2)
 rw [e] at hrow
 have hk2 : k < (alH E k).length := by rw [alH_len]; exact hk
 have hset := hrow.setF enC_len (alH_len E k).symm k 3 { E[k] with rd := true } (.bool true) hk2 (by decide) (by rw [alH_get E k hk hk2]; rfl)
 rw [alH_set E k hk] at hset
 have := hD.inplace P hP2 ⟨U, V, alH E (k + 1)⟩ (by rw [e]) (by rw [e]) (by rw [e]; exact gb_set1 h (k * 5 + 3) (.bool true) (World.grownBy.refl _ _)) (by rw [e]; exact hset)
 rw [e, List.set_set] at this
 exact this
theorem OwnD.rowAt {w : World} {B : Nat} {v y : Value} {P : Nat} {qs : List (Sb × Value)} {s : Sb} (hD : OwnD w B v (qs.set P (s, y))) (hP : P < qs.length) : OwnR 97 5 enC w B y s.es := by
 have hP2 : P < (qs.set P (s, y)).length := by rw [List.length_set]; exact hP
 have e : (qs.set P (s, y))[P] = (s, y) := List.getElem_set_self _
 have hrow := hD.2.1 _ (List.getElem_mem hP2)
 rw [e] at hrow
 exact hrow
theorem putP_fst (qs : List (Sb × Value)) (p : Nat) (f : Bool) (x : Sb × Value) : (putP qs p f x).map Prod.fst = putP (qs.map Prod.fst) p f x.1 := by
 unfold putP
 rw [List.map_append, List.map_take, List.map_cons, List.map_drop]
theorem putP_false {α : Type} (qs : List α) (p : Nat) (x : α) : (qs.take p ++ [x]) ++ qs.drop p = putP qs p false x := by
 unfold putP
 simp
end Go.Proofs.YtffkakpbelknaaaGreatDoor
namespace Go.Proofs.YtffkakpbelknaaaGreatDoor
open Go.ChangeShapes Go.WideShapes Go.ChangeAt Go.RowKit
set_option linter.unusedVariables false
def Mid (B S : Nat) (w w' : World) : Prop := Below B w w' /\ ∀ g, S <= g -> g < w.heap.size -> w'.heap[g]? = w.heap[g]?
theorem Mid.refl {B S : Nat} (w : World) : Mid B S w w := ⟨Below.refl _ _, fun _ _ _ => rfl⟩
theorem Mid.trans {B S : Nat} {w w' w'' : World} (h : Mid B S w w') (h' : Mid B S w' w'') : Mid B S w w'' :=
 ⟨h.1.trans h'.1, fun g hg hw => (h'.2 g hg (by have := h.1.size; omega)).trans (h.2 g hg hw)⟩
theorem Mid.below {B S : Nat} {w w' : World} (h : Below w.heap.size w w') (hB : B <= w.heap.size) : Mid B S w w' :=
 ⟨h.mono hB, fun g _ hw => h.block g hw⟩
theorem Mid.setCell {B S : Nat} {w w' : World} (h : Mid B S w w') (p : Addr) (x : Value) (h1 : B <= p.block) (h2 : p.block < S) : Mid B S w (w'.setCell p x) :=
 ⟨h.1.setCell h1 x, fun g hg hw => (Below.heap_setCell _ _ _ _ (by omega)).trans (h.2 g hg hw)⟩
section
variable {α : Type} {k : Nat} {C : α -> List Value}
end
end Go.Proofs.YtffkakpbelknaaaGreatDoor
namespace Go.Proofs.YtffkakpbelknaaaGreatDoor
open Go.ChangeShapes Go.WideShapes Go.ChangeAt Go.RowKit
set_option linter.unusedVariables false
theorem set_at {α : Type} {qs : List α} {k : Nat} {x : α} (hk : k < qs.length) : (qs.set k x)[k]'(by rw [List.length_set]; exact hk) = x := List.getElem_set_self _
theorem OwnD.cellAt {w : World} {B g n cap k : Nat} {qs : List (Sb × Value)} {s : Sb} {y : Value} (h : OwnD w B (.slice (Option.some ⟨g, 0, none⟩) n cap) (qs.set k (s, y))) (hn : n = qs.length) (hk : k < qs.length) : w.cell? ⟨g, k * 3, none⟩ = Option.some (.string s.u) /\ w.cell? ⟨g, k * 3 + 1, none⟩ = Option.some (.string s.t) /\ w.cell? ⟨g, k * 3 + 2, none⟩ = Option.some y /\ ∀ j, w.frozen? ⟨g, j, none⟩ = false := by
 have hk2 : k < (qs.set k (s, y)).length := by rw [List.length_set]; exact hk
 have hn2 : n = (qs.set k (s, y)).length := by rw [List.length_set]; exact hn
 refine ⟨?_, ?_, ?_, fun j => h.1.free hn2 j⟩
 ·exact h.1.val sbC_len hn2 k 0 _ hk2 (by rw [set_at hk]; rfl)
 ·exact h.1.val sbC_len hn2 k 1 _ hk2 (by rw [set_at hk]; rfl)
 ·exact h.1.val sbC_len hn2 k 2 _ hk2 (by rw [set_at hk]; rfl)
end Go.Proofs.YtffkakpbelknaaaGreatDoor
namespace Go.Proofs.YtffkakpbelknaaaGreatDoor
open Go.ChangeShapes Go.WideShapes Go.ChangeAt Go.RowKit
set_option linter.unusedVariables false
theorem l9Done_purge (v x : Value) (ss : List Sb) (o : OpD) (w : World) (h : SbAt w w.heap.size v ss) (hx : ItAt w w.heap.size x o.its) (hr : rdB ss = true) (hk9 : o.k = 9) :
  Calls Tryz.prog 191 #[.agg #[v], opV o x] w (OutDn (doI ss o) w) := by
 have HI := Lib.hid h
 have HX := Lib.hid hx
 have h6 := rd_len hr
 have HSz := Lib.hid h.size
 have HR := Lib.hid hr
 have HCp := Lib.hid (fun w h => l9Copy_any v ss w h (by omega) (fun s hs => by have := sb_len (rd_sub hr s hs); omega))
 have HAt := Lib.hid (fun w h => l9At_any v ss o.u w h)
 generalize atK (sbKs ss) o.u = R at HAt
 obtain ⟨a, cap, rfl, hl, hm, hc⟩ := h.raw
 obtain ⟨xa, xc, rfl⟩ := hx.1.slice
 clear hc h hx hr
 have hb0 : Below w.heap.size w (((w.alloc (.cells #[.slice a ss.length cap] 42)).alloc (.cells #[.int .i64 o.k, .string o.u, .string o.i, .int .i64 o.d, .string o.fu, .string o.ft, .slice xa o.its.length xc] 35)).alloc (.cells #[.slice none 0 0] 42)) := (((Below.refl _ _).alloc (Nat.le_refl _) _).alloc (by simp) _).alloc (by simp; omega) _
 have hR0 := ((Box.new w #[.slice a ss.length cap] 42).alloc (.cells #[.int .i64 o.k, .string o.u, .string o.i, .int .i64 o.d, .string o.fu, .string o.ft, .slice xa o.its.length xc] 35)).alloc (.cells #[.slice none 0 0] 42)
 have hO0 : Box (((w.alloc (.cells #[.slice a ss.length cap] 42)).alloc (.cells #[.int .i64 o.k, .string o.u, .string o.i, .int .i64 o.d, .string o.fu, .string o.ft, .slice xa o.its.length xc] 35)).alloc (.cells #[.slice none 0 0] 42)) (w.heap.size + 1) #[.int .i64 o.k, .string o.u, .string o.i, .int .i64 o.d, .string o.fu, .string o.ft, .slice xa o.its.length xc] 35 := by
  have := (Box.new (w.alloc (.cells #[.slice a ss.length cap] 42)) #[.int .i64 o.k, .string o.u, .string o.i, .int .i64 o.d, .string o.fu, .string o.ft, .slice xa o.its.length xc] 35).alloc (.cells #[.slice none 0 0] 42)
  simpa using this
 have hZ0 : Box (((w.alloc (.cells #[.slice a ss.length cap] 42)).alloc (.cells #[.int .i64 o.k, .string o.u, .string o.i, .int .i64 o.d, .string o.fu, .string o.ft, .slice xa o.its.length xc] 35)).alloc (.cells #[.slice none 0 0] 42)) (w.heap.size + 1 + 1) #[.slice none 0 0] 42 := by
  have := Box.new ((w.alloc (.cells #[.slice a ss.length cap] 42)).alloc (.cells #[.int .i64 o.k, .string o.u, .string o.i, .int .i64 o.d, .string o.fu, .string o.ft, .slice xa o.its.length xc] 35)) #[.slice none 0 0] 42
  simpa using this
 have hsz0 : (((w.alloc (.cells #[.slice a ss.length cap] 42)).alloc (.cells #[.int .i64 o.k, .string o.u, .string o.i, .int .i64 o.d, .string o.fu, .string o.ft, .slice xa o.its.length xc] 35)).alloc (.cells #[.slice none 0 0] 42)).heap.size = w.heap.size + 3 := by simp
 have HDo : Hid (doI ss o = some (pgS ss o.d)) := Lib.hid (by unfold doI; rw [if_neg (by omega), if_pos hk9])
 have hk99 : (o.k == 9) = true := beq_iff_eq.2 hk9
 have hk11 : (o.k == 1) = false := beq_eq_false_iff_ne.2 (by omega)
 have hk33 : (o.k == 3) = false := beq_eq_false_iff_ne.2 (by omega)
 clear hk9 hl hm
 unfold OutCp at HCp
 go_enter Tryz.func191, Tryz.ntmps191
 go_wp2_with fail
 generalize ((w.alloc (.cells #[.slice a ss.length cap] 42)).alloc (.cells #[.int .i64 o.k, .string o.u, .string o.i, .int .i64 o.d, .string o.fu, .string o.ft, .slice xa o.its.length xc] 35)).alloc (.cells #[.slice none 0 0] 42) = W0 at hb0 hR0 hO0 hZ0 hsz0 ⊢
 refine (HCp.out _ ((HI.out.below hb0).mono hb0.size)).mono ?_
 rintro e w1 ⟨v1, qs, rfl, hq1, hD1, hb1⟩
 obtain ⟨va, vc, rfl⟩ := hD1.1.slice
 have hs1 : w.heap.size + 3 <= w1.heap.size := by have := hb1.size; omega
 have hB1 := (hb0.trans (hb1.mono hb0.size)).alloc (by omega) (.cells #[.slice va qs.length vc] 42)
 have hZ1 := (hZ0.keep hb1 hZ0.lt).alloc (.cells #[.slice va qs.length vc] 42)
 have hO1 := (hO0.keep hb1 hO0.lt).alloc (.cells #[.slice va qs.length vc] 42)
 have hR1 := (hR0.keep hb1 hR0.lt).alloc (.cells #[.slice va qs.length vc] 42)
 have hX1 := Box.new w1 #[.slice va qs.length vc] 42
 have HD1 : Hid (OwnD (w1.alloc (.cells #[.slice va qs.length vc] 42)) (w.heap.size + 3) (.slice va qs.length vc) qs) := Lib.hid ((hD1.lower (show w.heap.size + 3 <= W0.heap.size by omega)).keep ((Below.refl _ _).alloc (Nat.le_refl _) _) (Nat.le_refl _))
 have HV1 : Hid (Value.ownBlock (.slice va qs.length vc) ≠ Option.some w1.heap.size /\ ∀ q ∈ qs, q.2.ownBlock ≠ Option.some w1.heap.size) := Lib.hid ⟨fun e => by have := (World.ownsRow.lt hD1.1 _ e).2; omega, fun q hq e => by have := (World.ownsRow.lt (hD1.2.1 q hq) _ e).2; omega⟩
 have hql : qs.length = ss.length := by have := congrArg List.length hq1; simpa using this
 have HQ1 := Lib.hid hq1
 rw [hql] at hB1 hZ1 hO1 hR1 hX1 HD1 HV1 ⊢
 clear hb1 hb0 hR0 hO0 hZ0 hsz0 hq1 hD1 HCp
 have f0 : (w1.alloc (.cells #[.slice va ss.length vc] 42)).cell? ⟨w.heap.size + 1, 0, none⟩ = some (.int .i64 o.k) := hO1.cell 0 _ rfl
 have f1 : (w1.alloc (.cells #[.slice va ss.length vc] 42)).cell? ⟨w.heap.size + 1, 1, none⟩ = some (.string o.u) := hO1.cell 1 _ rfl
 have f4 : (w1.alloc (.cells #[.slice va ss.length vc] 42)).cell? ⟨w.heap.size + 1, 4, none⟩ = some (.string o.fu) := hO1.cell 4 _ rfl
 have r0 : (w1.alloc (.cells #[.slice va ss.length vc] 42)).cell? ⟨w.heap.size, 0, none⟩ = some (.slice a ss.length cap) := hR1.cell 0 _ rfl
 go_wp2_with fail
 refine (HAt.out _ ((HI.out.below hB1).mono hB1.size)).mono ?_
 rintro e w2 ⟨rfl, hb2⟩
 have hB2 := hB1.trans (hb2.mono hB1.size)
 have hZ2 := hZ1.keep hb2 hZ1.lt
 have hO2 := hO1.keep hb2 hO1.lt
 have hX2 := hX1.keep hb2 hX1.lt
 have HD2 := Lib.hid (HD1.out.keep hb2 (Nat.le_refl _))
 have hs2 : w1.heap.size < w2.heap.size := hX2.lt
 have g0 : w2.cell? ⟨w.heap.size + 1, 0, none⟩ = some (.int .i64 o.k) := hO2.cell 0 _ rfl
 clear hb2 hB1 hZ1 hO1 hR1 f0 f1 f4 r0 HAt hX1 HD1
 generalize w1.heap.size = D at hX2 HV1 hs1 hs2 ⊢
 clear w1
 go_wp2_with fail
 go_loopw [9] (fun i wr => ∃ (k : Nat) (qs : List (Sb × Value)), k <= ss.length /\ i = .int .i64 (k : Int) /\ Hid (qs.map Prod.fst = pgS (ss.take k) o.d ++ ss.drop k) /\ Hid (OwnD wr (w.heap.size + 3) (.slice va ss.length vc) qs) /\ Box wr D #[.slice va ss.length vc] 42 /\ Box wr (w.heap.size + 1) #[.int .i64 o.k, .string o.u, .string o.i, .int .i64 o.d, .string o.fu, .string o.ft, .slice xa o.its.length xc] 35 /\ Box wr (w.heap.size + 1 + 1) #[.slice none 0 0] 42 /\ Below w.heap.size w wr /\ D < wr.heap.size) (fun i _ => ss.length - (intOf i).toNat)
 case atStart => exact ⟨0, qs, Nat.zero_le _, rfl, Lib.hid (by rw [HQ1.out]; rfl), HD2, hX2, hO2, hZ2, hB2, hs2⟩
 case round =>
  obtain ⟨k, rs, hk, rfl, HQ, HD, hX, hO, hZ, hB, hDs⟩ := hrel
  clear HQ1 HD2 hX2 hO2 hZ2 hB2 hs2 g0
  have hnv := HV1.out.1
  have x0 : wr.cell? ⟨D, 0, none⟩ = some (.slice va ss.length vc) := hX.cell 0 _ rfl
  by_cases hlt : k < ss.length
  ·have hrl : rs.length = ss.length := by have := congrArg List.length HQ.out; simp [pgS] at this; omega
   obtain ⟨g, rfl, hg1, hg2, hgn⟩ := OwnR.form HD.out.1 (by omega)
   have hkr : k < rs.length := by omega
   have hPe : rs[k].1 = ss[k] := pg_at HQ.out hkr hlt
   obtain ⟨ya, yc, hyv⟩ := (HD.out.2.1 _ (List.getElem_mem hkr)).slice
   have c2 := HD.out.1.val sbC_len hgn k 2 _ hkr rfl
   have hoy := HD.out.2.1 _ (List.getElem_mem hkr)
   rw [hyv] at c2 hoy
   rw [hPe] at c2 hoy hyv
   have HY : Hid (EnAt wr.drew wr.drew.heap.size (.slice ya ss[k].es.length yc) ss[k].es) := Lib.hid ⟨hoy.at enC_len, (HSz.out _ (List.getElem_mem hlt)).2⟩
   have hel : ss[k].es.length <= 12 := sb_len (rd_sub HR.out _ (List.getElem_mem hlt))
   have HS : Hid (∀ w' y, Below wr.drew.heap.size wr.drew w' -> OwnR 97 5 enC w' wr.drew.heap.size y (pgL ss[k].es o.d) -> OwnD (w'.setCell ⟨g, k * 3 + 2, none⟩ y) (w.heap.size + 3) (.slice (some ⟨g, 0, none⟩) ss.length vc) (rs.set k ((⟨ss[k].u, ss[k].t, pgL ss[k].es o.d⟩ : Sb), y))) := Lib.hid (fun w' y hb hy => by have := HD.out.drew.setEs hgn k hkr _ (show w.heap.size + 3 <= wr.drew.heap.size by show w.heap.size + 3 <= wr.heap.size; omega) hb hy; rw [hPe] at this; exact this)
   have HQn : Hid (∀ y, (rs.set k ((⟨ss[k].u, ss[k].t, pgL ss[k].es o.d⟩ : Sb), y)).map Prod.fst = pgS (ss.take (k + 1)) o.d ++ ss.drop (k + 1)) := Lib.hid (fun y => by rw [List.map_set, HQ.out, <- pgS_set ss o.d k hlt]; rfl)
   have HF : Hid (∀ w', Below wr.drew.heap.size wr.drew w' -> (∀ j, w'.frozen? ⟨g, j, none⟩ = false) /\ w'.cell? ⟨g, k * 3 + 2, none⟩ = some (.slice ya ss[k].es.length yc)) := Lib.hid (fun w' hb => ⟨fun j => (HD.out.drew.1.keep hb (Nat.le_refl _)).free hgn j, by rw [hb.cell (p := ⟨g, k * 3 + 2, none⟩) hg2]; exact c2⟩)
   have hgD : D ≠ g := fun e => hnv (by rw [e]; rfl)
   obtain ⟨P, hP⟩ : ∃ P, P = ss[k] := ⟨_, rfl⟩
   rw [<- hP] at c2 HY hel HS HQn HF
   have HP := Lib.hid (fun w h => l9Purge_any (.slice ya P.es.length yc) P.es o.d w h (by omega))
   unfold OutB at HP
   clear hPe hyv hoy hnv hel hP hkr hrl hgn
   have hQ0 : (Box wr.drew D #[.slice (some ⟨g, 0, none⟩) ss.length vc] 42 /\ Box wr.drew (w.heap.size + 1) #[.int .i64 o.k, .string o.u, .string o.i, .int .i64 o.d, .string o.fu, .string o.ft, .slice xa o.its.length xc] 35) := ⟨hX.drew, hO.drew⟩
   go_wp2
   refine wp_region_T (fun w' => Box w' D #[.slice (some ⟨g, 0, none⟩) ss.length vc] 42 /\ Box w' (w.heap.size + 1) #[.int .i64 o.k, .string o.u, .string o.i, .int .i64 o.d, .string o.fu, .string o.ft, .slice xa o.its.length xc] 35) (fun w' => w'.cell? ⟨g, k * 3 + 2, none⟩ = some (.slice ya P.es.length yc)) 14 (by kernel_rfl) 15 rfl ?_
   refine wA 5 [0, 1, 2, 3, 4, 5, 6, 7, 9, 10] ⟨hQ0, fun _ => c2⟩ ?_
   simp only [pick, List.filterMap_cons, List.filterMap_nil, List.getElem?_cons_zero, List.getElem?_cons_succ]
   refine wS (.pointer (some ⟨D, 0, none⟩)) (fun w hw => by go_simp) ?_
   refine wS (.slice (some ⟨g, 0, none⟩) ss.length vc) (fun w hw => by have e0 := hw.1.cell 0 _ rfl; go_simp) ?_
   refine wS (.int .i64 (k : Int)) (fun w hw => by go_simp) ?_
   refine wS (.pointer (some ⟨D, 0, none⟩)) (fun w hw => by go_simp) ?_
   refine wS (.slice (some ⟨g, 0, none⟩) ss.length vc) (fun w hw => by have e0 := hw.1.cell 0 _ rfl; go_simp) ?_
   refine wS (.int .i64 (k : Int)) (fun w hw => by go_simp) ?_
   refine wS (.pointer (some ⟨g, k * 3, none⟩)) (fun w hw => by go_simp) ?_
   refine wS (.pointer (some ⟨g, k * 3 + 2, none⟩)) (fun w hw => by go_simp) ?_
   refine wS (.pointer (some ⟨w.heap.size + 1, 3, none⟩)) (fun w hw => by go_simp) ?_
   refine wS (.int .i64 o.d) (fun w hw => by have e0 := hw.2.cell 3 _ rfl; go_simp) ?_
   refine wpIf_nil (fun hS0 => ?_)
   refine wpAnyT_takesB (md := .any) 4 (by kernel_rfl) (by intro d v c a w h; cases d <;> exact h) [8] _ _ _ (by decide) (by kernel_rfl) (by kernel_rfl) (by kernel_rfl) hS0 ?_
   simp only [pick, List.filterMap_cons, List.filterMap_nil, List.getElem?_cons_zero, List.getElem?_cons_succ]
   refine wS (.slice ya P.es.length yc) (fun w hw => by have e0 := hw.2; go_simp) ?_
   refine wpIf_nil (fun hS0 => ?_)
   clear hS0
   refine wO 11 3 (fun K hK => ?_)
   go_simp
   refine (HP.out wr.drew HY.out).mono ?_
   rintro e w3 ⟨y3, rfl, ho3, hb3⟩
   obtain ⟨ya3, yc3, hyv⟩ := ho3.slice
   obtain ⟨n3, hn3⟩ : ∃ n, n = (pgL P.es o.d).length := ⟨_, rfl⟩
   rw [<- hn3] at hyv
   subst hyv
   clear hn3
   have hX3 := hX.drew.keep hb3 hX.lt
   have hO3 := hO.drew.keep hb3 hO.lt
   have hZ3 := hZ.drew.keep hb3 hZ.lt
   have hB3 := hB.drew.trans (hb3.mono hB.size)
   obtain ⟨fz, c3⟩ := HF.out w3 hb3
   have HS3 := Lib.hid (HS.out w3 _ hb3 ho3)
   have hs3 : D < w3.heap.size := hX3.lt
   refine hK _ _ ⟨⟨hX3, hO3⟩, fun _ => c3⟩ (fun hS0 => ?_)
   clear hK K hS0 hb3 ho3
   refine wA 1 [12, 13] ⟨⟨hX3, hO3⟩, fun _ => c3⟩ ?_
   simp only [pick, List.filterMap_cons, List.filterMap_nil, List.getElem?_cons_zero, List.getElem?_cons_succ]
   refine wS (.pointer (some ⟨g, k * 3, none⟩)) (fun w hw => by go_simp) ?_
   refine wS (.pointer (some ⟨g, k * 3 + 2, none⟩)) (fun w hw => by go_simp) ?_
   refine wpIf_nil (fun hS0 => ?_)
   clear hS0
   have hX4 := hX3.other ⟨g, k * 3 + 2, none⟩ (.slice ya3 n3 yc3) hgD
   have hO4 := hO3.other ⟨g, k * 3 + 2, none⟩ (.slice ya3 n3 yc3) (show w.heap.size + 1 ≠ g by omega)
   have hZ4 := hZ3.other ⟨g, k * 3 + 2, none⟩ (.slice ya3 n3 yc3) (show w.heap.size + 1 + 1 ≠ g by omega)
   have hB4 := hB3.setCell (p := ⟨g, k * 3 + 2, none⟩) (show w.heap.size <= g by omega) (.slice ya3 n3 yc3)
   refine wO 14 0 (fun K hK => ?_)
   go_simp
   refine hK _ _ ⟨⟨hX4, hO4⟩, fun h => by exact absurd h (by decide)⟩ (fun hS0 => ?_)
   clear hK K hS0 hQ0
   refine wpAnyT_over (by kernel_rfl) ?_
   have hs4 : D < (w3.setCell ⟨g, k * 3 + 2, none⟩ (.slice ya3 n3 yc3)).heap.size := hX4.lt
   generalize w3.setCell ⟨g, k * 3 + 2, none⟩ (.slice ya3 n3 yc3) = W4 at hX4 hO4 hZ4 hB4 HS3 hs4 ⊢
   clear hX3 hO3 hZ3 hB3 hX hO hZ hB c2 c3 fz HP HY HF x0
   go_wp2
   go_roundw
   case rel => exact ⟨k + 1, _, by omega, by go_num, Lib.hid (HQn.out _), HS3, hX4, hO4, hZ4, hB4, hs4⟩
   case measure => simp [intOf]; omega
  ·have HQe : Hid (rs.map Prod.fst = pgS ss o.d) := Lib.hid (by have h1 := HQ.out; rw [List.take_of_length_le (by omega), List.drop_of_length_le (by omega), List.append_nil] at h1; exact h1)
   have z0 : wr.cell? ⟨w.heap.size + 1 + 1, 0, none⟩ = some (.slice none 0 0) := hZ.cell 0 _ rfl
   have zf := hZ.free
   go_wp2
   have hZe := hZ.set 0 (.slice va ss.length vc)
   have hBe := hB.setCell (p := ⟨w.heap.size + 1 + 1, 0, none⟩) (by simp; omega) (.slice va ss.length vc)
   have hDe := (HD.out.aside ⟨w.heap.size + 1 + 1, 0, none⟩ (.slice va ss.length vc) (show w.heap.size + 1 + 1 < w.heap.size + 3 by omega)).lower (show w.heap.size <= w.heap.size + 3 by omega)
   generalize wr.setCell ⟨w.heap.size + 1 + 1, 0, none⟩ (.slice va ss.length vc) = We at hZe hBe hDe ⊢
   have p0 : We.cell? ⟨w.heap.size + 1 + 1, 0, none⟩ = some (.slice va ss.length vc) := hZe.cell 0 _ rfl
   exact bodyPost_ret (v := .tuple #[.agg #[.slice va ss.length vc], .bool true]) (by simp [results, Tryz.results191, go_sem, p0]) rfl (OutDn.some11 HDo.out ⟨_, rs, rfl, HQe.out, hDe, hBe⟩)
end Go.Proofs.YtffkakpbelknaaaGreatDoor
namespace Go.Proofs.YtffkakpbelknaaaGreatDoor
open Go.ChangeShapes Go.WideShapes Go.ChangeAt Go.RowKit
set_option linter.unusedVariables false
theorem l9Done_noentry (v x : Value) (ss : List Sb) (o : OpD) (w : World) (h : SbAt w w.heap.size v ss) (hx : ItAt w w.heap.size x o.its) (hr : rdB ss = true) (hk : o.k = 4 \/ o.k = 5 \/ o.k = 6 \/ o.k = 7) (hf : fnB (sbKs ss) o.u = true) (P : Nat) (hpl : plK (sbKs ss) o.u = P) (hP : P < ss.length) (hfe : fnB (enKs ss[P].es) o.i = false) :
  Calls Tryz.prog 191 #[.agg #[v], opV o x] w (fun e w' => e = .returned (.tuple #[.agg #[.slice none 0 0], .bool false]) /\ Below w.heap.size w w') := by
 have HI := Lib.hid h
 have HX := Lib.hid hx
 have h6 := rd_len hr
 have HSz := Lib.hid h.size
 have HR := Lib.hid hr
 have HCp := Lib.hid (fun w h => l9Copy_any v ss w h (by omega) (fun s hs => by have := sb_len (rd_sub hr s hs); omega))
 have HAt := Lib.hid (fun w h => l9At_any v ss o.u w h)
 rw [atK_there (rd_ris hr) hf, hpl] at HAt
 have hge : decide ((P : Int) < 0) = false := decide_eq_false (by omega)
 obtain ⟨a, cap, rfl, hl, hm, hc⟩ := h.raw
 obtain ⟨xa, xc, rfl⟩ := hx.1.slice
 clear hc h hx hr
 have hb0 : Below w.heap.size w (((w.alloc (.cells #[.slice a ss.length cap] 42)).alloc (.cells #[.int .i64 o.k, .string o.u, .string o.i, .int .i64 o.d, .string o.fu, .string o.ft, .slice xa o.its.length xc] 35)).alloc (.cells #[.slice none 0 0] 42)) := (((Below.refl _ _).alloc (Nat.le_refl _) _).alloc (by simp) _).alloc (by simp; omega) _
 have hR0 := ((Box.new w #[.slice a ss.length cap] 42).alloc (.cells #[.int .i64 o.k, .string o.u, .string o.i, .int .i64 o.d, .string o.fu, .string o.ft, .slice xa o.its.length xc] 35)).alloc (.cells #[.slice none 0 0] 42)
 have hO0 : Box (((w.alloc (.cells #[.slice a ss.length cap] 42)).alloc (.cells #[.int .i64 o.k, .string o.u, .string o.i, .int .i64 o.d, .string o.fu, .string o.ft, .slice xa o.its.length xc] 35)).alloc (.cells #[.slice none 0 0] 42)) (w.heap.size + 1) #[.int .i64 o.k, .string o.u, .string o.i, .int .i64 o.d, .string o.fu, .string o.ft, .slice xa o.its.length xc] 35 := by
  have := (Box.new (w.alloc (.cells #[.slice a ss.length cap] 42)) #[.int .i64 o.k, .string o.u, .string o.i, .int .i64 o.d, .string o.fu, .string o.ft, .slice xa o.its.length xc] 35).alloc (.cells #[.slice none 0 0] 42)
  simpa using this
 have hZ0 : Box (((w.alloc (.cells #[.slice a ss.length cap] 42)).alloc (.cells #[.int .i64 o.k, .string o.u, .string o.i, .int .i64 o.d, .string o.fu, .string o.ft, .slice xa o.its.length xc] 35)).alloc (.cells #[.slice none 0 0] 42)) (w.heap.size + 1 + 1) #[.slice none 0 0] 42 := by
  have := Box.new ((w.alloc (.cells #[.slice a ss.length cap] 42)).alloc (.cells #[.int .i64 o.k, .string o.u, .string o.i, .int .i64 o.d, .string o.fu, .string o.ft, .slice xa o.its.length xc] 35)) #[.slice none 0 0] 42
  simpa using this
 have hsz0 : (((w.alloc (.cells #[.slice a ss.length cap] 42)).alloc (.cells #[.int .i64 o.k, .string o.u, .string o.i, .int .i64 o.d, .string o.fu, .string o.ft, .slice xa o.its.length xc] 35)).alloc (.cells #[.slice none 0 0] 42)).heap.size = w.heap.size + 3 := by simp
 have hk11 : (o.k == 1) = false := beq_eq_false_iff_ne.2 (by omega)
 have hk22 : (o.k == 2) = false := beq_eq_false_iff_ne.2 (by omega)
 have hk33 : (o.k == 3) = false := beq_eq_false_iff_ne.2 (by omega)
 have hk88 : (o.k == 8) = false := beq_eq_false_iff_ne.2 (by omega)
 have hk99 : (o.k == 9) = false := beq_eq_false_iff_ne.2 (by omega)
 clear hk hl hm hf hpl
 unfold OutCp at HCp
 go_enter Tryz.func191, Tryz.ntmps191
 go_wp2_with fail
 generalize ((w.alloc (.cells #[.slice a ss.length cap] 42)).alloc (.cells #[.int .i64 o.k, .string o.u, .string o.i, .int .i64 o.d, .string o.fu, .string o.ft, .slice xa o.its.length xc] 35)).alloc (.cells #[.slice none 0 0] 42) = W0 at hb0 hR0 hO0 hZ0 hsz0 ⊢
 refine (HCp.out _ ((HI.out.below hb0).mono hb0.size)).mono ?_
 rintro e w1 ⟨v1, qs, rfl, hq1, hD1, hb1⟩
 obtain ⟨va, vc, rfl⟩ := hD1.1.slice
 have hs1 : w.heap.size + 3 <= w1.heap.size := by have := hb1.size; omega
 have hB1 := (hb0.trans (hb1.mono hb0.size)).alloc (by omega) (.cells #[.slice va qs.length vc] 42)
 have hZ1 := (hZ0.keep hb1 hZ0.lt).alloc (.cells #[.slice va qs.length vc] 42)
 have hO1 := (hO0.keep hb1 hO0.lt).alloc (.cells #[.slice va qs.length vc] 42)
 have hR1 := (hR0.keep hb1 hR0.lt).alloc (.cells #[.slice va qs.length vc] 42)
 have hX1 := Box.new w1 #[.slice va qs.length vc] 42
 have HD1 : Hid (OwnD (w1.alloc (.cells #[.slice va qs.length vc] 42)) (w.heap.size + 3) (.slice va qs.length vc) qs) := Lib.hid ((hD1.lower (show w.heap.size + 3 <= W0.heap.size by omega)).keep ((Below.refl _ _).alloc (Nat.le_refl _) _) (Nat.le_refl _))
 have HV1 : Hid (Value.ownBlock (.slice va qs.length vc) ≠ Option.some w1.heap.size /\ ∀ q ∈ qs, q.2.ownBlock ≠ Option.some w1.heap.size) := Lib.hid ⟨fun e => by have := (World.ownsRow.lt hD1.1 _ e).2; omega, fun q hq e => by have := (World.ownsRow.lt (hD1.2.1 q hq) _ e).2; omega⟩
 have hql : qs.length = ss.length := by have := congrArg List.length hq1; simpa using this
 have HQ1 := Lib.hid hq1
 rw [hql] at hB1 hZ1 hO1 hR1 hX1 HD1 HV1 ⊢
 clear hb1 hb0 hR0 hO0 hZ0 hsz0 hq1 hD1 HCp
 have f0 : (w1.alloc (.cells #[.slice va ss.length vc] 42)).cell? ⟨w.heap.size + 1, 0, none⟩ = some (.int .i64 o.k) := hO1.cell 0 _ rfl
 have f1 : (w1.alloc (.cells #[.slice va ss.length vc] 42)).cell? ⟨w.heap.size + 1, 1, none⟩ = some (.string o.u) := hO1.cell 1 _ rfl
 have f4 : (w1.alloc (.cells #[.slice va ss.length vc] 42)).cell? ⟨w.heap.size + 1, 4, none⟩ = some (.string o.fu) := hO1.cell 4 _ rfl
 have r0 : (w1.alloc (.cells #[.slice va ss.length vc] 42)).cell? ⟨w.heap.size, 0, none⟩ = some (.slice a ss.length cap) := hR1.cell 0 _ rfl
 go_wp2_with fail
 refine (HAt.out _ ((HI.out.below hB1).mono hB1.size)).mono ?_
 rintro e w2 ⟨rfl, hb2⟩
 have hB2 := hB1.trans (hb2.mono hB1.size)
 have hZ2 := hZ1.keep hb2 hZ1.lt
 have hO2 := hO1.keep hb2 hO1.lt
 have hX2 := hX1.keep hb2 hX1.lt
 have HD2 := Lib.hid (HD1.out.keep hb2 (Nat.le_refl _))
 have hs2 : w1.heap.size < w2.heap.size := hX2.lt
 have g0 : w2.cell? ⟨w.heap.size + 1, 0, none⟩ = some (.int .i64 o.k) := hO2.cell 0 _ rfl
 clear hb2 hB1 hZ1 hO1 hR1 f0 f1 f4 r0 HAt hX1 HD1
 generalize w1.heap.size = D at hX2 HV1 hs1 hs2 ⊢
 clear w1
 have hql : qs.length = ss.length := by have := congrArg List.length HQ1.out; simpa using this
 have hnv := HV1.out.1
 have hnp := HV1.out.2
 obtain ⟨g, rfl, hg1, hg2, hgn⟩ := OwnR.form HD2.out.1 (by omega)
 have hkr : P < qs.length := by omega
 have hPs : qs[P].1 = ss[P] := fst_at HQ1.out P hkr hP
 have hgD : D ≠ g := fun e => hnv (by rw [e]; rfl)
 obtain ⟨ya, yc, hyv⟩ := (HD2.out.2.1 _ (List.getElem_mem hkr)).slice
 have c0 := HD2.out.1.val sbC_len hgn P 0 _ hkr rfl
 have c1 := HD2.out.1.val sbC_len hgn P 1 _ hkr rfl
 have c2 := HD2.out.1.val sbC_len hgn P 2 _ hkr rfl
 have hoy := HD2.out.2.1 _ (List.getElem_mem hkr)
 have hny := hnp _ (List.getElem_mem hkr)
 rw [hyv] at c2 hoy hny
 rw [hPs] at c0 c1 c2 hoy hyv hny
 rw [Nat.add_zero] at c0
 have HSy := Lib.hid (HSz.out _ (List.getElem_mem hP))
 have hel : ss[P].es.length <= 12 := sb_len (rd_sub HR.out _ (List.getElem_mem hP))
 have hre : risB (enKs ss[P].es) = true := sb_ris (rd_sub HR.out _ (List.getElem_mem hP))
 have HY : Hid (EnAt w2.drew w2.drew.heap.size (.slice ya ss[P].es.length yc) ss[P].es) := Lib.hid ⟨hoy.at enC_len, HSy.out.2⟩
 have HFd := Lib.hid (fun w (h : EnAt w w.heap.size (.slice ya ss[P].es.length yc) ss[P].es) => l9Find_any (.slice ya ss[P].es.length yc) ss[P].es o.i w h)
 rw [atK_not hre hfe] at HFd
 generalize ss[P].es = E at c2 HY HFd hoy hel hre hfe
 clear hre hfe hel hyv c0 c1 HSy hPs hnp hnv hny hgn
 have hQ0 : (Box w2.drew D #[.slice (some ⟨g, 0, none⟩) ss.length vc] 42 /\ Box w2.drew (w.heap.size + 1) #[.int .i64 o.k, .string o.u, .string o.i, .int .i64 o.d, .string o.fu, .string o.ft, .slice xa o.its.length xc] 35) /\ w2.drew.cell? ⟨g, P * 3 + 2, none⟩ = some (.slice ya E.length yc) := ⟨⟨hX2.drew, hO2.drew⟩, c2⟩
 go_wp2
 refine wp_region_T (fun w' => (Box w' D #[.slice (some ⟨g, 0, none⟩) ss.length vc] 42 /\ Box w' (w.heap.size + 1) #[.int .i64 o.k, .string o.u, .string o.i, .int .i64 o.d, .string o.fu, .string o.ft, .slice xa o.its.length xc] 35) /\ w'.cell? ⟨g, P * 3 + 2, none⟩ = some (.slice ya E.length yc)) (fun _ => True) 9 (by kernel_rfl) 10 rfl ?_
 refine wA 2 [0, 1, 2, 3, 4, 5, 6, 7] ⟨hQ0, fun _ => trivial⟩ ?_
 simp only [pick, List.filterMap_cons, List.filterMap_nil, List.getElem?_cons_zero, List.getElem?_cons_succ]
 refine wS (.pointer (some ⟨D, 0, none⟩)) (fun w hw => by go_simp) ?_
 refine wS (.slice (some ⟨g, 0, none⟩) ss.length vc) (fun w hw => by have e0 := hw.1.1.cell 0 _ rfl; go_simp) ?_
 refine wS (.int .i64 (P : Int)) (fun w hw => by go_simp) ?_
 refine wS (.pointer (some ⟨g, P * 3, none⟩)) (fun w hw => by go_simp) ?_
 refine wS (.pointer (some ⟨g, P * 3 + 2, none⟩)) (fun w hw => by go_simp) ?_
 refine wS (.slice ya E.length yc) (fun w hw => by have e0 := hw.2; go_simp) ?_
 refine wS (.pointer (some ⟨w.heap.size + 1, 2, none⟩)) (fun w hw => by go_simp) ?_
 refine wS (.string o.i) (fun w hw => by have e0 := hw.1.2.cell 2 _ rfl; go_simp) ?_
 refine wpIf_nil (fun hS => ?_)
 clear hS
 refine wO 8 1 (fun K hK => ?_)
 go_simp
 refine (HFd.out w2.drew HY.out).mono ?_
 rintro e w3 ⟨rfl, hb3⟩
 have hX3 := hX2.drew.keep hb3 hX2.lt
 have hO3 := hO2.drew.keep hb3 hO2.lt
 have hZ3 := hZ2.drew.keep hb3 hZ2.lt
 have hB3 := hB2.drew.trans (hb3.mono hB2.size)
 have hs3 : D < w3.heap.size := hX3.lt
 have HD3 := Lib.hid (HD2.out.drew.keep hb3 (Nat.le_refl _))
 have c3 : w3.cell? ⟨g, P * 3 + 2, none⟩ = some (.slice ya E.length yc) := by rw [hb3.cell (p := ⟨g, P * 3 + 2, none⟩) hg2]; exact c2
 have hsw : w2.heap.size <= w3.heap.size := hb3.size
 have hoy3 := hoy.drew.keep hb3 (Nat.le_refl _)
 refine hK _ _ ⟨⟨⟨hX3, hO3⟩, c3⟩, fun _ => trivial⟩ (fun hS => ?_)
 clear hK K hS
 refine wO 9 0 (fun K hK => ?_)
 go_simp
 refine hK _ _ ⟨⟨⟨hX3, hO3⟩, c3⟩, fun _ => trivial⟩ (fun hS => ?_)
 clear hK K hS
 refine wpAnyT_over (by kernel_rfl) ?_
 clear hX2 hO2 hB2 HY HFd c2 c3 hQ0 hoy hoy3 HD3 HD2
 have z0 : w3.cell? ⟨w.heap.size + 1 + 1, 0, none⟩ = some (.slice none 0 0) := hZ3.cell 0 _ rfl
 have zf := hZ3.free
 go_wp2
 have hZe := hZ3.set 0 (.slice none 0 0)
 have hBe := hB3.setCell (p := ⟨w.heap.size + 1 + 1, 0, none⟩) (by simp; omega) (.slice none 0 0)
 generalize w3.setCell ⟨w.heap.size + 1 + 1, 0, none⟩ (.slice none 0 0) = We at hZe hBe ⊢
 have p0 : We.cell? ⟨w.heap.size + 1 + 1, 0, none⟩ = some (.slice none 0 0) := hZe.cell 0 _ rfl
 exact bodyPost_ret (v := .tuple #[.agg #[.slice none 0 0], .bool false]) (by simp [results, Tryz.results191, go_sem, p0]) rfl ⟨rfl, hBe⟩
end Go.Proofs.YtffkakpbelknaaaGreatDoor
namespace Go.Proofs.YtffkakpbelknaaaGreatDoor
open Go.ChangeShapes Go.WideShapes Go.ChangeAt Go.RowKit
set_option linter.unusedVariables false
theorem l9Done_mark (v x : Value) (ss : List Sb) (o : OpD) (w : World) (h : SbAt w w.heap.size v ss) (hx : ItAt w w.heap.size x o.its) (hr : rdB ss = true) (hk : o.k = 4 \/ o.k = 5 \/ o.k = 6 \/ o.k = 7) (hf : fnB (sbKs ss) o.u = true) (P : Nat) (hpl : plK (sbKs ss) o.u = P) (hP : P < ss.length) (hfe : fnB (enKs ss[P].es) o.i = true) :
  Calls Tryz.prog 191 #[.agg #[v], opV o x] w (OutDn (doI ss o) w) := by
 have HI := Lib.hid h
 have HX := Lib.hid hx
 have h6 := rd_len hr
 have HSz := Lib.hid h.size
 have HR := Lib.hid hr
 have HCp := Lib.hid (fun w h => l9Copy_any v ss w h (by omega) (fun s hs => by have := sb_len (rd_sub hr s hs); omega))
 have HAt := Lib.hid (fun w h => l9At_any v ss o.u w h)
 rw [atK_there (rd_ris hr) hf, hpl] at HAt
 have hge : decide ((P : Int) < 0) = false := decide_eq_false (by omega)
 have HDo : Hid (doI ss o = some (ss.set P (mkS ss[P] o.i o.k))) := Lib.hid (by unfold doI; rw [if_neg (by omega), if_neg (by omega), chV_at (by unfold opU; rw [if_neg (by omega)]; exact hf) (by unfold opU; rw [if_neg (by omega)]; exact hpl) hP]; rw [if_neg (by omega), if_neg (by omega), if_neg (by omega), if_pos hfe])
 obtain ⟨a, cap, rfl, hl, hm, hc⟩ := h.raw
 obtain ⟨xa, xc, rfl⟩ := hx.1.slice
 clear hc h hx hr
 have hb0 : Below w.heap.size w (((w.alloc (.cells #[.slice a ss.length cap] 42)).alloc (.cells #[.int .i64 o.k, .string o.u, .string o.i, .int .i64 o.d, .string o.fu, .string o.ft, .slice xa o.its.length xc] 35)).alloc (.cells #[.slice none 0 0] 42)) := (((Below.refl _ _).alloc (Nat.le_refl _) _).alloc (by simp) _).alloc (by simp; omega) _
 have hR0 := ((Box.new w #[.slice a ss.length cap] 42).alloc (.cells #[.int .i64 o.k, .string o.u, .string o.i, .int .i64 o.d, .string o.fu, .string o.ft, .slice xa o.its.length xc] 35)).alloc (.cells #[.slice none 0 0] 42)
 have hO0 : Box (((w.alloc (.cells #[.slice a ss.length cap] 42)).alloc (.cells #[.int .i64 o.k, .string o.u, .string o.i, .int .i64 o.d, .string o.fu, .string o.ft, .slice xa o.its.length xc] 35)).alloc (.cells #[.slice none 0 0] 42)) (w.heap.size + 1) #[.int .i64 o.k, .string o.u, .string o.i, .int .i64 o.d, .string o.fu, .string o.ft, .slice xa o.its.length xc] 35 := by
  have := (Box.new (w.alloc (.cells #[.slice a ss.length cap] 42)) #[.int .i64 o.k, .string o.u, .string o.i, .int .i64 o.d, .string o.fu, .string o.ft, .slice xa o.its.length xc] 35).alloc (.cells #[.slice none 0 0] 42)
  simpa using this
 have hZ0 : Box (((w.alloc (.cells #[.slice a ss.length cap] 42)).alloc (.cells #[.int .i64 o.k, .string o.u, .string o.i, .int .i64 o.d, .string o.fu, .string o.ft, .slice xa o.its.length xc] 35)).alloc (.cells #[.slice none 0 0] 42)) (w.heap.size + 1 + 1) #[.slice none 0 0] 42 := by
  have := Box.new ((w.alloc (.cells #[.slice a ss.length cap] 42)).alloc (.cells #[.int .i64 o.k, .string o.u, .string o.i, .int .i64 o.d, .string o.fu, .string o.ft, .slice xa o.its.length xc] 35)) #[.slice none 0 0] 42
  simpa using this
 have hsz0 : (((w.alloc (.cells #[.slice a ss.length cap] 42)).alloc (.cells #[.int .i64 o.k, .string o.u, .string o.i, .int .i64 o.d, .string o.fu, .string o.ft, .slice xa o.its.length xc] 35)).alloc (.cells #[.slice none 0 0] 42)).heap.size = w.heap.size + 3 := by simp
 have hk11 : (o.k == 1) = false := beq_eq_false_iff_ne.2 (by omega)
 have hk22 : (o.k == 2) = false := beq_eq_false_iff_ne.2 (by omega)
 have hk33 : (o.k == 3) = false := beq_eq_false_iff_ne.2 (by omega)
 have hk88 : (o.k == 8) = false := beq_eq_false_iff_ne.2 (by omega)
 have hk99 : (o.k == 9) = false := beq_eq_false_iff_ne.2 (by omega)
 have HK := Lib.hid hk
 clear hk hl hm hf hpl
 unfold OutCp at HCp
 go_enter Tryz.func191, Tryz.ntmps191
 go_wp2_with fail
 generalize ((w.alloc (.cells #[.slice a ss.length cap] 42)).alloc (.cells #[.int .i64 o.k, .string o.u, .string o.i, .int .i64 o.d, .string o.fu, .string o.ft, .slice xa o.its.length xc] 35)).alloc (.cells #[.slice none 0 0] 42) = W0 at hb0 hR0 hO0 hZ0 hsz0 ⊢
 refine (HCp.out _ ((HI.out.below hb0).mono hb0.size)).mono ?_
 rintro e w1 ⟨v1, qs, rfl, hq1, hD1, hb1⟩
 obtain ⟨va, vc, rfl⟩ := hD1.1.slice
 have hs1 : w.heap.size + 3 <= w1.heap.size := by have := hb1.size; omega
 have hB1 := (hb0.trans (hb1.mono hb0.size)).alloc (by omega) (.cells #[.slice va qs.length vc] 42)
 have hZ1 := (hZ0.keep hb1 hZ0.lt).alloc (.cells #[.slice va qs.length vc] 42)
 have hO1 := (hO0.keep hb1 hO0.lt).alloc (.cells #[.slice va qs.length vc] 42)
 have hR1 := (hR0.keep hb1 hR0.lt).alloc (.cells #[.slice va qs.length vc] 42)
 have hX1 := Box.new w1 #[.slice va qs.length vc] 42
 have HD1 : Hid (OwnD (w1.alloc (.cells #[.slice va qs.length vc] 42)) (w.heap.size + 3) (.slice va qs.length vc) qs) := Lib.hid ((hD1.lower (show w.heap.size + 3 <= W0.heap.size by omega)).keep ((Below.refl _ _).alloc (Nat.le_refl _) _) (Nat.le_refl _))
 have HV1 : Hid (Value.ownBlock (.slice va qs.length vc) ≠ Option.some w1.heap.size /\ ∀ q ∈ qs, q.2.ownBlock ≠ Option.some w1.heap.size) := Lib.hid ⟨fun e => by have := (World.ownsRow.lt hD1.1 _ e).2; omega, fun q hq e => by have := (World.ownsRow.lt (hD1.2.1 q hq) _ e).2; omega⟩
 have hql : qs.length = ss.length := by have := congrArg List.length hq1; simpa using this
 have HQ1 := Lib.hid hq1
 rw [hql] at hB1 hZ1 hO1 hR1 hX1 HD1 HV1 ⊢
 clear hb1 hb0 hR0 hO0 hZ0 hsz0 hq1 hD1 HCp
 have f0 : (w1.alloc (.cells #[.slice va ss.length vc] 42)).cell? ⟨w.heap.size + 1, 0, none⟩ = some (.int .i64 o.k) := hO1.cell 0 _ rfl
 have f1 : (w1.alloc (.cells #[.slice va ss.length vc] 42)).cell? ⟨w.heap.size + 1, 1, none⟩ = some (.string o.u) := hO1.cell 1 _ rfl
 have f4 : (w1.alloc (.cells #[.slice va ss.length vc] 42)).cell? ⟨w.heap.size + 1, 4, none⟩ = some (.string o.fu) := hO1.cell 4 _ rfl
 have r0 : (w1.alloc (.cells #[.slice va ss.length vc] 42)).cell? ⟨w.heap.size, 0, none⟩ = some (.slice a ss.length cap) := hR1.cell 0 _ rfl
 go_wp2_with fail
 refine (HAt.out _ ((HI.out.below hB1).mono hB1.size)).mono ?_
 rintro e w2 ⟨rfl, hb2⟩
 have hB2 := hB1.trans (hb2.mono hB1.size)
 have hZ2 := hZ1.keep hb2 hZ1.lt
 have hO2 := hO1.keep hb2 hO1.lt
 have hX2 := hX1.keep hb2 hX1.lt
 have HD2 := Lib.hid (HD1.out.keep hb2 (Nat.le_refl _))
 have hs2 : w1.heap.size < w2.heap.size := hX2.lt
 have g0 : w2.cell? ⟨w.heap.size + 1, 0, none⟩ = some (.int .i64 o.k) := hO2.cell 0 _ rfl
 clear hb2 hB1 hZ1 hO1 hR1 f0 f1 f4 r0 HAt hX1 HD1
 generalize w1.heap.size = D at hX2 HV1 hs1 hs2 ⊢
 clear w1
 have hql : qs.length = ss.length := by have := congrArg List.length HQ1.out; simpa using this
 have hnv := HV1.out.1
 have hnp := HV1.out.2
 obtain ⟨g, rfl, hg1, hg2, hgn⟩ := OwnR.form HD2.out.1 (by omega)
 have hkr : P < qs.length := by omega
 have hPs : qs[P].1 = ss[P] := fst_at HQ1.out P hkr hP
 have hgD : D ≠ g := fun e => hnv (by rw [e]; rfl)
 obtain ⟨ya, yc, hyv⟩ := (HD2.out.2.1 _ (List.getElem_mem hkr)).slice
 have c0 := HD2.out.1.val sbC_len hgn P 0 _ hkr rfl
 have c1 := HD2.out.1.val sbC_len hgn P 1 _ hkr rfl
 have c2 := HD2.out.1.val sbC_len hgn P 2 _ hkr rfl
 have hoy := HD2.out.2.1 _ (List.getElem_mem hkr)
 have hny := hnp _ (List.getElem_mem hkr)
 rw [hyv] at c2 hoy hny
 rw [hPs] at c0 c1 c2 hoy hyv hny
 rw [Nat.add_zero] at c0
 have HSy := Lib.hid (HSz.out _ (List.getElem_mem hP))
 have hel : ss[P].es.length <= 12 := sb_len (rd_sub HR.out _ (List.getElem_mem hP))
 have hre : risB (enKs ss[P].es) = true := sb_ris (rd_sub HR.out _ (List.getElem_mem hP))
 have HY : Hid (EnAt w2.drew w2.drew.heap.size (.slice ya ss[P].es.length yc) ss[P].es) := Lib.hid ⟨hoy.at enC_len, HSy.out.2⟩
 have HFd := Lib.hid (fun w (h : EnAt w w.heap.size (.slice ya ss[P].es.length yc) ss[P].es) => l9Find_any (.slice ya ss[P].es.length yc) ss[P].es o.i w h)
 rw [atK_there hre hfe] at HFd
 have hKl := fn_pe hfe
 obtain ⟨M, hMe⟩ : ∃ M, M = plK (enKs ss[P].es) o.i := ⟨_, rfl⟩
 rw [<- hMe] at HFd hKl
 have HMk2 : Hid (mkS ss[P] o.i o.k = ⟨ss[P].u, ss[P].t, ss[P].es.set M (mkE ss[P].es[M] o.k)⟩) := Lib.hid (by unfold mkS mkAt; rw [<- hMe, List.getElem?_eq_getElem hKl])
 clear hMe
 have hge2 : decide ((M : Int) < 0) = false := decide_eq_false (by omega)
 have hoy2 := hoy
 have HSub : Hid (∀ E2 : List En, (qs.set P ((⟨ss[P].u, ss[P].t, E2⟩ : Sb), Value.slice ya ss[P].es.length yc)).map Prod.fst = ss.set P ⟨ss[P].u, ss[P].t, E2⟩) := Lib.hid (fun E2 => by rw [List.map_set, HQ1.out])
 have HIn : Hid (∀ (w3 w4 : World) (E2 : List En), OwnD w3 (w.heap.size + 3) (.slice (some ⟨g, 0, none⟩) ss.length vc) qs -> w3.grownBy w4 (Value.ownBlock (.slice ya ss[P].es.length yc)) -> OwnR 97 5 enC w4 (w.heap.size + 3) (.slice ya ss[P].es.length yc) E2 -> OwnD w4 (w.heap.size + 3) (.slice (some ⟨g, 0, none⟩) ss.length vc) (qs.set P ((⟨ss[P].u, ss[P].t, E2⟩ : Sb), Value.slice ya ss[P].es.length yc))) := Lib.hid (fun w3 w4 E2 h3 hg4 ho4 => by have := h3.inplace P hkr ⟨ss[P].u, ss[P].t, E2⟩ (by rw [hPs]) (by rw [hPs]) (by rw [hyv]; exact hg4) (by rw [hyv]; exact ho4); rw [hyv] at this; exact this)
 obtain ⟨h, hya, hh1, hh2, hhn⟩ := OwnR.form hoy (by omega)
 subst hya
 have hhD : D ≠ h := fun e => hny (by rw [e]; rfl)
 have hgh : g ≠ h := fun e => by rcases own_apart (by decide) HD2.out.1 hoy with h1 | h1; (cases h1); exact h1 (by rw [e]; rfl)
 have hP2 := hP
 generalize ss[P].u = U at HSub HIn HMk2 c0
 generalize ss[P].t = V at HSub HIn HMk2 c1
 generalize ss[P].es = E at c2 HY HFd hoy hel hre hfe hKl HSub HIn HMk2 hyv hoy2 HSy hny hhn
 clear hre hfe hel hyv c0 c1 hnp hnv hny hhn hoy2 HSy hPs hgn hql
 have hQ0 : (Box w2.drew D #[.slice (some ⟨g, 0, none⟩) ss.length vc] 42 /\ Box w2.drew (w.heap.size + 1) #[.int .i64 o.k, .string o.u, .string o.i, .int .i64 o.d, .string o.fu, .string o.ft, .slice xa o.its.length xc] 35) /\ w2.drew.cell? ⟨g, P * 3 + 2, none⟩ = some (.slice (some ⟨h, 0, none⟩) E.length yc) := ⟨⟨hX2.drew, hO2.drew⟩, c2⟩
 go_wp2
 refine wp_region_T (fun w' => (Box w' D #[.slice (some ⟨g, 0, none⟩) ss.length vc] 42 /\ Box w' (w.heap.size + 1) #[.int .i64 o.k, .string o.u, .string o.i, .int .i64 o.d, .string o.fu, .string o.ft, .slice xa o.its.length xc] 35) /\ w'.cell? ⟨g, P * 3 + 2, none⟩ = some (.slice (some ⟨h, 0, none⟩) E.length yc)) (fun _ => True) 9 (by kernel_rfl) 10 rfl ?_
 refine wA 2 [0, 1, 2, 3, 4, 5, 6, 7] ⟨hQ0, fun _ => trivial⟩ ?_
 simp only [pick, List.filterMap_cons, List.filterMap_nil, List.getElem?_cons_zero, List.getElem?_cons_succ]
 refine wS (.pointer (some ⟨D, 0, none⟩)) (fun w hw => by go_simp) ?_
 refine wS (.slice (some ⟨g, 0, none⟩) ss.length vc) (fun w hw => by have e0 := hw.1.1.cell 0 _ rfl; go_simp) ?_
 refine wS (.int .i64 (P : Int)) (fun w hw => by go_simp) ?_
 refine wS (.pointer (some ⟨g, P * 3, none⟩)) (fun w hw => by go_simp) ?_
 refine wS (.pointer (some ⟨g, P * 3 + 2, none⟩)) (fun w hw => by go_simp) ?_
 refine wS (.slice (some ⟨h, 0, none⟩) E.length yc) (fun w hw => by have e0 := hw.2; go_simp) ?_
 refine wS (.pointer (some ⟨w.heap.size + 1, 2, none⟩)) (fun w hw => by go_simp) ?_
 refine wS (.string o.i) (fun w hw => by have e0 := hw.1.2.cell 2 _ rfl; go_simp) ?_
 refine wpIf_nil (fun hS => ?_)
 clear hS
 refine wO 8 1 (fun K hK => ?_)
 go_simp
 refine (HFd.out w2.drew HY.out).mono ?_
 rintro e w3 ⟨rfl, hb3⟩
 have hX3 := hX2.drew.keep hb3 hX2.lt
 have hO3 := hO2.drew.keep hb3 hO2.lt
 have hZ3 := hZ2.drew.keep hb3 hZ2.lt
 have hB3 := hB2.drew.trans (hb3.mono hB2.size)
 have hs3 : D < w3.heap.size := hX3.lt
 have HD3 := Lib.hid (HD2.out.drew.keep hb3 (Nat.le_refl _))
 have c3 : w3.cell? ⟨g, P * 3 + 2, none⟩ = some (.slice (some ⟨h, 0, none⟩) E.length yc) := by rw [hb3.cell (p := ⟨g, P * 3 + 2, none⟩) hg2]; exact c2
 have hsw : w2.heap.size <= w3.heap.size := hb3.size
 have hoy3 := hoy.drew.keep hb3 (Nat.le_refl _)
 refine hK _ _ ⟨⟨⟨hX3, hO3⟩, c3⟩, fun _ => trivial⟩ (fun hS => ?_)
 clear hK K hS
 refine wO 9 0 (fun K hK => ?_)
 go_simp
 refine hK _ _ ⟨⟨⟨hX3, hO3⟩, c3⟩, fun _ => trivial⟩ (fun hS => ?_)
 clear hK K hS
 refine wpAnyT_over (by kernel_rfl) ?_
 clear hX2 hO2 hB2 hZ2 HY HFd c2 hQ0 hoy HD2 g0
 obtain ⟨x, hxe⟩ : ∃ x, x = E[M] := ⟨_, rfl⟩
 have e0 := hoy3.val enC_len rfl M 0 _ hKl rfl
 have e1 := hoy3.val enC_len rfl M 1 _ hKl rfl
 have e2 := hoy3.val enC_len rfl M 2 _ hKl rfl
 have e3 := hoy3.val enC_len rfl M 3 _ hKl rfl
 have e4 := hoy3.val enC_len rfl M 4 _ hKl rfl
 rw [<- hxe] at e0 e1 e2 e3 e4 HMk2
 rw [Nat.add_zero] at e0
 have HPt : Hid (∀ w4, OwnR 97 5 enC w4 (w.heap.size + 3) (.slice (some ⟨h, 0, none⟩) E.length yc) E -> OwnR 97 5 enC (putRow h (M * 5) (enC (mkE x o.k)) w4) (w.heap.size + 3) (.slice (some ⟨h, 0, none⟩) E.length yc) (E.set M (mkE x o.k))) := Lib.hid (fun w4 h4 => h4.put enC_len rfl M (mkE x o.k) hKl)
 have HPg : Hid (∀ w4 : World, w4.grownBy (putRow h (M * 5) (enC (mkE x o.k)) w4) (some h)) := Lib.hid (fun w4 => gb_set1 h _ _ (gb_set1 h _ _ (gb_set1 h _ _ (gb_set1 h _ _ (gb_set1 h _ _ (World.grownBy.refl _ _))))))
 have HMkC := Lib.hid (fun w => l9Mark_any x o.k w HK.out)
 obtain ⟨y, hye⟩ : ∃ y, y = mkE x o.k := ⟨_, rfl⟩
 rw [<- hye] at HPt HPg HMkC HMk2
 clear hye hxe
 unfold enC at HPt HPg
 simp only [putRow, Nat.add_assoc, Nat.reduceAdd] at HPt HPg
 have hQ0 : (Box w3.drew D #[.slice (some ⟨g, 0, none⟩) ss.length vc] 42 /\ Box w3.drew (w.heap.size + 1) #[.int .i64 o.k, .string o.u, .string o.i, .int .i64 o.d, .string o.fu, .string o.ft, .slice xa o.its.length xc] 35) /\ w3.drew.cell? ⟨g, P * 3 + 2, none⟩ = some (.slice (some ⟨h, 0, none⟩) E.length yc) := ⟨⟨hX3.drew, hO3.drew⟩, c3⟩
 have HOy := Lib.hid hoy3
 have hh3 : h < w3.heap.size := by omega
 clear hoy3
 go_wp2
 refine wp_region_T (fun w' => (Box w' D #[.slice (some ⟨g, 0, none⟩) ss.length vc] 42 /\ Box w' (w.heap.size + 1) #[.int .i64 o.k, .string o.u, .string o.i, .int .i64 o.d, .string o.fu, .string o.ft, .slice xa o.its.length xc] 35) /\ w'.cell? ⟨g, P * 3 + 2, none⟩ = some (.slice (some ⟨h, 0, none⟩) E.length yc)) (fun w' => w'.cell? ⟨h, M * 5, none⟩ = some (.string x.it.id) /\ w'.cell? ⟨h, M * 5 + 1, none⟩ = some (.string x.it.ti) /\ w'.cell? ⟨h, M * 5 + 2, none⟩ = some (.int .i64 x.it.da) /\ w'.cell? ⟨h, M * 5 + 3, none⟩ = some (.bool x.rd) /\ w'.cell? ⟨h, M * 5 + 4, none⟩ = some (.bool x.st)) 20 (by kernel_rfl) 21 rfl ?_
 refine wA 4 [0, 1, 2, 3, 4, 5, 6, 7, 8, 9, 10, 11, 12, 13, 14, 16, 17] ⟨hQ0, fun _ => ⟨e0, e1, e2, e3, e4⟩⟩ ?_
 simp only [pick, List.filterMap_cons, List.filterMap_nil, List.getElem?_cons_zero, List.getElem?_cons_succ]
 refine wS (.pointer (some ⟨D, 0, none⟩)) (fun w hw => by go_simp) ?_
 refine wS (.slice (some ⟨g, 0, none⟩) ss.length vc) (fun w hw => by have e0 := hw.1.1.cell 0 _ rfl; go_simp) ?_
 refine wS (.int .i64 (P : Int)) (fun w hw => by go_simp) ?_
 refine wS (.pointer (some ⟨g, P * 3, none⟩)) (fun w hw => by go_simp) ?_
 refine wS (.pointer (some ⟨g, P * 3 + 2, none⟩)) (fun w hw => by go_simp) ?_
 refine wS (.slice (some ⟨h, 0, none⟩) E.length yc) (fun w hw => by have e0 := hw.2; go_simp) ?_
 refine wS (.int .i64 (M : Int)) (fun w hw => by go_simp) ?_
 refine wS (.pointer (some ⟨D, 0, none⟩)) (fun w hw => by go_simp) ?_
 refine wS (.slice (some ⟨g, 0, none⟩) ss.length vc) (fun w hw => by have e0 := hw.1.1.cell 0 _ rfl; go_simp) ?_
 refine wS (.int .i64 (P : Int)) (fun w hw => by go_simp) ?_
 refine wS (.pointer (some ⟨g, P * 3, none⟩)) (fun w hw => by go_simp) ?_
 refine wS (.pointer (some ⟨g, P * 3 + 2, none⟩)) (fun w hw => by go_simp) ?_
 refine wS (.slice (some ⟨h, 0, none⟩) E.length yc) (fun w hw => by have e0 := hw.2; go_simp) ?_
 refine wS (.int .i64 (M : Int)) (fun w hw => by go_simp) ?_
 refine wS (.pointer (some ⟨h, M * 5, none⟩)) (fun w hw => by go_simp) ?_
 refine wS (.pointer (some ⟨w.heap.size + 1, 0, none⟩)) (fun w hw => by go_simp) ?_
 refine wS (.int .i64 o.k) (fun w hw => by have e0 := hw.1.2.cell 0 _ rfl; go_simp) ?_
 refine wpIf_nil (fun hS0 => ?_)
 refine wpAnyT_takesB (md := .any) 3 (by kernel_rfl) (by intro d v c a w h; cases d <;> exact h) [15] _ _ _ (by decide) (by kernel_rfl) (by kernel_rfl) (by kernel_rfl) hS0 ?_
 simp only [pick, List.filterMap_cons, List.filterMap_nil, List.getElem?_cons_zero, List.getElem?_cons_succ]
 refine wS (enV x.it.id x.it.ti x.it.da x.rd x.st) (fun w hw => by have e0 := hw.2.1; have e1 := hw.2.2.1; have e2 := hw.2.2.2.1; have e3 := hw.2.2.2.2.1; have e4 := hw.2.2.2.2.2; go_simp) ?_
 refine wpIf_nil (fun hS0 => ?_)
 clear hS0
 refine wO 18 2 (fun K hK => ?_)
 go_simp
 refine (HMkC.out w3.drew).mono ?_
 rintro e w4 ⟨rfl, hb4⟩
 have hX4 := hX3.drew.keep hb4 hX3.lt
 have hO4 := hO3.drew.keep hb4 hO3.lt
 have hZ4 := hZ3.drew.keep hb4 hZ3.lt
 have hB4 := hB3.drew.trans (hb4.mono hB3.size)
 have HD4 := Lib.hid (HD3.out.drew.keep hb4 (Nat.le_refl _))
 have hoy4 := HOy.out.drew.keep hb4 (Nat.le_refl _)
 have kc : ∀ (q : Nat) o x, q < w3.heap.size -> w3.cell? ⟨q, o, none⟩ = some x -> w4.cell? ⟨q, o, none⟩ = some x := fun q o x hq h => by rw [hb4.cell (p := ⟨q, o, none⟩) hq]; exact h
 have c4 := kc g _ _ (by omega) c3
 have d0 := kc h _ _ hh3 e0
 have d1 := kc h _ _ hh3 e1
 have d2 := kc h _ _ hh3 e2
 have d3 := kc h _ _ hh3 e3
 have d4 := kc h _ _ hh3 e4
 refine hK _ _ ⟨⟨⟨hX4, hO4⟩, c4⟩, fun _ => ⟨d0, d1, d2, d3, d4⟩⟩ (fun hS0 => ?_)
 clear hK K hS0 hb4 kc
 refine wA 1 [19] ⟨⟨⟨hX4, hO4⟩, c4⟩, fun _ => ⟨d0, d1, d2, d3, d4⟩⟩ ?_
 simp only [pick, List.filterMap_cons, List.filterMap_nil, List.getElem?_cons_zero, List.getElem?_cons_succ]
 refine wS (.pointer (some ⟨h, M * 5, none⟩)) (fun w hw => by go_simp) ?_
 refine wpIf_nil (fun hS0 => ?_)
 clear hS0
 have fz := hoy4.free rfl
 have ho5 := HPt.out w4 hoy4
 have hg5 := HPg.out w4
 have hb5 : Below (w.heap.size + 3) w4 (((((w4.setCell ⟨h, M * 5, none⟩ (.string y.it.id)).setCell ⟨h, M * 5 + 1, none⟩ (.string y.it.ti)).setCell ⟨h, M * 5 + 2, none⟩ (.int .i64 y.it.da)).setCell ⟨h, M * 5 + 3, none⟩ (.bool y.rd)).setCell ⟨h, M * 5 + 4, none⟩ (.bool y.st)) := gb_Below hg5 (by have := hX4.lt; omega) (fun b hb => by cases hb; exact hh1)
 have hbh : ∀ {q : Nat} {cs : Array Value} {t : TypeId}, Box w4 q cs t -> q ≠ h -> Box (((((w4.setCell ⟨h, M * 5, none⟩ (.string y.it.id)).setCell ⟨h, M * 5 + 1, none⟩ (.string y.it.ti)).setCell ⟨h, M * 5 + 2, none⟩ (.int .i64 y.it.da)).setCell ⟨h, M * 5 + 3, none⟩ (.bool y.rd)).setCell ⟨h, M * 5 + 4, none⟩ (.bool y.st)) q cs t := fun hx hq => (hg5.block _ hx.lt (fun e => hq (Option.some.inj e))).trans hx
 have hX5 := hbh hX4 hhD
 have hO5 := hbh hO4 (by omega)
 have hZ5 := hbh hZ4 (by omega)
 have hB5 := hB4.trans (hb5.mono (by omega))
 have c5 : (((((w4.setCell ⟨h, M * 5, none⟩ (.string y.it.id)).setCell ⟨h, M * 5 + 1, none⟩ (.string y.it.ti)).setCell ⟨h, M * 5 + 2, none⟩ (.int .i64 y.it.da)).setCell ⟨h, M * 5 + 3, none⟩ (.bool y.rd)).setCell ⟨h, M * 5 + 4, none⟩ (.bool y.st)).cell? ⟨g, P * 3 + 2, none⟩ = some (.slice (some ⟨h, 0, none⟩) E.length yc) := by rw [cell_blk (hg5.block g (by have := HD4.out.1; have h9 := hX4.lt; have := (World.ownsRow.lt HD4.out.1 g rfl).2; omega) (fun e => hgh (Option.some.inj e)))]; exact c4
 have HD5 := Lib.hid (HIn.out w4 _ _ HD4.out hg5 ho5)
 refine wO 20 0 (fun K hK => ?_)
 go_simp
 refine hK _ _ ⟨⟨⟨hX5, hO5⟩, c5⟩, fun h => by exact absurd h (by decide)⟩ (fun hS0 => ?_)
 clear hK K hS0 hQ0
 refine wpAnyT_over (by kernel_rfl) ?_
 have hs5 := hX5.lt
 generalize ((((w4.setCell ⟨h, M * 5, none⟩ (.string y.it.id)).setCell ⟨h, M * 5 + 1, none⟩ (.string y.it.ti)).setCell ⟨h, M * 5 + 2, none⟩ (.int .i64 y.it.da)).setCell ⟨h, M * 5 + 3, none⟩ (.bool y.rd)).setCell ⟨h, M * 5 + 4, none⟩ (.bool y.st) = W5 at hX5 hO5 hZ5 hB5 HD5 hs5 ⊢
 clear hX4 hO4 hZ4 hB4 hX3 hO3 hZ3 hB3 c3 c4 c5 fz HOy HD4 HD3 HPt HPg d0 d1 d2 d3 d4 e0 e1 e2 e3 e4 hoy4 ho5 hg5 hb5 hbh HMkC
 have HQe : Hid ((qs.set P ((⟨U, V, E.set M y⟩ : Sb), Value.slice (some ⟨h, 0, none⟩) E.length yc)).map Prod.fst = ss.set P (mkS ss[P] o.i o.k)) := Lib.hid (by rw [HMk2.out]; exact HSub.out _)
 have x0 : W5.cell? ⟨D, 0, none⟩ = some (.slice (some ⟨g, 0, none⟩) ss.length vc) := hX5.cell 0 _ rfl
 have z0 : W5.cell? ⟨w.heap.size + 1 + 1, 0, none⟩ = some (.slice none 0 0) := hZ5.cell 0 _ rfl
 have zf := hZ5.free
 go_wp2
 have hZe := hZ5.set 0 (.slice (some ⟨g, 0, none⟩) ss.length vc)
 have hBe := hB5.setCell (p := ⟨w.heap.size + 1 + 1, 0, none⟩) (by simp; omega) (.slice (some ⟨g, 0, none⟩) ss.length vc)
 have hDe := (HD5.out.aside ⟨w.heap.size + 1 + 1, 0, none⟩ (.slice (some ⟨g, 0, none⟩) ss.length vc) (show w.heap.size + 1 + 1 < w.heap.size + 3 by omega)).lower (show w.heap.size <= w.heap.size + 3 by omega)
 generalize W5.setCell ⟨w.heap.size + 1 + 1, 0, none⟩ (.slice (some ⟨g, 0, none⟩) ss.length vc) = We at hZe hBe hDe ⊢
 have p0 : We.cell? ⟨w.heap.size + 1 + 1, 0, none⟩ = some (.slice (some ⟨g, 0, none⟩) ss.length vc) := hZe.cell 0 _ rfl
 exact bodyPost_ret (v := .tuple #[.agg #[.slice (some ⟨g, 0, none⟩) ss.length vc], .bool true]) (by simp [results, Tryz.results191, go_sem, p0]) rfl (OutDn.some11 HDo.out ⟨_, _, rfl, HQe.out, hDe, hBe⟩)
end Go.Proofs.YtffkakpbelknaaaGreatDoor
namespace Go.Proofs.YtffkakpbelknaaaGreatDoor
open Go.ChangeShapes Go.WideShapes Go.ChangeAt Go.RowKit
set_option linter.unusedVariables false
theorem l9Done_all (v x : Value) (ss : List Sb) (o : OpD) (w : World) (h : SbAt w w.heap.size v ss) (hx : ItAt w w.heap.size x o.its) (hr : rdB ss = true) (hk : o.k = 8) (hf : fnB (sbKs ss) o.u = true) (P : Nat) (hpl : plK (sbKs ss) o.u = P) (hP : P < ss.length) :
  Calls Tryz.prog 191 #[.agg #[v], opV o x] w (OutDn (doI ss o) w) := by
 have HI := Lib.hid h
 have HX := Lib.hid hx
 have h6 := rd_len hr
 have HSz := Lib.hid h.size
 have HR := Lib.hid hr
 have HCp := Lib.hid (fun w h => l9Copy_any v ss w h (by omega) (fun s hs => by have := sb_len (rd_sub hr s hs); omega))
 have HAt := Lib.hid (fun w h => l9At_any v ss o.u w h)
 rw [atK_there (rd_ris hr) hf, hpl] at HAt
 have hge : decide ((P : Int) < 0) = false := decide_eq_false (by omega)
 have HDo : Hid (doI ss o = some (ss.set P (alS ss[P]))) := Lib.hid (by unfold doI; rw [if_neg (by omega), if_neg (by omega), chV_at (by unfold opU; rw [if_neg (by omega)]; exact hf) (by unfold opU; rw [if_neg (by omega)]; exact hpl) hP]; rw [if_neg (by omega), if_pos hk])
 obtain ⟨a, cap, rfl, hl, hm, hc⟩ := h.raw
 obtain ⟨xa, xc, rfl⟩ := hx.1.slice
 clear hc h hx hr
 have hb0 : Below w.heap.size w (((w.alloc (.cells #[.slice a ss.length cap] 42)).alloc (.cells #[.int .i64 o.k, .string o.u, .string o.i, .int .i64 o.d, .string o.fu, .string o.ft, .slice xa o.its.length xc] 35)).alloc (.cells #[.slice none 0 0] 42)) := (((Below.refl _ _).alloc (Nat.le_refl _) _).alloc (by simp) _).alloc (by simp; omega) _
 have hR0 := ((Box.new w #[.slice a ss.length cap] 42).alloc (.cells #[.int .i64 o.k, .string o.u, .string o.i, .int .i64 o.d, .string o.fu, .string o.ft, .slice xa o.its.length xc] 35)).alloc (.cells #[.slice none 0 0] 42)
 have hO0 : Box (((w.alloc (.cells #[.slice a ss.length cap] 42)).alloc (.cells #[.int .i64 o.k, .string o.u, .string o.i, .int .i64 o.d, .string o.fu, .string o.ft, .slice xa o.its.length xc] 35)).alloc (.cells #[.slice none 0 0] 42)) (w.heap.size + 1) #[.int .i64 o.k, .string o.u, .string o.i, .int .i64 o.d, .string o.fu, .string o.ft, .slice xa o.its.length xc] 35 := by
  have := (Box.new (w.alloc (.cells #[.slice a ss.length cap] 42)) #[.int .i64 o.k, .string o.u, .string o.i, .int .i64 o.d, .string o.fu, .string o.ft, .slice xa o.its.length xc] 35).alloc (.cells #[.slice none 0 0] 42)
  simpa using this
 have hZ0 : Box (((w.alloc (.cells #[.slice a ss.length cap] 42)).alloc (.cells #[.int .i64 o.k, .string o.u, .string o.i, .int .i64 o.d, .string o.fu, .string o.ft, .slice xa o.its.length xc] 35)).alloc (.cells #[.slice none 0 0] 42)) (w.heap.size + 1 + 1) #[.slice none 0 0] 42 := by
  have := Box.new ((w.alloc (.cells #[.slice a ss.length cap] 42)).alloc (.cells #[.int .i64 o.k, .string o.u, .string o.i, .int .i64 o.d, .string o.fu, .string o.ft, .slice xa o.its.length xc] 35)) #[.slice none 0 0] 42
  simpa using this
 have hsz0 : (((w.alloc (.cells #[.slice a ss.length cap] 42)).alloc (.cells #[.int .i64 o.k, .string o.u, .string o.i, .int .i64 o.d, .string o.fu, .string o.ft, .slice xa o.its.length xc] 35)).alloc (.cells #[.slice none 0 0] 42)).heap.size = w.heap.size + 3 := by simp
 have hk11 : (o.k == 1) = false := beq_eq_false_iff_ne.2 (by omega)
 have hk22 : (o.k == 2) = false := beq_eq_false_iff_ne.2 (by omega)
 have hk33 : (o.k == 3) = false := beq_eq_false_iff_ne.2 (by omega)
 have hk99 : (o.k == 9) = false := beq_eq_false_iff_ne.2 (by omega)
 have hk88 : (o.k == 8) = true := beq_iff_eq.2 hk
 clear hk hl hm hf hpl
 unfold OutCp at HCp
 go_enter Tryz.func191, Tryz.ntmps191
 go_wp2_with fail
 generalize ((w.alloc (.cells #[.slice a ss.length cap] 42)).alloc (.cells #[.int .i64 o.k, .string o.u, .string o.i, .int .i64 o.d, .string o.fu, .string o.ft, .slice xa o.its.length xc] 35)).alloc (.cells #[.slice none 0 0] 42) = W0 at hb0 hR0 hO0 hZ0 hsz0 ⊢
 refine (HCp.out _ ((HI.out.below hb0).mono hb0.size)).mono ?_
 rintro e w1 ⟨v1, qs, rfl, hq1, hD1, hb1⟩
 obtain ⟨va, vc, rfl⟩ := hD1.1.slice
 have hs1 : w.heap.size + 3 <= w1.heap.size := by have := hb1.size; omega
 have hB1 := (hb0.trans (hb1.mono hb0.size)).alloc (by omega) (.cells #[.slice va qs.length vc] 42)
 have hZ1 := (hZ0.keep hb1 hZ0.lt).alloc (.cells #[.slice va qs.length vc] 42)
 have hO1 := (hO0.keep hb1 hO0.lt).alloc (.cells #[.slice va qs.length vc] 42)
 have hR1 := (hR0.keep hb1 hR0.lt).alloc (.cells #[.slice va qs.length vc] 42)
 have hX1 := Box.new w1 #[.slice va qs.length vc] 42
 have HD1 : Hid (OwnD (w1.alloc (.cells #[.slice va qs.length vc] 42)) (w.heap.size + 3) (.slice va qs.length vc) qs) := Lib.hid ((hD1.lower (show w.heap.size + 3 <= W0.heap.size by omega)).keep ((Below.refl _ _).alloc (Nat.le_refl _) _) (Nat.le_refl _))
 have HV1 : Hid (Value.ownBlock (.slice va qs.length vc) ≠ Option.some w1.heap.size /\ ∀ q ∈ qs, q.2.ownBlock ≠ Option.some w1.heap.size) := Lib.hid ⟨fun e => by have := (World.ownsRow.lt hD1.1 _ e).2; omega, fun q hq e => by have := (World.ownsRow.lt (hD1.2.1 q hq) _ e).2; omega⟩
 have hql : qs.length = ss.length := by have := congrArg List.length hq1; simpa using this
 have HQ1 := Lib.hid hq1
 rw [hql] at hB1 hZ1 hO1 hR1 hX1 HD1 HV1 ⊢
 clear hb1 hb0 hR0 hO0 hZ0 hsz0 hq1 hD1 HCp
 have f0 : (w1.alloc (.cells #[.slice va ss.length vc] 42)).cell? ⟨w.heap.size + 1, 0, none⟩ = some (.int .i64 o.k) := hO1.cell 0 _ rfl
 have f1 : (w1.alloc (.cells #[.slice va ss.length vc] 42)).cell? ⟨w.heap.size + 1, 1, none⟩ = some (.string o.u) := hO1.cell 1 _ rfl
 have f4 : (w1.alloc (.cells #[.slice va ss.length vc] 42)).cell? ⟨w.heap.size + 1, 4, none⟩ = some (.string o.fu) := hO1.cell 4 _ rfl
 have r0 : (w1.alloc (.cells #[.slice va ss.length vc] 42)).cell? ⟨w.heap.size, 0, none⟩ = some (.slice a ss.length cap) := hR1.cell 0 _ rfl
 go_wp2_with fail
 refine (HAt.out _ ((HI.out.below hB1).mono hB1.size)).mono ?_
 rintro e w2 ⟨rfl, hb2⟩
 have hB2 := hB1.trans (hb2.mono hB1.size)
 have hZ2 := hZ1.keep hb2 hZ1.lt
 have hO2 := hO1.keep hb2 hO1.lt
 have hX2 := hX1.keep hb2 hX1.lt
 have HD2 := Lib.hid (HD1.out.keep hb2 (Nat.le_refl _))
 have hs2 : w1.heap.size < w2.heap.size := hX2.lt
 have g0 : w2.cell? ⟨w.heap.size + 1, 0, none⟩ = some (.int .i64 o.k) := hO2.cell 0 _ rfl
 clear hb2 hB1 hZ1 hO1 hR1 f0 f1 f4 r0 HAt hX1 HD1
 generalize w1.heap.size = D at hX2 HV1 hs1 hs2 ⊢
 clear w1
 have hql : qs.length = ss.length := by have := congrArg List.length HQ1.out; simpa using this
 have hnv := HV1.out.1
 have hnp := HV1.out.2
 obtain ⟨g, rfl, hg1, hg2, hgn⟩ := OwnR.form HD2.out.1 (by omega)
 have hkr : P < qs.length := by omega
 have hPs : qs[P].1 = ss[P] := fst_at HQ1.out P hkr hP
 have hgD : D ≠ g := fun e => hnv (by rw [e]; rfl)
 obtain ⟨ya, yc, hyv⟩ := (HD2.out.2.1 _ (List.getElem_mem hkr)).slice
 have c0 := HD2.out.1.val sbC_len hgn P 0 _ hkr rfl
 have c1 := HD2.out.1.val sbC_len hgn P 1 _ hkr rfl
 have c2 := HD2.out.1.val sbC_len hgn P 2 _ hkr rfl
 have hoy := HD2.out.2.1 _ (List.getElem_mem hkr)
 have hny := hnp _ (List.getElem_mem hkr)
 rw [hyv] at c2 hoy hny
 rw [hPs] at c0 c1 c2 hoy hyv hny
 rw [Nat.add_zero] at c0
 have HSy := Lib.hid (HSz.out _ (List.getElem_mem hP))
 have hel : ss[P].es.length <= 12 := sb_len (rd_sub HR.out _ (List.getElem_mem hP))
 have hre : risB (enKs ss[P].es) = true := sb_ris (rd_sub HR.out _ (List.getElem_mem hP))
 have HDs : Hid (OwnD w2 (w.heap.size + 3) (.slice (some ⟨g, 0, none⟩) ss.length vc) (qs.set P ((⟨ss[P].u, ss[P].t, alH ss[P].es 0⟩ : Sb), Value.slice ya ss[P].es.length yc))) := Lib.hid (by
  have e : qs.set P ((⟨ss[P].u, ss[P].t, alH ss[P].es 0⟩ : Sb), Value.slice ya ss[P].es.length yc) = qs := by
   have e2 : ((⟨ss[P].u, ss[P].t, alH ss[P].es 0⟩ : Sb), Value.slice ya ss[P].es.length yc) = qs[P] := by rw [alH_zero, <- hPs]; exact Prod.ext rfl (by rw [hPs]; exact hyv.symm)
   rw [e2, List.set_getElem_self]
  rw [e]; exact HD2.out)
 have HSub : Hid (∀ y : Value, (qs.set P ((⟨ss[P].u, ss[P].t, rdAll ss[P].es⟩ : Sb), y)).map Prod.fst = ss.set P (alS ss[P])) := Lib.hid (fun y => by rw [List.map_set, HQ1.out]; rfl)
 generalize ss[P].u = U at HDs HSub c0
 generalize ss[P].t = V at HDs HSub c1
 generalize ss[P].es = E at HDs HSub c2 hoy hel hre hyv HSy hny
 clear hre hyv c0 c1 hnp hnv HSy hPs hgn hql hoy
 have x2 : w2.cell? ⟨D, 0, none⟩ = some (.slice (some ⟨g, 0, none⟩) ss.length vc) := hX2.cell 0 _ rfl
 go_wp2_with fail
 clear x2
 go_loopw [12] (fun i wr => ∃ k : Nat, k <= E.length /\ i = .int .i64 (k : Int) /\ Hid (OwnD wr (w.heap.size + 3) (.slice (some ⟨g, 0, none⟩) ss.length vc) (qs.set P ((⟨U, V, alH E k⟩ : Sb), Value.slice ya E.length yc))) /\ Box wr D #[.slice (some ⟨g, 0, none⟩) ss.length vc] 42 /\ Box wr (w.heap.size + 1 + 1) #[.slice none 0 0] 42 /\ wr.cell? ⟨g, P * 3 + 2, none⟩ = some (.slice ya E.length yc) /\ Below w.heap.size w wr /\ w2.heap.size <= wr.heap.size) (fun i _ => E.length - (intOf i).toNat)
 case atStart => exact ⟨0, Nat.zero_le _, rfl, HDs, hX2, hZ2, c2, hB2, Nat.le_refl _⟩
 case round =>
  obtain ⟨k, hk, rfl, HD, hX, hZ, c2, hB, hsw⟩ := hrel
  clear HD2 hX2 hO2 hZ2 hB2 g0 HDs
  have x0 : wr.cell? ⟨D, 0, none⟩ = some (.slice (some ⟨g, 0, none⟩) ss.length vc) := hX.cell 0 _ rfl
  by_cases hlt : k < E.length
  ·have hrow := HD.out.rowAt hkr
   obtain ⟨h, hya, hh1, hh2, hhn⟩ := OwnR.form hrow (show 0 < (alH E k).length by rw [alH_len]; omega)
   subst hya
   have hhD : D ≠ h := fun e => hny (by rw [e]; rfl)
   have hgh : g ≠ h := fun e => by rcases own_apart (by decide) HD.out.1 hrow with h1 | h1; (cases h1); exact h1 (by rw [e]; rfl)
   have fz := hrow.free hhn
   have hk2 : k < (alH E k).length := by rw [alH_len]; exact hlt
   obtain ⟨bb, e3⟩ : ∃ bb, wr.cell? ⟨h, k * 5 + 3, none⟩ = some (.bool bb) := ⟨_, hrow.val enC_len hhn k 3 _ hk2 rfl⟩
   have HD4 := Lib.hid (HD.out.allStep hkr hlt)
   have hX4 := hX.other ⟨h, k * 5 + 3, none⟩ (.bool true) hhD
   have hZ4 := hZ.other ⟨h, k * 5 + 3, none⟩ (.bool true) (show w.heap.size + 1 + 1 ≠ h by omega)
   have hB4 := hB.setCell (p := ⟨h, k * 5 + 3, none⟩) (show w.heap.size <= h by omega) (.bool true)
   have c4 : (wr.setCell ⟨h, k * 5 + 3, none⟩ (.bool true)).cell? ⟨g, P * 3 + 2, none⟩ = some (.slice (some ⟨h, 0, none⟩) E.length yc) := by rw [World.cell?_setCell_other _ _ _ _ (show (⟨h, k * 5 + 3, none⟩ : Addr) ≠ ⟨g, P * 3 + 2, none⟩ from fun e => hgh (congrArg Addr.block e).symm)]; exact c2
   have hs4 : w2.heap.size <= (wr.setCell ⟨h, k * 5 + 3, none⟩ (.bool true)).heap.size := by simpa [World.setCell] using hsw
   clear hrow hhn hk2 hX hZ hB
   go_wp2
   go_roundw
   case rel => exact ⟨k + 1, by omega, by go_num, HD4, hX4, hZ4, c4, hB4, hs4⟩
   case measure => simp [intOf]; omega
  ·have HQe : Hid ((qs.set P ((⟨U, V, alH E k⟩ : Sb), Value.slice ya E.length yc)).map Prod.fst = ss.set P (alS ss[P])) := Lib.hid (by rw [alH_end E k hlt]; exact HSub.out _)
   have z0 : wr.cell? ⟨w.heap.size + 1 + 1, 0, none⟩ = some (.slice none 0 0) := hZ.cell 0 _ rfl
   have zf := hZ.free
   go_wp2
   have hZe := hZ.set 0 (.slice (some ⟨g, 0, none⟩) ss.length vc)
   have hBe := hB.setCell (p := ⟨w.heap.size + 1 + 1, 0, none⟩) (by simp; omega) (.slice (some ⟨g, 0, none⟩) ss.length vc)
   have hDe := (HD.out.aside ⟨w.heap.size + 1 + 1, 0, none⟩ (.slice (some ⟨g, 0, none⟩) ss.length vc) (show w.heap.size + 1 + 1 < w.heap.size + 3 by omega)).lower (show w.heap.size <= w.heap.size + 3 by omega)
   generalize wr.setCell ⟨w.heap.size + 1 + 1, 0, none⟩ (.slice (some ⟨g, 0, none⟩) ss.length vc) = We at hZe hBe hDe ⊢
   have p0 : We.cell? ⟨w.heap.size + 1 + 1, 0, none⟩ = some (.slice (some ⟨g, 0, none⟩) ss.length vc) := hZe.cell 0 _ rfl
   exact bodyPost_ret (v := .tuple #[.agg #[.slice (some ⟨g, 0, none⟩) ss.length vc], .bool true]) (by simp [results, Tryz.results191, go_sem, p0]) rfl (OutDn.some11 HDo.out ⟨_, _, rfl, HQe.out, hDe, hBe⟩)
end Go.Proofs.YtffkakpbelknaaaGreatDoor
namespace Go.Proofs.YtffkakpbelknaaaGreatDoor
open Go.ChangeShapes Go.WideShapes Go.ChangeAt Go.RowKit
set_option linter.unusedVariables false
theorem l9Done_fetch (v x : Value) (ss : List Sb) (o : OpD) (w : World) (h : SbAt w w.heap.size v ss) (hx : ItAt w w.heap.size x o.its) (hr : rdB ss = true) (hk : o.k = 3) (hop : opB o = true) (hf : fnB (sbKs ss) o.fu = true) (P : Nat) (hpl : plK (sbKs ss) o.fu = P) (hP : P < ss.length) :
  Calls Tryz.prog 191 #[.agg #[v], opV o x] w (OutDn (doI ss o) w) := by
 have HI := Lib.hid h
 have HX := Lib.hid hx
 have h6 := rd_len hr
 have HSz := Lib.hid h.size
 have HR := Lib.hid hr
 have HCp := Lib.hid (fun w h => l9Copy_any v ss w h (by omega) (fun s hs => by have := sb_len (rd_sub hr s hs); omega))
 have HAt := Lib.hid (fun w h => l9At_any v ss o.fu w h)
 rw [atK_there (rd_ris hr) hf, hpl] at HAt
 have hge : decide ((P : Int) < 0) = false := decide_eq_false (by omega)
 have HDo : Hid (doI ss o = some (ss.set P (ftS ss[P] o.ft o.its))) := Lib.hid (by unfold doI; rw [if_neg (by omega), if_neg (by omega), chV_at (by unfold opU; rw [if_pos hk]; exact hf) (by unfold opU; rw [if_pos hk]; exact hpl) hP]; rw [if_neg (by omega), if_neg (by omega), if_pos hk])
 obtain ⟨a, cap, rfl, hl, hm, hc⟩ := h.raw
 obtain ⟨xa, xc, rfl⟩ := hx.1.slice
 clear hc h hx hr
 have hb0 : Below w.heap.size w (((w.alloc (.cells #[.slice a ss.length cap] 42)).alloc (.cells #[.int .i64 o.k, .string o.u, .string o.i, .int .i64 o.d, .string o.fu, .string o.ft, .slice xa o.its.length xc] 35)).alloc (.cells #[.slice none 0 0] 42)) := (((Below.refl _ _).alloc (Nat.le_refl _) _).alloc (by simp) _).alloc (by simp; omega) _
 have hR0 := ((Box.new w #[.slice a ss.length cap] 42).alloc (.cells #[.int .i64 o.k, .string o.u, .string o.i, .int .i64 o.d, .string o.fu, .string o.ft, .slice xa o.its.length xc] 35)).alloc (.cells #[.slice none 0 0] 42)
 have hO0 : Box (((w.alloc (.cells #[.slice a ss.length cap] 42)).alloc (.cells #[.int .i64 o.k, .string o.u, .string o.i, .int .i64 o.d, .string o.fu, .string o.ft, .slice xa o.its.length xc] 35)).alloc (.cells #[.slice none 0 0] 42)) (w.heap.size + 1) #[.int .i64 o.k, .string o.u, .string o.i, .int .i64 o.d, .string o.fu, .string o.ft, .slice xa o.its.length xc] 35 := by
  have := (Box.new (w.alloc (.cells #[.slice a ss.length cap] 42)) #[.int .i64 o.k, .string o.u, .string o.i, .int .i64 o.d, .string o.fu, .string o.ft, .slice xa o.its.length xc] 35).alloc (.cells #[.slice none 0 0] 42)
  simpa using this
 have hZ0 : Box (((w.alloc (.cells #[.slice a ss.length cap] 42)).alloc (.cells #[.int .i64 o.k, .string o.u, .string o.i, .int .i64 o.d, .string o.fu, .string o.ft, .slice xa o.its.length xc] 35)).alloc (.cells #[.slice none 0 0] 42)) (w.heap.size + 1 + 1) #[.slice none 0 0] 42 := by
  have := Box.new ((w.alloc (.cells #[.slice a ss.length cap] 42)).alloc (.cells #[.int .i64 o.k, .string o.u, .string o.i, .int .i64 o.d, .string o.fu, .string o.ft, .slice xa o.its.length xc] 35)) #[.slice none 0 0] 42
  simpa using this
 have hsz0 : (((w.alloc (.cells #[.slice a ss.length cap] 42)).alloc (.cells #[.int .i64 o.k, .string o.u, .string o.i, .int .i64 o.d, .string o.fu, .string o.ft, .slice xa o.its.length xc] 35)).alloc (.cells #[.slice none 0 0] 42)).heap.size = w.heap.size + 3 := by simp
 have hk11 : (o.k == 1) = false := beq_eq_false_iff_ne.2 (by omega)
 have hk22 : (o.k == 2) = false := beq_eq_false_iff_ne.2 (by omega)
 have hk99 : (o.k == 9) = false := beq_eq_false_iff_ne.2 (by omega)
 have hk33 : (o.k == 3) = true := beq_iff_eq.2 hk
 have hil := op_its hop hk
 clear hk hl hm hf hpl hop
 unfold OutCp at HCp
 go_enter Tryz.func191, Tryz.ntmps191
 go_wp2_with fail
 generalize ((w.alloc (.cells #[.slice a ss.length cap] 42)).alloc (.cells #[.int .i64 o.k, .string o.u, .string o.i, .int .i64 o.d, .string o.fu, .string o.ft, .slice xa o.its.length xc] 35)).alloc (.cells #[.slice none 0 0] 42) = W0 at hb0 hR0 hO0 hZ0 hsz0 ⊢
 refine (HCp.out _ ((HI.out.below hb0).mono hb0.size)).mono ?_
 rintro e w1 ⟨v1, qs, rfl, hq1, hD1, hb1⟩
 obtain ⟨va, vc, rfl⟩ := hD1.1.slice
 have hs1 : w.heap.size + 3 <= w1.heap.size := by have := hb1.size; omega
 have hB1 := (hb0.trans (hb1.mono hb0.size)).alloc (by omega) (.cells #[.slice va qs.length vc] 42)
 have hZ1 := (hZ0.keep hb1 hZ0.lt).alloc (.cells #[.slice va qs.length vc] 42)
 have hO1 := (hO0.keep hb1 hO0.lt).alloc (.cells #[.slice va qs.length vc] 42)
 have hR1 := (hR0.keep hb1 hR0.lt).alloc (.cells #[.slice va qs.length vc] 42)
 have hX1 := Box.new w1 #[.slice va qs.length vc] 42
 have HD1 : Hid (OwnD (w1.alloc (.cells #[.slice va qs.length vc] 42)) (w.heap.size + 3) (.slice va qs.length vc) qs) := Lib.hid ((hD1.lower (show w.heap.size + 3 <= W0.heap.size by omega)).keep ((Below.refl _ _).alloc (Nat.le_refl _) _) (Nat.le_refl _))
 have HV1 : Hid (Value.ownBlock (.slice va qs.length vc) ≠ Option.some w1.heap.size /\ ∀ q ∈ qs, q.2.ownBlock ≠ Option.some w1.heap.size) := Lib.hid ⟨fun e => by have := (World.ownsRow.lt hD1.1 _ e).2; omega, fun q hq e => by have := (World.ownsRow.lt (hD1.2.1 q hq) _ e).2; omega⟩
 have hql : qs.length = ss.length := by have := congrArg List.length hq1; simpa using this
 have HQ1 := Lib.hid hq1
 rw [hql] at hB1 hZ1 hO1 hR1 hX1 HD1 HV1 ⊢
 clear hb1 hb0 hR0 hO0 hZ0 hsz0 hq1 hD1 HCp
 have f0 : (w1.alloc (.cells #[.slice va ss.length vc] 42)).cell? ⟨w.heap.size + 1, 0, none⟩ = some (.int .i64 o.k) := hO1.cell 0 _ rfl
 have f1 : (w1.alloc (.cells #[.slice va ss.length vc] 42)).cell? ⟨w.heap.size + 1, 1, none⟩ = some (.string o.u) := hO1.cell 1 _ rfl
 have f4 : (w1.alloc (.cells #[.slice va ss.length vc] 42)).cell? ⟨w.heap.size + 1, 4, none⟩ = some (.string o.fu) := hO1.cell 4 _ rfl
 have r0 : (w1.alloc (.cells #[.slice va ss.length vc] 42)).cell? ⟨w.heap.size, 0, none⟩ = some (.slice a ss.length cap) := hR1.cell 0 _ rfl
 go_wp2_with fail
 refine (HAt.out _ ((HI.out.below hB1).mono hB1.size)).mono ?_
 rintro e w2 ⟨rfl, hb2⟩
 have hB2 := hB1.trans (hb2.mono hB1.size)
 have hZ2 := hZ1.keep hb2 hZ1.lt
 have hO2 := hO1.keep hb2 hO1.lt
 have hX2 := hX1.keep hb2 hX1.lt
 have HD2 := Lib.hid (HD1.out.keep hb2 (Nat.le_refl _))
 have hs2 : w1.heap.size < w2.heap.size := hX2.lt
 have g0 : w2.cell? ⟨w.heap.size + 1, 0, none⟩ = some (.int .i64 o.k) := hO2.cell 0 _ rfl
 clear hb2 hB1 hZ1 hO1 hR1 f0 f1 f4 r0 HAt hX1 HD1
 generalize w1.heap.size = D at hX2 HV1 hs1 hs2 ⊢
 clear w1
 have hql : qs.length = ss.length := by have := congrArg List.length HQ1.out; simpa using this
 have hnv := HV1.out.1
 have hnp := HV1.out.2
 obtain ⟨g, rfl, hg1, hg2, hgn⟩ := OwnR.form HD2.out.1 (by omega)
 have hkr : P < qs.length := by omega
 have hPs : qs[P].1 = ss[P] := fst_at HQ1.out P hkr hP
 have hgD : D ≠ g := fun e => hnv (by rw [e]; rfl)
 obtain ⟨ya, yc, hyv⟩ := (HD2.out.2.1 _ (List.getElem_mem hkr)).slice
 have c0 := HD2.out.1.val sbC_len hgn P 0 _ hkr rfl
 have c1 := HD2.out.1.val sbC_len hgn P 1 _ hkr rfl
 have c2 := HD2.out.1.val sbC_len hgn P 2 _ hkr rfl
 have hoy := HD2.out.2.1 _ (List.getElem_mem hkr)
 have hny := hnp _ (List.getElem_mem hkr)
 rw [hyv] at c2 hoy hny
 rw [hPs] at c0 c1 c2 hoy hyv hny
 rw [Nat.add_zero] at c0
 have HSy := Lib.hid (HSz.out _ (List.getElem_mem hP))
 have hel : ss[P].es.length <= 12 := sb_len (rd_sub HR.out _ (List.getElem_mem hP))
 have hre : risB (enKs ss[P].es) = true := sb_ris (rd_sub HR.out _ (List.getElem_mem hP))
 have HY : Hid (EnAt w2.drew w2.drew.heap.size (.slice ya ss[P].es.length yc) ss[P].es) := Lib.hid ⟨hoy.at enC_len, HSy.out.2⟩
 have HI2 : Hid (ItAt w2.drew w2.drew.heap.size (.slice xa o.its.length xc) o.its) := Lib.hid ((HX.out.below hB2.drew).mono hB2.size)
 have HFt := Lib.hid (fun w (h : EnAt w w.heap.size (.slice ya ss[P].es.length yc) ss[P].es) hv => l9Fetch_any ss[P] (.slice ya ss[P].es.length yc) o.fu o.ft (.slice xa o.its.length xc) o.its w h hv hre (by omega) (by omega))
 have HS : Hid (∀ w3 y, Below w2.drew.heap.size w2.drew w3 -> FyAt w3 w2.drew.heap.size (.slice ya ss[P].es.length yc) y ss[P].es (ftV ss[P].es o.its) -> (∃ a c, y = .slice a (ftV ss[P].es o.its).length c) /\ OwnD (putRow g (P * 3) [.string ss[P].u, .string o.ft, y] w3) (w.heap.size + 3) (.slice (some ⟨g, 0, none⟩) ss.length vc) (qs.set P (ftS ss[P] o.ft o.its, y)) /\ w3.grownBy (putRow g (P * 3) [.string ss[P].u, .string o.ft, y] w3) (some g)) := Lib.hid (fun w3 y hb3 hy => by
  have hyb : (y = qs[P].2 /\ (ftS ss[P] o.ft o.its).es = qs[P].1.es) \/ OwnR 97 5 enC w3 w2.drew.heap.size y (ftS ss[P] o.ft o.its).es := by
   rcases hy with ⟨h1, h2⟩ | h1
   ·exact .inl ⟨h1.trans (by rw [hyv]), h2.trans (by rw [hPs])⟩
   ·exact .inr h1
  have hg3 : w3.grownBy (putRow g (P * 3) [.string ss[P].u, .string o.ft, y] w3) (some g) := gb_set1 g _ _ (gb_set1 g _ _ (gb_set1 g _ _ (World.grownBy.refl _ _)))
  refine ⟨?_, ?_, hg3⟩
  ·rcases hy with ⟨h1, h2⟩ | h1
   ·rw [h2]; exact ⟨_, _, h1⟩
   ·exact h1.slice
  ·refine HD2.out.drew.putSub P hkr (ftS ss[P] o.ft o.its) (show w.heap.size + 3 <= w2.heap.size by omega) hb3 hyb hg3 ?_
   exact (HD2.out.drew.1.keep hb3 (Nat.le_refl _)).put sbC_len hgn P (ftS ss[P] o.ft o.its, y) hkr)
 have HSub : Hid (∀ y : Value, (qs.set P (ftS ss[P] o.ft o.its, y)).map Prod.fst = ss.set P (ftS ss[P] o.ft o.its)) := Lib.hid (fun y => by rw [List.map_set, HQ1.out])
 have fzg := (HD2.out.1).free hgn
 have HFz : Hid (∀ w3, Below w2.drew.heap.size w2.drew w3 -> ∀ j, w3.frozen? ⟨g, j, none⟩ = false) := Lib.hid (fun w3 hb3 j => (HD2.out.drew.1.keep hb3 (Nat.le_refl _)).free hgn j)
 obtain ⟨S, hSe⟩ : ∃ S, S = ss[P] := ⟨_, rfl⟩
 rw [<- hSe] at c0 c1 c2 hoy HY HFt HS HSub hel
 obtain ⟨RR, hRR⟩ : ∃ RR, RR = ftS S o.ft o.its := ⟨_, rfl⟩
 have HRR : Hid (RR = ftS ss[P] o.ft o.its) := Lib.hid (by rw [hRR, hSe])
 rw [<- hRR] at HS HSub
 obtain ⟨FV, hFV⟩ : ∃ FV, FV = ftV S.es o.its := ⟨_, rfl⟩
 rw [<- hFV] at HS HFt
 clear hre hel hyv hnp hnv hny HSy hPs hgn hql hoy hSe hRR hFV fzg hil
 simp only [putRow, Nat.add_assoc, Nat.reduceAdd] at HS
 have hQ0 : (Box w2.drew D #[.slice (some ⟨g, 0, none⟩) ss.length vc] 42 /\ Box w2.drew (w.heap.size + 1) #[.int .i64 o.k, .string o.u, .string o.i, .int .i64 o.d, .string o.fu, .string o.ft, .slice xa o.its.length xc] 35) := ⟨hX2.drew, hO2.drew⟩
 go_wp2
 refine wp_region_T (fun w' => Box w' D #[.slice (some ⟨g, 0, none⟩) ss.length vc] 42 /\ Box w' (w.heap.size + 1) #[.int .i64 o.k, .string o.u, .string o.i, .int .i64 o.d, .string o.fu, .string o.ft, .slice xa o.its.length xc] 35) (fun w' => w'.cell? ⟨g, P * 3, none⟩ = some (.string S.u) /\ w'.cell? ⟨g, P * 3 + 1, none⟩ = some (.string S.t) /\ w'.cell? ⟨g, P * 3 + 2, none⟩ = some (.slice ya S.es.length yc)) 12 (by kernel_rfl) 13 rfl ?_
 refine wA 4 [0, 1, 2, 3, 4, 5, 6, 8, 9] ⟨hQ0, fun _ => ⟨c0, c1, c2⟩⟩ ?_
 simp only [pick, List.filterMap_cons, List.filterMap_nil, List.getElem?_cons_zero, List.getElem?_cons_succ]
 refine wS (.pointer (some ⟨D, 0, none⟩)) (fun w hw => by go_simp) ?_
 refine wS (.slice (some ⟨g, 0, none⟩) ss.length vc) (fun w hw => by have e0 := hw.1.cell 0 _ rfl; go_simp) ?_
 refine wS (.int .i64 (P : Int)) (fun w hw => by go_simp) ?_
 refine wS (.pointer (some ⟨D, 0, none⟩)) (fun w hw => by go_simp) ?_
 refine wS (.slice (some ⟨g, 0, none⟩) ss.length vc) (fun w hw => by have e0 := hw.1.cell 0 _ rfl; go_simp) ?_
 refine wS (.int .i64 (P : Int)) (fun w hw => by go_simp) ?_
 refine wS (.pointer (some ⟨g, P * 3, none⟩)) (fun w hw => by go_simp) ?_
 refine wS (.pointer (some ⟨w.heap.size + 1, 4, none⟩)) (fun w hw => by go_simp) ?_
 refine wS (.agg #[.string o.fu, .string o.ft, .slice xa o.its.length xc]) (fun w hw => by have e4 := hw.2.cell 4 _ rfl; have e5 := hw.2.cell 5 _ rfl; have e6 := hw.2.cell 6 _ rfl; go_simp) ?_
 refine wpIf_nil (fun hS0 => ?_)
 refine wpAnyT_takesB (md := .any) 3 (by kernel_rfl) (by intro d v c a w h; cases d <;> exact h) [7] _ _ _ (by decide) (by kernel_rfl) (by kernel_rfl) (by kernel_rfl) hS0 ?_
 simp only [pick, List.filterMap_cons, List.filterMap_nil, List.getElem?_cons_zero, List.getElem?_cons_succ]
 refine wS (sbV S.u S.t (.slice ya S.es.length yc)) (fun w hw => by have e0 := hw.2.1; have e1 := hw.2.2.1; have e2 := hw.2.2.2; go_simp) ?_
 refine wpIf_nil (fun hS0 => ?_)
 clear hS0
 refine wO 10 2 (fun K hK => ?_)
 go_simp
 refine (HFt.out w2.drew HY.out HI2.out).mono ?_
 rintro e w3 ⟨y3, rfl, hy3, hb3⟩
 obtain ⟨⟨y3a, y3c, hyv⟩, hD4, hg4⟩ := HS.out w3 y3 hb3 hy3
 subst hyv
 have hX3 := hX2.drew.keep hb3 hX2.lt
 have hO3 := hO2.drew.keep hb3 hO2.lt
 have hZ3 := hZ2.drew.keep hb3 hZ2.lt
 have hB3 := hB2.drew.trans (hb3.mono hB2.size)
 have kc : ∀ o x, w2.cell? ⟨g, o, none⟩ = some x -> w3.cell? ⟨g, o, none⟩ = some x := fun o x h => by rw [hb3.cell (p := ⟨g, o, none⟩) hg2]; exact h
 have d0 := kc _ _ c0
 have d1 := kc _ _ c1
 have d2 := kc _ _ c2
 have fz := HFz.out w3 hb3
 refine hK _ _ ⟨⟨hX3, hO3⟩, fun _ => ⟨d0, d1, d2⟩⟩ (fun hS0 => ?_)
 clear hK K hS0 hb3 kc hy3
 refine wA 1 [11] ⟨⟨hX3, hO3⟩, fun _ => ⟨d0, d1, d2⟩⟩ ?_
 simp only [pick, List.filterMap_cons, List.filterMap_nil, List.getElem?_cons_zero, List.getElem?_cons_succ]
 refine wS (.pointer (some ⟨g, P * 3, none⟩)) (fun w hw => by go_simp) ?_
 refine wpIf_nil (fun hS0 => ?_)
 clear hS0
 have hbh : ∀ {q : Nat} {cs : Array Value} {t : TypeId}, Box w3 q cs t -> q ≠ g -> Box (((w3.setCell ⟨g, P * 3, none⟩ (.string S.u)).setCell ⟨g, P * 3 + 1, none⟩ (.string o.ft)).setCell ⟨g, P * 3 + 2, none⟩ (.slice y3a FV.length y3c)) q cs t := fun hx hq => (hg4.block _ hx.lt (fun e => hq (Option.some.inj e))).trans hx
 have hX4 := hbh hX3 hgD
 have hO4 := hbh hO3 (by omega)
 have hZ4 := hbh hZ3 (by omega)
 have hB4 := hB3.trans ((gb_Below hg4 (by have := hX3.lt; omega) (fun b hb => by cases hb; exact hg1) : Below (w.heap.size + 3) w3 (((w3.setCell ⟨g, P * 3, none⟩ (.string S.u)).setCell ⟨g, P * 3 + 1, none⟩ (.string o.ft)).setCell ⟨g, P * 3 + 2, none⟩ (.slice y3a FV.length y3c))).mono (by omega))
 refine wO 12 0 (fun K hK => ?_)
 go_simp
 refine hK _ _ ⟨⟨hX4, hO4⟩, fun h => by exact absurd h (by decide)⟩ (fun hS0 => ?_)
 clear hK K hS0 hQ0
 refine wpAnyT_over (by kernel_rfl) ?_
 have HD5 := Lib.hid hD4
 generalize ((w3.setCell ⟨g, P * 3, none⟩ (.string S.u)).setCell ⟨g, P * 3 + 1, none⟩ (.string o.ft)).setCell ⟨g, P * 3 + 2, none⟩ (.slice y3a FV.length y3c) = W5 at hX4 hO4 hZ4 hB4 HD5 ⊢
 clear hX3 hO3 hZ3 hB3 hX2 hO2 hZ2 hB2 c0 c1 c2 d0 d1 d2 fz HFt HS HFz hD4 hg4 hbh g0 HD2 HY HI2
 have HQe : Hid ((qs.set P (RR, Value.slice y3a FV.length y3c)).map Prod.fst = ss.set P (ftS ss[P] o.ft o.its)) := Lib.hid (by rw [<- HRR.out]; exact HSub.out _)
 have x0 : W5.cell? ⟨D, 0, none⟩ = some (.slice (some ⟨g, 0, none⟩) ss.length vc) := hX4.cell 0 _ rfl
 have z0 : W5.cell? ⟨w.heap.size + 1 + 1, 0, none⟩ = some (.slice none 0 0) := hZ4.cell 0 _ rfl
 have zf := hZ4.free
 go_wp2
 have hZe := hZ4.set 0 (.slice (some ⟨g, 0, none⟩) ss.length vc)
 have hBe := hB4.setCell (p := ⟨w.heap.size + 1 + 1, 0, none⟩) (by simp; omega) (.slice (some ⟨g, 0, none⟩) ss.length vc)
 have hDe := (HD5.out.aside ⟨w.heap.size + 1 + 1, 0, none⟩ (.slice (some ⟨g, 0, none⟩) ss.length vc) (show w.heap.size + 1 + 1 < w.heap.size + 3 by omega)).lower (show w.heap.size <= w.heap.size + 3 by omega)
 generalize W5.setCell ⟨w.heap.size + 1 + 1, 0, none⟩ (.slice (some ⟨g, 0, none⟩) ss.length vc) = We at hZe hBe hDe ⊢
 have p0 : We.cell? ⟨w.heap.size + 1 + 1, 0, none⟩ = some (.slice (some ⟨g, 0, none⟩) ss.length vc) := hZe.cell 0 _ rfl
 exact bodyPost_ret (v := .tuple #[.agg #[.slice (some ⟨g, 0, none⟩) ss.length vc], .bool true]) (by simp [results, Tryz.results191, go_sem, p0]) rfl (OutDn.some11 HDo.out ⟨_, _, rfl, HQe.out, hDe, hBe⟩)
end Go.Proofs.YtffkakpbelknaaaGreatDoor
namespace Go.Proofs.YtffkakpbelknaaaGreatDoor
open Go.ChangeShapes Go.WideShapes Go.ChangeAt Go.RowKit
set_option linter.unusedVariables false
theorem l9Done_drop (v x : Value) (ss : List Sb) (o : OpD) (w : World) (h : SbAt w w.heap.size v ss) (hx : ItAt w w.heap.size x o.its) (hr : rdB ss = true) (hk : o.k = 2) (hf : fnB (sbKs ss) o.u = true) (P : Nat) (hpl : plK (sbKs ss) o.u = P) (hP : P < ss.length) :
  Calls Tryz.prog 191 #[.agg #[v], opV o x] w (OutDn (doI ss o) w) := by
 have HI := Lib.hid h
 have HX := Lib.hid hx
 have h6 := rd_len hr
 have HSz := Lib.hid h.size
 have HR := Lib.hid hr
 have HCp := Lib.hid (fun w h => l9Copy_any v ss w h (by omega) (fun s hs => by have := sb_len (rd_sub hr s hs); omega))
 have HAt := Lib.hid (fun w h => l9At_any v ss o.u w h)
 rw [atK_there (rd_ris hr) hf, hpl] at HAt
 have hge : decide ((P : Int) < 0) = false := decide_eq_false (by omega)
 have HDo : Hid (doI ss o = some (ss.take P ++ ss.drop (P + 1))) := Lib.hid (by unfold doI; rw [if_neg (by omega), if_neg (by omega), chV_at (by unfold opU; rw [if_neg (by omega)]; exact hf) (by unfold opU; rw [if_neg (by omega)]; exact hpl) hP]; rw [if_pos hk])
 obtain ⟨a, cap, rfl, hl, hm, hc⟩ := h.raw
 obtain ⟨xa, xc, rfl⟩ := hx.1.slice
 clear hc h hx hr
 have hb0 : Below w.heap.size w (((w.alloc (.cells #[.slice a ss.length cap] 42)).alloc (.cells #[.int .i64 o.k, .string o.u, .string o.i, .int .i64 o.d, .string o.fu, .string o.ft, .slice xa o.its.length xc] 35)).alloc (.cells #[.slice none 0 0] 42)) := (((Below.refl _ _).alloc (Nat.le_refl _) _).alloc (by simp) _).alloc (by simp; omega) _
 have hR0 := ((Box.new w #[.slice a ss.length cap] 42).alloc (.cells #[.int .i64 o.k, .string o.u, .string o.i, .int .i64 o.d, .string o.fu, .string o.ft, .slice xa o.its.length xc] 35)).alloc (.cells #[.slice none 0 0] 42)
 have hO0 : Box (((w.alloc (.cells #[.slice a ss.length cap] 42)).alloc (.cells #[.int .i64 o.k, .string o.u, .string o.i, .int .i64 o.d, .string o.fu, .string o.ft, .slice xa o.its.length xc] 35)).alloc (.cells #[.slice none 0 0] 42)) (w.heap.size + 1) #[.int .i64 o.k, .string o.u, .string o.i, .int .i64 o.d, .string o.fu, .string o.ft, .slice xa o.its.length xc] 35 := by
  have := (Box.new (w.alloc (.cells #[.slice a ss.length cap] 42)) #[.int .i64 o.k, .string o.u, .string o.i, .int .i64 o.d, .string o.fu, .string o.ft, .slice xa o.its.length xc] 35).alloc (.cells #[.slice none 0 0] 42)
  simpa using this
 have hZ0 : Box (((w.alloc (.cells #[.slice a ss.length cap] 42)).alloc (.cells #[.int .i64 o.k, .string o.u, .string o.i, .int .i64 o.d, .string o.fu, .string o.ft, .slice xa o.its.length xc] 35)).alloc (.cells #[.slice none 0 0] 42)) (w.heap.size + 1 + 1) #[.slice none 0 0] 42 := by
  have := Box.new ((w.alloc (.cells #[.slice a ss.length cap] 42)).alloc (.cells #[.int .i64 o.k, .string o.u, .string o.i, .int .i64 o.d, .string o.fu, .string o.ft, .slice xa o.its.length xc] 35)) #[.slice none 0 0] 42
  simpa using this
 have hsz0 : (((w.alloc (.cells #[.slice a ss.length cap] 42)).alloc (.cells #[.int .i64 o.k, .string o.u, .string o.i, .int .i64 o.d, .string o.fu, .string o.ft, .slice xa o.its.length xc] 35)).alloc (.cells #[.slice none 0 0] 42)).heap.size = w.heap.size + 3 := by simp
 have hk11 : (o.k == 1) = false := beq_eq_false_iff_ne.2 (by omega)
 have hk33 : (o.k == 3) = false := beq_eq_false_iff_ne.2 (by omega)
 have hk99 : (o.k == 9) = false := beq_eq_false_iff_ne.2 (by omega)
 have hk22 : (o.k == 2) = true := beq_iff_eq.2 hk
 clear hk hl hm hf hpl
 unfold OutCp at HCp
 go_enter Tryz.func191, Tryz.ntmps191
 go_wp2_with fail
 generalize ((w.alloc (.cells #[.slice a ss.length cap] 42)).alloc (.cells #[.int .i64 o.k, .string o.u, .string o.i, .int .i64 o.d, .string o.fu, .string o.ft, .slice xa o.its.length xc] 35)).alloc (.cells #[.slice none 0 0] 42) = W0 at hb0 hR0 hO0 hZ0 hsz0 ⊢
 refine (HCp.out _ ((HI.out.below hb0).mono hb0.size)).mono ?_
 rintro e w1 ⟨v1, qs, rfl, hq1, hD1, hb1⟩
 obtain ⟨va, vc, rfl⟩ := hD1.1.slice
 have hs1 : w.heap.size + 3 <= w1.heap.size := by have := hb1.size; omega
 have hB1 := (hb0.trans (hb1.mono hb0.size)).alloc (by omega) (.cells #[.slice va qs.length vc] 42)
 have hZ1 := (hZ0.keep hb1 hZ0.lt).alloc (.cells #[.slice va qs.length vc] 42)
 have hO1 := (hO0.keep hb1 hO0.lt).alloc (.cells #[.slice va qs.length vc] 42)
 have hR1 := (hR0.keep hb1 hR0.lt).alloc (.cells #[.slice va qs.length vc] 42)
 have hX1 := Box.new w1 #[.slice va qs.length vc] 42
 have HD1 : Hid (OwnD (w1.alloc (.cells #[.slice va qs.length vc] 42)) (w.heap.size + 3) (.slice va qs.length vc) qs) := Lib.hid ((hD1.lower (show w.heap.size + 3 <= W0.heap.size by omega)).keep ((Below.refl _ _).alloc (Nat.le_refl _) _) (Nat.le_refl _))
 have HV1 : Hid (Value.ownBlock (.slice va qs.length vc) ≠ Option.some w1.heap.size /\ ∀ q ∈ qs, q.2.ownBlock ≠ Option.some w1.heap.size) := Lib.hid ⟨fun e => by have := (World.ownsRow.lt hD1.1 _ e).2; omega, fun q hq e => by have := (World.ownsRow.lt (hD1.2.1 q hq) _ e).2; omega⟩
 have hql : qs.length = ss.length := by have := congrArg List.length hq1; simpa using this
 have HQ1 := Lib.hid hq1
 rw [hql] at hB1 hZ1 hO1 hR1 hX1 HD1 HV1 ⊢
 clear hb1 hb0 hR0 hO0 hZ0 hsz0 hq1 hD1 HCp
 have f0 : (w1.alloc (.cells #[.slice va ss.length vc] 42)).cell? ⟨w.heap.size + 1, 0, none⟩ = some (.int .i64 o.k) := hO1.cell 0 _ rfl
 have f1 : (w1.alloc (.cells #[.slice va ss.length vc] 42)).cell? ⟨w.heap.size + 1, 1, none⟩ = some (.string o.u) := hO1.cell 1 _ rfl
 have f4 : (w1.alloc (.cells #[.slice va ss.length vc] 42)).cell? ⟨w.heap.size + 1, 4, none⟩ = some (.string o.fu) := hO1.cell 4 _ rfl
 have r0 : (w1.alloc (.cells #[.slice va ss.length vc] 42)).cell? ⟨w.heap.size, 0, none⟩ = some (.slice a ss.length cap) := hR1.cell 0 _ rfl
 go_wp2_with fail
 refine (HAt.out _ ((HI.out.below hB1).mono hB1.size)).mono ?_
 rintro e w2 ⟨rfl, hb2⟩
 have hB2 := hB1.trans (hb2.mono hB1.size)
 have hZ2 := hZ1.keep hb2 hZ1.lt
 have hO2 := hO1.keep hb2 hO1.lt
 have hX2 := hX1.keep hb2 hX1.lt
 have HD2 := Lib.hid (HD1.out.keep hb2 (Nat.le_refl _))
 have hs2 : w1.heap.size < w2.heap.size := hX2.lt
 have g0 : w2.cell? ⟨w.heap.size + 1, 0, none⟩ = some (.int .i64 o.k) := hO2.cell 0 _ rfl
 clear hb2 hB1 hZ1 hO1 hR1 f0 f1 f4 r0 HAt hX1 HD1
 generalize w1.heap.size = D at hX2 HV1 hs1 hs2 ⊢
 clear w1
 have hql : qs.length = ss.length := by have := congrArg List.length HQ1.out; simpa using this
 have hnv := HV1.out.1
 obtain ⟨g, rfl, hg1, hg2, hgn⟩ := OwnR.form HD2.out.1 (by omega)
 have hkr : P < qs.length := by omega
 have hgD : D ≠ g := fun e => hnv (by rw [e]; rfl)
 have hcl : ss.length <= vc := by have := HD2.out.1.capLe; omega
 have HRc : Hid (RecAt 3 sbC w2 w2.heap.size (.slice (some ⟨g, 0, none⟩) ss.length vc) qs) := Lib.hid (HD2.out.1.at sbC_len)
 have HOn := Lib.hid HD2.out.one
 have HQe : Hid ((qs.take P ++ qs.drop (P + 1)).map Prod.fst = ss.take P ++ ss.drop (P + 1)) := Lib.hid (by rw [List.map_append, List.map_take, List.map_drop, HQ1.out])
 have htl : (qs.take P).length = P := by rw [List.length_take]; omega
 have hdl : (qs.drop (P + 1)).length = ss.length - (P + 1) := by rw [List.length_drop]; omega
 have HSb : Hid (List.Sublist (qs.take P ++ qs.drop (P + 1)) qs) := Lib.hid (by rw [<- List.eraseIdx_eq_take_drop_succ]; exact List.eraseIdx_sublist _ _)
 have hq6 : qs.length <= 6 := by omega
 clear hgn hnv hql
 by_cases hcp : vc = P + 1
 ·have HCp := Lib.hid hcp
  clear hcp
  have hQ0 : Box w2.drew D #[.slice (some ⟨g, 0, none⟩) ss.length vc] 42 := hX2.drew
  go_wp2
  refine wp_region_T (fun w' => Box w' D #[.slice (some ⟨g, 0, none⟩) ss.length vc] 42) (fun _ => True) 13 (by kernel_rfl) 15 rfl ?_
  refine wA 7 [1, 2, 3, 4, 6, 7, 8, 9] ⟨hQ0, fun _ => trivial⟩ ?_
  simp only [pick, List.filterMap_cons, List.filterMap_nil, List.getElem?_cons_zero, List.getElem?_cons_succ]
  refine wS (.pointer (some ⟨D, 0, none⟩)) (fun w hw => by go_simp) ?_
  refine wS (.slice (some ⟨g, 0, none⟩) ss.length vc) (fun w hw => by have e0 := hw.cell 0 _ rfl; go_simp) ?_
  refine wS (.int .i64 (P : Int)) (fun w hw => by go_simp) ?_
  refine wS (.slice (some ⟨g, 0, none⟩) P vc) (fun w hw => by go_simp; intro h; omega) ?_
  refine wS (.pointer (some ⟨D, 0, none⟩)) (fun w hw => by go_simp) ?_
  refine wS (.slice (some ⟨g, 0, none⟩) ss.length vc) (fun w hw => by have e0 := hw.cell 0 _ rfl; go_simp) ?_
  refine wS (.int .i64 (P : Int)) (fun w hw => by go_simp) ?_
  refine wS (.int .i64 ((P : Int) + 1)) (fun w hw => by go_simp; rw [IntKind.wrap_i64]; omega) ?_
  refine wpIf_nil (fun hS0 => ?_)
  clear hS0
  refine wA 6 [10] ⟨hQ0, fun _ => trivial⟩ ?_
  simp only [pick, List.filterMap_cons, List.filterMap_nil, List.getElem?_cons_zero, List.getElem?_cons_succ]
  refine wS (.slice (some ⟨g, 0, none⟩) (ss.length - (P + 1)) (vc - (P + 1))) (fun w hw => by go_simp; rw [if_pos (show (0 : Int) <= (P : Int) + 1 /\ (P : Int) + 1 <= (ss.length : Int) by omega), if_pos (show vc = P + 1 from HCp.out)]) ?_
  refine wpIf_nil (fun hS0 => ?_)
  clear hS0
  have hXd := hX2.drew
  have hZd := hZ2.drew
  have hBd := hB2.drew
  have hs2d : w.heap.size + 3 <= w2.drew.heap.size := by show w.heap.size + 3 <= w2.heap.size; omega
  have HRd : Hid (RecAt 3 sbC w2.drew w2.drew.heap.size (.slice (some ⟨g, 0, none⟩) ss.length vc) qs) := HRc
  have HDd := Lib.hid HD2.out.drew
  clear hX2 hZ2 hB2 HRc HD2 hO2 g0 hQ0
  generalize w2.drew = W at hXd hZd hBd HRd HDd hs2d ⊢
  refine wO 0 5 (fun K hK => ?_)
  go_simp
  refine hK _ _ ⟨hXd.alloc _, fun _ => trivial⟩ (fun hS0 => ?_)
  clear hK K hS0
  have HL0 := Lib.hid (OwnR.lit (k := 3) (C := sbC) 94 W W.heap.size (Nat.le_refl _))
  have HT0 : Hid (RecAt 3 sbC (W.alloc (.cells #[] 94)) W.heap.size (.slice (some ⟨g, 0, none⟩) P vc) (qs.take P)) := Lib.hid ((HRd.out.take P (by omega)).below ((Below.refl _ _).alloc (Nat.le_refl _) _))
  obtain ⟨v3, w3, hrun3, hown3, hg3⟩ := appR_run (P := Tryz.prog) (t := 40) sbC_len (by decide) Tryz.underlying40 Tryz.infoSub rfl (by decide) HL0.out HT0.out (fun y hy => sbC_one y (HOn.out y (List.mem_of_mem_take hy))) (by simp; omega) (by simp) 40
  rw [List.nil_append] at hown3
  have hb3 : Below W.heap.size W w3 := ((Below.refl _ _).alloc (Nat.le_refl _) _).trans (gb_Below hg3 (by simp) (by intro b hb; cases hb; exact Nat.le_refl _))
  obtain ⟨v3a, v3c, rfl⟩ := hown3.slice
  rw [htl] at hown3 hrun3
  refine wO 5 4 (fun K hK => ?_)
  refine wp_appQ 40 (.tmp 106) (.tmp 110) rfl _ _ (.slice v3a P v3c) rfl rfl hrun3 ?_
  have hX3 := hXd.keep hb3 hXd.lt
  have hZ3 := hZd.keep hb3 hZd.lt
  have hB3 := hBd.trans (hb3.mono (by omega))
  have hs3 : W.heap.size <= w3.heap.size := hb3.size
  have HR3 : Hid (RecAt 3 sbC w3 W.heap.size (.slice (some ⟨g, 0, none⟩) (ss.length - (P + 1)) (vc - (P + 1))) (qs.drop (P + 1))) := Lib.hid (by exact (HRd.out.below hb3).drop (P + 1) (by omega) (fun h b2 off2 hab => absurd h (by have := HCp.out; omega)))
  go_simp
  refine hK _ _ ⟨hX3, fun _ => trivial⟩ (fun hS0 => ?_)
  clear hK K hS0
  obtain ⟨v4, w4, hrun4, hown4, hg4⟩ := appR_run (P := Tryz.prog) (t := 40) sbC_len (by decide) Tryz.underlying40 Tryz.infoSub rfl (by decide) hown3 HR3.out (fun y hy => sbC_one y (HOn.out y (List.mem_of_mem_drop hy))) (by omega) hs3 40
  have hb4 : Below W.heap.size w3 w4 := gb_Below hg4 hs3 (ownBlock_base hown3)
  have HD4 := Lib.hid (HDd.out.outer hs2d (hb3.trans hb4) hown4 HSb.out)
  obtain ⟨v4a, v4c, hv4⟩ := hown4.slice
  obtain ⟨n4, hn4⟩ : ∃ n, (qs.take P ++ qs.drop (P + 1)).length = n := ⟨_, rfl⟩
  rw [hn4] at hv4
  subst hv4
  clear hn4
  refine wO 11 3 (fun K hK => ?_)
  refine wp_appQ 40 (.tmp 111) (.tmp 116) rfl _ _ (.slice v4a n4 v4c) rfl rfl hrun4 ?_
  have hX4 := hX3.keep hb4 hXd.lt
  have hZ4 := hZ3.keep hb4 hZd.lt
  have hB4 := hB3.trans (hb4.mono (by omega))
  go_simp
  refine hK _ _ ⟨hX4, fun _ => trivial⟩ (fun hS0 => ?_)
  clear hK K hS0
  refine wA 2 [12] ⟨hX4, fun _ => trivial⟩ ?_
  simp only [pick, List.filterMap_cons, List.filterMap_nil, List.getElem?_cons_zero, List.getElem?_cons_succ]
  refine wS (.agg #[.slice v4a n4 v4c]) (fun w hw => by go_simp) ?_
  refine wpIf_nil (fun hS0 => ?_)
  clear hS0
  have z0 : w4.cell? ⟨w.heap.size + 1 + 1, 0, none⟩ = some (.slice none 0 0) := hZ4.cell 0 _ rfl
  have zf := hZ4.free
  have hX5 := hX4.other ⟨w.heap.size + 1 + 1, 0, none⟩ (.slice v4a n4 v4c) (show D ≠ w.heap.size + 1 + 1 by omega)
  refine wO 13 1 (fun K hK => ?_)
  go_simp
  refine hK _ _ ⟨hX5, fun _ => trivial⟩ (fun hS0 => ?_)
  clear hK K hS0
  refine wO 14 0 (fun K hK => ?_)
  go_simp
  refine hK _ _ ⟨hX5, fun _ => trivial⟩ (fun hS0 => ?_)
  clear hK K hS0
  refine wpAnyT_over (by kernel_rfl) ?_
  have hZe := hZ4.set 0 (.slice v4a n4 v4c)
  have hBe := hB4.setCell (p := ⟨w.heap.size + 1 + 1, 0, none⟩) (by simp; omega) (.slice v4a n4 v4c)
  have hDe := (HD4.out.aside ⟨w.heap.size + 1 + 1, 0, none⟩ (.slice v4a n4 v4c) (show w.heap.size + 1 + 1 < w.heap.size + 3 by omega)).lower (show w.heap.size <= w.heap.size + 3 by omega)
  clear z0 zf hX3 hZ3 hB3 hX4 hB4 hZ4 hXd hZd hBd hrun3 hrun4 hg3 hg4 hown3 hown4 hb3 hb4 hX5
  generalize w4.setCell ⟨w.heap.size + 1 + 1, 0, none⟩ (.slice v4a n4 v4c) = We at hZe hBe hDe ⊢
  go_wp2
  have p0 : We.cell? ⟨w.heap.size + 1 + 1, 0, none⟩ = some (.slice v4a n4 v4c) := hZe.cell 0 _ rfl
  exact bodyPost_ret (v := .tuple #[.agg #[.slice v4a n4 v4c], .bool true]) (by simp [results, Tryz.results191, go_sem, p0]) rfl (OutDn.some11 HDo.out ⟨_, _, rfl, HQe.out, hDe, hBe⟩)
 ·have HCp := Lib.hid hcp
  clear hcp
  have hQ0 : Box w2.drew D #[.slice (some ⟨g, 0, none⟩) ss.length vc] 42 := hX2.drew
  go_wp2
  refine wp_region_T (fun w' => Box w' D #[.slice (some ⟨g, 0, none⟩) ss.length vc] 42) (fun _ => True) 13 (by kernel_rfl) 15 rfl ?_
  refine wA 7 [1, 2, 3, 4, 6, 7, 8, 9] ⟨hQ0, fun _ => trivial⟩ ?_
  simp only [pick, List.filterMap_cons, List.filterMap_nil, List.getElem?_cons_zero, List.getElem?_cons_succ]
  refine wS (.pointer (some ⟨D, 0, none⟩)) (fun w hw => by go_simp) ?_
  refine wS (.slice (some ⟨g, 0, none⟩) ss.length vc) (fun w hw => by have e0 := hw.cell 0 _ rfl; go_simp) ?_
  refine wS (.int .i64 (P : Int)) (fun w hw => by go_simp) ?_
  refine wS (.slice (some ⟨g, 0, none⟩) P vc) (fun w hw => by go_simp; intro h; omega) ?_
  refine wS (.pointer (some ⟨D, 0, none⟩)) (fun w hw => by go_simp) ?_
  refine wS (.slice (some ⟨g, 0, none⟩) ss.length vc) (fun w hw => by have e0 := hw.cell 0 _ rfl; go_simp) ?_
  refine wS (.int .i64 (P : Int)) (fun w hw => by go_simp) ?_
  refine wS (.int .i64 ((P : Int) + 1)) (fun w hw => by go_simp; rw [IntKind.wrap_i64]; omega) ?_
  refine wpIf_nil (fun hS0 => ?_)
  clear hS0
  refine wA 6 [10] ⟨hQ0, fun _ => trivial⟩ ?_
  simp only [pick, List.filterMap_cons, List.filterMap_nil, List.getElem?_cons_zero, List.getElem?_cons_succ]
  refine wS (.slice (some ⟨g, (P + 1) * 3, none⟩) (ss.length - (P + 1)) (vc - (P + 1))) (fun w hw => by go_simp; rw [if_pos (show (0 : Int) <= (P : Int) + 1 /\ (P : Int) + 1 <= (ss.length : Int) by omega), if_neg (show ¬ vc = P + 1 from HCp.out)]) ?_
  refine wpIf_nil (fun hS0 => ?_)
  clear hS0
  have hXd := hX2.drew
  have hZd := hZ2.drew
  have hBd := hB2.drew
  have hs2d : w.heap.size + 3 <= w2.drew.heap.size := by show w.heap.size + 3 <= w2.heap.size; omega
  have HRd : Hid (RecAt 3 sbC w2.drew w2.drew.heap.size (.slice (some ⟨g, 0, none⟩) ss.length vc) qs) := HRc
  have HDd := Lib.hid HD2.out.drew
  clear hX2 hZ2 hB2 HRc HD2 hO2 g0 hQ0
  generalize w2.drew = W at hXd hZd hBd HRd HDd hs2d ⊢
  refine wO 0 5 (fun K hK => ?_)
  go_simp
  refine hK _ _ ⟨hXd.alloc _, fun _ => trivial⟩ (fun hS0 => ?_)
  clear hK K hS0
  have HL0 := Lib.hid (OwnR.lit (k := 3) (C := sbC) 94 W W.heap.size (Nat.le_refl _))
  have HT0 : Hid (RecAt 3 sbC (W.alloc (.cells #[] 94)) W.heap.size (.slice (some ⟨g, 0, none⟩) P vc) (qs.take P)) := Lib.hid ((HRd.out.take P (by omega)).below ((Below.refl _ _).alloc (Nat.le_refl _) _))
  obtain ⟨v3, w3, hrun3, hown3, hg3⟩ := appR_run (P := Tryz.prog) (t := 40) sbC_len (by decide) Tryz.underlying40 Tryz.infoSub rfl (by decide) HL0.out HT0.out (fun y hy => sbC_one y (HOn.out y (List.mem_of_mem_take hy))) (by simp; omega) (by simp) 40
  rw [List.nil_append] at hown3
  have hb3 : Below W.heap.size W w3 := ((Below.refl _ _).alloc (Nat.le_refl _) _).trans (gb_Below hg3 (by simp) (by intro b hb; cases hb; exact Nat.le_refl _))
  obtain ⟨v3a, v3c, rfl⟩ := hown3.slice
  rw [htl] at hown3 hrun3
  refine wO 5 4 (fun K hK => ?_)
  refine wp_appQ 40 (.tmp 106) (.tmp 110) rfl _ _ (.slice v3a P v3c) rfl rfl hrun3 ?_
  have hX3 := hXd.keep hb3 hXd.lt
  have hZ3 := hZd.keep hb3 hZd.lt
  have hB3 := hBd.trans (hb3.mono (by omega))
  have hs3 : W.heap.size <= w3.heap.size := hb3.size
  have HR3 : Hid (RecAt 3 sbC w3 W.heap.size (.slice (some ⟨g, (P + 1) * 3, none⟩) (ss.length - (P + 1)) (vc - (P + 1))) (qs.drop (P + 1))) := Lib.hid (by exact (HRd.out.below hb3).drop (P + 1) (by omega) (fun _ b2 off2 hab => by cases hab; simp))
  go_simp
  refine hK _ _ ⟨hX3, fun _ => trivial⟩ (fun hS0 => ?_)
  clear hK K hS0
  obtain ⟨v4, w4, hrun4, hown4, hg4⟩ := appR_run (P := Tryz.prog) (t := 40) sbC_len (by decide) Tryz.underlying40 Tryz.infoSub rfl (by decide) hown3 HR3.out (fun y hy => sbC_one y (HOn.out y (List.mem_of_mem_drop hy))) (by omega) hs3 40
  have hb4 : Below W.heap.size w3 w4 := gb_Below hg4 hs3 (ownBlock_base hown3)
  have HD4 := Lib.hid (HDd.out.outer hs2d (hb3.trans hb4) hown4 HSb.out)
  obtain ⟨v4a, v4c, hv4⟩ := hown4.slice
  obtain ⟨n4, hn4⟩ : ∃ n, (qs.take P ++ qs.drop (P + 1)).length = n := ⟨_, rfl⟩
  rw [hn4] at hv4
  subst hv4
  clear hn4
  refine wO 11 3 (fun K hK => ?_)
  refine wp_appQ 40 (.tmp 111) (.tmp 116) rfl _ _ (.slice v4a n4 v4c) rfl rfl hrun4 ?_
  have hX4 := hX3.keep hb4 hXd.lt
  have hZ4 := hZ3.keep hb4 hZd.lt
  have hB4 := hB3.trans (hb4.mono (by omega))
  go_simp
  refine hK _ _ ⟨hX4, fun _ => trivial⟩ (fun hS0 => ?_)
  clear hK K hS0
  refine wA 2 [12] ⟨hX4, fun _ => trivial⟩ ?_
  simp only [pick, List.filterMap_cons, List.filterMap_nil, List.getElem?_cons_zero, List.getElem?_cons_succ]
  refine wS (.agg #[.slice v4a n4 v4c]) (fun w hw => by go_simp) ?_
  refine wpIf_nil (fun hS0 => ?_)
  clear hS0
  have z0 : w4.cell? ⟨w.heap.size + 1 + 1, 0, none⟩ = some (.slice none 0 0) := hZ4.cell 0 _ rfl
  have zf := hZ4.free
  have hX5 := hX4.other ⟨w.heap.size + 1 + 1, 0, none⟩ (.slice v4a n4 v4c) (show D ≠ w.heap.size + 1 + 1 by omega)
  refine wO 13 1 (fun K hK => ?_)
  go_simp
  refine hK _ _ ⟨hX5, fun _ => trivial⟩ (fun hS0 => ?_)
  clear hK K hS0
  refine wO 14 0 (fun K hK => ?_)
  go_simp
  refine hK _ _ ⟨hX5, fun _ => trivial⟩ (fun hS0 => ?_)
  clear hK K hS0
  refine wpAnyT_over (by kernel_rfl) ?_
  have hZe := hZ4.set 0 (.slice v4a n4 v4c)
  have hBe := hB4.setCell (p := ⟨w.heap.size + 1 + 1, 0, none⟩) (by simp; omega) (.slice v4a n4 v4c)
  have hDe := (HD4.out.aside ⟨w.heap.size + 1 + 1, 0, none⟩ (.slice v4a n4 v4c) (show w.heap.size + 1 + 1 < w.heap.size + 3 by omega)).lower (show w.heap.size <= w.heap.size + 3 by omega)
  clear z0 zf hX3 hZ3 hB3 hX4 hB4 hZ4 hXd hZd hBd hrun3 hrun4 hg3 hg4 hown3 hown4 hb3 hb4 hX5
  generalize w4.setCell ⟨w.heap.size + 1 + 1, 0, none⟩ (.slice v4a n4 v4c) = We at hZe hBe hDe ⊢
  go_wp2
  have p0 : We.cell? ⟨w.heap.size + 1 + 1, 0, none⟩ = some (.slice v4a n4 v4c) := hZe.cell 0 _ rfl
  exact bodyPost_ret (v := .tuple #[.agg #[.slice v4a n4 v4c], .bool true]) (by simp [results, Tryz.results191, go_sem, p0]) rfl (OutDn.some11 HDo.out ⟨_, _, rfl, HQe.out, hDe, hBe⟩)
end Go.Proofs.YtffkakpbelknaaaGreatDoor
namespace Go.Proofs.YtffkakpbelknaaaGreatDoor
open Go.ChangeShapes Go.WideShapes Go.ChangeAt Go.RowKit
set_option linter.unusedVariables false
theorem l9Done_add (v x : Value) (ss : List Sb) (o : OpD) (w : World) (h : SbAt w w.heap.size v ss) (hx : ItAt w w.heap.size x o.its) (hr : rdB ss = true) (hk : o.k = 1) (hf : fnB (sbKs ss) o.u = false) (hn6 : ss.length ≠ 6) :
  Calls Tryz.prog 191 #[.agg #[v], opV o x] w (OutDn (doI ss o) w) := by
 have HI := Lib.hid h
 have HX := Lib.hid hx
 have h6 := rd_len hr
 have HSz := Lib.hid h.size
 have HR := Lib.hid hr
 have HCp := Lib.hid (fun w h => l9Copy_any v ss w h (by omega) (fun s hs => by have := sb_len (rd_sub hr s hs); omega))
 have HAt := Lib.hid (fun w h => l9At_any v ss o.u w h)
 rw [atK_not (rd_ris hr) hf] at HAt
 have HDo : Hid (doI ss o = some (putP ss (plK (sbKs ss) o.u) false ⟨o.u, ⟨#[]⟩, []⟩)) := Lib.hid (by unfold doI; rw [if_pos hk, if_neg (by rw [hf]; intro h; rcases h with h | h; (cases h); exact hn6 h)])
 have hpl := plK_le (sbKs ss) o.u
 rw [show (sbKs ss).length = ss.length by simp [sbKs]] at hpl
 have HLo : Hid (∀ t (ht : t < ss.length), t < plK (sbKs ss) o.u -> Op.bytesLess ss[t].u.toList o.u.toList = true) := Lib.hid (fun t ht htp => by
  have h1 := plK_lo (sbKs ss) o.u t htp
  have htk : t < (sbKs ss).length := by simpa [sbKs] using ht
  have h2 : ltK (sbKs ss)[t] o.u = true := by rw [ltK_cmp]; exact decide_eq_true h1
  simpa [sbKs, ltK] using h2)
 have HHi : Hid (∀ (ht : plK (sbKs ss) o.u < ss.length), Op.bytesLess ss[plK (sbKs ss) o.u].u.toList o.u.toList = false) := Lib.hid (fun ht => by
  have htk : plK (sbKs ss) o.u < (sbKs ss).length := by simpa [sbKs] using ht
  have h1 := plK_hi (ks := sbKs ss) (x := o.u) htk
  have h2 : ltK (sbKs ss)[plK (sbKs ss) o.u] o.u = false := by rw [ltK_cmp]; exact decide_eq_false h1
  simpa [sbKs, ltK] using h2)
 generalize plK (sbKs ss) o.u = p at HDo hpl HLo HHi
 have hge : decide ((0 : Int) <= -1) = false := rfl
 have hn66 : ((ss.length : Int) == 6) = false := beq_eq_false_iff_ne.2 (by omega)
 obtain ⟨a, cap, rfl, hl, hm, hc⟩ := h.raw
 obtain ⟨xa, xc, rfl⟩ := hx.1.slice
 clear hc h hx hr
 have hb0 : Below w.heap.size w (((w.alloc (.cells #[.slice a ss.length cap] 42)).alloc (.cells #[.int .i64 o.k, .string o.u, .string o.i, .int .i64 o.d, .string o.fu, .string o.ft, .slice xa o.its.length xc] 35)).alloc (.cells #[.slice none 0 0] 42)) := (((Below.refl _ _).alloc (Nat.le_refl _) _).alloc (by simp) _).alloc (by simp; omega) _
 have hR0 := ((Box.new w #[.slice a ss.length cap] 42).alloc (.cells #[.int .i64 o.k, .string o.u, .string o.i, .int .i64 o.d, .string o.fu, .string o.ft, .slice xa o.its.length xc] 35)).alloc (.cells #[.slice none 0 0] 42)
 have hO0 : Box (((w.alloc (.cells #[.slice a ss.length cap] 42)).alloc (.cells #[.int .i64 o.k, .string o.u, .string o.i, .int .i64 o.d, .string o.fu, .string o.ft, .slice xa o.its.length xc] 35)).alloc (.cells #[.slice none 0 0] 42)) (w.heap.size + 1) #[.int .i64 o.k, .string o.u, .string o.i, .int .i64 o.d, .string o.fu, .string o.ft, .slice xa o.its.length xc] 35 := by
  have := (Box.new (w.alloc (.cells #[.slice a ss.length cap] 42)) #[.int .i64 o.k, .string o.u, .string o.i, .int .i64 o.d, .string o.fu, .string o.ft, .slice xa o.its.length xc] 35).alloc (.cells #[.slice none 0 0] 42)
  simpa using this
 have hZ0 : Box (((w.alloc (.cells #[.slice a ss.length cap] 42)).alloc (.cells #[.int .i64 o.k, .string o.u, .string o.i, .int .i64 o.d, .string o.fu, .string o.ft, .slice xa o.its.length xc] 35)).alloc (.cells #[.slice none 0 0] 42)) (w.heap.size + 1 + 1) #[.slice none 0 0] 42 := by
  have := Box.new ((w.alloc (.cells #[.slice a ss.length cap] 42)).alloc (.cells #[.int .i64 o.k, .string o.u, .string o.i, .int .i64 o.d, .string o.fu, .string o.ft, .slice xa o.its.length xc] 35)) #[.slice none 0 0] 42
  simpa using this
 have hsz0 : (((w.alloc (.cells #[.slice a ss.length cap] 42)).alloc (.cells #[.int .i64 o.k, .string o.u, .string o.i, .int .i64 o.d, .string o.fu, .string o.ft, .slice xa o.its.length xc] 35)).alloc (.cells #[.slice none 0 0] 42)).heap.size = w.heap.size + 3 := by simp
 have hk33 : (o.k == 3) = false := beq_eq_false_iff_ne.2 (by omega)
 have hk99 : (o.k == 9) = false := beq_eq_false_iff_ne.2 (by omega)
 have hk11 : (o.k == 1) = true := beq_iff_eq.2 hk
 clear hk hl hm hf hn6
 unfold OutCp at HCp
 go_enter Tryz.func191, Tryz.ntmps191
 go_wp2_with fail
 generalize ((w.alloc (.cells #[.slice a ss.length cap] 42)).alloc (.cells #[.int .i64 o.k, .string o.u, .string o.i, .int .i64 o.d, .string o.fu, .string o.ft, .slice xa o.its.length xc] 35)).alloc (.cells #[.slice none 0 0] 42) = W0 at hb0 hR0 hO0 hZ0 hsz0 ⊢
 refine (HCp.out _ ((HI.out.below hb0).mono hb0.size)).mono ?_
 rintro e w1 ⟨v1, qs, rfl, hq1, hD1, hb1⟩
 obtain ⟨va, vc, rfl⟩ := hD1.1.slice
 have hs1 : w.heap.size + 3 <= w1.heap.size := by have := hb1.size; omega
 have hB1 := (hb0.trans (hb1.mono hb0.size)).alloc (by omega) (.cells #[.slice va qs.length vc] 42)
 have hZ1 := (hZ0.keep hb1 hZ0.lt).alloc (.cells #[.slice va qs.length vc] 42)
 have hO1 := (hO0.keep hb1 hO0.lt).alloc (.cells #[.slice va qs.length vc] 42)
 have hR1 := (hR0.keep hb1 hR0.lt).alloc (.cells #[.slice va qs.length vc] 42)
 have hX1 := Box.new w1 #[.slice va qs.length vc] 42
 have HD1 : Hid (OwnD (w1.alloc (.cells #[.slice va qs.length vc] 42)) (w.heap.size + 3) (.slice va qs.length vc) qs) := Lib.hid ((hD1.lower (show w.heap.size + 3 <= W0.heap.size by omega)).keep ((Below.refl _ _).alloc (Nat.le_refl _) _) (Nat.le_refl _))
 have HV1 : Hid (Value.ownBlock (.slice va qs.length vc) ≠ Option.some w1.heap.size /\ ∀ q ∈ qs, q.2.ownBlock ≠ Option.some w1.heap.size) := Lib.hid ⟨fun e => by have := (World.ownsRow.lt hD1.1 _ e).2; omega, fun q hq e => by have := (World.ownsRow.lt (hD1.2.1 q hq) _ e).2; omega⟩
 have hql : qs.length = ss.length := by have := congrArg List.length hq1; simpa using this
 have HQ1 := Lib.hid hq1
 rw [hql] at hB1 hZ1 hO1 hR1 hX1 HD1 HV1 ⊢
 clear hb1 hb0 hR0 hO0 hZ0 hsz0 hq1 hD1 HCp
 have f0 : (w1.alloc (.cells #[.slice va ss.length vc] 42)).cell? ⟨w.heap.size + 1, 0, none⟩ = some (.int .i64 o.k) := hO1.cell 0 _ rfl
 have f1 : (w1.alloc (.cells #[.slice va ss.length vc] 42)).cell? ⟨w.heap.size + 1, 1, none⟩ = some (.string o.u) := hO1.cell 1 _ rfl
 have f4 : (w1.alloc (.cells #[.slice va ss.length vc] 42)).cell? ⟨w.heap.size + 1, 4, none⟩ = some (.string o.fu) := hO1.cell 4 _ rfl
 have r0 : (w1.alloc (.cells #[.slice va ss.length vc] 42)).cell? ⟨w.heap.size, 0, none⟩ = some (.slice a ss.length cap) := hR1.cell 0 _ rfl
 go_wp2_with fail
 refine (HAt.out _ ((HI.out.below hB1).mono hB1.size)).mono ?_
 rintro e w2 ⟨rfl, hb2⟩
 have hB2 := hB1.trans (hb2.mono hB1.size)
 have hZ2 := hZ1.keep hb2 hZ1.lt
 have hO2 := hO1.keep hb2 hO1.lt
 have hX2 := hX1.keep hb2 hX1.lt
 have hR2 := hR1.keep hb2 hR1.lt
 have HD2 := Lib.hid (HD1.out.keep hb2 (Nat.le_refl _))
 have hs2 : w1.heap.size < w2.heap.size := hX2.lt
 have g0 : w2.cell? ⟨w.heap.size + 1, 0, none⟩ = some (.int .i64 o.k) := hO2.cell 0 _ rfl
 clear hb2 hB1 hZ1 hO1 hR1 f0 f1 f4 r0 HAt hX1 HD1
 generalize w1.heap.size = D at hX2 HV1 hs1 hs2 ⊢
 clear w1
 have r2 : w2.cell? ⟨w.heap.size, 0, none⟩ = some (.slice a ss.length cap) := hR2.cell 0 _ rfl
 have HR2 : Hid (Box w2 w.heap.size #[.slice a ss.length cap] 42) := Lib.hid hR2
 clear hR2
 go_wp2_with fail
 go_loopw [10] (fun i wr => ∃ k : Nat, k <= p /\ i = .int .i64 (k : Int) /\ wr = w2) (fun i _ => p - (intOf i).toNat)
 case atStart => exact ⟨0, Nat.zero_le _, rfl, rfl⟩
 case round =>
  obtain ⟨k, hk, rfl, rfl⟩ := hrel
  clear g0
  by_cases hkp : k < p
  ·have hlt : k < ss.length := by omega
   obtain ⟨a', cap', hv, _, _, hc⟩ := (HI.out.below hB2).raw
   cases hv
   obtain ⟨b, off, rfl, hb, hr⟩ := hc k hlt
   obtain ⟨y, c0, c1, c2, hy, s0, s1⟩ := hr k hlt
   have hlo := HLo.out k hlt hkp
   have hkl : decide ((k : Int) < (ss.length : Int)) = true := decide_eq_true (by omega)
   clear hr hc hy s0 s1 c1 c2
   go_wp2
   go_roundw
   case rel => exact ⟨k + 1, by omega, by go_num, by simp⟩
   case measure => simp [intOf]; omega
  ·obtain rfl : k = p := by omega
   by_cases hke : k < ss.length
   ·have hcp : ¬ vc = k := by have := HD2.out.1.capLe; omega
    have HCp := Lib.hid hcp
    obtain ⟨a', cap', hv, _, _, hc⟩ := (HI.out.below hB2).raw
    cases hv
    obtain ⟨b, off, rfl, hb, hr⟩ := hc k hke
    obtain ⟨y, c0, c1, c2, hy, s0, s1⟩ := hr k hke
    have hlo := HHi.out hke
    have hkl : decide ((k : Int) < (ss.length : Int)) = true := decide_eq_true (by omega)
    clear hr hc hy s0 s1 c1 c2
    have hql : qs.length = ss.length := by have := congrArg List.length HQ1.out; simpa using this
    have hcl : ss.length <= vc := by have := HD2.out.1.capLe; omega
    have HRc : Hid (RecAt 3 sbC wr wr.heap.size (.slice va ss.length vc) qs) := Lib.hid (HD2.out.1.at sbC_len)
    have HOn := Lib.hid HD2.out.one
    have HQe : Hid ((putP qs k false ((⟨o.u, ⟨#[]⟩, []⟩ : Sb), Value.slice none 0 0)).map Prod.fst = putP ss k false ⟨o.u, ⟨#[]⟩, []⟩) := Lib.hid (by rw [putP_fst, HQ1.out])
    have htl : (qs.take k).length = k := by rw [List.length_take]; omega
    have hdl : (qs.drop k).length = ss.length - k := by rw [List.length_drop]; omega
    have hq6 : qs.length <= 6 := by omega
    have x0 : wr.cell? ⟨D, 0, none⟩ = some (.slice va ss.length vc) := hX2.cell 0 _ rfl
    have hXa := hX2.alloc (.cells #[] 94)
    have xa0 : (wr.alloc (.cells #[] 94)).cell? ⟨D, 0, none⟩ = some (.slice va ss.length vc) := hXa.cell 0 _ rfl
    have HL0 := Lib.hid (OwnR.lit (k := 3) (C := sbC) 94 wr wr.heap.size (Nat.le_refl _))
    have hba : Below wr.heap.size wr (wr.alloc (.cells #[] 94)) := (Below.refl _ _).alloc (Nat.le_refl _) _
    have HT0 : Hid (RecAt 3 sbC (wr.alloc (.cells #[] 94)) wr.heap.size (.slice va k vc) (qs.take k)) := Lib.hid ((HRc.out.take k (by omega)).below hba)
    have hk3 : (0 : Int) <= (k : Int) /\ (k : Int) <= (vc : Int) := by omega
    have hk4 : (0 : Int) <= (k : Int) /\ (k : Int) <= (ss.length : Int) := by omega
    obtain ⟨g, hva, hg1, hg2, hgn⟩ := OwnR.form HD2.out.1 (by omega)
    clear hgn
    subst hva
    clear hql
    go_wp2_with (first
     | (at_builtin
        refine wpList_appR sbC_len (by decide) Tryz.underlying40 Tryz.infoSub rfl (by decide) rfl (.tmp 81) (.tmp 85) rfl wr.heap.size wr.heap.size _ _ [] (qs.take k) rfl rfl HL0.out HT0.out (fun y hy => sbC_one y (HOn.out y (List.mem_of_mem_take hy))) (by simp; omega) (by simp) ?_
        intro v3 w3 hown3 hg3
        rw [List.nil_append] at hown3
        obtain ⟨v3a, v3c, rfl⟩ := hown3.slice
        rw [htl] at hown3 ⊢
        have hb3 : Below wr.heap.size wr w3 := hba.trans (gb_Below hg3 (by simp) (by intro b hb; cases hb; exact Nat.le_refl _))
        have HX3 := Lib.hid (hX2.keep hb3 hX2.lt)
        have HZ3 := Lib.hid (hZ2.keep hb3 hZ2.lt)
        have HB3 := Lib.hid (hB2.trans (hb3.mono hB2.size))
        have HNw : Hid (RecAt 3 sbC (w3.alloc (.cells #[.string o.u, .string ⟨#[]⟩, .slice none 0 0] 94)) (w3.heap.size + 1) (.slice (some ⟨w3.heap.size, 0, none⟩) 1 1) [((⟨o.u, ⟨#[]⟩, []⟩ : Sb), Value.slice none 0 0)]) := Lib.hid (one_rec sbC_len w3 94 ((⟨o.u, ⟨#[]⟩, []⟩ : Sb), Value.slice none 0 0) #[.string o.u, .string ⟨#[]⟩, .slice none 0 0] rfl)
        have HO3 := Lib.hid (hown3.alloc (.cells #[.string o.u, .string ⟨#[]⟩, .slice none 0 0] 94))
        have hs3 : wr.heap.size <= w3.heap.size := hb3.size
        have HBb3 := Lib.hid hb3
        clear hown3 hg3 hb3 hX2 hZ2 hB2 x0 xa0 hXa hba HL0 HT0)
     | (at_builtin
        refine wpList_appR sbC_len (by decide) Tryz.underlying40 Tryz.infoSub rfl (by decide) rfl (.tmp 87) (.tmp 90) rfl wr.heap.size (w3.heap.size + 1) _ _ (qs.take k) [((⟨o.u, ⟨#[]⟩, []⟩ : Sb), Value.slice none 0 0)] rfl rfl HO3.out HNw.out (fun y hy => by
         obtain rfl : y = ((⟨o.u, ⟨#[]⟩, []⟩ : Sb), Value.slice none 0 0) := by simpa using hy
         exact sbC_one _ rfl) (by simp; omega) (by simp only [World.size_alloc]; omega) ?_
        intro v4 w4 hown4 hg4
        obtain ⟨v4a, v4c, hv4⟩ := hown4.slice
        have hl4 : (qs.take k ++ [((⟨o.u, ⟨#[]⟩, []⟩ : Sb), Value.slice none 0 0)]).length = k + 1 := by rw [List.length_append, htl]; rfl
        rw [hl4] at hv4
        subst hv4
        clear hl4
        have hb4 : Below wr.heap.size w3 w4 := ((Below.refl _ _).alloc hs3 _).trans (gb_Below hg4 (by simp only [World.size_alloc]; omega) (ownBlock_base HO3.out))
        have HX4 := HX3.out.keep hb4 (by have := HX3.out.lt; omega)
        have HZ4 := Lib.hid (HZ3.out.keep hb4 (by omega))
        have HB4 := Lib.hid (HB3.out.trans (hb4.mono (by omega)))
        have HBb4 := Lib.hid (HBb3.out.trans hb4)
        have x4 : w4.cell? ⟨D, 0, none⟩ = some (.slice (some ⟨g, 0, none⟩) ss.length vc) := HX4.cell 0 _ rfl
        have hs4 : wr.heap.size <= w4.heap.size := by have := hb4.size; omega
        have HR4 : Hid (RecAt 3 sbC w4 wr.heap.size (.slice (some ⟨g, k * 3, none⟩) (ss.length - k) (vc - k)) (qs.drop k)) := Lib.hid (by exact (HRc.out.below HBb4.out).drop k (by omega) (fun _ b2 off2 hab => by cases hab; simp))
        have HO4 := Lib.hid hown4
        clear hown4 hg4 hb4 HX4 HX3 HZ3 HB3 HBb3 HO3 HNw)
     | (at_builtin
        refine wpList_appR sbC_len (by decide) Tryz.underlying40 Tryz.infoSub rfl (by decide) rfl (.tmp 92) (.tmp 96) rfl wr.heap.size wr.heap.size _ _ (qs.take k ++ [((⟨o.u, ⟨#[]⟩, []⟩ : Sb), Value.slice none 0 0)]) (qs.drop k) rfl rfl HO4.out HR4.out (fun y hy => sbC_one y (HOn.out y (List.mem_of_mem_drop hy))) (by simp; omega) hs4 ?_
        intro v5 w5 hown5 hg5
        rw [putP_false] at hown5
        have hb5 : Below wr.heap.size w4 w5 := gb_Below hg5 hs4 (ownBlock_base HO4.out)
        have HD5 := Lib.hid (HD2.out.putNil (by omega) (HBb4.out.trans hb5) k o.u ⟨#[]⟩ hown5)
        obtain ⟨v5a, v5c, hv5⟩ := hown5.slice
        obtain ⟨n5, hn5⟩ : ∃ n, (putP qs k false ((⟨o.u, ⟨#[]⟩, []⟩ : Sb), Value.slice none 0 0)).length = n := ⟨_, rfl⟩
        rw [hn5] at hv5
        subst hv5
        clear hn5
        have HZ5 := HZ4.out.keep hb5 (by omega)
        have HB5 := Lib.hid (HB4.out.trans (hb5.mono (by omega)))
        have z0 : w5.cell? ⟨w.heap.size + 1 + 1, 0, none⟩ = some (.slice none 0 0) := HZ5.cell 0 _ rfl
        have zf := HZ5.free
        have hZ5 := Lib.hid HZ5
        clear hown5 hg5 hb5 HZ5 HZ4 HB4 HO4 HR4 x4))
    have hZe := hZ5.out.set 0 (.slice v5a n5 v5c)
    have hBe := HB5.out.setCell (p := ⟨w.heap.size + 1 + 1, 0, none⟩) (by simp; omega) (.slice v5a n5 v5c)
    have hDe := (HD5.out.aside ⟨w.heap.size + 1 + 1, 0, none⟩ (.slice v5a n5 v5c) (show w.heap.size + 1 + 1 < w.heap.size + 3 by omega)).lower (show w.heap.size <= w.heap.size + 3 by omega)
    generalize w5.setCell ⟨w.heap.size + 1 + 1, 0, none⟩ (.slice v5a n5 v5c) = We at hZe hBe hDe ⊢
    have p0 : We.cell? ⟨w.heap.size + 1 + 1, 0, none⟩ = some (.slice v5a n5 v5c) := hZe.cell 0 _ rfl
    exact bodyPost_ret (v := .tuple #[.agg #[.slice v5a n5 v5c], .bool true]) (by simp [results, Tryz.results191, go_sem, p0]) rfl (OutDn.some11 HDo.out ⟨_, _, rfl, HQe.out, hDe, hBe⟩)
   ·by_cases hcp : vc = k
    ·have hcs : k = vc := hcp.symm
     clear hcp
     subst hcs
     have HCp : Hid (k = k) := Lib.hid rfl
     have hkl : decide ((k : Int) < (ss.length : Int)) = false := decide_eq_false (by omega)
     have hql : qs.length = ss.length := by have := congrArg List.length HQ1.out; simpa using this
     have hcl : ss.length <= k := by have := HD2.out.1.capLe; omega
     have HRc : Hid (RecAt 3 sbC wr wr.heap.size (.slice va ss.length k) qs) := Lib.hid (HD2.out.1.at sbC_len)
     have HOn := Lib.hid HD2.out.one
     have HQe : Hid ((putP qs k false ((⟨o.u, ⟨#[]⟩, []⟩ : Sb), Value.slice none 0 0)).map Prod.fst = putP ss k false ⟨o.u, ⟨#[]⟩, []⟩) := Lib.hid (by rw [putP_fst, HQ1.out])
     have htl : (qs.take k).length = k := by rw [List.length_take]; omega
     have hdl : (qs.drop k).length = ss.length - k := by rw [List.length_drop]; omega
     have hq6 : qs.length <= 6 := by omega
     have x0 : wr.cell? ⟨D, 0, none⟩ = some (.slice va ss.length k) := hX2.cell 0 _ rfl
     have hXa := hX2.alloc (.cells #[] 94)
     have xa0 : (wr.alloc (.cells #[] 94)).cell? ⟨D, 0, none⟩ = some (.slice va ss.length k) := hXa.cell 0 _ rfl
     have HL0 := Lib.hid (OwnR.lit (k := 3) (C := sbC) 94 wr wr.heap.size (Nat.le_refl _))
     have hba : Below wr.heap.size wr (wr.alloc (.cells #[] 94)) := (Below.refl _ _).alloc (Nat.le_refl _) _
     have HT0 : Hid (RecAt 3 sbC (wr.alloc (.cells #[] 94)) wr.heap.size (.slice va k k) (qs.take k)) := Lib.hid ((HRc.out.take k (by omega)).below hba)
     have hk3 : (0 : Int) <= (k : Int) /\ (k : Int) <= (k : Int) := by omega
     have hk4 : (0 : Int) <= (k : Int) /\ (k : Int) <= (ss.length : Int) := by omega
     clear hql
     go_wp2_with (first
      | (at_builtin
         refine wpList_appR sbC_len (by decide) Tryz.underlying40 Tryz.infoSub rfl (by decide) rfl (.tmp 81) (.tmp 85) rfl wr.heap.size wr.heap.size _ _ [] (qs.take k) rfl rfl HL0.out HT0.out (fun y hy => sbC_one y (HOn.out y (List.mem_of_mem_take hy))) (by simp; omega) (by simp) ?_
         intro v3 w3 hown3 hg3
         rw [List.nil_append] at hown3
         obtain ⟨v3a, v3c, rfl⟩ := hown3.slice
         rw [htl] at hown3 ⊢
         have hb3 : Below wr.heap.size wr w3 := hba.trans (gb_Below hg3 (by simp) (by intro b hb; cases hb; exact Nat.le_refl _))
         have HX3 := Lib.hid (hX2.keep hb3 hX2.lt)
         have HZ3 := Lib.hid (hZ2.keep hb3 hZ2.lt)
         have HB3 := Lib.hid (hB2.trans (hb3.mono hB2.size))
         have HNw : Hid (RecAt 3 sbC (w3.alloc (.cells #[.string o.u, .string ⟨#[]⟩, .slice none 0 0] 94)) (w3.heap.size + 1) (.slice (some ⟨w3.heap.size, 0, none⟩) 1 1) [((⟨o.u, ⟨#[]⟩, []⟩ : Sb), Value.slice none 0 0)]) := Lib.hid (one_rec sbC_len w3 94 ((⟨o.u, ⟨#[]⟩, []⟩ : Sb), Value.slice none 0 0) #[.string o.u, .string ⟨#[]⟩, .slice none 0 0] rfl)
         have HO3 := Lib.hid (hown3.alloc (.cells #[.string o.u, .string ⟨#[]⟩, .slice none 0 0] 94))
         have hs3 : wr.heap.size <= w3.heap.size := hb3.size
         have HBb3 := Lib.hid hb3
         clear hown3 hg3 hb3 hX2 hZ2 hB2 x0 xa0 hXa hba HL0 HT0)
      | (at_builtin
         refine wpList_appR sbC_len (by decide) Tryz.underlying40 Tryz.infoSub rfl (by decide) rfl (.tmp 87) (.tmp 90) rfl wr.heap.size (w3.heap.size + 1) _ _ (qs.take k) [((⟨o.u, ⟨#[]⟩, []⟩ : Sb), Value.slice none 0 0)] rfl rfl HO3.out HNw.out (fun y hy => by
          obtain rfl : y = ((⟨o.u, ⟨#[]⟩, []⟩ : Sb), Value.slice none 0 0) := by simpa using hy
          exact sbC_one _ rfl) (by simp; omega) (by simp only [World.size_alloc]; omega) ?_
         intro v4 w4 hown4 hg4
         obtain ⟨v4a, v4c, hv4⟩ := hown4.slice
         have hl4 : (qs.take k ++ [((⟨o.u, ⟨#[]⟩, []⟩ : Sb), Value.slice none 0 0)]).length = k + 1 := by rw [List.length_append, htl]; rfl
         rw [hl4] at hv4
         subst hv4
         clear hl4
         have hb4 : Below wr.heap.size w3 w4 := ((Below.refl _ _).alloc hs3 _).trans (gb_Below hg4 (by simp only [World.size_alloc]; omega) (ownBlock_base HO3.out))
         have HX4 := HX3.out.keep hb4 (by have := HX3.out.lt; omega)
         have HZ4 := Lib.hid (HZ3.out.keep hb4 (by omega))
         have HB4 := Lib.hid (HB3.out.trans (hb4.mono (by omega)))
         have HBb4 := Lib.hid (HBb3.out.trans hb4)
         have x4 : w4.cell? ⟨D, 0, none⟩ = some (.slice va ss.length k) := HX4.cell 0 _ rfl
         have hs4 : wr.heap.size <= w4.heap.size := by have := hb4.size; omega
         have HR4 : Hid (RecAt 3 sbC w4 wr.heap.size (.slice va 0 0) (qs.drop k)) := Lib.hid (by have := (HRc.out.below HBb4.out).drop k (a2 := va) (by omega) (fun h b2 off2 hab => absurd h (by omega)); rw [Nat.sub_self, show ss.length - k = 0 by omega] at this; exact this)
         have HO4 := Lib.hid hown4
         clear hown4 hg4 hb4 HX4 HX3 HZ3 HB3 HBb3 HO3 HNw)
      | (at_builtin
         refine wpList_appR sbC_len (by decide) Tryz.underlying40 Tryz.infoSub rfl (by decide) rfl (.tmp 92) (.tmp 96) rfl wr.heap.size wr.heap.size _ _ (qs.take k ++ [((⟨o.u, ⟨#[]⟩, []⟩ : Sb), Value.slice none 0 0)]) (qs.drop k) rfl rfl HO4.out HR4.out (fun y hy => sbC_one y (HOn.out y (List.mem_of_mem_drop hy))) (by simp; omega) hs4 ?_
         intro v5 w5 hown5 hg5
         rw [putP_false] at hown5
         have hb5 : Below wr.heap.size w4 w5 := gb_Below hg5 hs4 (ownBlock_base HO4.out)
         have HD5 := Lib.hid (HD2.out.putNil (by omega) (HBb4.out.trans hb5) k o.u ⟨#[]⟩ hown5)
         obtain ⟨v5a, v5c, hv5⟩ := hown5.slice
         obtain ⟨n5, hn5⟩ : ∃ n, (putP qs k false ((⟨o.u, ⟨#[]⟩, []⟩ : Sb), Value.slice none 0 0)).length = n := ⟨_, rfl⟩
         rw [hn5] at hv5
         subst hv5
         clear hn5
         have HZ5 := HZ4.out.keep hb5 (by omega)
         have HB5 := Lib.hid (HB4.out.trans (hb5.mono (by omega)))
         have z0 : w5.cell? ⟨w.heap.size + 1 + 1, 0, none⟩ = some (.slice none 0 0) := HZ5.cell 0 _ rfl
         have zf := HZ5.free
         have hZ5 := Lib.hid HZ5
         clear hown5 hg5 hb5 HZ5 HZ4 HB4 HO4 HR4 x4))
     have hZe := hZ5.out.set 0 (.slice v5a n5 v5c)
     have hBe := HB5.out.setCell (p := ⟨w.heap.size + 1 + 1, 0, none⟩) (by simp; omega) (.slice v5a n5 v5c)
     have hDe := (HD5.out.aside ⟨w.heap.size + 1 + 1, 0, none⟩ (.slice v5a n5 v5c) (show w.heap.size + 1 + 1 < w.heap.size + 3 by omega)).lower (show w.heap.size <= w.heap.size + 3 by omega)
     generalize w5.setCell ⟨w.heap.size + 1 + 1, 0, none⟩ (.slice v5a n5 v5c) = We at hZe hBe hDe ⊢
     have p0 : We.cell? ⟨w.heap.size + 1 + 1, 0, none⟩ = some (.slice v5a n5 v5c) := hZe.cell 0 _ rfl
     exact bodyPost_ret (v := .tuple #[.agg #[.slice v5a n5 v5c], .bool true]) (by simp [results, Tryz.results191, go_sem, p0]) rfl (OutDn.some11 HDo.out ⟨_, _, rfl, HQe.out, hDe, hBe⟩)
    ·have HCp := Lib.hid hcp
     cases va with
     | none => exact absurd (show vc = k by have := HD2.out.1.noneCap; omega) hcp
     | some va0 =>
      obtain ⟨g, hva, hg1, hg2⟩ := HD2.out.1.someForm
      subst hva
      have hkl : decide ((k : Int) < (ss.length : Int)) = false := decide_eq_false (by omega)
      have hql : qs.length = ss.length := by have := congrArg List.length HQ1.out; simpa using this
      have hcl : ss.length <= vc := by have := HD2.out.1.capLe; omega
      have HRc : Hid (RecAt 3 sbC wr wr.heap.size (.slice (some ⟨g, 0, none⟩) ss.length vc) qs) := Lib.hid (HD2.out.1.at sbC_len)
      have HOn := Lib.hid HD2.out.one
      have HQe : Hid ((putP qs k false ((⟨o.u, ⟨#[]⟩, []⟩ : Sb), Value.slice none 0 0)).map Prod.fst = putP ss k false ⟨o.u, ⟨#[]⟩, []⟩) := Lib.hid (by rw [putP_fst, HQ1.out])
      have htl : (qs.take k).length = k := by rw [List.length_take]; omega
      have hdl : (qs.drop k).length = ss.length - k := by rw [List.length_drop]; omega
      have hq6 : qs.length <= 6 := by omega
      have x0 : wr.cell? ⟨D, 0, none⟩ = some (.slice (some ⟨g, 0, none⟩) ss.length vc) := hX2.cell 0 _ rfl
      have hXa := hX2.alloc (.cells #[] 94)
      have xa0 : (wr.alloc (.cells #[] 94)).cell? ⟨D, 0, none⟩ = some (.slice (some ⟨g, 0, none⟩) ss.length vc) := hXa.cell 0 _ rfl
      have HL0 := Lib.hid (OwnR.lit (k := 3) (C := sbC) 94 wr wr.heap.size (Nat.le_refl _))
      have hba : Below wr.heap.size wr (wr.alloc (.cells #[] 94)) := (Below.refl _ _).alloc (Nat.le_refl _) _
      have HT0 : Hid (RecAt 3 sbC (wr.alloc (.cells #[] 94)) wr.heap.size (.slice (some ⟨g, 0, none⟩) k vc) (qs.take k)) := Lib.hid ((HRc.out.take k (by omega)).below hba)
      have hk3 : (0 : Int) <= (k : Int) /\ (k : Int) <= (vc : Int) := by omega
      have hk4 : (0 : Int) <= (k : Int) /\ (k : Int) <= (ss.length : Int) := by omega
      clear hql
      go_wp2_with (first
       | (at_builtin
          refine wpList_appR sbC_len (by decide) Tryz.underlying40 Tryz.infoSub rfl (by decide) rfl (.tmp 81) (.tmp 85) rfl wr.heap.size wr.heap.size _ _ [] (qs.take k) rfl rfl HL0.out HT0.out (fun y hy => sbC_one y (HOn.out y (List.mem_of_mem_take hy))) (by simp; omega) (by simp) ?_
          intro v3 w3 hown3 hg3
          rw [List.nil_append] at hown3
          obtain ⟨v3a, v3c, rfl⟩ := hown3.slice
          rw [htl] at hown3 ⊢
          have hb3 : Below wr.heap.size wr w3 := hba.trans (gb_Below hg3 (by simp) (by intro b hb; cases hb; exact Nat.le_refl _))
          have HX3 := Lib.hid (hX2.keep hb3 hX2.lt)
          have HZ3 := Lib.hid (hZ2.keep hb3 hZ2.lt)
          have HB3 := Lib.hid (hB2.trans (hb3.mono hB2.size))
          have HNw : Hid (RecAt 3 sbC (w3.alloc (.cells #[.string o.u, .string ⟨#[]⟩, .slice none 0 0] 94)) (w3.heap.size + 1) (.slice (some ⟨w3.heap.size, 0, none⟩) 1 1) [((⟨o.u, ⟨#[]⟩, []⟩ : Sb), Value.slice none 0 0)]) := Lib.hid (one_rec sbC_len w3 94 ((⟨o.u, ⟨#[]⟩, []⟩ : Sb), Value.slice none 0 0) #[.string o.u, .string ⟨#[]⟩, .slice none 0 0] rfl)
          have HO3 := Lib.hid (hown3.alloc (.cells #[.string o.u, .string ⟨#[]⟩, .slice none 0 0] 94))
          have hs3 : wr.heap.size <= w3.heap.size := hb3.size
          have HBb3 := Lib.hid hb3
          clear hown3 hg3 hb3 hX2 hZ2 hB2 x0 xa0 hXa hba HL0 HT0)
       | (at_builtin
          refine wpList_appR sbC_len (by decide) Tryz.underlying40 Tryz.infoSub rfl (by decide) rfl (.tmp 87) (.tmp 90) rfl wr.heap.size (w3.heap.size + 1) _ _ (qs.take k) [((⟨o.u, ⟨#[]⟩, []⟩ : Sb), Value.slice none 0 0)] rfl rfl HO3.out HNw.out (fun y hy => by
           obtain rfl : y = ((⟨o.u, ⟨#[]⟩, []⟩ : Sb), Value.slice none 0 0) := by simpa using hy
           exact sbC_one _ rfl) (by simp; omega) (by simp only [World.size_alloc]; omega) ?_
          intro v4 w4 hown4 hg4
          obtain ⟨v4a, v4c, hv4⟩ := hown4.slice
          have hl4 : (qs.take k ++ [((⟨o.u, ⟨#[]⟩, []⟩ : Sb), Value.slice none 0 0)]).length = k + 1 := by rw [List.length_append, htl]; rfl
          rw [hl4] at hv4
          subst hv4
          clear hl4
          have hb4 : Below wr.heap.size w3 w4 := ((Below.refl _ _).alloc hs3 _).trans (gb_Below hg4 (by simp only [World.size_alloc]; omega) (ownBlock_base HO3.out))
          have HX4 := HX3.out.keep hb4 (by have := HX3.out.lt; omega)
          have HZ4 := Lib.hid (HZ3.out.keep hb4 (by omega))
          have HB4 := Lib.hid (HB3.out.trans (hb4.mono (by omega)))
          have HBb4 := Lib.hid (HBb3.out.trans hb4)
          have x4 : w4.cell? ⟨D, 0, none⟩ = some (.slice (some ⟨g, 0, none⟩) ss.length vc) := HX4.cell 0 _ rfl
          have hs4 : wr.heap.size <= w4.heap.size := by have := hb4.size; omega
          have HR4 : Hid (RecAt 3 sbC w4 wr.heap.size (.slice (some ⟨g, k * 3, none⟩) (ss.length - k) (vc - k)) (qs.drop k)) := Lib.hid (by exact (HRc.out.below HBb4.out).drop k (by omega) (fun _ b2 off2 hab => by cases hab; simp))
          have HO4 := Lib.hid hown4
          clear hown4 hg4 hb4 HX4 HX3 HZ3 HB3 HBb3 HO3 HNw)
       | (at_builtin
          refine wpList_appR sbC_len (by decide) Tryz.underlying40 Tryz.infoSub rfl (by decide) rfl (.tmp 92) (.tmp 96) rfl wr.heap.size wr.heap.size _ _ (qs.take k ++ [((⟨o.u, ⟨#[]⟩, []⟩ : Sb), Value.slice none 0 0)]) (qs.drop k) rfl rfl HO4.out HR4.out (fun y hy => sbC_one y (HOn.out y (List.mem_of_mem_drop hy))) (by simp; omega) hs4 ?_
          intro v5 w5 hown5 hg5
          rw [putP_false] at hown5
          have hb5 : Below wr.heap.size w4 w5 := gb_Below hg5 hs4 (ownBlock_base HO4.out)
          have HD5 := Lib.hid (HD2.out.putNil (by omega) (HBb4.out.trans hb5) k o.u ⟨#[]⟩ hown5)
          obtain ⟨v5a, v5c, hv5⟩ := hown5.slice
          obtain ⟨n5, hn5⟩ : ∃ n, (putP qs k false ((⟨o.u, ⟨#[]⟩, []⟩ : Sb), Value.slice none 0 0)).length = n := ⟨_, rfl⟩
          rw [hn5] at hv5
          subst hv5
          clear hn5
          have HZ5 := HZ4.out.keep hb5 (by omega)
          have HB5 := Lib.hid (HB4.out.trans (hb5.mono (by omega)))
          have z0 : w5.cell? ⟨w.heap.size + 1 + 1, 0, none⟩ = some (.slice none 0 0) := HZ5.cell 0 _ rfl
          have zf := HZ5.free
          have hZ5 := Lib.hid HZ5
          clear hown5 hg5 hb5 HZ5 HZ4 HB4 HO4 HR4 x4))
      have hZe := hZ5.out.set 0 (.slice v5a n5 v5c)
      have hBe := HB5.out.setCell (p := ⟨w.heap.size + 1 + 1, 0, none⟩) (by simp; omega) (.slice v5a n5 v5c)
      have hDe := (HD5.out.aside ⟨w.heap.size + 1 + 1, 0, none⟩ (.slice v5a n5 v5c) (show w.heap.size + 1 + 1 < w.heap.size + 3 by omega)).lower (show w.heap.size <= w.heap.size + 3 by omega)
      generalize w5.setCell ⟨w.heap.size + 1 + 1, 0, none⟩ (.slice v5a n5 v5c) = We at hZe hBe hDe ⊢
      have p0 : We.cell? ⟨w.heap.size + 1 + 1, 0, none⟩ = some (.slice v5a n5 v5c) := hZe.cell 0 _ rfl
      exact bodyPost_ret (v := .tuple #[.agg #[.slice v5a n5 v5c], .bool true]) (by simp [results, Tryz.results191, go_sem, p0]) rfl (OutDn.some11 HDo.out ⟨_, _, rfl, HQe.out, hDe, hBe⟩)
end Go.Proofs.YtffkakpbelknaaaGreatDoor
namespace Go.Proofs.YtffkakpbelknaaaGreatDoor
open Go.ChangeShapes Go.WideShapes Go.ChangeAt Go.RowKit
set_option linter.unusedVariables false
theorem l9Done_any (v x : Value) (ss : List Sb) (o : OpD) (w : World) (h : SbAt w w.heap.size v ss) (hx : ItAt w w.heap.size x o.its) (hr : rdB ss = true) (hop : opB o = true) :
  Calls Tryz.prog 191 #[.agg #[v], opV o x] w (OutDn (doI ss o) w) := by
 by_cases hk1 : o.k = 1
 ·cases hf : fnB (sbKs ss) o.u with
  | true =>
   refine (l9Done_there v x ss o w h hx hr hk1 hf).mono ?_
   rintro e w' ⟨h1, h2⟩
   exact OutDn.none11 (by unfold doI; rw [if_pos hk1, if_pos (.inl hf)]) h1 h2
  | false =>
   by_cases h6 : ss.length = 6
   ·refine (l9Done_full v x ss o w h hx hr hk1 hf h6).mono ?_
    rintro e w' ⟨h1, h2⟩
    exact OutDn.none11 (by unfold doI; rw [if_pos hk1, if_pos (.inr h6)]) h1 h2
   ·exact l9Done_add v x ss o w h hx hr hk1 hf h6
 ·by_cases hk9 : o.k = 9
  ·exact l9Done_purge v x ss o w h hx hr hk9
  ·have hdo : doI ss o = chV ss o := by unfold doI; rw [if_neg hk1, if_neg hk9]
   cases hf : fnB (sbKs ss) (opU o) with
   | false =>
    refine (l9Done_gone v x ss o w h hx hr hk1 hk9 hf).mono ?_
    rintro e w' ⟨h1, h2⟩
    refine OutDn.none11 ?_ h1 h2
    rw [hdo]
    unfold chV
    rw [hf]
    split <;> simp
   | true =>
    by_cases hk3 : o.k = 3
    ·have hu : opU o = o.fu := by unfold opU; rw [if_pos hk3]
     rw [hu] at hf
     exact l9Done_fetch v x ss o w h hx hr hk3 hop hf _ rfl (fn_pl hf)
    ·have hu : opU o = o.u := by unfold opU; rw [if_neg hk3]
     rw [hu] at hf
     by_cases hk2 : o.k = 2
     ·exact l9Done_drop v x ss o w h hx hr hk2 hf _ rfl (fn_pl hf)
     ·by_cases hk8 : o.k = 8
      ·exact l9Done_all v x ss o w h hx hr hk8 hf _ rfl (fn_pl hf)
      ·have hk : o.k = 4 \/ o.k = 5 \/ o.k = 6 \/ o.k = 7 := by have := op_kinds hop; omega
       cases hfe : fnB (enKs (ss[plK (sbKs ss) o.u]'(fn_pl hf)).es) o.i with
       | true => exact l9Done_mark v x ss o w h hx hr hk hf _ rfl (fn_pl hf) hfe
       | false =>
        refine (l9Done_noentry v x ss o w h hx hr hk hf _ rfl (fn_pl hf) hfe).mono ?_
        rintro e w' ⟨h1, h2⟩
        refine OutDn.none11 ?_ h1 h2
        rw [hdo, chV_at (by rw [hu]; exact hf) (by rw [hu]) (fn_pl hf), if_neg hk2, if_neg hk8, if_neg hk3, if_neg (by rw [hfe]; simp)]
theorem specDone_any (v x : Value) (ss : List Sb) (o : OpD) (w : World) (h : SbAt w w.heap.size v ss) (hx : ItAt w w.heap.size x o.its) (hz : OpSz o) :
  Calls Tryz.prog 164 #[.agg #[v], opV o x] w (OutDn (doV ss o) w) :=
 specDone_of (Lib.hid (fun v x ss o w h hx hz hr hop => l9Done_any v x ss o w h hx hr hop)) v x ss o w h hx hz
end Go.Proofs.YtffkakpbelknaaaGreatDoor
namespace Go.Proofs.YtffkakpbelknaaaGreatDoor
open Go.ChangeShapes Go.WideShapes Go.ChangeAt Go.RowKit
set_option linter.unusedVariables false
def itmB (x : It) : Bool := itB x.id x.ti x.da
theorem sb_iff (s : Sb) : sbB s = true ↔ nmB s.u 20 = true /\ ttB s.t = true /\ s.es.length <= 12 /\ (∀ x ∈ s.es, itmB x.it = true) /\ risB (enKs s.es) = true := by
 unfold sbB ensB itmB
 simp only [Bool.and_eq_true, decide_eq_true_eq]
 constructor
 ·rintro ⟨⟨⟨h1, h2⟩, h3⟩, h4, h5⟩
  refine ⟨h1, h2, h3, fun x hx => ?_, h5⟩
  obtain ⟨i, hi, rfl⟩ := List.getElem_of_mem hx
  have := allB_at h4 i hi
  rw [enB_at s.es i hi] at this
  exact this
 ·rintro ⟨h1, h2, h3, h4, h5⟩
  refine ⟨⟨⟨h1, h2⟩, h3⟩, ?_, h5⟩
  refine allB_end s.es.length (Nat.lt_irrefl _) (fun j hj => ?_)
  rw [enB_at s.es j hj]
  exact h4 _ (List.getElem_mem hj)
theorem rd_iff9 (ss : List Sb) : rdB ss = true ↔ ss.length <= 6 /\ (∀ s ∈ ss, sbB s = true) /\ risB (sbKs ss) = true := by
 constructor
 ·intro h
  exact ⟨rd_len h, fun s hs => rd_sub h s hs, rd_ris h⟩
 ·rintro ⟨h1, h2, h3⟩
  unfold rdB
  simp only [Bool.and_eq_true, decide_eq_true_eq]
  refine ⟨h1, ?_, h3⟩
  refine allB_end ss.length (Nat.lt_irrefl _) (fun j hj => ?_)
  rw [sbsB_at ss j hj]
  exact h2 _ (List.getElem_mem hj)
theorem fd_its {u t : ByteArray} {its : List It} (h : fdB u t its = true) : nmB u 20 = true /\ ttB t = true /\ its.length <= 12 /\ ∀ x ∈ its, itmB x = true := by
 unfold fdB at h
 simp only [Bool.and_eq_true, decide_eq_true_eq] at h
 refine ⟨h.2.1.1, h.2.1.2, h.2.2, fun x hx => ?_⟩
 obtain ⟨i, hi, rfl⟩ := List.getElem_of_mem hx
 have h1 := h.1
 unfold itsB at h1
 have h2 := List.all_eq_true.1 h1 i (List.mem_range.2 hi)
 unfold okB at h2
 rw [List.getElem?_eq_getElem hi] at h2
 simp only [Bool.and_eq_true] at h2
 exact h2.1
theorem ft1_it {es : List En} {it : It} (h : ∀ x ∈ es, itmB x.it = true) (hi : itmB it = true) : ∀ x ∈ ft1 es it, itmB x.it = true := by
 intro x hx
 unfold ft1 putP at hx
 rcases List.mem_append.1 hx with h1 | h1
 ·exact h x (List.mem_of_mem_take h1)
 ·rcases List.mem_cons.1 h1 with h2 | h2
  ·subst h2; rw [neE_it]; exact hi
  ·exact h x (List.mem_of_mem_drop h2)
theorem ftN_it {es : List En} {its : List It} (h : ∀ x ∈ es, itmB x.it = true) (hi : ∀ x ∈ its, itmB x = true) : ∀ x ∈ ftN es its, itmB x.it = true := by
 unfold ftN
 induction its generalizing es with
 | nil => exact h
 | cons it its ih => exact ih (ft1_it h (hi it List.mem_cons_self)) (fun y hy => hi y (List.mem_cons_of_mem _ hy))
theorem cut1_mem {es : List En} {x : En} (h : x ∈ cut1 es) : x ∈ es := by
 unfold cut1 at h
 rcases List.mem_append.1 h with h1 | h1
 ·exact List.mem_of_mem_take h1
 ·exact List.mem_of_mem_drop h1
theorem cutE_mem (n : Nat) : ∀ {es : List En} {x : En}, x ∈ cutE n es -> x ∈ es := by
 induction n with
 | zero => intro es x h; exact h
 | succ n ih =>
  intro es x h
  unfold cutE at h
  split at h
  ·exact cut1_mem (ih h)
  ·exact h
theorem cutE_ris (n : Nat) : ∀ {es : List En}, risB (enKs es) = true -> risB (enKs (cutE n es)) = true := by
 induction n with
 | zero => intro es h; exact h
 | succ n ih =>
  intro es h
  unfold cutE
  split
  ·exact ih (ris_cut1 h)
  ·exact h
theorem cutE_len (n : Nat) : ∀ {es : List En}, es.length <= n + 12 -> (cutE n es).length <= 12 := by
 induction n with
 | zero => intro es h; show es.length <= 12; omega
 | succ n ih =>
  intro es h
  unfold cutE
  by_cases h1 : 12 < es.length
  ·rw [if_pos h1]
   have := len_cut1 es (by omega)
   exact ih (by omega)
  ·rw [if_neg h1]; omega
theorem ftV_len (es : List En) (its : List It) : (ftV es its).length <= 12 := by
 unfold ftV
 exact cutE_len _ (by have := len_ftN es its; omega)
theorem sb_ft {s : Sb} {fu ft : ByteArray} {its : List It} (h : sbB s = true) (hf : fdB fu ft its = true) : sbB (ftS s ft its) = true := by
 obtain ⟨h1, h2, h3, h4, h5⟩ := (sb_iff s).1 h
 obtain ⟨f1, f2, f3, f4⟩ := fd_its hf
 refine (sb_iff _).2 ⟨h1, f2, ftV_len _ _, fun x hx => ?_, ?_⟩
 ·exact ftN_it h4 f4 x (cutE_mem _ hx)
 ·exact cutE_ris _ (ris_ftN h5 its)
theorem enKs_rdAll (es : List En) : enKs (rdAll es) = enKs es := by
 unfold enKs rdAll
 rw [List.map_map]
 rfl
theorem sb_al {s : Sb} (h : sbB s = true) : sbB (alS s) = true := by
 obtain ⟨h1, h2, h3, h4, h5⟩ := (sb_iff s).1 h
 refine (sb_iff _).2 ⟨h1, h2, ?_, fun x hx => ?_, ?_⟩
 ·show (rdAll s.es).length <= 12
  unfold rdAll
  rw [List.length_map]; exact h3
 ·obtain ⟨y, hy, rfl⟩ := List.mem_map.1 hx
  exact h4 y hy
 ·show risB (enKs (rdAll s.es)) = true
  rw [enKs_rdAll]; exact h5
theorem enKs_set (es : List En) (p : Nat) (x : En) (hp : p < es.length) (hx : x.it.id = es[p].it.id) : enKs (es.set p x) = enKs es := by
 unfold enKs
 apply List.ext_getElem?
 intro j
 rw [List.getElem?_map, List.getElem?_map, List.getElem?_set]
 by_cases e : p = j
 ·subst e; simp [hp, hx]
 ·rw [if_neg e]
theorem sb_mk {s : Sb} (id : ByteArray) (k : Int) (h : sbB s = true) : sbB (mkS s id k) = true := by
 obtain ⟨h1, h2, h3, h4, h5⟩ := (sb_iff s).1 h
 have hes : (mkS s id k).es = mkAt s.es (plK (enKs s.es) id) k := rfl
 rcases Nat.lt_or_ge (plK (enKs s.es) id) s.es.length with hp | hp
 ·have e : mkAt s.es (plK (enKs s.es) id) k = s.es.set (plK (enKs s.es) id) (mkE s.es[plK (enKs s.es) id] k) := by
   unfold mkAt; rw [List.getElem?_eq_getElem hp]
  rw [e] at hes
  refine (sb_iff _).2 ⟨h1, h2, ?_, fun x hx => ?_, ?_⟩
  ·rw [hes, List.length_set]; exact h3
  ·rw [hes] at hx
   rcases List.mem_or_eq_of_mem_set hx with h6 | h6
   ·exact h4 x h6
   ·rw [h6, mkE_it]; exact h4 _ (List.getElem_mem hp)
  ·rw [hes, enKs_set _ _ _ hp (by rw [mkE_it])]; exact h5
 ·have e : mkAt s.es (plK (enKs s.es) id) k = s.es := by
   unfold mkAt; rw [List.getElem?_eq_none hp]
  rw [e] at hes
  exact (sb_iff _).2 ⟨h1, h2, by rw [hes]; exact h3, by rw [hes]; exact h4, by rw [hes]; exact h5⟩
theorem sbKs_set (ss : List Sb) (p : Nat) (x : Sb) (hp : p < ss.length) (hx : x.u = ss[p].u) : sbKs (ss.set p x) = sbKs ss := by
 unfold sbKs
 apply List.ext_getElem?
 intro j
 rw [List.getElem?_map, List.getElem?_map, List.getElem?_set]
 by_cases e : p = j
 ·subst e; simp [hp, hx]
 ·rw [if_neg e]
theorem rd_set {ss : List Sb} (h : rdB ss = true) (p : Nat) (x : Sb) (hp : p < ss.length) (hu : x.u = ss[p].u) (hx : sbB x = true) : rdB (ss.set p x) = true := by
 obtain ⟨h1, h2, h3⟩ := (rd_iff9 ss).1 h
 refine (rd_iff9 _).2 ⟨by rw [List.length_set]; exact h1, fun s hs => ?_, by rw [sbKs_set ss p x hp hu]; exact h3⟩
 rcases List.mem_or_eq_of_mem_set hs with h4 | h4
 ·exact h2 s h4
 ·rw [h4]; exact hx
theorem op_add {o : OpD} (h : opB o = true) (hk : o.k = 1) : nmB o.u 20 = true := by
 unfold opB at h
 rw [if_pos (.inl hk)] at h
 simp only [Bool.and_eq_true] at h
 exact h.1.1.1
theorem op_fd {o : OpD} (h : opB o = true) (hk : o.k = 3) : fdB o.fu o.ft o.its = true := by
 unfold opB at h
 rw [if_neg (by omega), if_pos hk] at h
 simp only [Bool.and_eq_true] at h
 exact h.2
theorem ttB_nil : ttB ⟨#[]⟩ = true := by decide
theorem nm_size9 {s : ByteArray} {n : Nat} (h : nmB s n = true) : s.size <= n := by
 unfold nmB at h
 simp only [Bool.and_eq_true, decide_eq_true_eq] at h
 exact h.1.2
theorem tt_size {s : ByteArray} (h : ttB s = true) : s.size <= 24 := by
 unfold ttB at h
 simp only [Bool.and_eq_true, decide_eq_true_eq] at h
 exact h.1
theorem itm_sz {x : It} (h : itmB x = true) : x.id.size <= 8 /\ x.ti.size <= 24 := by
 unfold itmB itB at h
 simp only [Bool.and_eq_true] at h
 exact ⟨nm_size9 h.1.1, tt_size h.1.2⟩
theorem rd_sz {ss : List Sb} (h : rdB ss = true) : ∀ s ∈ ss, SbSz s /\ ∀ x ∈ s.es, EnSz x := by
 intro s hs
 obtain ⟨h1, h2, h3, h4, h5⟩ := (sb_iff s).1 (rd_sub h s hs)
 have a := nm_size9 h1
 have b := tt_size h2
 refine ⟨by unfold SbSz maxLen; omega, fun x hx => ?_⟩
 have c := itm_sz (h4 x hx)
 unfold EnSz maxLen
 omega
theorem chV_rd {ss rs : List Sb} {o : OpD} (h : rdB ss = true) (ho : opB o = true) (hd : chV ss o = some rs) : rdB rs = true := by
 unfold chV at hd
 split at hd
 ·cases hd
 ·rename_i s hs
  obtain ⟨hp, rfl⟩ := List.getElem?_eq_some_iff.1 hs
  have hsb := rd_sub h _ (List.getElem_mem hp)
  split at hd
  ·split at hd
   ·obtain rfl := Option.some.inj hd
    obtain ⟨h1, h2, h3⟩ := (rd_iff9 ss).1 h
    refine (rd_iff9 _).2 ⟨?_, fun s hs => ?_, ?_⟩
    ·rw [List.length_append, List.length_take, List.length_drop]; omega
    ·rcases List.mem_append.1 hs with h4 | h4
     ·exact h2 s (List.mem_of_mem_take h4)
     ·exact h2 s (List.mem_of_mem_drop h4)
    ·unfold sbKs
     rw [List.map_append, List.map_take, List.map_drop]
     exact ris_cut h3 _
   ·split at hd
    ·obtain rfl := Option.some.inj hd
     exact rd_set h _ _ hp rfl (sb_al hsb)
    ·split at hd
     ·rename_i h3
      obtain rfl := Option.some.inj hd
      exact rd_set h _ _ hp rfl (sb_ft hsb (op_fd ho h3))
     ·split at hd
      ·obtain rfl := Option.some.inj hd
       exact rd_set h _ _ hp rfl (sb_mk _ _ hsb)
      ·cases hd
  ·cases hd
theorem sb_pg {s : Sb} (d : Int) (h : sbB s = true) : sbB (pg1 d s) = true := by
 obtain ⟨h1, h2, h3, h4, h5⟩ := (sb_iff s).1 h
 refine (sb_iff _).2 ⟨h1, h2, Nat.le_trans (List.length_filter_le _ _) h3, fun x hx => h4 x (List.mem_filter.1 hx).1, ?_⟩
 rw [ris_iff] at h5 ⊢
 exact h5.sublist (List.filter_sublist.map _)
theorem doI_rd {ss rs : List Sb} {o : OpD} (h : rdB ss = true) (ho : opB o = true) (hd : doI ss o = some rs) : rdB rs = true := by
 unfold doI at hd
 split at hd
 ·rename_i hk
  split at hd
  ·cases hd
  ·rename_i hno
   obtain rfl := Option.some.inj hd
   obtain ⟨h1, h2, h3⟩ := (rd_iff9 ss).1 h
   have hfb : fnB (sbKs ss) o.u = false := by
    cases hf : fnB (sbKs ss) o.u with
    | false => rfl
    | true => exact absurd (.inl hf) hno
   have hl6 : ss.length ≠ 6 := fun e => hno (.inr e)
   refine (rd_iff9 _).2 ⟨?_, fun s hs => ?_, ?_⟩
   ·unfold putP
    rw [List.length_append, List.length_take, List.length_cons, List.length_drop, if_neg (by simp)]
    omega
   ·unfold putP at hs
    rcases List.mem_append.1 hs with h4 | h4
    ·exact h2 s (List.mem_of_mem_take h4)
    ·rcases List.mem_cons.1 h4 with h5 | h5
     ·subst h5
      refine (sb_iff _).2 ⟨op_add ho hk, ttB_nil, by simp, (fun x hx => by cases hx), rfl⟩
     ·exact h2 s (List.mem_of_mem_drop h5)
   ·have h6 := ris_put h3 o.u
    rw [hfb] at h6
    unfold sbKs putP at h6 ⊢
    rw [List.map_append, List.map_take, List.map_cons, List.map_drop]
    exact h6
 ·split at hd
  ·obtain rfl := Option.some.inj hd
   obtain ⟨h1, h2, h3⟩ := (rd_iff9 ss).1 h
   refine (rd_iff9 _).2 ⟨by unfold pgS; rw [List.length_map]; exact h1, fun s hs => ?_, ?_⟩
   ·obtain ⟨y, hy, rfl⟩ := List.mem_map.1 hs
    exact sb_pg _ (h2 y hy)
   ·have e : sbKs (pgS ss o.d) = sbKs ss := by
     unfold sbKs pgS
     rw [List.map_map]
     rfl
    rw [e]; exact h3
  ·exact chV_rd h ho hd
theorem doV_rd {ss rs : List Sb} {o : OpD} (hd : doV ss o = some rs) : rdB rs = true := by
 unfold doV at hd
 split at hd
 ·rename_i h
  exact doI_rd h.1 h.2 hd
 ·cases hd
end Go.Proofs.YtffkakpbelknaaaGreatDoor
namespace Go.Proofs.YtffkakpbelknaaaGreatDoor
open Go.ChangeShapes Go.WideShapes Go.ChangeAt Go.RowKit
set_option linter.unusedVariables false
def fdG : List Sb -> List OpD -> List Sb × Nat
 | r, [] => (r, 0)
 | r, o :: os => match doV r o with
  | none => (r, 0)
  | some r2 => ((fdG r2 os).1, (fdG r2 os).2 + 1)
def fdV (os : List OpD) : List Sb × Nat := fdG [] (os.take 500)
theorem fdG_none {r : List Sb} {o : OpD} {os : List OpD} (h : doV r o = none) : fdG r (o :: os) = (r, 0) := by
 show (match doV r o with | none => (r, 0) | some r2 => ((fdG r2 os).1, (fdG r2 os).2 + 1)) = _
 rw [h]
theorem fdG_some {r r2 : List Sb} {o : OpD} {os : List OpD} (h : doV r o = some r2) : fdG r (o :: os) = ((fdG r2 os).1, (fdG r2 os).2 + 1) := by
 show (match doV r o with | none => (r, 0) | some r2 => ((fdG r2 os).1, (fdG r2 os).2 + 1)) = _
 rw [h]
structure FdH (os : List OpD) (k : Nat) (r : List Sb) : Prop where
 le : k <= os.length /\ k <= 500
 rd : rdB r = true
 fst : (fdV os).1 = (fdG r ((os.take 500).drop k)).1
 snd : (fdV os).2 = (fdG r ((os.take 500).drop k)).2 + k
theorem rdB_nil : rdB [] = true := rfl
theorem FdH.zero (os : List OpD) : FdH os 0 [] := ⟨⟨Nat.zero_le _, Nat.zero_le _⟩, rdB_nil, rfl, rfl⟩
theorem drop_take9 (os : List OpD) (k : Nat) (hk : k < os.length) (hk5 : k < 500) : (os.take 500).drop k = os[k] :: (os.take 500).drop (k + 1) := by
 have h : k < (os.take 500).length := by rw [List.length_take]; omega
 rw [List.drop_eq_getElem_cons h, List.getElem_take]
theorem FdH.stop {os : List OpD} {k : Nat} {r : List Sb} (h : FdH os k r) (hk : k < os.length) (hk5 : k < 500) (hd : doV r os[k] = none) : (fdV os).1 = r /\ (fdV os).2 = k := by
 have h1 := h.fst
 have h2 := h.snd
 rw [drop_take9 os k hk hk5, fdG_none hd] at h1 h2
 exact ⟨h1, by rw [h2]; exact Nat.zero_add _⟩
theorem FdH.next {os : List OpD} {k : Nat} {r r2 : List Sb} (h : FdH os k r) (hk : k < os.length) (hk5 : k < 500) (hd : doV r os[k] = some r2) : FdH os (k + 1) r2 := by
 have h1 := h.fst
 have h2 := h.snd
 rw [drop_take9 os k hk hk5, fdG_some hd] at h1 h2
 exact ⟨⟨by omega, by omega⟩, doV_rd hd, h1, by omega⟩
theorem FdH.over {os : List OpD} {k : Nat} {r : List Sb} (h : FdH os k r) (hk : ¬ (k < os.length /\ k < 500)) : (fdV os).1 = r /\ (fdV os).2 = k := by
 have h1 := h.fst
 have h2 := h.snd
 have e : (os.take 500).drop k = [] := List.drop_of_length_le (by have := h.le; rw [List.length_take]; omega)
 rw [e] at h1 h2
 have e2 : fdG r [] = (r, 0) := rfl
 rw [e2] at h1 h2
 exact ⟨h1, by rw [h2]; exact Nat.zero_add _⟩
theorem FdH.all {os : List OpD} {k : Nat} {r : List Sb} (h : FdH os k r) (hk : ¬ (k < os.length /\ k < 500)) : (k : Int) = (if (os.length : Int) < 500 then (os.length : Int) else 500) := by
 have := h.le
 split <;> omega
end Go.Proofs.YtffkakpbelknaaaGreatDoor
namespace Go.Proofs.YtffkakpbelknaaaGreatDoor
open Go.ChangeShapes Go.WideShapes Go.ChangeAt Go.RowKit
set_option linter.unusedVariables false
theorem OwnD.none (w : World) (B : Nat) : OwnD w B (.slice Option.none 0 0) [] := ⟨OwnR.nil _ _ _, (fun p hp => by cases hp), by unfold ApartD; simp⟩
theorem OwnD.at {w : World} {B : Nat} {v : Value} {qs : List (Sb × Value)} {ss : List Sb} (h : OwnD w B v qs) (hq : qs.map Prod.fst = ss) (hs : ∀ s ∈ ss, SbSz s /\ ∀ x ∈ s.es, EnSz x) : SbAt w w.heap.size v ss := OwnS.at (show OwnS w B v ss from ⟨qs, hq, h.1, h.2.1⟩) hs
theorem OwnD.lt {w : World} {B : Nat} {v : Value} {qs : List (Sb × Value)} (h : OwnD w B v qs) : (∀ b, v.ownBlock = Option.some b -> b < w.heap.size) /\ ∀ p ∈ qs, ∀ b, p.2.ownBlock = Option.some b -> b < w.heap.size := ⟨fun b hb => (World.ownsRow.lt h.1 b hb).2, fun p hp b hb => (World.ownsRow.lt (h.2.1 p hp) b hb).2⟩
theorem wpAnyT_pair {P : Program} {md : Region.Mode} {Q : Exit -> Act -> World -> Prop} {A B : World -> Prop} {t : Nat} {l : List Oper} {L : Array Bool} {a : Act} {w : World} (i j g : Nat) {oi oj : Oper} (hr : Region.ready md l.toArray L = [i, j])
  (hoi : l[i]? = some oi) (hoj : l[j]? = some oj) (hwi : Region.wanted oi (yielded l.toArray a.tmps) = true) (hwj : Region.wanted oj (yielded l.toArray a.tmps) = true)
  (hi : ∀ K : Act -> World -> Prop, (∀ a w, Sx A B t (L.setIfInBounds i true) w -> (Sx A B t (L.setIfInBounds i true) w -> wpAnyT P md l.toArray Q A B t g (L.setIfInBounds i true) a w) -> K a w) -> oi.wp P a w K Q)
  (hj : ∀ K : Act -> World -> Prop, (∀ a w, Sx A B t (L.setIfInBounds j true) w -> (Sx A B t (L.setIfInBounds j true) w -> wpAnyT P md l.toArray Q A B t g (L.setIfInBounds j true) a w) -> K a w) -> oj.wp P a w K Q) : wpAnyT P md l.toArray Q A B t (g + 1) L a w := by
 refine ⟨fun h0 => (by rw [hr] at h0; cases h0), fun k hk => ?_⟩
 rw [hr] at hk
 have hk' : k = i \/ k = j := by simpa using hk
 rcases hk' with rfl | rfl
 ·unfold wpOp
  have ho' : l.toArray[k]? = some oi := by simpa using hoi
  simp only [ho']
  rw [if_pos hwi]
  exact .inl (hi _ (fun _ _ h1 h2 => ⟨h1, h2 h1⟩))
 ·unfold wpOp
  have ho' : l.toArray[k]? = some oj := by simpa using hoj
  simp only [ho']
  rw [if_pos hwj]
  exact .inl (hj _ (fun _ _ h1 h2 => ⟨h1, h2 h1⟩))
theorem box_row {α : Type} {k : Nat} {C : α -> List Value} {e t : TypeId} {w : World} {B g : Nat} {cs : Array Value} {v : Value} {l : List α} (hZ : Box w g cs t) (h : OwnR e k C w B v l) (he : e ≠ t) : v.ownBlock ≠ Option.some g := by
 intro hb
 rcases h.2 with ⟨rfl, _⟩ | ⟨g', cap, cur, rfl, _, hg, _⟩
 ·cases hb
 ·have h2 : g' = g := by simpa [Value.ownBlock] using hb
  subst h2
  unfold Box at hZ
  rw [hZ] at hg
  have h3 := Option.some.inj hg
  injection h3 with _ h4
  exact he h4.symm
theorem OwnD.offBox {w : World} {B g : Nat} {cs : Array Value} {v : Value} {qs : List (Sb × Value)} (h : OwnD w B v qs) (hZ : Box w g cs 42) (z : Value) : OwnD (w.setCell ⟨g, 0, Option.none⟩ z) B v qs := h.off ⟨g, 0, Option.none⟩ z (box_row hZ h.1 (by decide)) (fun q hq => box_row hZ (h.2.1 q hq) (by decide))
end Go.Proofs.YtffkakpbelknaaaGreatDoor
namespace Go.Proofs.YtffkakpbelknaaaGreatDoor
open Go.ChangeShapes Go.WideShapes Go.ChangeAt Go.RowKit
set_option linter.unusedVariables false
def OutFo (os : List OpD) (w : World) (e : Ending) (w' : World) : Prop := ∃ V qs, e = .returned (.tuple #[.agg #[V], .int .i64 ((fdV os).2 : Int)]) /\ qs.map Prod.fst = (fdV os).1 /\ OwnD w' w.heap.size V qs /\ Below w.heap.size w w'
end Go.Proofs.YtffkakpbelknaaaGreatDoor
namespace Go.Proofs.YtffkakpbelknaaaGreatDoor
open Go.ChangeShapes Go.WideShapes Go.ChangeAt Go.RowKit
set_option linter.unusedVariables false
theorem specFolded_any (v : Value) (os : List OpD) (w : World) (h : OpsAt w w.heap.size v os) :
  Calls Tryz.prog 132 #[v] w (OutFo os w) := by
 have HI := Lib.hid h
 obtain ⟨a, cap, rfl, hl, hm, hc⟩ := h.raw
 unfold maxLen at hm
 clear hc h
 have hb0 : Below w.heap.size w ((w.alloc (.cells #[.slice none 0 0] 42)).alloc (.cells #[.slice none 0 0] 42)) := ((Below.refl _ _).alloc (Nat.le_refl _) _).alloc (by simp) _
 have hZ0 : Box ((w.alloc (.cells #[.slice none 0 0] 42)).alloc (.cells #[.slice none 0 0] 42)) w.heap.size #[.slice none 0 0] 42 := (Box.new w #[.slice none 0 0] 42).alloc _
 have hR0 : Box ((w.alloc (.cells #[.slice none 0 0] 42)).alloc (.cells #[.slice none 0 0] 42)) (w.heap.size + 1) #[.slice none 0 0] 42 := by
  have := Box.new (w.alloc (.cells #[.slice none 0 0] 42)) #[.slice none 0 0] 42
  simpa using this
 have hs0 : ((w.alloc (.cells #[.slice none 0 0] 42)).alloc (.cells #[.slice none 0 0] 42)).heap.size = w.heap.size + 2 := by simp
 have HD0 : Hid (OwnD ((w.alloc (.cells #[.slice none 0 0] 42)).alloc (.cells #[.slice none 0 0] 42)) (w.heap.size + 2) (.slice none 0 0) []) := Lib.hid (OwnD.none _ _)
 go_enter Tryz.func132, Tryz.ntmps132
 go_wp2
 generalize ((w.alloc (.cells #[.slice none 0 0] 42)).alloc (.cells #[.slice none 0 0] 42)) = Wq at hb0 hZ0 hR0 hs0 HD0 ⊢
 go_loopw [5] (fun i wr => ∃ (k : Nat) (r : List Sb) (va : Option Addr) (vn vc : Nat) (qs : List (Sb × Value)), k <= os.length /\ k <= 500 /\ i = .int .i64 (k : Int) /\ Hid (FdH os k r) /\ Hid (qs.map Prod.fst = r) /\ Hid (OwnD wr (w.heap.size + 2) (.slice va vn vc) qs) /\ Box wr (w.heap.size + 1) #[.slice va vn vc] 42 /\ Box wr w.heap.size #[.slice none 0 0] 42 /\ Below w.heap.size w wr /\ w.heap.size + 2 <= wr.heap.size) (fun i _ => 500 - (intOf i).toNat)
 case atStart => exact ⟨0, [], none, 0, 0, [], Nat.zero_le _, Nat.zero_le _, rfl, Lib.hid (FdH.zero os), Lib.hid rfl, HD0, hR0, hZ0, hb0, by omega⟩
 case round =>
  obtain ⟨k, r, va, vn, vc, qs, hk, hk5, rfl, HF, HQ, HD, hR, hZ, hB, hsr⟩ := hrel
  clear hb0 hR0 hZ0 hs0 HD0
  by_cases hlt : k < os.length /\ k < 500
  ·obtain ⟨hlo, hl5⟩ := hlt
   obtain ⟨a', cap', hv, q1, q2, hc⟩ := (HI.out.below hB).raw
   cases hv
   clear q1 q2
   obtain ⟨b, off, rfl, hbb, hr⟩ := hc k hlo
   obtain ⟨y, c0, c1, c2, c3, c4, c5, c6, hy, hz⟩ := hr k hlo
   have HNx := Lib.hid (fun r2 h => HF.out.next (r2 := r2) hlo hl5 h)
   have HSt := Lib.hid (fun h => HF.out.stop hlo hl5 h)
   obtain ⟨o, ho⟩ : ∃ o, o = os[k] := ⟨_, rfl⟩
   rw [<- ho] at c0 c1 c2 c3 c4 c5 hy hz HNx HSt
   obtain ⟨xa, xc, rfl⟩ := hy.1.slice
   have HOz := Lib.hid hz
   have HYw : Hid (ItAt wr.drew wr.drew.heap.size (.slice xa o.its.length xc) o.its) := Lib.hid (hy.mono hB.size)
   have hbw : b < wr.heap.size := by have := hB.size; omega
   have hkl : decide ((k : Int) < (os.length : Int)) = true := decide_eq_true (by omega)
   have hk50 : decide ((k : Int) < 500) = true := decide_eq_true (by omega)
   clear hr hc ho hy hz
   have hA0 : (Box wr.drew (w.heap.size + 1) #[.slice va vn vc] 42) /\ (wr.drew.cell? ⟨b, off + k * 7, none⟩ = some (.int .i64 o.k) /\ wr.drew.cell? ⟨b, off + k * 7 + 1, none⟩ = some (.string o.u) /\ wr.drew.cell? ⟨b, off + k * 7 + 2, none⟩ = some (.string o.i) /\ wr.drew.cell? ⟨b, off + k * 7 + 3, none⟩ = some (.int .i64 o.d) /\ wr.drew.cell? ⟨b, off + k * 7 + 4, none⟩ = some (.string o.fu) /\ wr.drew.cell? ⟨b, off + k * 7 + 5, none⟩ = some (.string o.ft) /\ wr.drew.cell? ⟨b, off + k * 7 + 6, none⟩ = some (.slice xa o.its.length xc)) := ⟨hR.drew, c0, c1, c2, c3, c4, c5, c6⟩
   have HKA : Hid (∀ w1 w2 : World, wr.heap.size <= w1.heap.size -> Below w1.heap.size w1 w2 -> ((Box w1 (w.heap.size + 1) #[.slice va vn vc] 42) /\ (w1.cell? ⟨b, off + k * 7, none⟩ = some (.int .i64 o.k) /\ w1.cell? ⟨b, off + k * 7 + 1, none⟩ = some (.string o.u) /\ w1.cell? ⟨b, off + k * 7 + 2, none⟩ = some (.string o.i) /\ w1.cell? ⟨b, off + k * 7 + 3, none⟩ = some (.int .i64 o.d) /\ w1.cell? ⟨b, off + k * 7 + 4, none⟩ = some (.string o.fu) /\ w1.cell? ⟨b, off + k * 7 + 5, none⟩ = some (.string o.ft) /\ w1.cell? ⟨b, off + k * 7 + 6, none⟩ = some (.slice xa o.its.length xc))) -> ((Box w2 (w.heap.size + 1) #[.slice va vn vc] 42) /\ (w2.cell? ⟨b, off + k * 7, none⟩ = some (.int .i64 o.k) /\ w2.cell? ⟨b, off + k * 7 + 1, none⟩ = some (.string o.u) /\ w2.cell? ⟨b, off + k * 7 + 2, none⟩ = some (.string o.i) /\ w2.cell? ⟨b, off + k * 7 + 3, none⟩ = some (.int .i64 o.d) /\ w2.cell? ⟨b, off + k * 7 + 4, none⟩ = some (.string o.fu) /\ w2.cell? ⟨b, off + k * 7 + 5, none⟩ = some (.string o.ft) /\ w2.cell? ⟨b, off + k * 7 + 6, none⟩ = some (.slice xa o.its.length xc)))) := Lib.hid (fun w1 w2 hs hb1 h => by
    have kc : ∀ o x, w1.cell? ⟨b, o, none⟩ = some x -> w2.cell? ⟨b, o, none⟩ = some x := fun o x h => by rw [hb1.cell (p := ⟨b, o, none⟩) (show b < w1.heap.size by omega)]; exact h
    exact ⟨h.1.keep hb1 h.1.lt, kc _ _ h.2.1, kc _ _ h.2.2.1, kc _ _ h.2.2.2.1, kc _ _ h.2.2.2.2.1, kc _ _ h.2.2.2.2.2.1, kc _ _ h.2.2.2.2.2.2.1, kc _ _ h.2.2.2.2.2.2.2⟩)
   have HKS : Hid (∀ (w1 : World) (g : Nat) (z : Value), w.heap.size + 2 <= g -> wr.heap.size <= g -> ((Box w1 (w.heap.size + 1) #[.slice va vn vc] 42) /\ (w1.cell? ⟨b, off + k * 7, none⟩ = some (.int .i64 o.k) /\ w1.cell? ⟨b, off + k * 7 + 1, none⟩ = some (.string o.u) /\ w1.cell? ⟨b, off + k * 7 + 2, none⟩ = some (.string o.i) /\ w1.cell? ⟨b, off + k * 7 + 3, none⟩ = some (.int .i64 o.d) /\ w1.cell? ⟨b, off + k * 7 + 4, none⟩ = some (.string o.fu) /\ w1.cell? ⟨b, off + k * 7 + 5, none⟩ = some (.string o.ft) /\ w1.cell? ⟨b, off + k * 7 + 6, none⟩ = some (.slice xa o.its.length xc))) -> ((Box (w1.setCell ⟨g, 0, none⟩ z) (w.heap.size + 1) #[.slice va vn vc] 42) /\ ((w1.setCell ⟨g, 0, none⟩ z).cell? ⟨b, off + k * 7, none⟩ = some (.int .i64 o.k) /\ (w1.setCell ⟨g, 0, none⟩ z).cell? ⟨b, off + k * 7 + 1, none⟩ = some (.string o.u) /\ (w1.setCell ⟨g, 0, none⟩ z).cell? ⟨b, off + k * 7 + 2, none⟩ = some (.string o.i) /\ (w1.setCell ⟨g, 0, none⟩ z).cell? ⟨b, off + k * 7 + 3, none⟩ = some (.int .i64 o.d) /\ (w1.setCell ⟨g, 0, none⟩ z).cell? ⟨b, off + k * 7 + 4, none⟩ = some (.string o.fu) /\ (w1.setCell ⟨g, 0, none⟩ z).cell? ⟨b, off + k * 7 + 5, none⟩ = some (.string o.ft) /\ (w1.setCell ⟨g, 0, none⟩ z).cell? ⟨b, off + k * 7 + 6, none⟩ = some (.slice xa o.its.length xc)))) := Lib.hid (fun w1 g z hg hg2 h => by
    have kc : ∀ o x, w1.cell? ⟨b, o, none⟩ = some x -> (w1.setCell ⟨g, 0, none⟩ z).cell? ⟨b, o, none⟩ = some x := fun o x h => by
     rw [World.cell?_setCell_other _ _ _ _ (show (⟨g, 0, none⟩ : Addr) ≠ ⟨b, o, none⟩ from fun e => by have := congrArg Addr.block e; simp only at this; omega)]; exact h
    exact ⟨h.1.other ⟨g, 0, none⟩ z (show w.heap.size + 1 ≠ g by omega), kc _ _ h.2.1, kc _ _ h.2.2.1, kc _ _ h.2.2.2.1, kc _ _ h.2.2.2.2.1, kc _ _ h.2.2.2.2.2.1, kc _ _ h.2.2.2.2.2.2.1, kc _ _ h.2.2.2.2.2.2.2⟩)
   clear c0 c1 c2 c3 c4 c5 c6
   have HDon : Hid (∀ W, Below wr.drew.heap.size wr.drew W -> Calls Tryz.prog 164 #[.agg #[.slice va vn vc], opV o (.slice xa o.its.length xc)] W (OutDn (doV r o) W)) := Lib.hid (fun W hW => specDone_any _ _ r o W (((HD.out.drew.at HQ.out (rd_sz HF.out.rd)).below hW).mono hW.size) ((HYw.out.below hW).mono hW.size) HOz.out)
   have hZ1 := hZ.drew
   have hB1 := hB.drew
   have HD1 := Lib.hid HD.out.drew
   have hsd : w.heap.size + 2 <= wr.drew.heap.size := hsr
   have x9 : wr.cell? ⟨w.heap.size + 1, 0, none⟩ = some (.slice va vn vc) := hR.cell 0 _ rfl
   clear HYw hZ hB HD
   go_wp2
   refine wp_region_T (fun w' => (Box w' (w.heap.size + 1) #[.slice va vn vc] 42) /\ (w'.cell? ⟨b, off + k * 7, none⟩ = some (.int .i64 o.k) /\ w'.cell? ⟨b, off + k * 7 + 1, none⟩ = some (.string o.u) /\ w'.cell? ⟨b, off + k * 7 + 2, none⟩ = some (.string o.i) /\ w'.cell? ⟨b, off + k * 7 + 3, none⟩ = some (.int .i64 o.d) /\ w'.cell? ⟨b, off + k * 7 + 4, none⟩ = some (.string o.fu) /\ w'.cell? ⟨b, off + k * 7 + 5, none⟩ = some (.string o.ft) /\ w'.cell? ⟨b, off + k * 7 + 6, none⟩ = some (.slice xa o.its.length xc))) (fun _ => True) 11 (by kernel_rfl) 12 rfl ?_
   refine wA 7 [0, 1, 2, 3, 4] ⟨hA0, fun _ => trivial⟩ ?_
   simp only [pick, List.filterMap_cons, List.filterMap_nil, List.getElem?_cons_zero, List.getElem?_cons_succ]
   refine wS (.agg #[.slice va vn vc]) (fun w hw => by have e0 := hw.1.cell 0 _ rfl; go_simp) ?_
   refine wS (.slice (some ⟨b, off, none⟩) os.length cap) (fun w hw => by go_simp) ?_
   refine wS (.int .i64 (k : Int)) (fun w hw => by go_simp) ?_
   refine wS (.pointer (some ⟨b, off + k * 7, none⟩)) (fun w hw => by go_simp) ?_
   refine wS (opV o (.slice xa o.its.length xc)) (fun w hw => by have e0 := hw.2.1; have e1 := hw.2.2.1; have e2 := hw.2.2.2.1; have e3 := hw.2.2.2.2.1; have e4 := hw.2.2.2.2.2.1; have e5 := hw.2.2.2.2.2.2.1; have e6 := hw.2.2.2.2.2.2.2; go_simp) ?_
   refine wpIf_nil (fun hS => ?_)
   clear hS
   clear x9
   have hAc := hA0
   clear hA0 hR
   have hwd : wr.heap.size <= wr.drew.heap.size := Nat.le_refl _
   generalize wr.drew = WD at hAc hZ1 hB1 HD1 HDon hsd hwd ⊢
   have hBd : Below WD.heap.size WD WD := Below.refl _ _
   cases hdv : doV r o with
   | none =>
    have HL : Hid (∀ W, Below WD.heap.size WD W -> Calls Tryz.prog 164 #[.agg #[.slice va vn vc], opV o (.slice xa o.its.length xc)] W (OutDn none W)) := by rw [<- hdv]; exact HDon
    unfold OutDn at HL
    have HZ := Lib.hid (HSt.out hdv)
    clear hdv HNx HSt HDon
    refine wpAnyT_pair 5 9 6 (by kernel_rfl) rfl rfl (by kernel_rfl) (by kernel_rfl) (fun K hK => ?_) (fun K hK => ?_)
    ·go_simp
     refine (HL.out _ hBd).mono ?_
     rintro e w2 ⟨rfl, hb2⟩
     replace hAc := HKA.out _ _ (Nat.le_trans hwd hBd.size) hb2 hAc
     replace hZ1 := hZ1.keep hb2 hZ1.lt
     replace hB1 := hB1.trans (hb2.mono hB1.size)
     replace HD1 := Lib.hid (HD1.out.keep hb2 (Nat.le_refl _))
     replace hBd := hBd.trans (hb2.mono hBd.size)
     refine hK _ _ ⟨hAc, fun _ => trivial⟩ (fun hS => ?_)
     clear hK K hS hb2
     refine wA 3 [6, 7, 8] ⟨hAc, fun _ => trivial⟩ ?_
     simp only [pick, List.filterMap_cons, List.filterMap_nil, List.getElem?_cons_zero, List.getElem?_cons_succ]
     refine wS (.tuple #[.agg #[.slice none 0 0], .bool false]) (fun w hw => by go_simp) ?_
     refine wS (.agg #[.slice none 0 0]) (fun w hw => by go_simp) ?_
     refine wS (.bool false) (fun w hw => by go_simp) ?_
     refine wpIf_nil (fun hS => ?_)
     clear hS
     refine wO 9 2 (fun K hK => ?_)
     go_simp
     have hT := Box.new (w2) #[.slice none 0 0] 42
     have hba : Below (w2).heap.size (w2) (w2.alloc (.cells #[.slice none 0 0] 42)) := (Below.refl _ _).alloc (Nat.le_refl _) _
     have hgz : w.heap.size + 2 <= (w2).heap.size := Nat.le_trans hsd hBd.size
     have hgd : wr.heap.size <= (w2).heap.size := Nat.le_trans hwd hBd.size
     replace hAc := HKA.out _ _ (Nat.le_trans hwd hBd.size) hba hAc
     replace hZ1 := hZ1.keep hba hZ1.lt
     replace hB1 := hB1.trans (hba.mono hB1.size)
     replace HD1 := Lib.hid (HD1.out.keep hba (Nat.le_refl _))
     replace hBd := hBd.trans (hba.mono hBd.size)
     refine hK _ _ ⟨hAc, fun _ => trivial⟩ (fun hS => ?_)
     clear hK K hS hba
     generalize w2.alloc (.cells #[.slice none 0 0] 42) = WZ at hAc hZ1 hB1 HD1 hT hBd ⊢
     generalize (w2).heap.size = gz at hT hgz hgd ⊢
     have t0 := hT.cell 0 _ rfl
     have tf := hT.free
     have hT2 := hT.set 0 (.slice none 0 0)
     have hA2 := HKS.out _ gz (.slice none 0 0) (by omega) (by omega) hAc
     have hZ2 := hZ1.other ⟨gz, 0, none⟩ (.slice none 0 0) (show w.heap.size ≠ gz by omega)
     have hB2 := hB1.setCell (p := ⟨gz, 0, none⟩) (show w.heap.size <= gz by omega) (.slice none 0 0)
     have HD2 := Lib.hid (HD1.out.offBox hT (.slice none 0 0))
     have hs2 : w.heap.size + 2 <= (WZ.setCell ⟨gz, 0, none⟩ (.slice none 0 0)).heap.size := Nat.le_of_lt (Nat.lt_of_le_of_lt hgz hT2.lt)
     refine wO 10 1 (fun K hK => ?_)
     go_simp
     refine hK _ _ ⟨hA2, fun _ => trivial⟩ (fun hS => ?_)
     clear hK K hS t0 tf
     refine wO 11 0 (fun K hK => ?_)
     go_simp
     refine hK _ _ ⟨hA2, fun _ => trivial⟩ (fun hS => ?_)
     clear hK K hS
     refine wpAnyT_over (by kernel_rfl) ?_
     obtain ⟨hR2, _⟩ := hA2
     generalize WZ.setCell ⟨gz, 0, none⟩ (.slice none 0 0) = W3 at hT2 hR2 hZ2 hB2 HD2 hs2 ⊢
     clear hAc hZ1 hB1 HD1 hT hBd
     have hZ := hZ2
     have hB := hB2
     have HD := HD2
     have x0 : W3.cell? ⟨w.heap.size + 1, 0, none⟩ = some (.slice va vn vc) := hR2.cell 0 _ rfl
     have z0 : W3.cell? ⟨w.heap.size, 0, none⟩ = some (.slice none 0 0) := hZ.cell 0 _ rfl
     have zf := hZ.free
     go_wp2
     have hZe := hZ.set 0 (.slice va vn vc)
     have hBe := hB.setCell (p := ⟨w.heap.size, 0, none⟩) (Nat.le_refl _) (.slice va vn vc)
     have hDe := (HD.out.aside ⟨w.heap.size, 0, none⟩ (.slice va vn vc) (show w.heap.size < w.heap.size + 2 by omega)).lower (show w.heap.size <= w.heap.size + 2 by omega)
     generalize W3.setCell ⟨w.heap.size, 0, none⟩ (.slice va vn vc) = We at hZe hBe hDe ⊢
     have p0 : We.cell? ⟨w.heap.size, 0, none⟩ = some (.slice va vn vc) := hZe.cell 0 _ rfl
     exact bodyPost_ret (v := .tuple #[.agg #[.slice va vn vc], .int .i64 ((fdV os).2 : Int)]) (by rw [HZ.out.2]; simp [results, Tryz.results132, go_sem, p0]) rfl ⟨_, qs, rfl, by rw [HZ.out.1]; exact HQ.out, hDe, hBe⟩
    ·go_simp
     have hT := Box.new (WD) #[.slice none 0 0] 42
     have hba : Below (WD).heap.size (WD) (WD.alloc (.cells #[.slice none 0 0] 42)) := (Below.refl _ _).alloc (Nat.le_refl _) _
     have hgz : w.heap.size + 2 <= (WD).heap.size := Nat.le_trans hsd hBd.size
     have hgd : wr.heap.size <= (WD).heap.size := Nat.le_trans hwd hBd.size
     replace hAc := HKA.out _ _ (Nat.le_trans hwd hBd.size) hba hAc
     replace hZ1 := hZ1.keep hba hZ1.lt
     replace hB1 := hB1.trans (hba.mono hB1.size)
     replace HD1 := Lib.hid (HD1.out.keep hba (Nat.le_refl _))
     replace hBd := hBd.trans (hba.mono hBd.size)
     refine hK _ _ ⟨hAc, fun _ => trivial⟩ (fun hS => ?_)
     clear hK K hS hba
     generalize WD.alloc (.cells #[.slice none 0 0] 42) = WZ at hAc hZ1 hB1 HD1 hT hBd ⊢
     generalize (WD).heap.size = gz at hT hgz hgd ⊢
     refine wO 5 5 (fun K hK => ?_)
     go_simp
     refine (HL.out _ hBd).mono ?_
     rintro e w2 ⟨rfl, hb2⟩
     replace hAc := HKA.out _ _ (Nat.le_trans hwd hBd.size) hb2 hAc
     replace hZ1 := hZ1.keep hb2 hZ1.lt
     replace hB1 := hB1.trans (hb2.mono hB1.size)
     replace HD1 := Lib.hid (HD1.out.keep hb2 (Nat.le_refl _))
     replace hT := hT.keep hb2 hT.lt
     replace hBd := hBd.trans (hb2.mono hBd.size)
     refine hK _ _ ⟨hAc, fun _ => trivial⟩ (fun hS => ?_)
     clear hK K hS hb2
     refine wA 2 [6, 7, 8] ⟨hAc, fun _ => trivial⟩ ?_
     simp only [pick, List.filterMap_cons, List.filterMap_nil, List.getElem?_cons_zero, List.getElem?_cons_succ]
     refine wS (.tuple #[.agg #[.slice none 0 0], .bool false]) (fun w hw => by go_simp) ?_
     refine wS (.agg #[.slice none 0 0]) (fun w hw => by go_simp) ?_
     refine wS (.bool false) (fun w hw => by go_simp) ?_
     refine wpIf_nil (fun hS => ?_)
     clear hS
     have t0 := hT.cell 0 _ rfl
     have tf := hT.free
     have hT2 := hT.set 0 (.slice none 0 0)
     have hA2 := HKS.out _ gz (.slice none 0 0) (by omega) (by omega) hAc
     have hZ2 := hZ1.other ⟨gz, 0, none⟩ (.slice none 0 0) (show w.heap.size ≠ gz by omega)
     have hB2 := hB1.setCell (p := ⟨gz, 0, none⟩) (show w.heap.size <= gz by omega) (.slice none 0 0)
     have HD2 := Lib.hid (HD1.out.offBox hT (.slice none 0 0))
     have hs2 : w.heap.size + 2 <= (w2.setCell ⟨gz, 0, none⟩ (.slice none 0 0)).heap.size := Nat.le_of_lt (Nat.lt_of_le_of_lt hgz hT2.lt)
     refine wO 10 1 (fun K hK => ?_)
     go_simp
     refine hK _ _ ⟨hA2, fun _ => trivial⟩ (fun hS => ?_)
     clear hK K hS t0 tf
     refine wO 11 0 (fun K hK => ?_)
     go_simp
     refine hK _ _ ⟨hA2, fun _ => trivial⟩ (fun hS => ?_)
     clear hK K hS
     refine wpAnyT_over (by kernel_rfl) ?_
     obtain ⟨hR2, _⟩ := hA2
     generalize w2.setCell ⟨gz, 0, none⟩ (.slice none 0 0) = W3 at hT2 hR2 hZ2 hB2 HD2 hs2 ⊢
     clear hAc hZ1 hB1 HD1 hT hBd
     have hZ := hZ2
     have hB := hB2
     have HD := HD2
     have x0 : W3.cell? ⟨w.heap.size + 1, 0, none⟩ = some (.slice va vn vc) := hR2.cell 0 _ rfl
     have z0 : W3.cell? ⟨w.heap.size, 0, none⟩ = some (.slice none 0 0) := hZ.cell 0 _ rfl
     have zf := hZ.free
     go_wp2
     have hZe := hZ.set 0 (.slice va vn vc)
     have hBe := hB.setCell (p := ⟨w.heap.size, 0, none⟩) (Nat.le_refl _) (.slice va vn vc)
     have hDe := (HD.out.aside ⟨w.heap.size, 0, none⟩ (.slice va vn vc) (show w.heap.size < w.heap.size + 2 by omega)).lower (show w.heap.size <= w.heap.size + 2 by omega)
     generalize W3.setCell ⟨w.heap.size, 0, none⟩ (.slice va vn vc) = We at hZe hBe hDe ⊢
     have p0 : We.cell? ⟨w.heap.size, 0, none⟩ = some (.slice va vn vc) := hZe.cell 0 _ rfl
     exact bodyPost_ret (v := .tuple #[.agg #[.slice va vn vc], .int .i64 ((fdV os).2 : Int)]) (by rw [HZ.out.2]; simp [results, Tryz.results132, go_sem, p0]) rfl ⟨_, qs, rfl, by rw [HZ.out.1]; exact HQ.out, hDe, hBe⟩
   | some r2 =>
    have HL : Hid (∀ W, Below WD.heap.size WD W -> Calls Tryz.prog 164 #[.agg #[.slice va vn vc], opV o (.slice xa o.its.length xc)] W (OutDn (some r2) W)) := by rw [<- hdv]; exact HDon
    unfold OutDn at HL
    have HFn := Lib.hid (HNx.out r2 hdv)
    clear hdv HNx HSt HDon
    refine wpAnyT_pair 5 9 6 (by kernel_rfl) rfl rfl (by kernel_rfl) (by kernel_rfl) (fun K hK => ?_) (fun K hK => ?_)
    ·go_simp
     refine (HL.out _ hBd).mono ?_
     rintro e w2 ⟨v2, qs2, rfl, hq2, hD2, hb2⟩
     obtain ⟨va2, vc2, hv2⟩ := hD2.1.slice
     obtain ⟨vn2, hvn⟩ : ∃ n, n = qs2.length := ⟨_, rfl⟩
     rw [<- hvn] at hv2
     clear hvn
     subst hv2
     have HQ2 := Lib.hid hq2
     clear hq2
     replace hAc := HKA.out _ _ (Nat.le_trans hwd hBd.size) hb2 hAc
     replace hZ1 := hZ1.keep hb2 hZ1.lt
     replace hB1 := hB1.trans (hb2.mono hB1.size)
     replace HD1 := Lib.hid (HD1.out.keep hb2 (Nat.le_refl _))
     have HDc : Hid (OwnD w2 (w.heap.size + 2) (.slice va2 vn2 vc2) qs2) := Lib.hid (hD2.lower (Nat.le_trans hsd hBd.size))
     clear hD2
     replace hBd := hBd.trans (hb2.mono hBd.size)
     refine hK _ _ ⟨hAc, fun _ => trivial⟩ (fun hS => ?_)
     clear hK K hS hb2
     refine wA 3 [6, 7, 8] ⟨hAc, fun _ => trivial⟩ ?_
     simp only [pick, List.filterMap_cons, List.filterMap_nil, List.getElem?_cons_zero, List.getElem?_cons_succ]
     refine wS (.tuple #[.agg #[.slice va2 vn2 vc2], .bool true]) (fun w hw => by go_simp) ?_
     refine wS (.agg #[.slice va2 vn2 vc2]) (fun w hw => by go_simp) ?_
     refine wS (.bool true) (fun w hw => by go_simp) ?_
     refine wpIf_nil (fun hS => ?_)
     clear hS
     refine wO 9 2 (fun K hK => ?_)
     go_simp
     have hT := Box.new (w2) #[.slice none 0 0] 42
     have hba : Below (w2).heap.size (w2) (w2.alloc (.cells #[.slice none 0 0] 42)) := (Below.refl _ _).alloc (Nat.le_refl _) _
     have hgz : w.heap.size + 2 <= (w2).heap.size := Nat.le_trans hsd hBd.size
     have hgd : wr.heap.size <= (w2).heap.size := Nat.le_trans hwd hBd.size
     replace hAc := HKA.out _ _ (Nat.le_trans hwd hBd.size) hba hAc
     replace hZ1 := hZ1.keep hba hZ1.lt
     replace hB1 := hB1.trans (hba.mono hB1.size)
     replace HD1 := Lib.hid (HD1.out.keep hba (Nat.le_refl _))
     replace HDc := Lib.hid (HDc.out.keep hba (Nat.le_refl _))
     replace hBd := hBd.trans (hba.mono hBd.size)
     refine hK _ _ ⟨hAc, fun _ => trivial⟩ (fun hS => ?_)
     clear hK K hS hba
     generalize w2.alloc (.cells #[.slice none 0 0] 42) = WZ at hAc hZ1 hB1 HD1 hT hBd HDc ⊢
     generalize (w2).heap.size = gz at hT hgz hgd ⊢
     have t0 := hT.cell 0 _ rfl
     have tf := hT.free
     have hT2 := hT.set 0 (.slice va2 vn2 vc2)
     have hA2 := HKS.out _ gz (.slice va2 vn2 vc2) (by omega) (by omega) hAc
     have hZ2 := hZ1.other ⟨gz, 0, none⟩ (.slice va2 vn2 vc2) (show w.heap.size ≠ gz by omega)
     have hB2 := hB1.setCell (p := ⟨gz, 0, none⟩) (show w.heap.size <= gz by omega) (.slice va2 vn2 vc2)
     have HD2 := Lib.hid (HD1.out.offBox hT (.slice va2 vn2 vc2))
     have HDc2 := Lib.hid (HDc.out.offBox hT (.slice va2 vn2 vc2))
     have hs2 : w.heap.size + 2 <= (WZ.setCell ⟨gz, 0, none⟩ (.slice va2 vn2 vc2)).heap.size := Nat.le_of_lt (Nat.lt_of_le_of_lt hgz hT2.lt)
     refine wO 10 1 (fun K hK => ?_)
     go_simp
     refine hK _ _ ⟨hA2, fun _ => trivial⟩ (fun hS => ?_)
     clear hK K hS t0 tf
     refine wO 11 0 (fun K hK => ?_)
     go_simp
     refine hK _ _ ⟨hA2, fun _ => trivial⟩ (fun hS => ?_)
     clear hK K hS
     refine wpAnyT_over (by kernel_rfl) ?_
     obtain ⟨hR2, _⟩ := hA2
     generalize WZ.setCell ⟨gz, 0, none⟩ (.slice va2 vn2 vc2) = W3 at hT2 hR2 hZ2 hB2 HD2 HDc2 hs2 ⊢
     clear hAc hZ1 hB1 HD1 hT hBd HDc
     have t0 : W3.cell? ⟨gz, 0, none⟩ = some (.slice va2 vn2 vc2) := hT2.cell 0 _ rfl
     have x0 : W3.cell? ⟨w.heap.size + 1, 0, none⟩ = some (.slice va vn vc) := hR2.cell 0 _ rfl
     have xf := hR2.free
     have hRn := Lib.hid (hR2.set 0 (.slice va2 vn2 vc2))
     have hZn := Lib.hid (hZ2.other ⟨w.heap.size + 1, 0, none⟩ (.slice va2 vn2 vc2) (show w.heap.size ≠ w.heap.size + 1 by omega))
     have hBn := Lib.hid (hB2.setCell (p := ⟨w.heap.size + 1, 0, none⟩) (show w.heap.size <= w.heap.size + 1 by omega) (.slice va2 vn2 vc2))
     have HDn := Lib.hid (HDc2.out.aside ⟨w.heap.size + 1, 0, none⟩ (.slice va2 vn2 vc2) (show w.heap.size + 1 < w.heap.size + 2 by omega))
     have hsn : w.heap.size + 2 <= (W3.setCell ⟨w.heap.size + 1, 0, none⟩ (.slice va2 vn2 vc2)).heap.size := by have e9 : (W3.setCell ⟨w.heap.size + 1, 0, none⟩ (.slice va2 vn2 vc2)).heap.size = W3.heap.size := (by simp [World.setCell]); omega
     clear hR2 hZ2 hB2 HD2 HDc2 hT2
     go_wp2
     go_roundw
     case rel => exact ⟨k + 1, r2, va2, vn2, vc2, qs2, by omega, by omega, by go_num, HFn, HQ2, HDn, hRn.out, hZn.out, hBn.out, hsn⟩
     case measure => simp [intOf]; omega
    ·go_simp
     have hT := Box.new (WD) #[.slice none 0 0] 42
     have hba : Below (WD).heap.size (WD) (WD.alloc (.cells #[.slice none 0 0] 42)) := (Below.refl _ _).alloc (Nat.le_refl _) _
     have hgz : w.heap.size + 2 <= (WD).heap.size := Nat.le_trans hsd hBd.size
     have hgd : wr.heap.size <= (WD).heap.size := Nat.le_trans hwd hBd.size
     replace hAc := HKA.out _ _ (Nat.le_trans hwd hBd.size) hba hAc
     replace hZ1 := hZ1.keep hba hZ1.lt
     replace hB1 := hB1.trans (hba.mono hB1.size)
     replace HD1 := Lib.hid (HD1.out.keep hba (Nat.le_refl _))
     replace hBd := hBd.trans (hba.mono hBd.size)
     refine hK _ _ ⟨hAc, fun _ => trivial⟩ (fun hS => ?_)
     clear hK K hS hba
     generalize WD.alloc (.cells #[.slice none 0 0] 42) = WZ at hAc hZ1 hB1 HD1 hT hBd ⊢
     generalize (WD).heap.size = gz at hT hgz hgd ⊢
     refine wO 5 5 (fun K hK => ?_)
     go_simp
     refine (HL.out _ hBd).mono ?_
     rintro e w2 ⟨v2, qs2, rfl, hq2, hD2, hb2⟩
     obtain ⟨va2, vc2, hv2⟩ := hD2.1.slice
     obtain ⟨vn2, hvn⟩ : ∃ n, n = qs2.length := ⟨_, rfl⟩
     rw [<- hvn] at hv2
     clear hvn
     subst hv2
     have HQ2 := Lib.hid hq2
     clear hq2
     replace hAc := HKA.out _ _ (Nat.le_trans hwd hBd.size) hb2 hAc
     replace hZ1 := hZ1.keep hb2 hZ1.lt
     replace hB1 := hB1.trans (hb2.mono hB1.size)
     replace HD1 := Lib.hid (HD1.out.keep hb2 (Nat.le_refl _))
     replace hT := hT.keep hb2 hT.lt
     have HDc : Hid (OwnD w2 (w.heap.size + 2) (.slice va2 vn2 vc2) qs2) := Lib.hid (hD2.lower (Nat.le_trans hsd hBd.size))
     clear hD2
     replace hBd := hBd.trans (hb2.mono hBd.size)
     refine hK _ _ ⟨hAc, fun _ => trivial⟩ (fun hS => ?_)
     clear hK K hS hb2
     refine wA 2 [6, 7, 8] ⟨hAc, fun _ => trivial⟩ ?_
     simp only [pick, List.filterMap_cons, List.filterMap_nil, List.getElem?_cons_zero, List.getElem?_cons_succ]
     refine wS (.tuple #[.agg #[.slice va2 vn2 vc2], .bool true]) (fun w hw => by go_simp) ?_
     refine wS (.agg #[.slice va2 vn2 vc2]) (fun w hw => by go_simp) ?_
     refine wS (.bool true) (fun w hw => by go_simp) ?_
     refine wpIf_nil (fun hS => ?_)
     clear hS
     have t0 := hT.cell 0 _ rfl
     have tf := hT.free
     have hT2 := hT.set 0 (.slice va2 vn2 vc2)
     have hA2 := HKS.out _ gz (.slice va2 vn2 vc2) (by omega) (by omega) hAc
     have hZ2 := hZ1.other ⟨gz, 0, none⟩ (.slice va2 vn2 vc2) (show w.heap.size ≠ gz by omega)
     have hB2 := hB1.setCell (p := ⟨gz, 0, none⟩) (show w.heap.size <= gz by omega) (.slice va2 vn2 vc2)
     have HD2 := Lib.hid (HD1.out.offBox hT (.slice va2 vn2 vc2))
     have HDc2 := Lib.hid (HDc.out.offBox hT (.slice va2 vn2 vc2))
     have hs2 : w.heap.size + 2 <= (w2.setCell ⟨gz, 0, none⟩ (.slice va2 vn2 vc2)).heap.size := Nat.le_of_lt (Nat.lt_of_le_of_lt hgz hT2.lt)
     refine wO 10 1 (fun K hK => ?_)
     go_simp
     refine hK _ _ ⟨hA2, fun _ => trivial⟩ (fun hS => ?_)
     clear hK K hS t0 tf
     refine wO 11 0 (fun K hK => ?_)
     go_simp
     refine hK _ _ ⟨hA2, fun _ => trivial⟩ (fun hS => ?_)
     clear hK K hS
     refine wpAnyT_over (by kernel_rfl) ?_
     obtain ⟨hR2, _⟩ := hA2
     generalize w2.setCell ⟨gz, 0, none⟩ (.slice va2 vn2 vc2) = W3 at hT2 hR2 hZ2 hB2 HD2 HDc2 hs2 ⊢
     clear hAc hZ1 hB1 HD1 hT hBd HDc
     have t0 : W3.cell? ⟨gz, 0, none⟩ = some (.slice va2 vn2 vc2) := hT2.cell 0 _ rfl
     have x0 : W3.cell? ⟨w.heap.size + 1, 0, none⟩ = some (.slice va vn vc) := hR2.cell 0 _ rfl
     have xf := hR2.free
     have hRn := Lib.hid (hR2.set 0 (.slice va2 vn2 vc2))
     have hZn := Lib.hid (hZ2.other ⟨w.heap.size + 1, 0, none⟩ (.slice va2 vn2 vc2) (show w.heap.size ≠ w.heap.size + 1 by omega))
     have hBn := Lib.hid (hB2.setCell (p := ⟨w.heap.size + 1, 0, none⟩) (show w.heap.size <= w.heap.size + 1 by omega) (.slice va2 vn2 vc2))
     have HDn := Lib.hid (HDc2.out.aside ⟨w.heap.size + 1, 0, none⟩ (.slice va2 vn2 vc2) (show w.heap.size + 1 < w.heap.size + 2 by omega))
     have hsn : w.heap.size + 2 <= (W3.setCell ⟨w.heap.size + 1, 0, none⟩ (.slice va2 vn2 vc2)).heap.size := by have e9 : (W3.setCell ⟨w.heap.size + 1, 0, none⟩ (.slice va2 vn2 vc2)).heap.size = W3.heap.size := (by simp [World.setCell]); omega
     clear hR2 hZ2 hB2 HD2 HDc2 hT2
     go_wp2
     go_roundw
     case rel => exact ⟨k + 1, r2, va2, vn2, vc2, qs2, by omega, by omega, by go_num, HFn, HQ2, HDn, hRn.out, hZn.out, hBn.out, hsn⟩
     case measure => simp [intOf]; omega
  ·have HZ := Lib.hid (HF.out.over hlt)
   have x0 : wr.cell? ⟨w.heap.size + 1, 0, none⟩ = some (.slice va vn vc) := hR.cell 0 _ rfl
   have z0 : wr.cell? ⟨w.heap.size, 0, none⟩ = some (.slice none 0 0) := hZ.cell 0 _ rfl
   have zf := hZ.free
   by_cases hl2 : k < os.length
   ·have hkl : decide ((k : Int) < (os.length : Int)) = true := decide_eq_true (by omega)
    have hk50 : decide ((k : Int) < 500) = false := decide_eq_false (by omega)
    have HKe : Hid (k = 500) := Lib.hid (by omega)
    have hm1 : (500 : Int) <= (os.length : Int) := by omega
    go_wp2
    have hZe := hZ.set 0 (.slice va vn vc)
    have hBe := hB.setCell (p := ⟨w.heap.size, 0, none⟩) (Nat.le_refl _) (.slice va vn vc)
    have hDe := (HD.out.aside ⟨w.heap.size, 0, none⟩ (.slice va vn vc) (show w.heap.size < w.heap.size + 2 by omega)).lower (show w.heap.size <= w.heap.size + 2 by omega)
    generalize wr.setCell ⟨w.heap.size, 0, none⟩ (.slice va vn vc) = We at hZe hBe hDe ⊢
    have p0 : We.cell? ⟨w.heap.size, 0, none⟩ = some (.slice va vn vc) := hZe.cell 0 _ rfl
    exact bodyPost_ret (v := .tuple #[.agg #[.slice va vn vc], .int .i64 ((fdV os).2 : Int)]) (by rw [HZ.out.2, HKe.out]; simp [results, Tryz.results132, go_sem, p0]) rfl ⟨_, qs, rfl, by rw [HZ.out.1]; exact HQ.out, hDe, hBe⟩
   ·by_cases hl3 : os.length < 500
    ·have hkl : decide ((k : Int) < (os.length : Int)) = false := decide_eq_false (by omega)
     have HKe : Hid (k = os.length) := Lib.hid (by omega)
     have hm1 : ¬ (500 : Int) <= (os.length : Int) := by omega
     go_wp2
     have hZe := hZ.set 0 (.slice va vn vc)
     have hBe := hB.setCell (p := ⟨w.heap.size, 0, none⟩) (Nat.le_refl _) (.slice va vn vc)
     have hDe := (HD.out.aside ⟨w.heap.size, 0, none⟩ (.slice va vn vc) (show w.heap.size < w.heap.size + 2 by omega)).lower (show w.heap.size <= w.heap.size + 2 by omega)
     generalize wr.setCell ⟨w.heap.size, 0, none⟩ (.slice va vn vc) = We at hZe hBe hDe ⊢
     have p0 : We.cell? ⟨w.heap.size, 0, none⟩ = some (.slice va vn vc) := hZe.cell 0 _ rfl
     exact bodyPost_ret (v := .tuple #[.agg #[.slice va vn vc], .int .i64 ((fdV os).2 : Int)]) (by rw [HZ.out.2, HKe.out]; simp [results, Tryz.results132, go_sem, p0]) rfl ⟨_, qs, rfl, by rw [HZ.out.1]; exact HQ.out, hDe, hBe⟩
    ·have hkl : decide ((k : Int) < (os.length : Int)) = false := decide_eq_false (by omega)
     have HKe : Hid (k = 500) := Lib.hid (by omega)
     have hm1 : (500 : Int) <= (os.length : Int) := by omega
     go_wp2
     have hZe := hZ.set 0 (.slice va vn vc)
     have hBe := hB.setCell (p := ⟨w.heap.size, 0, none⟩) (Nat.le_refl _) (.slice va vn vc)
     have hDe := (HD.out.aside ⟨w.heap.size, 0, none⟩ (.slice va vn vc) (show w.heap.size < w.heap.size + 2 by omega)).lower (show w.heap.size <= w.heap.size + 2 by omega)
     generalize wr.setCell ⟨w.heap.size, 0, none⟩ (.slice va vn vc) = We at hZe hBe hDe ⊢
     have p0 : We.cell? ⟨w.heap.size, 0, none⟩ = some (.slice va vn vc) := hZe.cell 0 _ rfl
     exact bodyPost_ret (v := .tuple #[.agg #[.slice va vn vc], .int .i64 ((fdV os).2 : Int)]) (by rw [HZ.out.2, HKe.out]; simp [results, Tryz.results132, go_sem, p0]) rfl ⟨_, qs, rfl, by rw [HZ.out.1]; exact HQ.out, hDe, hBe⟩
end Go.Proofs.YtffkakpbelknaaaGreatDoor
