/- Joined: Y9a, M9d, M9e. -/
import Derived.Test.YtffkakpbelknaaaH37
import Derived.Test.YtffkakpbelknaaaH41
/- Y9a -/
namespace Go.Proofs.Ytffkakpbelknaaa
open Go.ChangeShapes Go.WideShapes Go.ChangeAt Go.RowKit
set_option linter.unusedVariables false

theorem OwnD.drew {w : World} {B : Nat} {v : Value} {ps : List (Sb × Value)} (h : OwnD w B v ps) : OwnD w.drew B v ps := h
theorem cell_blk {w w' : World} {g : Nat} (h : w'.heap[g]? = w.heap[g]?) (j : Nat) : w'.cell? ⟨g, j, none⟩ = w.cell? ⟨g, j, none⟩ := by
  unfold World.cell?; rw [h]
theorem gb_set1 {w w1 : World} (b o : Nat) (u : Value) (h : w.grownBy w1 (some b)) : w.grownBy (w1.setCell ⟨b, o, none⟩ u) (some b) :=
  ⟨h.os, h.tape, h.output, by simpa [World.setCell] using h.size, fun k hk hn => (Below.heap_setCell _ _ _ _ (fun e => hn (by rw [e]))).trans (h.block k hk hn)⟩
theorem OwnD.putSub {w w2 w4 : World} {B : Nat} {v y : Value} {ps : List (Sb × Value)} (h : OwnD w B v ps) (P : Nat) (hP : P < ps.length) (s : Sb) (hB : B ≤ w.heap.size) (hb : Below w.heap.size w w2) (hyb : (y = ps[P].2 ∧ s.es = ps[P].1.es) ∨ OwnR 47 5 enC w2 w.heap.size y s.es) (hg : w2.grownBy w4 v.ownBlock) (ho : OwnR 43 3 sbC w4 B v (ps.set P (s, y))) : OwnD w4 B v (ps.set P (s, y)) := by
  have hy : OwnR 47 5 enC w2 B y s.es := by
    rcases hyb with ⟨h1, h2⟩ | h1
    · rw [h1, h2]; exact (h.2.1 _ (List.getElem_mem hP)).keep hb (Nat.le_refl _)
    · exact h1.base_mono hB
  have hent : ∀ p ∈ ps.set P (s, y), OwnR 47 5 enC w2 B p.2 p.1.es := by
    intro p hp
    rcases List.mem_or_eq_of_mem_set hp with h1 | h1
    · exact (h.2.1 p h1).keep hb (Nat.le_refl _)
    · rw [h1]; exact hy
  have hrow := h.1.keep hb (Nat.le_refl _)
  have hent4 : ∀ p ∈ ps.set P (s, y), OwnR 47 5 enC w4 B p.2 p.1.es := fun p hp => by
    refine World.ownsRow.kept (hent p hp) hg ?_
    exact own_apart (by decide) (hent p hp) hrow
  refine ⟨ho, hent4, ?_⟩
  unfold ApartD
  rw [List.pairwise_cons]
  refine ⟨fun c hc => ?_, ?_⟩
  · obtain ⟨p, hp, rfl⟩ := List.mem_map.1 hc
    exact own_apart (by decide) ho (hent4 p hp)
  · have hap := (List.pairwise_cons.1 h.2.2).2
    rcases hyb with ⟨e, _⟩ | hnew
    · have e2 : (ps.set P (s, y)).map (fun p => p.2.ownBlock) = ps.map (fun p => p.2.ownBlock) := by
        rw [List.map_set, e]
        apply List.ext_getElem?
        intro j
        rw [List.getElem?_set]
        by_cases e : P = j
        · subst e; simp [hP]
        · rw [if_neg e]
      rw [e2]
      exact hap
    · have hold : ∀ i (hi : i < ps.length) b, ps[i].2.ownBlock = Option.some b → b < w.heap.size := fun i hi b hb => (World.ownsRow.lt (h.2.1 _ (List.getElem_mem hi)) b hb).2
      have hyn : ∀ b, y.ownBlock = Option.some b → w.heap.size ≤ b := fun b hb => (World.ownsRow.lt hnew b hb).1
      rw [List.pairwise_iff_getElem] at hap ⊢
      intro i j hi hj hij
      simp only [List.length_map, List.length_set] at hi hj
      simp only [List.getElem_map, List.getElem_set]
      by_cases ei : P = i
      · rw [if_pos ei, if_neg (by omega)]
        show y.ownBlock = none ∨ y.ownBlock ≠ ps[j].2.ownBlock
        cases hy' : y.ownBlock with
        | none => exact .inl rfl
        | some b => exact .inr (fun e => by have h1 := hold j hj b e.symm; have h2 := hyn b hy'; omega)
      · rw [if_neg ei]
        by_cases ej : P = j
        · rw [if_pos ej]
          show ps[i].2.ownBlock = none ∨ ps[i].2.ownBlock ≠ y.ownBlock
          cases hy' : ps[i].2.ownBlock with
          | none => exact .inl rfl
          | some b => exact .inr (fun e => by have h1 := hold i hi b hy'; have h2 := hyn b e.symm; omega)
        · rw [if_neg ej]
          have := hap i j (by rw [List.length_map]; exact hi) (by rw [List.length_map]; exact hj) hij
          simpa only [List.getElem_map] using this
/-- One list of entries written anew. -/
theorem OwnD.setEs {w w2 : World} {B g n cap : Nat} {y : Value} {ps : List (Sb × Value)} (h : OwnD w B (.slice (Option.some ⟨g, 0, none⟩) n cap) ps) (hn : n = ps.length) (P : Nat) (hP : P < ps.length) (es : List En) (hB : B ≤ w.heap.size) (hb : Below w.heap.size w w2) (hy : OwnR 47 5 enC w2 w.heap.size y es) : OwnD (w2.setCell ⟨g, P * 3 + 2, none⟩ y) B (.slice (Option.some ⟨g, 0, none⟩) n cap) (ps.set P (⟨ps[P].1.u, ps[P].1.t, es⟩, y)) := by
  refine h.putSub P hP _ hB hb (.inr hy) (gb_set1 g (P * 3 + 2) y (World.grownBy.refl _ _)) ?_
  exact (h.1.keep hb (Nat.le_refl _)).setF sbC_len hn P 2 _ y hP (by decide) rfl
theorem OwnR.form {α : Type} {k : Nat} {C : α → List Value} {e : TypeId} {w : World} {B n cap : Nat} {a : Option Addr} {l : List α} (h : OwnR e k C w B (.slice a n cap) l) (h0 : 0 < l.length) : ∃ g, a = some ⟨g, 0, none⟩ ∧ B ≤ g ∧ g < w.heap.size ∧ n = l.length := by
  rcases h.2 with ⟨hv, hn⟩ | ⟨g, cap', cur, hv, hb, hg, rest⟩
  · omega
  · cases hv
    exact ⟨g, rfl, hb, (Array.getElem?_eq_some_iff.1 hg).1, rfl⟩
theorem OwnR.capLe {α : Type} {k : Nat} {C : α → List Value} {e : TypeId} {w : World} {B n cap : Nat} {a : Option Addr} {l : List α} (h : OwnR e k C w B (.slice a n cap) l) : l.length ≤ cap := by
  obtain ⟨a2, c2, e2, h2⟩ := h.len
  injection e2 with _ _ h3
  omega
theorem OwnR.noneCap {α : Type} {k : Nat} {C : α → List Value} {e : TypeId} {w : World} {B n cap : Nat} {l : List α} (h : OwnR e k C w B (.slice none n cap) l) : n = 0 ∧ cap = 0 := by
  rcases h.2 with ⟨hv, hn⟩ | ⟨g, cap', cur, hv, hb, hg, rest⟩
  · injection hv with _ h2 h3
    exact ⟨h2, h3⟩
  · injection hv with h1
    cases h1
theorem OwnR.someForm {α : Type} {k : Nat} {C : α → List Value} {e : TypeId} {w : World} {B n cap : Nat} {a : Addr} {l : List α} (h : OwnR e k C w B (.slice (some a) n cap) l) : ∃ g, a = ⟨g, 0, none⟩ ∧ B ≤ g ∧ g < w.heap.size := by
  rcases h.2 with ⟨hv, hn⟩ | ⟨g, cap', cur, hv, hb, hg, rest⟩
  · injection hv with h1
    cases h1
  · injection hv with h1
    exact ⟨g, Option.some.inj h1, hb, (Array.getElem?_eq_some_iff.1 hg).1⟩
theorem pg_at {qs : List (Sb × Value)} {ss : List Sb} {d : Int} {k : Nat} (h : qs.map Prod.fst = pgS (ss.take k) d ++ ss.drop k) (hk : k < qs.length) (hk2 : k < ss.length) : qs[k].1 = ss[k] := by
  have := congrArg (fun l => l[k]?) h
  simp only [List.getElem?_map, List.getElem?_eq_getElem hk, Option.map_some] at this
  rw [List.getElem?_append_right (by simp [pgS]; omega)] at this
  have e : k - (pgS (ss.take k) d).length = 0 := by simp [pgS]; omega
  rw [e, List.getElem?_drop, Nat.add_zero, List.getElem?_eq_getElem hk2] at this
  exact Option.some.inj this
theorem fst_at {qs : List (Sb × Value)} {ss : List Sb} (h : qs.map Prod.fst = ss) (k : Nat) (hk : k < qs.length) (hk2 : k < ss.length) : qs[k].1 = ss[k] := by
  subst h
  simp
theorem chV_at {ss : List Sb} {o : OpD} (hf : fnB (sbKs ss) (opU o) = true) {P : Nat} (hpl : plK (sbKs ss) (opU o) = P) (hP : P < ss.length) : chV ss o = (if o.k = 2 then some (ss.take P ++ ss.drop (P + 1)) else if o.k = 8 then some (ss.set P (alS ss[P])) else if o.k = 3 then some (ss.set P (ftS ss[P] o.ft o.its)) else if fnB (enKs ss[P].es) o.i = true then some (ss.set P (mkS ss[P] o.i o.k)) else none) := by
  unfold chV
  rw [hf, hpl, List.getElem?_eq_getElem hP]
  rfl
theorem fn_pl {ss : List Sb} {u : ByteArray} (hf : fnB (sbKs ss) u = true) : plK (sbKs ss) u < ss.length := by
  have := fn_lt hf
  simpa [sbKs] using this
theorem fn_pe {es : List En} {u : ByteArray} (hf : fnB (enKs es) u = true) : plK (enKs es) u < es.length := by
  have := fn_lt hf
  simpa [enKs] using this
/-- append of records, at one step. -/
theorem wp_appQ {w w' : World} {o : Oper} {a : Act} {K : Act → World → Prop} {Q : Exit → Act → World → Prop} (t : TypeId) (s x : Operand) (ho : o.op = .call { callee := .builtin .append, args := #[s, x], argTypes := #[t, t] }) (v xv v' : Value) (hs : a.eval s = v) (hx : a.eval x = xv) (hrun : (Builtin.append_ #[t, t] o.type #[v, xv]).run Try.prog w = .ok v' w') (h : K (a.put o.dst v') w') : o.wp Try.prog a w K Q := by
  unfold Oper.wp
  simp [execOp, ho, resolve, invoke, builtin, hs, hx, hrun, Result.andThen]
  exact h
/-- Entries of which the first k are read. -/
def alH (es : List En) (k : Nat) : List En := rdAll (es.take k) ++ es.drop k
theorem alH_len (es : List En) (k : Nat) : (alH es k).length = es.length := by
  unfold alH rdAll
  rw [List.length_append, List.length_map, List.length_take, List.length_drop]
  omega
theorem alH_zero (es : List En) : alH es 0 = es := rfl
theorem alH_end (es : List En) (k : Nat) (h : ¬ k < es.length) : alH es k = rdAll es := by
  unfold alH
  rw [List.take_of_length_le (by omega), List.drop_of_length_le (by omega), List.append_nil]
theorem alH_get (es : List En) (k : Nat) (h : k < es.length) (h2 : k < (alH es k).length) : (alH es k)[k] = es[k] := by
  have hl : (rdAll (es.take k)).length = k := by unfold rdAll; rw [List.length_map, List.length_take]; omega
  have e : (alH es k)[k]? = es[k]? := by
    unfold alH
    rw [List.getElem?_append_right (by omega), hl, Nat.sub_self, List.getElem?_drop, Nat.add_zero]
  rw [List.getElem?_eq_getElem h2, List.getElem?_eq_getElem h] at e
  exact Option.some.inj e
theorem alH_set (es : List En) (k : Nat) (h : k < es.length) : (alH es k).set k { es[k] with rd := true } = alH es (k + 1) := by
  have hl : (rdAll (es.take k)).length = k := by unfold rdAll; rw [List.length_map, List.length_take]; omega
  unfold alH
  rw [List.set_append_right _ _ (by omega), hl, Nat.sub_self, List.drop_eq_getElem_cons h, List.set_cons_zero, List.take_succ_eq_append_getElem h]
  unfold rdAll
  rw [List.map_append, List.append_assoc]
  rfl
theorem OwnD.allStep {w : World} {B g n cap h yc P k : Nat} {qs : List (Sb × Value)} {U V : ByteArray} {E : List En} (hD : OwnD w B (.slice (Option.some ⟨g, 0, none⟩) n cap) (qs.set P ((⟨U, V, alH E k⟩ : Sb), Value.slice (Option.some ⟨h, 0, none⟩) E.length yc))) (hP : P < qs.length) (hk : k < E.length) :
    OwnD (w.setCell ⟨h, k * 5 + 3, none⟩ (.bool true)) B (.slice (Option.some ⟨g, 0, none⟩) n cap) (qs.set P ((⟨U, V, alH E (k + 1)⟩ : Sb), Value.slice (Option.some ⟨h, 0, none⟩) E.length yc)) := by
  have hP2 : P < (qs.set P ((⟨U, V, alH E k⟩ : Sb), Value.slice (Option.some ⟨h, 0, none⟩) E.length yc)).length := by rw [List.length_set]; exact hP
  have e : (qs.set P ((⟨U, V, alH E k⟩ : Sb), Value.slice (Option.some ⟨h, 0, none⟩) E.length yc))[P] = ((⟨U, V, alH E k⟩ : Sb), Value.slice (Option.some ⟨h, 0, none⟩) E.length yc) := List.getElem_set_self _
  have hrow := hD.2.1 _ (List.getElem_mem hP2)
  rw [e] at hrow
  have hk2 : k < (alH E k).length := by rw [alH_len]; exact hk
  have hset := hrow.setF enC_len (alH_len E k).symm k 3 { E[k] with rd := true } (.bool true) hk2 (by decide) (by rw [alH_get E k hk hk2]; rfl)
  rw [alH_set E k hk] at hset
  have := hD.inplace P hP2 ⟨U, V, alH E (k + 1)⟩ (by rw [e]) (by rw [e]) (by rw [e]; exact gb_set1 h (k * 5 + 3) (.bool true) (World.grownBy.refl _ _)) (by rw [e]; exact hset)
  rw [e, List.set_set] at this
  exact this
theorem OwnD.rowAt {w : World} {B : Nat} {v y : Value} {P : Nat} {qs : List (Sb × Value)} {s : Sb} (hD : OwnD w B v (qs.set P (s, y))) (hP : P < qs.length) : OwnR 47 5 enC w B y s.es := by
  have hP2 : P < (qs.set P (s, y)).length := by rw [List.length_set]; exact hP
  have e : (qs.set P (s, y))[P] = (s, y) := List.getElem_set_self _
  have hrow := hD.2.1 _ (List.getElem_mem hP2)
  rw [e] at hrow
  exact hrow
theorem putP_fst (qs : List (Sb × Value)) (p : Nat) (f : Bool) (x : Sb × Value) : (putP qs p f x).map Prod.fst = putP (qs.map Prod.fst) p f x.1 := by
  unfold putP
  rw [List.map_append, List.map_take, List.map_cons, List.map_drop]
theorem putP_false {α : Type} (qs : List α) (p : Nat) (x : α) : (qs.take p ++ [x]) ++ qs.drop p = putP qs p false x := by
  unfold putP
  simp

end Go.Proofs.Ytffkakpbelknaaa

/- M9d -/
namespace Go.Proofs.Ytffkakpbelknaaa
open Go.ChangeShapes Go.WideShapes Go.ChangeAt Go.RowKit
set_option linter.unusedVariables false

/-- Only blocks from B on and below S are turned. -/
def Mid (B S : Nat) (w w' : World) : Prop := Below B w w' ∧ ∀ g, S ≤ g → g < w.heap.size → w'.heap[g]? = w.heap[g]?
theorem Mid.refl {B S : Nat} (w : World) : Mid B S w w := ⟨Below.refl _ _, fun _ _ _ => rfl⟩
theorem Mid.trans {B S : Nat} {w w' w'' : World} (h : Mid B S w w') (h' : Mid B S w' w'') : Mid B S w w'' :=
  ⟨h.1.trans h'.1, fun g hg hw => (h'.2 g hg (by have := h.1.size; omega)).trans (h.2 g hg hw)⟩
theorem Mid.below {B S : Nat} {w w' : World} (h : Below w.heap.size w w') (hB : B ≤ w.heap.size) : Mid B S w w' :=
  ⟨h.mono hB, fun g _ hw => h.block g hw⟩
theorem Mid.gb {B S : Nat} {w w' : World} {row : Option Nat} (h : w.grownBy w' row) (hB : B ≤ w.heap.size) (hr : ∀ b, row = some b → B ≤ b ∧ b < S) : Mid B S w w' :=
  ⟨gb_Below h hB (fun b hb => (hr b hb).1), fun g hg hw => h.block g hw (fun e => by have := hr g e.symm; omega)⟩
theorem Mid.setCell {B S : Nat} {w w' : World} (h : Mid B S w w') (p : Addr) (x : Value) (h1 : B ≤ p.block) (h2 : p.block < S) : Mid B S w (w'.setCell p x) :=
  ⟨h.1.setCell h1 x, fun g hg hw => (Below.heap_setCell _ _ _ _ (by omega)).trans (h.2 g hg hw)⟩
theorem OwnR.mid {α : Type} {k : Nat} {C : α → List Value} {e : TypeId} {w w' : World} {B S base : Nat} {v : Value} {l : List α} (h : OwnR e k C w base v l) (hm : Mid B S w w') (hS : S ≤ base) : OwnR e k C w' base v l := by
  refine ⟨h.1, ?_⟩
  rcases h.2 with hn | ⟨g, cap, cur, rfl, hb', hg, rest⟩
  · exact .inl hn
  · refine .inr ⟨g, cap, cur, rfl, hb', ?_, rest⟩
    rw [hm.2 g (by omega) (Array.getElem?_eq_some_iff.1 hg).1]
    exact hg
theorem OwnD.mid {w w' : World} {B S base : Nat} {v : Value} {ps : List (Sb × Value)} (h : OwnD w base v ps) (hm : Mid B S w w') (hS : S ≤ base) : OwnD w' base v ps :=
  ⟨h.1.mid hm hS, fun p hp => (h.2.1 p hp).mid hm hS, h.2.2⟩
theorem Box.mid {w w' : World} {B S g : Nat} {cs : Array Value} {t : TypeId} (h : Box w g cs t) (hm : Mid B S w w') (hg : g < B ∨ S ≤ g) : Box w' g cs t := by
  rcases hg with h1 | h1
  · exact h.keep hm.1 h1
  · exact (hm.2 g h1 h.lt).trans h
section
variable {α : Type} {k : Nat} {C : α → List Value}
/-- One field of a record that was put into a row. -/
theorem own_fld {e : TypeId} {w : World} {base g n cap : Nat} {L : List α} {x x' : α} (hk : ∀ x, (C x).length = k) {i : Nat} (h : OwnR e k C w base (.slice (some ⟨g, 0, none⟩) n cap) (L.set i x)) (hn : n = L.length) (hi : i < L.length) (j : Nat) (u : Value) (hj : j < k) (hx : C x' = (C x).set j u) :
    OwnR e k C (w.setCell ⟨g, i * k + j, none⟩ u) base (.slice (some ⟨g, 0, none⟩) n cap) (L.set i x') := by
  have e1 : (L.set i x)[i]'(by rw [List.length_set]; exact hi) = x := List.getElem_set_self _
  have := h.setF hk (by rw [List.length_set]; exact hn) i j x' u (by rw [List.length_set]; exact hi) hj (by rw [e1]; exact hx)
  rw [List.set_set] at this
  exact this
theorem own_start {e : TypeId} {w : World} {base : Nat} {v : Value} {L : List α} {i : Nat} (h : OwnR e k C w base v L) (hi : i < L.length) : OwnR e k C w base v (L.set i L[i]) := by
  rw [List.set_getElem_self]
  exact h
theorem own_cell {e : TypeId} {w : World} {base g n cap : Nat} {L : List α} {x : α} (hk : ∀ x, (C x).length = k) {i : Nat} (h : OwnR e k C w base (.slice (some ⟨g, 0, none⟩) n cap) (L.set i x)) (hn : n = L.length) (hi : i < L.length) (j : Nat) (u : Value) (hu : (C x)[j]? = some u) : w.cell? ⟨g, i * k + j, none⟩ = some u := by
  have e1 : (L.set i x)[i]'(by rw [List.length_set]; exact hi) = x := List.getElem_set_self _
  exact h.val hk (by rw [List.length_set]; exact hn) i j u (by rw [List.length_set]; exact hi) (by rw [e1]; exact hu)
theorem own_free {e : TypeId} {w : World} {base g n cap : Nat} {L : List α} {x : α} {i : Nat} (h : OwnR e k C w base (.slice (some ⟨g, 0, none⟩) n cap) (L.set i x)) (hn : n = L.length) (j : Nat) : w.frozen? ⟨g, j, none⟩ = false :=
  h.free (by rw [List.length_set]; exact hn) j
end

theorem gb_any {w w' : World} {row : Option Nat} (h : Below w.heap.size w w') : w.grownBy w' row := ⟨h.os, h.tape, h.output, h.size, fun k hk _ => h.block k hk⟩

end Go.Proofs.Ytffkakpbelknaaa

/- M9e -/
namespace Go.Proofs.Ytffkakpbelknaaa
open Go.ChangeShapes Go.WideShapes Go.ChangeAt Go.RowKit
set_option linter.unusedVariables false

theorem set_at {α : Type} {qs : List α} {k : Nat} {x : α} (hk : k < qs.length) : (qs.set k x)[k]'(by rw [List.length_set]; exact hk) = x := List.getElem_set_self _
theorem OwnD.setU {w w2 : World} {B g n cap k : Nat} {qs : List (Sb × Value)} {s : Sb} {y : Value} (h : OwnD w B (.slice (Option.some ⟨g, 0, none⟩) n cap) (qs.set k (s, y))) (hB : B ≤ w.heap.size) (hn : n = qs.length) (hk : k < qs.length) (hb : Below w.heap.size w w2) (X : ByteArray) : OwnD (w2.setCell ⟨g, k * 3, none⟩ (.string X)) B (.slice (Option.some ⟨g, 0, none⟩) n cap) (qs.set k (⟨X, s.t, s.es⟩, y)) := by
  have hk2 : k < (qs.set k (s, y)).length := by rw [List.length_set]; exact hk
  have hs := (h.1.keep hb (Nat.le_refl _)).setF sbC_len (by rw [List.length_set]; exact hn) k 0 ((⟨X, s.t, s.es⟩ : Sb), y) (.string X) hk2 (by decide) (by rw [set_at hk]; rfl)
  have := h.putSub k hk2 ⟨X, s.t, s.es⟩ hB hb (.inl ⟨rfl, by rw [set_at hk]⟩) (gb_set1 g (k * 3) (.string X) (World.grownBy.refl _ _)) (by rw [set_at hk]; exact hs)
  rw [set_at hk, List.set_set] at this
  exact this
theorem OwnD.setT {w w2 : World} {B g n cap k : Nat} {qs : List (Sb × Value)} {s : Sb} {y : Value} (h : OwnD w B (.slice (Option.some ⟨g, 0, none⟩) n cap) (qs.set k (s, y))) (hB : B ≤ w.heap.size) (hn : n = qs.length) (hk : k < qs.length) (hb : Below w.heap.size w w2) (X : ByteArray) : OwnD (w2.setCell ⟨g, k * 3 + 1, none⟩ (.string X)) B (.slice (Option.some ⟨g, 0, none⟩) n cap) (qs.set k (⟨s.u, X, s.es⟩, y)) := by
  have hk2 : k < (qs.set k (s, y)).length := by rw [List.length_set]; exact hk
  have hs := (h.1.keep hb (Nat.le_refl _)).setF sbC_len (by rw [List.length_set]; exact hn) k 1 ((⟨s.u, X, s.es⟩ : Sb), y) (.string X) hk2 (by decide) (by rw [set_at hk]; rfl)
  have := h.putSub k hk2 ⟨s.u, X, s.es⟩ hB hb (.inl ⟨rfl, by rw [set_at hk]⟩) (gb_set1 g (k * 3 + 1) (.string X) (World.grownBy.refl _ _)) (by rw [set_at hk]; exact hs)
  rw [set_at hk, List.set_set] at this
  exact this
theorem OwnD.inE {w w2 : World} {B k : Nat} {v : Value} {qs : List (Sb × Value)} {s : Sb} {y : Value} (h : OwnD w B v (qs.set k (s, y))) (hk : k < qs.length) (es : List En) (hg : w.grownBy w2 y.ownBlock) (ho : OwnR 47 5 enC w2 B y es) : OwnD w2 B v (qs.set k (⟨s.u, s.t, es⟩, y)) := by
  have hk2 : k < (qs.set k (s, y)).length := by rw [List.length_set]; exact hk
  have := h.inplace k hk2 ⟨s.u, s.t, es⟩ (by rw [set_at hk]) (by rw [set_at hk]) (by rw [set_at hk]; exact hg) (by rw [set_at hk]; exact ho)
  rw [set_at hk, List.set_set] at this
  exact this
theorem OwnD.cellAt {w : World} {B g n cap k : Nat} {qs : List (Sb × Value)} {s : Sb} {y : Value} (h : OwnD w B (.slice (Option.some ⟨g, 0, none⟩) n cap) (qs.set k (s, y))) (hn : n = qs.length) (hk : k < qs.length) : w.cell? ⟨g, k * 3, none⟩ = Option.some (.string s.u) ∧ w.cell? ⟨g, k * 3 + 1, none⟩ = Option.some (.string s.t) ∧ w.cell? ⟨g, k * 3 + 2, none⟩ = Option.some y ∧ ∀ j, w.frozen? ⟨g, j, none⟩ = false := by
  have hk2 : k < (qs.set k (s, y)).length := by rw [List.length_set]; exact hk
  have hn2 : n = (qs.set k (s, y)).length := by rw [List.length_set]; exact hn
  refine ⟨?_, ?_, ?_, fun j => h.1.free hn2 j⟩
  · exact h.1.val sbC_len hn2 k 0 _ hk2 (by rw [set_at hk]; rfl)
  · exact h.1.val sbC_len hn2 k 1 _ hk2 (by rw [set_at hk]; rfl)
  · exact h.1.val sbC_len hn2 k 2 _ hk2 (by rw [set_at hk]; rfl)
theorem maS_set (ss : List Sb) (m : Int) (k : Nat) (hk : k < ss.length) : (maS (ss.take k) m ++ ss.drop k).set k (maS1 ss[k] (maN (ss.take k) m)) = maS (ss.take (k + 1)) m ++ ss.drop (k + 1) := by
  have hl : (maS (ss.take k) m).length = k := by rw [maS_len, List.length_take]; omega
  rw [List.set_append_right _ _ (by omega), hl, Nat.sub_self, maS_take ss m k hk, List.drop_eq_getElem_cons hk, List.set_cons_zero, List.append_assoc]
  rfl
theorem maS_at {qs : List (Sb × Value)} {ss : List Sb} {m : Int} {k : Nat} (h : qs.map Prod.fst = maS (ss.take k) m ++ ss.drop k) (hk : k < qs.length) (hk2 : k < ss.length) : qs[k].1 = ss[k] := by
  have := congrArg (fun l => l[k]?) h
  simp only [List.getElem?_map, List.getElem?_eq_getElem hk, Option.map_some] at this
  have hl : (maS (ss.take k) m).length = k := by rw [maS_len, List.length_take]; omega
  rw [List.getElem?_append_right (by omega), hl, Nat.sub_self, List.getElem?_drop, Nat.add_zero, List.getElem?_eq_getElem hk2] at this
  exact Option.some.inj this
/-- What is known of the numbers of the marks. -/
def MaOk (ss : List Sb) (m : Int) : Prop := (∀ k, k ≤ ss.length → 0 < maN (ss.take k) m ∧ maN (ss.take k) m ≤ 10000000000000) ∧ ∀ s ∈ ss, s.es.length ≤ 1048576
theorem maOk_one {ss : List Sb} (h1 : ss.length ≤ 1048576) (h2 : ∀ s ∈ ss, s.es.length ≤ 1048576) : MaOk ss 1 := by
  refine ⟨fun k hk => ?_, h2⟩
  have h3 := maN_le (ss.take k) 1 1048576 (fun s hs => h2 s (List.mem_of_mem_take hs))
  have hl : (ss.take k).length ≤ 1048576 := by rw [List.length_take]; omega
  have h4 : ((ss.take k).length : Int) * (2 + 5 * ((1048576 : Nat) : Int)) ≤ 1048576 * (2 + 5 * ((1048576 : Nat) : Int)) := Int.mul_le_mul_of_nonneg_right (by omega) (by omega)
  omega
/-- What markSubS leaves. -/
def OutMS (ss : List Sb) (m : Int) (B S : Nat) (v : Value) (w : World) (e : Ending) (w' : World) : Prop := ∃ qs, e = .returned (.int .i64 (maN ss m)) ∧ qs.map Prod.fst = maS ss m ∧ OwnD w' B v qs ∧ Mid B S w w'

theorem maN_pos {ss : List Sb} {m : Int} (hm : MaOk ss m) : 0 < maN ss m ∧ maN ss m ≤ 10000000000000 := by
  have := hm.1 ss.length (Nat.le_refl _)
  rw [List.take_length] at this
  exact this

end Go.Proofs.Ytffkakpbelknaaa
