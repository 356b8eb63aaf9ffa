/- Joined: M9d, M9e. -/
import Derived.Test.YtgimjfffdnopiaaH39
import Derived.Test.YtgimjfffdnopiaaH43
/- M9d -/
namespace Go.Proofs.Ytgimjfffdnopiaa
open Go.ChangeShapes Go.WideShapes Go.ChangeAt Go.RowKit
set_option linter.unusedVariables false

/-- Only blocks from B on and below S are turned. -/
def Mid (B S : Nat) (w w' : World) : Prop := Below B w w' ∧ ∀ g, S ≤ g → g < w.heap.size → w'.heap[g]? = w.heap[g]?
theorem Mid.refl {B S : Nat} (w : World) : Mid B S w w := ⟨Below.refl _ _, fun _ _ _ => rfl⟩
theorem Mid.trans {B S : Nat} {w w' w'' : World} (h : Mid B S w w') (h' : Mid B S w' w'') : Mid B S w w'' :=
  ⟨h.1.trans h'.1, fun g hg hw => (h'.2 g hg (by have := h.1.size; omega)).trans (h.2 g hg hw)⟩
theorem Mid.below {B S : Nat} {w w' : World} (h : Below w.heap.size w w') (hB : B ≤ w.heap.size) : Mid B S w w' :=
  ⟨h.mono hB, fun g _ hw => h.block g hw⟩
theorem Mid.gb {B S : Nat} {w w' : World} {row : Option Nat} (h : w.grownBy w' row) (hB : B ≤ w.heap.size) (hr : ∀ b, row = some b → B ≤ b ∧ b < S) : Mid B S w w' :=
  ⟨gb_Below h hB (fun b hb => (hr b hb).1), fun g hg hw => h.block g hw (fun e => by have := hr g e.symm; omega)⟩
theorem Mid.setCell {B S : Nat} {w w' : World} (h : Mid B S w w') (p : Addr) (x : Value) (h1 : B ≤ p.block) (h2 : p.block < S) : Mid B S w (w'.setCell p x) :=
  ⟨h.1.setCell h1 x, fun g hg hw => (Below.heap_setCell _ _ _ _ (by omega)).trans (h.2 g hg hw)⟩
theorem OwnR.mid {α : Type} {k : Nat} {C : α → List Value} {e : TypeId} {w w' : World} {B S base : Nat} {v : Value} {l : List α} (h : OwnR e k C w base v l) (hm : Mid B S w w') (hS : S ≤ base) : OwnR e k C w' base v l := by
  refine ⟨h.1, ?_⟩
  rcases h.2 with hn | ⟨g, cap, cur, rfl, hb', hg, rest⟩
  · exact .inl hn
  · refine .inr ⟨g, cap, cur, rfl, hb', ?_, rest⟩
    rw [hm.2 g (by omega) (Array.getElem?_eq_some_iff.1 hg).1]
    exact hg
theorem OwnD.mid {w w' : World} {B S base : Nat} {v : Value} {ps : List (Sb × Value)} (h : OwnD w base v ps) (hm : Mid B S w w') (hS : S ≤ base) : OwnD w' base v ps :=
  ⟨h.1.mid hm hS, fun p hp => (h.2.1 p hp).mid hm hS, h.2.2⟩
theorem Box.mid {w w' : World} {B S g : Nat} {cs : Array Value} {t : TypeId} (h : Box w g cs t) (hm : Mid B S w w') (hg : g < B ∨ S ≤ g) : Box w' g cs t := by
  rcases hg with h1 | h1
  · exact h.keep hm.1 h1
  · exact (hm.2 g h1 h.lt).trans h
section
variable {α : Type} {k : Nat} {C : α → List Value}
/-- One field of a record that was put into a row. -/
theorem own_fld {e : TypeId} {w : World} {base g n cap : Nat} {L : List α} {x x' : α} (hk : ∀ x, (C x).length = k) {i : Nat} (h : OwnR e k C w base (.slice (some ⟨g, 0, none⟩) n cap) (L.set i x)) (hn : n = L.length) (hi : i < L.length) (j : Nat) (u : Value) (hj : j < k) (hx : C x' = (C x).set j u) :
    OwnR e k C (w.setCell ⟨g, i * k + j, none⟩ u) base (.slice (some ⟨g, 0, none⟩) n cap) (L.set i x') := by
  have e1 : (L.set i x)[i]'(by rw [List.length_set]; exact hi) = x := List.getElem_set_self _
  have := h.setF hk (by rw [List.length_set]; exact hn) i j x' u (by rw [List.length_set]; exact hi) hj (by rw [e1]; exact hx)
  rw [List.set_set] at this
  exact this
theorem own_start {e : TypeId} {w : World} {base : Nat} {v : Value} {L : List α} {i : Nat} (h : OwnR e k C w base v L) (hi : i < L.length) : OwnR e k C w base v (L.set i L[i]) := by
  rw [List.set_getElem_self]
  exact h
theorem own_cell {e : TypeId} {w : World} {base g n cap : Nat} {L : List α} {x : α} (hk : ∀ x, (C x).length = k) {i : Nat} (h : OwnR e k C w base (.slice (some ⟨g, 0, none⟩) n cap) (L.set i x)) (hn : n = L.length) (hi : i < L.length) (j : Nat) (u : Value) (hu : (C x)[j]? = some u) : w.cell? ⟨g, i * k + j, none⟩ = some u := by
  have e1 : (L.set i x)[i]'(by rw [List.length_set]; exact hi) = x := List.getElem_set_self _
  exact h.val hk (by rw [List.length_set]; exact hn) i j u (by rw [List.length_set]; exact hi) (by rw [e1]; exact hu)
theorem own_free {e : TypeId} {w : World} {base g n cap : Nat} {L : List α} {x : α} {i : Nat} (h : OwnR e k C w base (.slice (some ⟨g, 0, none⟩) n cap) (L.set i x)) (hn : n = L.length) (j : Nat) : w.frozen? ⟨g, j, none⟩ = false :=
  h.free (by rw [List.length_set]; exact hn) j
end

theorem gb_any {w w' : World} {row : Option Nat} (h : Below w.heap.size w w') : w.grownBy w' row := ⟨h.os, h.tape, h.output, h.size, fun k hk _ => h.block k hk⟩

end Go.Proofs.Ytgimjfffdnopiaa

/- M9e -/
namespace Go.Proofs.Ytgimjfffdnopiaa
open Go.ChangeShapes Go.WideShapes Go.ChangeAt Go.RowKit
set_option linter.unusedVariables false

theorem set_at {α : Type} {qs : List α} {k : Nat} {x : α} (hk : k < qs.length) : (qs.set k x)[k]'(by rw [List.length_set]; exact hk) = x := List.getElem_set_self _
theorem OwnD.setU {w w2 : World} {B g n cap k : Nat} {qs : List (Sb × Value)} {s : Sb} {y : Value} (h : OwnD w B (.slice (Option.some ⟨g, 0, none⟩) n cap) (qs.set k (s, y))) (hB : B ≤ w.heap.size) (hn : n = qs.length) (hk : k < qs.length) (hb : Below w.heap.size w w2) (X : ByteArray) : OwnD (w2.setCell ⟨g, k * 3, none⟩ (.string X)) B (.slice (Option.some ⟨g, 0, none⟩) n cap) (qs.set k (⟨X, s.t, s.es⟩, y)) := by
  have hk2 : k < (qs.set k (s, y)).length := by rw [List.length_set]; exact hk
  have hs := (h.1.keep hb (Nat.le_refl _)).setF sbC_len (by rw [List.length_set]; exact hn) k 0 ((⟨X, s.t, s.es⟩ : Sb), y) (.string X) hk2 (by decide) (by rw [set_at hk]; rfl)
  have := h.putSub k hk2 ⟨X, s.t, s.es⟩ hB hb (.inl ⟨rfl, by rw [set_at hk]⟩) (gb_set1 g (k * 3) (.string X) (World.grownBy.refl _ _)) (by rw [set_at hk]; exact hs)
  rw [set_at hk, List.set_set] at this
  exact this
theorem OwnD.setT {w w2 : World} {B g n cap k : Nat} {qs : List (Sb × Value)} {s : Sb} {y : Value} (h : OwnD w B (.slice (Option.some ⟨g, 0, none⟩) n cap) (qs.set k (s, y))) (hB : B ≤ w.heap.size) (hn : n = qs.length) (hk : k < qs.length) (hb : Below w.heap.size w w2) (X : ByteArray) : OwnD (w2.setCell ⟨g, k * 3 + 1, none⟩ (.string X)) B (.slice (Option.some ⟨g, 0, none⟩) n cap) (qs.set k (⟨s.u, X, s.es⟩, y)) := by
  have hk2 : k < (qs.set k (s, y)).length := by rw [List.length_set]; exact hk
  have hs := (h.1.keep hb (Nat.le_refl _)).setF sbC_len (by rw [List.length_set]; exact hn) k 1 ((⟨s.u, X, s.es⟩ : Sb), y) (.string X) hk2 (by decide) (by rw [set_at hk]; rfl)
  have := h.putSub k hk2 ⟨s.u, X, s.es⟩ hB hb (.inl ⟨rfl, by rw [set_at hk]⟩) (gb_set1 g (k * 3 + 1) (.string X) (World.grownBy.refl _ _)) (by rw [set_at hk]; exact hs)
  rw [set_at hk, List.set_set] at this
  exact this
theorem OwnD.inE {w w2 : World} {B k : Nat} {v : Value} {qs : List (Sb × Value)} {s : Sb} {y : Value} (h : OwnD w B v (qs.set k (s, y))) (hk : k < qs.length) (es : List En) (hg : w.grownBy w2 y.ownBlock) (ho : OwnR 103 5 enC w2 B y es) : OwnD w2 B v (qs.set k (⟨s.u, s.t, es⟩, y)) := by
  have hk2 : k < (qs.set k (s, y)).length := by rw [List.length_set]; exact hk
  have := h.inplace k hk2 ⟨s.u, s.t, es⟩ (by rw [set_at hk]) (by rw [set_at hk]) (by rw [set_at hk]; exact hg) (by rw [set_at hk]; exact ho)
  rw [set_at hk, List.set_set] at this
  exact this
theorem OwnD.cellAt {w : World} {B g n cap k : Nat} {qs : List (Sb × Value)} {s : Sb} {y : Value} (h : OwnD w B (.slice (Option.some ⟨g, 0, none⟩) n cap) (qs.set k (s, y))) (hn : n = qs.length) (hk : k < qs.length) : w.cell? ⟨g, k * 3, none⟩ = Option.some (.string s.u) ∧ w.cell? ⟨g, k * 3 + 1, none⟩ = Option.some (.string s.t) ∧ w.cell? ⟨g, k * 3 + 2, none⟩ = Option.some y ∧ ∀ j, w.frozen? ⟨g, j, none⟩ = false := by
  have hk2 : k < (qs.set k (s, y)).length := by rw [List.length_set]; exact hk
  have hn2 : n = (qs.set k (s, y)).length := by rw [List.length_set]; exact hn
  refine ⟨?_, ?_, ?_, fun j => h.1.free hn2 j⟩
  · exact h.1.val sbC_len hn2 k 0 _ hk2 (by rw [set_at hk]; rfl)
  · exact h.1.val sbC_len hn2 k 1 _ hk2 (by rw [set_at hk]; rfl)
  · exact h.1.val sbC_len hn2 k 2 _ hk2 (by rw [set_at hk]; rfl)
theorem maS_set (ss : List Sb) (m : Int) (k : Nat) (hk : k < ss.length) : (maS (ss.take k) m ++ ss.drop k).set k (maS1 ss[k] (maN (ss.take k) m)) = maS (ss.take (k + 1)) m ++ ss.drop (k + 1) := by
  have hl : (maS (ss.take k) m).length = k := by rw [maS_len, List.length_take]; omega
  rw [List.set_append_right _ _ (by omega), hl, Nat.sub_self, maS_take ss m k hk, List.drop_eq_getElem_cons hk, List.set_cons_zero, List.append_assoc]
  rfl
theorem maS_at {qs : List (Sb × Value)} {ss : List Sb} {m : Int} {k : Nat} (h : qs.map Prod.fst = maS (ss.take k) m ++ ss.drop k) (hk : k < qs.length) (hk2 : k < ss.length) : qs[k].1 = ss[k] := by
  have := congrArg (fun l => l[k]?) h
  simp only [List.getElem?_map, List.getElem?_eq_getElem hk, Option.map_some] at this
  have hl : (maS (ss.take k) m).length = k := by rw [maS_len, List.length_take]; omega
  rw [List.getElem?_append_right (by omega), hl, Nat.sub_self, List.getElem?_drop, Nat.add_zero, List.getElem?_eq_getElem hk2] at this
  exact Option.some.inj this
/-- What is known of the numbers of the marks. -/
def MaOk (ss : List Sb) (m : Int) : Prop := (∀ k, k ≤ ss.length → 0 < maN (ss.take k) m ∧ maN (ss.take k) m ≤ 10000000000000) ∧ ∀ s ∈ ss, s.es.length ≤ 1048576
theorem maOk_one {ss : List Sb} (h1 : ss.length ≤ 1048576) (h2 : ∀ s ∈ ss, s.es.length ≤ 1048576) : MaOk ss 1 := by
  refine ⟨fun k hk => ?_, h2⟩
  have h3 := maN_le (ss.take k) 1 1048576 (fun s hs => h2 s (List.mem_of_mem_take hs))
  have hl : (ss.take k).length ≤ 1048576 := by rw [List.length_take]; omega
  have h4 : ((ss.take k).length : Int) * (2 + 5 * ((1048576 : Nat) : Int)) ≤ 1048576 * (2 + 5 * ((1048576 : Nat) : Int)) := Int.mul_le_mul_of_nonneg_right (by omega) (by omega)
  omega
/-- What markSubS leaves. -/
def OutMS (ss : List Sb) (m : Int) (B S : Nat) (v : Value) (w : World) (e : Ending) (w' : World) : Prop := ∃ qs, e = .returned (.int .i64 (maN ss m)) ∧ qs.map Prod.fst = maS ss m ∧ OwnD w' B v qs ∧ Mid B S w w'

theorem maN_pos {ss : List Sb} {m : Int} (hm : MaOk ss m) : 0 < maN ss m ∧ maN ss m ≤ 10000000000000 := by
  have := hm.1 ss.length (Nat.le_refl _)
  rw [List.take_length] at this
  exact this

end Go.Proofs.Ytgimjfffdnopiaa
