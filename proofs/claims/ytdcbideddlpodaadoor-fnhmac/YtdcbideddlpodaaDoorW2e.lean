/- Contracts: the rounds of the program, function values over an array of words. -/
import Derived.Test.YtdcbideddlpodaaDoorW2a
import Derived.Test.YtdcbideddlpodaaDoorFreeA
import Derived.Great.BuildSlice
import Derived.Laws.CopyOwn
namespace Go.Proofs.YtdcbideddlpodaaDoor
open Go.ChangeShapes Go.WideShapes Go.ChangeAt Go.RowKit
set_option linter.unusedVariables false

/-- An array of words, as its cells. -/
def stA (xs : List Int) : Array Value := (xs.map (Value.int .u32)).toArray
theorem stA_size (xs : List Int) : (stA xs).size = xs.length := by simp [stA]
theorem stA_one (xs : List Int) : (stA xs).all (·.oneCell') = true := by
  rw [Array.all_eq_true_iff_forall_mem]
  intro v hv
  simp [stA] at hv
  obtain ⟨x, _, rfl⟩ := hv
  rfl
/-- A quarter round at four places. -/
def qAt (i j k l : Nat) (zs : List Int) : List Int := upd zs i j k l (Four.mk (zs.getD i 0) (zs.getD j 0) (zs.getD k 0) (zs.getD l 0)).turn
theorem qAt_len (i j k l : Nat) (zs : List Int) : (qAt i j k l zs).length = zs.length := upd_len _ _ _ _ _ _

/-- The block of an owned row without spare room. -/
theorem OwnK.block {e : TypeId} {w : World} {base g n : Nat} {zs : List Int} (h : OwnK e .u32 w base (.slice (some ⟨g, 0, none⟩) n n) zs) (hn : n = zs.length) : w.heap[g]? = some (.cells (stA zs) e (0, 0)) := by
  subst hn
  rcases h.2 with ⟨h0, _⟩ | ⟨g', cap, cur, hv, hb, hh, hl, hm, hsz, ht⟩
  · cases h0
  · simp at hv
    obtain ⟨rfl, rfl⟩ := hv
    rw [hh]
    have : cur.toList = zs.map (Value.int .u32) := by rw [← ht]; exact (List.take_of_length_le (by simp; omega)).symm
    have e1 : cur = stA zs := by rw [stA, ← this]
    rw [e1]
theorem OwnK.ofBlock {e : TypeId} {w : World} {base g n : Nat} {zs : List Int} (hh : w.heap[g]? = some (.cells (stA zs) e (0, 0))) (hn : n = zs.length) (hb : base ≤ g) (hm : n ≤ maxLen) : OwnK e .u32 w base (.slice (some ⟨g, 0, none⟩) n n) zs := by
  subst hn
  refine ⟨by simp, .inr ⟨g, zs.length, stA zs, rfl, hb, hh, Nat.le_refl _, hm, by simp [stA], ?_⟩⟩
  rw [stA, Nat.mul_one]
  exact List.take_of_length_le (by simp)

/-- An array whose cells at four places are known. -/
structure P4 (e : TypeId) (w : World) (base g n : Nat) (zs : List Int) (i j k l : Nat) (q : Four) : Prop where
  own : OwnK e .u32 w base (.slice (some ⟨g, 0, none⟩) n n) (upd zs i j k l q)
  ca : w.cell? ⟨g, i, none⟩ = some (.int .u32 q.a)
  cb : w.cell? ⟨g, j, none⟩ = some (.int .u32 q.b)
  cc : w.cell? ⟨g, k, none⟩ = some (.int .u32 q.c)
  cd : w.cell? ⟨g, l, none⟩ = some (.int .u32 q.d)
  fr : ∀ x, w.frozen? ⟨g, x, none⟩ = false

theorem P4.mk' {e : TypeId} {w : World} {base g n : Nat} {zs : List Int} {i j k l : Nat} {q : Four} (hn : n = zs.length) (hA : Apart n i j k l) (h : OwnK e .u32 w base (.slice (some ⟨g, 0, none⟩) n n) (upd zs i j k l q)) : P4 e w base g n zs i j k l q := by
  subst hn
  have hl := upd_len zs i j k l q
  have hcell : ∀ x, x < zs.length → w.cell? ⟨g, x, none⟩ = ((upd zs i j k l q).map (Value.int .u32))[x]? := by
    intro x hx
    have h' := h
    unfold OwnK at h'
    rw [hl] at h'
    exact World.ownsRow.cellAt h' x (by omega)
  refine ⟨h, ?_, ?_, ?_, ?_, fun x => h.free hl.symm x⟩
  · rw [hcell i hA.hi, List.getElem?_map, upd_i hA]; rfl
  · rw [hcell j hA.hj, List.getElem?_map, upd_j hA]; rfl
  · rw [hcell k hA.hk, List.getElem?_map, upd_k hA]; rfl
  · rw [hcell l hA.hl, List.getElem?_map, upd_l hA]; rfl
theorem P4.set {e : TypeId} {w : World} {base g n : Nat} {zs : List Int} {i j k l : Nat} {q q' : Four} (h : P4 e w base g n zs i j k l q) (hn : n = zs.length) (hA : Apart n i j k l) (x : Nat) (v : Int) (he : (upd zs i j k l q).set x v = upd zs i j k l q') : P4 e (w.setCell ⟨g, x, none⟩ (.int .u32 v)) base g n zs i j k l q' := by
  have := h.own.set (by rw [upd_len]; exact hn) x v
  rw [he] at this
  exact P4.mk' hn hA this

/-- The four boxes. -/
def Bx (b1 b2 b3 b4 i j k l : Nat) (w : World) : Prop := w.cell? ⟨b1, 0, none⟩ = some (.int .i64 i) ∧ w.cell? ⟨b2, 0, none⟩ = some (.int .i64 j) ∧ w.cell? ⟨b3, 0, none⟩ = some (.int .i64 k) ∧ w.cell? ⟨b4, 0, none⟩ = some (.int .i64 l)
theorem Bx.below {b1 b2 b3 b4 i j k l B : Nat} {w w' : World} (h : Bx b1 b2 b3 b4 i j k l w) (hb : Below B w w') (h1 : b1 < B) (h2 : b2 < B) (h3 : b3 < B) (h4 : b4 < B) : Bx b1 b2 b3 b4 i j k l w' :=
  ⟨by rw [hb.cell (p := ⟨b1, 0, none⟩) h1]; exact h.1, by rw [hb.cell (p := ⟨b2, 0, none⟩) h2]; exact h.2.1, by rw [hb.cell (p := ⟨b3, 0, none⟩) h3]; exact h.2.2.1, by rw [hb.cell (p := ⟨b4, 0, none⟩) h4]; exact h.2.2.2⟩
theorem Bx.lt {b1 b2 b3 b4 i j k l : Nat} {w : World} (h : Bx b1 b2 b3 b4 i j k l w) : b1 < w.heap.size ∧ b2 < w.heap.size ∧ b3 < w.heap.size ∧ b4 < w.heap.size :=
  ⟨World.block_lt_of_cell? w _ h.1, World.block_lt_of_cell? w _ h.2.1, World.block_lt_of_cell? w _ h.2.2.1, World.block_lt_of_cell? w _ h.2.2.2⟩
theorem Bx.set {b1 b2 b3 b4 i j k l B g : Nat} {w : World} (h : Bx b1 b2 b3 b4 i j k l w) (hg : B ≤ g) (h1 : b1 < B) (h2 : b2 < B) (h3 : b3 < B) (h4 : b4 < B) (o : Nat) (v : Value) : Bx b1 b2 b3 b4 i j k l (w.setCell ⟨g, o, none⟩ v) :=
  h.below ((Below.refl B w).setCell (p := ⟨g, o, none⟩) hg v) h1 h2 h3 h4

end Go.Proofs.YtdcbideddlpodaaDoor
