/- Contract: tags handed on one by one (chapter 6): what both users of it share. -/
import Derived.Test.YtdcbideddlpodaaDoorW6c
import Derived.Test.YtdcbideddlpodaaDoorW5f
import Derived.Lib.AppendStr
import Derived.Lib.BufStepsIn
namespace Go.Proofs.YtdcbideddlpodaaDoor
open Go.ChangeShapes Go.WideShapes Go.ChangeAt Go.RowKit Go.Shelf
set_option linter.unusedVariables false

attribute [local go_sem] Oper.semAt_some

/-- A part, as a round is handed it. -/
abbrev Pt := { x : ByteArray // x.size = 32 }
/-- What comes in k rounds. -/
def ptL (key : ByteArray) (T : Nat → ByteArray → ByteArray) : Nat → List Pt
  | 0 => []
  | k + 1 => ptL key T k ++ [⟨ptB key T (k + 1), ptB_size key T k⟩]
theorem ptL_len (key : ByteArray) (T : Nat → ByteArray → ByteArray) : ∀ k, (ptL key T k).length = k
  | 0 => rfl
  | k + 1 => by rw [ptL, List.length_append, ptL_len key T k]; rfl

/-- What the iterator reads: its boxes, and what its function reads. -/
structure PG (Bk Bc Bt Bi : Nat) (key info : ByteArray) (cnt : Nat) (tv : Value) (W : World) : Prop where
  k : Boxed W Bk 9 (.string key)
  c : Boxed W Bc 2 (.int .i64 (cnt : Int))
  t : Boxed W Bt 51 tv
  i : Boxed W Bi 9 (.string info)
  F : FTab W
  K : KTab W
theorem blk_below {W W' : World} {B b : Nat} {o : Obj} (h : W.heap[b]? = some o) (hb : Below B W W') (hB : W.heap.size ≤ B) : W'.heap[b]? = some o := (hb.block b (by have := (Array.getElem?_eq_some_iff.1 h).1; omega)).trans h
theorem PG.below {Bk Bc Bt Bi : Nat} {key info : ByteArray} {cnt : Nat} {tv : Value} {W W' : World} {B : Nat} (h : PG Bk Bc Bt Bi key info cnt tv W) (hb : Below B W W') (hB : W.heap.size ≤ B) : PG Bk Bc Bt Bi key info cnt tv W' :=
  ⟨blk_below h.k hb hB, blk_below h.c hb hB, blk_below h.t hb hB, blk_below h.i hb hB, h.F.below hb hB, h.K.below hb hB⟩
theorem blk_put {W : World} {l b : Nat} {o o' : Obj} {c : Array Value} {t : TypeId} {f : Nat × Nat} (hl : W.heap[l]? = some o) (hn : o.isCells = false) (h : W.heap[b]? = some (.cells c t f)) : (W.putObj l o').heap[b]? = some (.cells c t f) := by
  by_cases e : b = l
  · subst e
    rw [hl] at h
    cases h
    cases hn
  · rw [World.putObj_heap_other e]; exact h
theorem PG.put {Bk Bc Bt Bi : Nat} {key info : ByteArray} {cnt : Nat} {tv : Value} {W : World} (h : PG Bk Bc Bt Bi key info cnt tv W) {l : Nat} {o : Obj} (o' : Obj) (hl : W.heap[l]? = some o) (hn : o.isCells = false) : PG Bk Bc Bt Bi key info cnt tv (W.putObj l o') := by
  obtain ⟨t1, h1⟩ := h.F
  obtain ⟨t2, h2⟩ := h.K
  exact ⟨blk_put hl hn h.k, blk_put hl hn h.c, blk_put hl hn h.t, blk_put hl hn h.i, ⟨t1, blk_put hl hn h1⟩, ⟨t2, blk_put hl hn h2⟩⟩
theorem blk_cell {W : World} {b g j : Nat} {o : Obj} (v : Value) (h : W.heap[b]? = some o) (hne : b ≠ g) : (W.setCell ⟨g, j, none⟩ v).heap[b]? = some o := (heap_setCell_other W ⟨g, j, none⟩ b v hne).trans h
theorem PG.cell {Bk Bc Bt Bi : Nat} {key info : ByteArray} {cnt : Nat} {tv : Value} {W : World} (h : PG Bk Bc Bt Bi key info cnt tv W) (g j : Nat) (v : Value) (h1 : Bk ≠ g) (h2 : Bc ≠ g) (h3 : Bt ≠ g) (h4 : Bi ≠ g) (h5 : 0 ≠ g) (h6 : 1 ≠ g) : PG Bk Bc Bt Bi key info cnt tv (W.setCell ⟨g, j, none⟩ v) := by
  obtain ⟨t1, k1⟩ := h.F
  obtain ⟨t2, k2⟩ := h.K
  exact ⟨blk_cell v h.k h1, blk_cell v h.c h2, blk_cell v h.t h3, blk_cell v h.i h4, ⟨t1, blk_cell v k1 h5⟩, ⟨t2, blk_cell v k2 h6⟩⟩
theorem grownBy_below {W W' : World} (h : Below W.heap.size W W') : W.grownBy W' none := ⟨h.os, h.tape, h.output, h.size, fun k hk _ => h.block k hk⟩

theorem hmacParts_any (key : ByteArray) (n : Int) (fn : Fn) (lb : Array Value) (w : World) :
    Calls Tryd.prog 50 #[.string key, .int .i64 n, .func fn #[] lb] w fun e w' => e = .returned (.func (.func 73) #[] #[.pointer (some ⟨w.heap.size + 1, 0, none⟩), .pointer (some ⟨w.heap.size, 0, none⟩), .pointer (some ⟨w.heap.size + 2, 0, none⟩)]) ∧ w' = ((w.alloc (.cells #[.string key] 9)).alloc (.cells #[.int .i64 n] 2)).alloc (.cells #[.func fn #[] lb] 51) := by
  go_enter Tryd.func50, Tryd.ntmps50
  go_wp2
  go_ret
  exact ⟨rfl, rfl⟩

theorem pg_own {β : Type} (Bk Bc Bt Bi : Nat) (key info : ByteArray) (cnt : Nat) (tv : Value) : Own (fun (_ : β) W => PG Bk Bc Bt Bi key info cnt tv W) := by
  intro s X Y row hs hg hrow
  have keep : ∀ {b : Nat} {c : Array Value} {t : TypeId} {f : Nat × Nat}, X.heap[b]? = some (.cells c t f) → Y.heap[b]? = some (.cells c t f) := by
    intro b c t f h
    refine (hg.block b (Array.getElem?_eq_some_iff.1 h).1 (fun e' => ?_)).trans h
    obtain ⟨o, ho, hc⟩ := hrow b e'.symm
    rw [h] at ho
    cases ho
    cases hc
  obtain ⟨t1, h1⟩ := hs.F
  obtain ⟨t2, h2⟩ := hs.K
  exact ⟨keep hs.k, keep hs.c, keep hs.t, keep hs.i, ⟨t1, keep h1⟩, ⟨t2, keep h2⟩⟩

/-- append(out, s...) of a text to bytes of the call's own, inside a fence. -/
theorem wpListIn_appS {F : Fence} {n' : Nat} {w : World} {ops : Array Oper} {rest : List Oper} {o : Oper} {a : Act} {Q : Exit → Act → World → Prop} (hgd : o.guard = none) (s x : Operand)
    (ho : o.op = .call { callee := .builtin .append, args := #[s, x], argTypes := #[22, 9] })
    (base : Nat) (v : Value) (k : Nat) (xs : List Value) (hs : a.eval s = v) (hown : w.ownsRow base 5 1 v k xs) (t : ByteArray) (hx : a.eval x = .string t)
    (hl : k + t.size ≤ 1000000000) (hbase : base ≤ w.heap.size)
    (h : ∀ v' w', w'.ownsRow base 5 1 v' (k + t.size) (xs ++ Lib.strCells t) → w.grownBy w' v.ownBlock → wpListIn F n' Tryd.prog ops Q rest (a.put o.dst v') w') :
    wpListIn F n' Tryd.prog ops Q (o :: rest) a w := by
  obtain ⟨i0, hi, hz0, hz1, hz2⟩ := info_parts Tryd.infoU8
  refine wpListIn_plain hgd fun K hK => ?_
  obtain ⟨v', w', hr, h2, h3, h4⟩ := Lib.run_append_own_string (P := Tryd.prog) w base 22 9 o.type 5 i0 Tryd.underlying22 Tryd.underlying9 hi hz0 hz1 hz2 v k xs hown t (by unfold maxLen; omega) (by omega) hbase
  unfold Oper.wpIn
  refine ⟨?_, ?_⟩
  · simp [Oper.about, ho, resolve, Target.leads, Sem.run_pure]
  · rw [Oper.semAt_plain F _ _ (by rw [ho]; intro c hc'; cases hc')]
    simp [execOp, ho, resolve, invoke, builtin, hs, hx, hr, Result.andThen]
    exact hK _ _ (h v' w' h2 h3)

theorem boxed_appS {W w1 : World} {n₀ B : Nat} {t e : TypeId} {size : Nat} {v v' : Value} {k m : Nat} {xs ys : List Value}
    (hv : Boxed W B t v) (hte : t ≠ e) (hrow : W.ownsRow n₀ e size v k xs) (hn₀ : n₀ ≤ W.heap.size) (hB : n₀ ≤ B)
    (hown' : w1.ownsRow n₀ e size v' m ys) (hgrow : W.grownBy w1 v.ownBlock) :
    Boxed w1 B t v ∧ Boxed (w1.setCell ⟨B, 0, none⟩ v') B t v' ∧ (w1.setCell ⟨B, 0, none⟩ v').ownsRow n₀ e size v' m ys ∧ KeepsOthers W (w1.setCell ⟨B, 0, none⟩ v') ∧ Below n₀ W (w1.setCell ⟨B, 0, none⟩ v') := by
  have hv1 : Boxed w1 B t v := hv.kept hgrow (hv.not_row hte hrow)
  refine ⟨hv1, hv1.set v', hown'.kept (grownBy_setCell' w1 B v') (.inr (hv1.not_row hte hown').symm), ?_, ?_⟩
  · refine (KeepsOthers.of_grownBy hgrow fun j o ej hj => ?_).trans (KeepsOthers.setCell _ _ _)
    rcases hrow.2 with ⟨rfl, _⟩ | ⟨g, cap, cur, rfl, _, hgb, _⟩
    · simp [Value.ownBlock] at ej
    · obtain rfl : g = j := by simpa [Value.ownBlock] using ej
      rw [hgb] at hj; cases hj; rfl
  · refine (((Below.refl n₀ W)).grown hgrow hn₀ fun j ej => ?_).setCell (p := ⟨B, 0, none⟩) hB v'
    rcases hrow.2 with ⟨rfl, _⟩ | ⟨g, cap, cur, rfl, hb, _, _⟩
    · simp [Value.ownBlock] at ej
    · obtain rfl : g = j := by simpa [Value.ownBlock] using ej
      exact hb
theorem boxed_step {W w1 : World} {b B : Nat} {t e : TypeId} {size : Nat} {u v v' : Value} {n₀ k : Nat} {xs : List Value} (h : Boxed W b t u) (hte : t ≠ e) (hrow : W.ownsRow n₀ e size v k xs) (hgrow : W.grownBy w1 v.ownBlock) (hne : b ≠ B) : Boxed (w1.setCell ⟨B, 0, none⟩ v') b t u :=
  blk_cell v' (h.kept hgrow (h.not_row hte hrow)) hne
theorem own_form {w : World} {base : Nat} {e : TypeId} {size : Nat} {v : Value} {n : Nat} {xs : List Value} (h : w.ownsRow base e size v n xs) (hn : 0 < n) : ∃ g cap, v = .slice (some ⟨g, 0, none⟩) n cap := by
  rcases h.2 with ⟨_, h0⟩ | ⟨g, cap, cur, rfl, _⟩
  · omega
  · exact ⟨g, cap, rfl⟩
end Go.Proofs.YtdcbideddlpodaaDoor
