/- Rows of whole numbers: those that a call makes and appends to, and those that it only reads. -/
import Derived.Test.YtgimjfffdnopiaaOwn
import Derived.Deep.RegionHeld3
namespace Go.Proofs.Ytgimjfffdnopiaa
open Go.RowKit

/-- v owns the numbers zs (of kind k, type e), in a row of the call's own (blocks from 'base' on). -/
def OwnK (e : TypeId) (k : IntKind) (w : World) (base : Nat) (v : Value) (zs : List Int) : Prop := w.ownsRow base e 1 v zs.length (zs.map (Value.int k))

theorem OwnK.alloc {e : TypeId} {k : IntKind} {w : World} {base : Nat} {v : Value} {l : List Int} (h : OwnK e k w base v l) (o : Obj) : OwnK e k (w.alloc o) base v l := World.ownsRow.alloc h o
theorem OwnK.drew {e : TypeId} {k : IntKind} {w : World} {base : Nat} {v : Value} {l : List Int} (h : OwnK e k w base v l) : OwnK e k w.drew base v l := h
theorem OwnK.drewN {e : TypeId} {k : IntKind} {w : World} {base : Nat} {v : Value} {l : List Int} (h : OwnK e k w base v l) (n : Nat) : OwnK e k (w.drewN n) base v l := h
theorem OwnK.lit (e : TypeId) (k : IntKind) (w : World) (base : Nat) (hb : base ≤ w.heap.size) : OwnK e k (w.alloc (.cells #[] e)) base (.slice (some ⟨w.heap.size, 0, none⟩) 0 0) [] :=
  World.ownsRow_lit w #[] 0 hb (by decide) rfl
theorem OwnK.nil (e : TypeId) (k : IntKind) (w : World) (base : Nat) : OwnK e k w base (.slice none 0 0) [] := ⟨rfl, .inl ⟨rfl, rfl⟩⟩

/-- What is owned from 'base' on is there still where only blocks from 'B' on were written and the row lies below B. -/
theorem OwnK.base_mono {e : TypeId} {k : IntKind} {w : World} {base base' : Nat} {v : Value} {l : List Int} (h : OwnK e k w base v l) (hb : base' ≤ base) : OwnK e k w base' v l := by
  refine ⟨h.1, ?_⟩
  rcases h.2 with h2 | ⟨g, cap, cur, hv, hg, r⟩
  · exact .inl h2
  · exact .inr ⟨g, cap, cur, hv, by omega, r⟩

/-- The numbers zs can be read through v, all in one block below B. -/
def RowAt (k : IntKind) (w : World) (B : Nat) (v : Value) (zs : List Int) : Prop :=
  ∃ a cap, v = .slice a zs.length cap ∧ zs.length ≤ cap ∧ cap ≤ maxLen ∧
    ∀ j, j < zs.length → ∃ b off, a = some ⟨b, off, none⟩ ∧ b < B ∧ ∀ i, i < zs.length → w.cell? ⟨b, off + i, none⟩ = some (.int k (zs.getD i 0))

theorem RowAt.below {k : IntKind} {w w' : World} {B : Nat} {v : Value} {zs : List Int} (h : RowAt k w B v zs) (hb : Below B w w') : RowAt k w' B v zs := by
  obtain ⟨a, cap, hv, h1, h2, hc⟩ := h
  refine ⟨a, cap, hv, h1, h2, fun j hj => ?_⟩
  obtain ⟨b, off, ha, hB, hr⟩ := hc j hj
  exact ⟨b, off, ha, hB, fun i hi => by rw [hb.cell (p := ⟨b, off + i, none⟩) hB]; exact hr i hi⟩

theorem RowAt.mono {k : IntKind} {w : World} {B B' : Nat} {v : Value} {zs : List Int} (h : RowAt k w B v zs) (hb : B ≤ B') : RowAt k w B' v zs := by
  obtain ⟨a, cap, hv, h1, h2, hc⟩ := h
  refine ⟨a, cap, hv, h1, h2, fun j hj => ?_⟩
  obtain ⟨b, off, ha, hB, hr⟩ := hc j hj
  exact ⟨b, off, ha, by omega, hr⟩

theorem OwnK.row {e : TypeId} {k : IntKind} {w : World} {base : Nat} {v : Value} {zs : List Int} (h : OwnK e k w base v zs) : RowAt k w w.heap.size v zs := by
  rcases h.2 with ⟨rfl, h0⟩ | ⟨g, cap, cur, rfl, hb, hg, hn, hm, hsz, ht⟩
  · have : zs = [] := List.eq_nil_of_length_eq_zero h0
    subst this
    exact ⟨none, 0, rfl, Nat.le_refl _, by unfold maxLen; omega, fun j hj => by simp at hj⟩
  · refine ⟨some ⟨g, 0, none⟩, cap, rfl, hn, hm, fun j _ => ⟨g, 0, rfl, ?_, fun i hi => ?_⟩⟩
    · rcases Nat.lt_or_ge g w.heap.size with hlt | hge
      · exact hlt
      · rw [Array.getElem?_eq_none hge] at hg; cases hg
    · have := World.ownsRow.cellAt h i (by omega)
      rw [Nat.zero_add, this]
      simp [hi]

/-- What is owned is there still where nothing that was there has turned. -/
theorem OwnK.keep {e : TypeId} {k : IntKind} {w w' : World} {base B : Nat} {v : Value} {zs : List Int} (h : OwnK e k w base v zs) (hb : Below B w w') (hB : w.heap.size ≤ B) : OwnK e k w' base v zs := by
  refine ⟨h.1, ?_⟩
  rcases h.2 with h2 | ⟨g, cap, cur, hv, hg, hh, r⟩
  · exact .inl h2
  · have hlt : g < w.heap.size := by
      rcases Nat.lt_or_ge g w.heap.size with hlt | hge
      · exact hlt
      · rw [Array.getElem?_eq_none hge] at hh; cases hh
    exact .inr ⟨g, cap, cur, hv, hg, by rw [hb.block g (by omega)]; exact hh, r⟩

theorem OwnK.len {e : TypeId} {k : IntKind} {w : World} {base : Nat} {v : Value} {zs : List Int} (h : OwnK e k w base v zs) : zs.length ≤ maxLen := by
  obtain ⟨a, cap, _, h1, h2, _⟩ := h.row
  omega

/-- A slice that came in. -/
theorem IsRow.row {k : IntKind} {w : World} {a : Option Addr} {len cap : Nat} {zs : List Int} (h : IsRow k w a len cap zs) :
    (zs.take len).length = len ∧ RowAt k w w.heap.size (.slice a len cap) (zs.take len) ∧ ∀ n ∈ zs.take len, (Lit.int k n).wf = true := by
  rcases h with ⟨rfl, rfl, rfl, rfl⟩ | ⟨x, rfl, hl, hm, hz, hcell, hwz⟩
  · exact ⟨rfl, ⟨none, 0, rfl, Nat.le_refl _, by unfold maxLen; omega, fun j hj => by simp at hj⟩, by simp⟩
  · have hlen : (zs.take len).length = len := by simp; omega
    refine ⟨hlen, ⟨some x, cap, by rw [hlen], by omega, hm, fun j hj => ?_⟩, fun n hn => hwz n (List.mem_of_mem_take hn)⟩
    have h0 := hcell 0 (by omega)
    obtain ⟨b, off, spot⟩ := x
    have hspot : spot = none := by simpa [Addr.add] using World.cell?_spot h0
    subst hspot
    refine ⟨b, off, rfl, ?_, fun i hi => ?_⟩
    · exact World.block_lt_of_cell? w _ h0
    · have hi' : i < len := by omega
      have := hcell i (by omega)
      rw [Addr.add_lit] at this
      rw [this]
      simp [hi']

section
variable {e t : TypeId} {k : IntKind} {by' : Nat}

/-- append(out, x, ..) of new numbers that lie in a block of their own, at a step of a region that draws. -/
theorem step_appK (hu : Try.prog.underlying t = some (.slice e)) (hinfo : (Try.prog.info? e).map (fun i => (i.zero, i.size, i.bytes)) = some (some (.int k 0), 1, by')) (hby : by' ≤ 8)
    {w : World} {ops : Array Oper} {o : Oper} {a : Act} {K : Act → World → Prop} {Q : Exit → Act → World → Prop} {E : Prop} (hgd : o.guard = none) (s x : Operand)
    (ho : o.op = .call { callee := .builtin .append, args := #[s, x], argTypes := #[t, t] })
    (base : Nat) (v : Value) (l : List Int) (hs : a.eval s = v) (hown : OwnK e k w base v l)
    (B m : Nat) (cs : Array Value) (fr : Nat × Nat) (news : List Int) (hx : a.eval x = .slice (some ⟨B, 0, none⟩) m m) (hb : w.heap[B]? = some (.cells cs e fr)) (hcs : cs.toList = news.map (Value.int k)) (hm : news.length = m) (hm0 : 0 < m)
    (hl : l.length + m ≤ 1000000000) (hbase : base ≤ w.heap.size)
    (h : ∀ v' w', OwnK e k w' base v' (l ++ news) → Below base w w' → K (a.put o.dst v') w') :
    if Region.wanted o (yielded ops a.tmps) = true then Oper.wp Try.prog o a w K Q else E := by
  obtain ⟨i0, hi, hz0, hz1, hz2⟩ := info_parts hinfo
  have hb8 : (l.length + m) * by' ≤ (l.length + m) * 8 := Nat.mul_le_mul_left _ hby
  refine step_append_lies w hgd s x t ho base e i0 (.int k 0) 1 by' hu hi hz0 hz1 hz2 rfl (by decide) v l.length (l.map (Value.int k)) hs hown ⟨B, 0, none⟩ m m (news.map (Value.int k)) hx (by simp [hm]) (by rw [← hcs]; exact World.news_of_block hb) (ints_oneCell _ _) hm0 (by unfold maxLen; omega) (by omega) hbase _ rfl ?_
  intro g cap w1 hown1 hgrow _ _
  refine h _ _ ?_ ((Below.refl _ _).grown hgrow hbase (ownBlock_base hown))
  have e' : (l ++ news).length = l.length + m := by simp [hm]
  unfold OwnK
  rw [e', List.map_append]
  exact hown1

theorem wpList_appK (hu : Try.prog.underlying t = some (.slice e)) (hinfo : (Try.prog.info? e).map (fun i => (i.zero, i.size, i.bytes)) = some (some (.int k 0), 1, by')) (hby : by' ≤ 8)
    {w : World} {ops : Array Oper} {rest : List Oper} {o : Oper} {a : Act} {Q : Exit → Act → World → Prop} (hgd : o.guard = none) (s x : Operand)
    (ho : o.op = .call { callee := .builtin .append, args := #[s, x], argTypes := #[t, t] })
    (base : Nat) (v : Value) (l : List Int) (hs : a.eval s = v) (hown : OwnK e k w base v l)
    (B m : Nat) (cs : Array Value) (fr : Nat × Nat) (news : List Int) (hx : a.eval x = .slice (some ⟨B, 0, none⟩) m m) (hb : w.heap[B]? = some (.cells cs e fr)) (hcs : cs.toList = news.map (Value.int k)) (hm : news.length = m) (hm0 : 0 < m)
    (hl : l.length + m ≤ 1000000000) (hbase : base ≤ w.heap.size)
    (h : ∀ v' w', OwnK e k w' base v' (l ++ news) → Below base w w' → wpList Try.prog ops Q rest (a.put o.dst v') w') :
    wpList Try.prog ops Q (o :: rest) a w := by
  obtain ⟨i0, hi, hz0, hz1, hz2⟩ := info_parts hinfo
  have hb8 : (l.length + m) * by' ≤ (l.length + m) * 8 := Nat.mul_le_mul_left _ hby
  refine wpList_append_lies w hgd s x t ho base e i0 (.int k 0) 1 by' hu hi hz0 hz1 hz2 rfl (by decide) v l.length (l.map (Value.int k)) hs hown ⟨B, 0, none⟩ m m (news.map (Value.int k)) hx (by simp [hm]) (by rw [← hcs]; exact World.news_of_block hb) (ints_oneCell _ _) hm0 (by unfold maxLen; omega) (by omega) hbase _ rfl ?_
  intro g cap w1 hown1 hgrow _ _
  refine h _ _ ?_ ((Below.refl _ _).grown hgrow hbase (ownBlock_base hown))
  have e' : (l ++ news).length = l.length + m := by simp [hm]
  unfold OwnK
  rw [e', List.map_append]
  exact hown1

/-- The same, with what else is kept. -/
theorem wpList_appKg (hu : Try.prog.underlying t = some (.slice e)) (hinfo : (Try.prog.info? e).map (fun i => (i.zero, i.size, i.bytes)) = some (some (.int k 0), 1, by')) (hby : by' ≤ 8)
    {w : World} {ops : Array Oper} {rest : List Oper} {o : Oper} {a : Act} {Q : Exit → Act → World → Prop} (hgd : o.guard = none) (s x : Operand)
    (ho : o.op = .call { callee := .builtin .append, args := #[s, x], argTypes := #[t, t] })
    (base : Nat) (v : Value) (l : List Int) (hs : a.eval s = v) (hown : OwnK e k w base v l)
    (B m : Nat) (cs : Array Value) (fr : Nat × Nat) (news : List Int) (hx : a.eval x = .slice (some ⟨B, 0, none⟩) m m) (hb : w.heap[B]? = some (.cells cs e fr)) (hcs : cs.toList = news.map (Value.int k)) (hm : news.length = m) (hm0 : 0 < m)
    (hl : l.length + m ≤ 1000000000) (hbase : base ≤ w.heap.size)
    (h : ∀ v' w', OwnK e k w' base v' (l ++ news) → w.grownBy w' v.ownBlock → wpList Try.prog ops Q rest (a.put o.dst v') w') :
    wpList Try.prog ops Q (o :: rest) a w := by
  obtain ⟨i0, hi, hz0, hz1, hz2⟩ := info_parts hinfo
  have hb8 : (l.length + m) * by' ≤ (l.length + m) * 8 := Nat.mul_le_mul_left _ hby
  refine wpList_append_lies w hgd s x t ho base e i0 (.int k 0) 1 by' hu hi hz0 hz1 hz2 rfl (by decide) v l.length (l.map (Value.int k)) hs hown ⟨B, 0, none⟩ m m (news.map (Value.int k)) hx (by simp [hm]) (by rw [← hcs]; exact World.news_of_block hb) (ints_oneCell _ _) hm0 (by unfold maxLen; omega) (by omega) hbase _ rfl ?_
  intro g cap w1 hown1 hgrow _ _
  refine h _ _ ?_ hgrow
  have e' : (l ++ news).length = l.length + m := by simp [hm]
  unfold OwnK
  rw [e', List.map_append]
  exact hown1

/-- make([]T, 0, n) -/
theorem wpList_makeK (hu : Try.prog.underlying t = some (.slice e)) (hinfo : (Try.prog.info? e).map (fun i => (i.zero, i.size, i.bytes)) = some (some (.int k 0), 1, by')) (hby : by' ≤ 8)
    {w : World} {ops : Array Oper} {rest : List Oper} {o : Oper} {a : Act} {Q : Exit → Act → World → Prop}
    (hg : o.guard = none) (l c : Operand) (hop : o.op = Op.makeSlice t l c) (base : Nat) (kl kc : IntKind) (C : Int)
    (hl : a.eval l = .int kl 0) (hc : a.eval c = .int kc C) (hC0 : 0 ≤ C) (hC : C ≤ 1000000000) (hbase : base ≤ w.heap.size)
    (hK : ∀ v' w', OwnK e k w' base v' [] → Below base w w' → wpList Try.prog ops Q rest (a.put o.dst v') w') :
    wpList Try.prog ops Q (o :: rest) a w := by
  obtain ⟨i0, hi, hz0, hz1, hz2⟩ := info_parts hinfo
  have hb8 : by' * C.toNat ≤ 8 * C.toNat := Nat.mul_le_mul_right _ hby
  refine wpList_make_own w hg l c t hop base e i0 (.int k 0) 1 hu hi hz0 hz1 kl kc C C.toNat hl hc (by omega) (by rw [hz2]; omega) (by unfold maxLen; omega) hbase ?_
  intro w1 hown hgrow
  exact hK _ _ hown ((Below.refl _ _).grown hgrow hbase (fun k hk => by cases hk))

/-- make([]T, n) -/
theorem wpList_fullK (hu : Try.prog.underlying t = some (.slice e)) (hinfo : (Try.prog.info? e).map (fun i => (i.zero, i.size, i.bytes)) = some (some (.int k 0), 1, by')) (hby : by' ≤ 8)
    {w : World} {ops : Array Oper} {rest : List Oper} {o : Oper} {a : Act} {Q : Exit → Act → World → Prop}
    (hg : o.guard = none) (l c : Operand) (hop : o.op = Op.makeSlice t l c) (base : Nat) (kl kc : IntKind) (n : Nat)
    (hl : a.eval l = .int kl n) (hc : a.eval c = .int kc n) (hn : n ≤ 1000000000) (hbase : base ≤ w.heap.size)
    (hK : ∀ w', OwnK e k w' base (.slice (some ⟨w.heap.size, 0, none⟩) n n) (List.replicate n 0) → Below base w w' → wpList Try.prog ops Q rest (a.put o.dst (.slice (some ⟨w.heap.size, 0, none⟩) n n)) w') :
    wpList Try.prog ops Q (o :: rest) a w := by
  obtain ⟨i0, hi, hz0, hz1, hz2⟩ := info_parts hinfo
  have hb8 : by' * n ≤ 8 * n := Nat.mul_le_mul_right _ hby
  refine wpList_make_full w hg l c t hop base e i0 (.int k 0) 1 hu hi hz0 hz1 kl kc n n n hl hc rfl rfl (by rw [hz2]; omega) (by unfold maxLen; omega) hbase ?_
  intro w1 hown hgrow
  refine hK _ ?_ ((Below.refl _ _).grown hgrow hbase (fun k hk => by cases hk))
  unfold OwnK
  have e1 : (Value.int k 0).cells = #[Value.int k 0] := rfl
  rw [e1, Nat.mul_one, toList_madeCells_one] at hown
  simpa using hown
end

/-- A store into an owned row. -/
theorem OwnK.set {e : TypeId} {k : IntKind} {w : World} {base g cap n : Nat} {zs : List Int} (h : OwnK e k w base (.slice (some ⟨g, 0, none⟩) n cap) zs) (hn : n = zs.length) (j : Nat) (x : Int) :
    OwnK e k (w.setCell ⟨g, j, none⟩ (.int k x)) base (.slice (some ⟨g, 0, none⟩) n cap) (zs.set j x) := by
  subst hn
  have := (World.ownsRow.stored h j (.int k x)).1
  unfold OwnK
  rw [List.length_set, List.map_set]
  exact this

theorem OwnK.free {e : TypeId} {k : IntKind} {w : World} {base g cap n : Nat} {zs : List Int} (h : OwnK e k w base (.slice (some ⟨g, 0, none⟩) n cap) zs) (hn : n = zs.length) (j : Nat) : w.frozen? ⟨g, j, none⟩ = false := by
  subst hn
  exact World.ownsRow.frozenAt h j
theorem OwnK.cell {e : TypeId} {k : IntKind} {w : World} {base g cap n : Nat} {zs : List Int} (h : OwnK e k w base (.slice (some ⟨g, 0, none⟩) n cap) zs) (hn : n = zs.length) (j : Nat) (hj : j < n) : ∃ u, w.cell? ⟨g, j, none⟩ = some (.int k u) := by
  subst hn
  have := World.ownsRow.cellAt h j (by omega)
  rw [this]
  have hk' : j < (zs.map (Value.int k)).length := by rw [List.length_map]; exact hj
  rw [List.getElem?_eq_getElem hk', List.getElem_map]
  exact ⟨_, rfl⟩

theorem OwnK.form {e : TypeId} {k : IntKind} {w : World} {base : Nat} {v : Value} {zs : List Int} (h : OwnK e k w base v zs) (hn : zs ≠ []) :
    ∃ g cap, v = .slice (some ⟨g, 0, none⟩) zs.length cap ∧ base ≤ g ∧ g < w.heap.size ∧ ∀ j, w.frozen? ⟨g, j, none⟩ = false := by
  have hpos : 0 < zs.length := List.length_pos_iff.2 hn
  obtain ⟨g, cap, rfl, hb, hlt⟩ := World.ownsRow.form h hpos
  exact ⟨g, cap, rfl, hb, hlt, fun j => World.ownsRow.frozenAt h j⟩

/-- The numbers from k on. -/
def marks (k : Int) (n : Nat) : List Int := (List.range n).map fun (i : Nat) => k + (i : Int)
theorem marks_len (k : Int) (n : Nat) : (marks k n).length = n := by simp [marks]
theorem marks_get (k : Int) (n i : Nat) (h : i < n) : (marks k n).getD i 0 = k + i := by simp [marks, h]
theorem marks_set (k : Int) (xs : List Int) (i : Nat) (h : i < xs.length) : (marks k i ++ xs.drop i).set i (k + i) = marks k (i + 1) ++ xs.drop (i + 1) := by
  have e : (xs.drop i).set 0 (k + i) = (k + i) :: xs.drop (i + 1) := by rw [List.drop_eq_getElem_cons h, List.set_cons_zero]
  rw [List.set_append_right _ _ (by rw [marks_len]; exact Nat.le_refl _), marks_len, Nat.sub_self, e]
  simp [marks, List.range_succ]
theorem set_copy (zs : List Int) (i : Nat) (h : i < zs.length) : (zs.take i ++ List.replicate (zs.length - i) 0).set i (zs.getD i 0) = zs.take (i + 1) ++ List.replicate (zs.length - (i + 1)) 0 := by
  have hl : (zs.take i).length = i := by simp; omega
  rw [List.set_append_right _ _ (by omega), hl, Nat.sub_self, show zs.length - i = (zs.length - (i + 1)) + 1 by omega, List.replicate_succ, List.set_cons_zero]
  have g : zs.getD i 0 = zs[i] := by simp [h]
  rw [g, List.take_succ_eq_append_getElem h, List.append_assoc]
  rfl

/-- A row of another type is not turned by an append. -/
theorem OwnK.apart {e e' : TypeId} {k : IntKind} {w w' : World} {base base' size n : Nat} {u v : Value} {zs : List Int} {xs : List Value} (h : OwnK e k w base u zs) (hr : w.ownsRow base' e' size v n xs) (hne : e ≠ e') (hg : w.grownBy w' v.ownBlock) : OwnK e k w' base u zs := by
  refine ⟨h.1, ?_⟩
  rcases h.2 with h2 | ⟨g, cap, cur, hv, hgb, hh, r⟩
  · exact .inl h2
  · have hlt : g < w.heap.size := by
      rcases Nat.lt_or_ge g w.heap.size with hlt | hge
      · exact hlt
      · rw [Array.getElem?_eq_none hge] at hh; cases hh
    refine .inr ⟨g, cap, cur, hv, hgb, ?_, r⟩
    rw [hg.block g hlt ?_]
    · exact hh
    · rcases hr.2 with ⟨rfl, _⟩ | ⟨g', cap', cur', rfl, _, hg', _⟩
      · intro e1; cases e1
      · intro e1
        have : g = g' := by simpa [Value.ownBlock] using e1
        subst this
        rw [hh] at hg'
        simp at hg'
        exact hne hg'.2

theorem Try.infoI64 : (Try.prog.info? 2).map (fun i => (i.zero, i.size, i.bytes)) = some (some (.int .i64 0), 1, 8) := by kernel_rfl
theorem Try.infoU32 : (Try.prog.info? 245).map (fun i => (i.zero, i.size, i.bytes)) = some (some (.int .u32 0), 1, 4) := by kernel_rfl
end Go.Proofs.Ytgimjfffdnopiaa
