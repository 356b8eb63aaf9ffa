/- Joined: Rows1, Recs. -/
import Derived.Deep.RegionHeld3
import Derived.Test.YtffkakpbelknaaaS2
/- Rows1 -/
namespace Go.Proofs.Ytffkakpbelknaaa
open Go.RowKit

/-- v owns the numbers zs (of kind k, type e), in a row of the call's own (blocks from 'base' on). -/
def OwnK (e : TypeId) (k : IntKind) (w : World) (base : Nat) (v : Value) (zs : List Int) : Prop := w.ownsRow base e 1 v zs.length (zs.map (Value.int k))

theorem OwnK.alloc {e : TypeId} {k : IntKind} {w : World} {base : Nat} {v : Value} {l : List Int} (h : OwnK e k w base v l) (o : Obj) : OwnK e k (w.alloc o) base v l := World.ownsRow.alloc h o
theorem OwnK.drew {e : TypeId} {k : IntKind} {w : World} {base : Nat} {v : Value} {l : List Int} (h : OwnK e k w base v l) : OwnK e k w.drew base v l := h
theorem OwnK.drewN {e : TypeId} {k : IntKind} {w : World} {base : Nat} {v : Value} {l : List Int} (h : OwnK e k w base v l) (n : Nat) : OwnK e k (w.drewN n) base v l := h
theorem OwnK.lit (e : TypeId) (k : IntKind) (w : World) (base : Nat) (hb : base ≤ w.heap.size) : OwnK e k (w.alloc (.cells #[] e)) base (.slice (some ⟨w.heap.size, 0, none⟩) 0 0) [] :=
  World.ownsRow_lit w #[] 0 hb (by decide) rfl
theorem OwnK.nil (e : TypeId) (k : IntKind) (w : World) (base : Nat) : OwnK e k w base (.slice none 0 0) [] := ⟨rfl, .inl ⟨rfl, rfl⟩⟩

/-- What is owned from 'base' on is there still where only blocks from 'B' on were written and the row lies below B. -/
theorem OwnK.base_mono {e : TypeId} {k : IntKind} {w : World} {base base' : Nat} {v : Value} {l : List Int} (h : OwnK e k w base v l) (hb : base' ≤ base) : OwnK e k w base' v l := by
  refine ⟨h.1, ?_⟩
  rcases h.2 with h2 | ⟨g, cap, cur, hv, hg, r⟩
  · exact .inl h2
  · exact .inr ⟨g, cap, cur, hv, by omega, r⟩

/-- The numbers zs can be read through v, all in one block below B. -/
def RowAt (k : IntKind) (w : World) (B : Nat) (v : Value) (zs : List Int) : Prop :=
  ∃ a cap, v = .slice a zs.length cap ∧ zs.length ≤ cap ∧ cap ≤ maxLen ∧
    ∀ j, j < zs.length → ∃ b off, a = some ⟨b, off, none⟩ ∧ b < B ∧ ∀ i, i < zs.length → w.cell? ⟨b, off + i, none⟩ = some (.int k (zs.getD i 0))

theorem RowAt.below {k : IntKind} {w w' : World} {B : Nat} {v : Value} {zs : List Int} (h : RowAt k w B v zs) (hb : Below B w w') : RowAt k w' B v zs := by
  obtain ⟨a, cap, hv, h1, h2, hc⟩ := h
  refine ⟨a, cap, hv, h1, h2, fun j hj => ?_⟩
  obtain ⟨b, off, ha, hB, hr⟩ := hc j hj
  exact ⟨b, off, ha, hB, fun i hi => by rw [hb.cell (p := ⟨b, off + i, none⟩) hB]; exact hr i hi⟩

theorem RowAt.mono {k : IntKind} {w : World} {B B' : Nat} {v : Value} {zs : List Int} (h : RowAt k w B v zs) (hb : B ≤ B') : RowAt k w B' v zs := by
  obtain ⟨a, cap, hv, h1, h2, hc⟩ := h
  refine ⟨a, cap, hv, h1, h2, fun j hj => ?_⟩
  obtain ⟨b, off, ha, hB, hr⟩ := hc j hj
  exact ⟨b, off, ha, by omega, hr⟩

theorem OwnK.row {e : TypeId} {k : IntKind} {w : World} {base : Nat} {v : Value} {zs : List Int} (h : OwnK e k w base v zs) : RowAt k w w.heap.size v zs := by
  rcases h.2 with ⟨rfl, h0⟩ | ⟨g, cap, cur, rfl, hb, hg, hn, hm, hsz, ht⟩
  · have : zs = [] := List.eq_nil_of_length_eq_zero h0
    subst this
    exact ⟨none, 0, rfl, Nat.le_refl _, by unfold maxLen; omega, fun j hj => by simp at hj⟩
  · refine ⟨some ⟨g, 0, none⟩, cap, rfl, hn, hm, fun j _ => ⟨g, 0, rfl, ?_, fun i hi => ?_⟩⟩
    · rcases Nat.lt_or_ge g w.heap.size with hlt | hge
      · exact hlt
      · rw [Array.getElem?_eq_none hge] at hg; cases hg
    · have := World.ownsRow.cellAt h i (by omega)
      rw [Nat.zero_add, this]
      simp [hi]

/-- What is owned is there still where nothing that was there has turned. -/
theorem OwnK.keep {e : TypeId} {k : IntKind} {w w' : World} {base B : Nat} {v : Value} {zs : List Int} (h : OwnK e k w base v zs) (hb : Below B w w') (hB : w.heap.size ≤ B) : OwnK e k w' base v zs := by
  refine ⟨h.1, ?_⟩
  rcases h.2 with h2 | ⟨g, cap, cur, hv, hg, hh, r⟩
  · exact .inl h2
  · have hlt : g < w.heap.size := by
      rcases Nat.lt_or_ge g w.heap.size with hlt | hge
      · exact hlt
      · rw [Array.getElem?_eq_none hge] at hh; cases hh
    exact .inr ⟨g, cap, cur, hv, hg, by rw [hb.block g (by omega)]; exact hh, r⟩

theorem OwnK.len {e : TypeId} {k : IntKind} {w : World} {base : Nat} {v : Value} {zs : List Int} (h : OwnK e k w base v zs) : zs.length ≤ maxLen := by
  obtain ⟨a, cap, _, h1, h2, _⟩ := h.row
  omega

/-- A slice that came in. -/
theorem IsRow.row {k : IntKind} {w : World} {a : Option Addr} {len cap : Nat} {zs : List Int} (h : IsRow k w a len cap zs) :
    (zs.take len).length = len ∧ RowAt k w w.heap.size (.slice a len cap) (zs.take len) ∧ ∀ n ∈ zs.take len, (Lit.int k n).wf = true := by
  rcases h with ⟨rfl, rfl, rfl, rfl⟩ | ⟨x, rfl, hl, hm, hz, hcell, hwz⟩
  · exact ⟨rfl, ⟨none, 0, rfl, Nat.le_refl _, by unfold maxLen; omega, fun j hj => by simp at hj⟩, by simp⟩
  · have hlen : (zs.take len).length = len := by simp; omega
    refine ⟨hlen, ⟨some x, cap, by rw [hlen], by omega, hm, fun j hj => ?_⟩, fun n hn => hwz n (List.mem_of_mem_take hn)⟩
    have h0 := hcell 0 (by omega)
    obtain ⟨b, off, spot⟩ := x
    have hspot : spot = none := by simpa [Addr.add] using World.cell?_spot h0
    subst hspot
    refine ⟨b, off, rfl, ?_, fun i hi => ?_⟩
    · exact World.block_lt_of_cell? w _ h0
    · have hi' : i < len := by omega
      have := hcell i (by omega)
      rw [Addr.add_lit] at this
      rw [this]
      simp [hi']

section
variable {e t : TypeId} {k : IntKind} {by' : Nat}

/-- append(out, x, ..) of new numbers that lie in a block of their own, at a step of a region that draws. -/
theorem step_appK (hu : Try.prog.underlying t = some (.slice e)) (hinfo : (Try.prog.info? e).map (fun i => (i.zero, i.size, i.bytes)) = some (some (.int k 0), 1, by')) (hby : by' ≤ 8)
    {w : World} {ops : Array Oper} {o : Oper} {a : Act} {K : Act → World → Prop} {Q : Exit → Act → World → Prop} {E : Prop} (hgd : o.guard = none) (s x : Operand)
    (ho : o.op = .call { callee := .builtin .append, args := #[s, x], argTypes := #[t, t] })
    (base : Nat) (v : Value) (l : List Int) (hs : a.eval s = v) (hown : OwnK e k w base v l)
    (B m : Nat) (cs : Array Value) (fr : Nat × Nat) (news : List Int) (hx : a.eval x = .slice (some ⟨B, 0, none⟩) m m) (hb : w.heap[B]? = some (.cells cs e fr)) (hcs : cs.toList = news.map (Value.int k)) (hm : news.length = m) (hm0 : 0 < m)
    (hl : l.length + m ≤ 1000000000) (hbase : base ≤ w.heap.size)
    (h : ∀ v' w', OwnK e k w' base v' (l ++ news) → Below base w w' → K (a.put o.dst v') w') :
    if Region.wanted o (yielded ops a.tmps) = true then Oper.wp Try.prog o a w K Q else E := by
  obtain ⟨i0, hi, hz0, hz1, hz2⟩ := info_parts hinfo
  have hb8 : (l.length + m) * by' ≤ (l.length + m) * 8 := Nat.mul_le_mul_left _ hby
  refine step_append_lies w hgd s x t ho base e i0 (.int k 0) 1 by' hu hi hz0 hz1 hz2 rfl (by decide) v l.length (l.map (Value.int k)) hs hown ⟨B, 0, none⟩ m m (news.map (Value.int k)) hx (by simp [hm]) (by rw [← hcs]; exact World.news_of_block hb) (ints_oneCell _ _) hm0 (by unfold maxLen; omega) (by omega) hbase _ rfl ?_
  intro g cap w1 hown1 hgrow _ _
  refine h _ _ ?_ ((Below.refl _ _).grown hgrow hbase (ownBlock_base hown))
  have e' : (l ++ news).length = l.length + m := by simp [hm]
  unfold OwnK
  rw [e', List.map_append]
  exact hown1

theorem wpList_appK (hu : Try.prog.underlying t = some (.slice e)) (hinfo : (Try.prog.info? e).map (fun i => (i.zero, i.size, i.bytes)) = some (some (.int k 0), 1, by')) (hby : by' ≤ 8)
    {w : World} {ops : Array Oper} {rest : List Oper} {o : Oper} {a : Act} {Q : Exit → Act → World → Prop} (hgd : o.guard = none) (s x : Operand)
    (ho : o.op = .call { callee := .builtin .append, args := #[s, x], argTypes := #[t, t] })
    (base : Nat) (v : Value) (l : List Int) (hs : a.eval s = v) (hown : OwnK e k w base v l)
    (B m : Nat) (cs : Array Value) (fr : Nat × Nat) (news : List Int) (hx : a.eval x = .slice (some ⟨B, 0, none⟩) m m) (hb : w.heap[B]? = some (.cells cs e fr)) (hcs : cs.toList = news.map (Value.int k)) (hm : news.length = m) (hm0 : 0 < m)
    (hl : l.length + m ≤ 1000000000) (hbase : base ≤ w.heap.size)
    (h : ∀ v' w', OwnK e k w' base v' (l ++ news) → Below base w w' → wpList Try.prog ops Q rest (a.put o.dst v') w') :
    wpList Try.prog ops Q (o :: rest) a w := by
  obtain ⟨i0, hi, hz0, hz1, hz2⟩ := info_parts hinfo
  have hb8 : (l.length + m) * by' ≤ (l.length + m) * 8 := Nat.mul_le_mul_left _ hby
  refine wpList_append_lies w hgd s x t ho base e i0 (.int k 0) 1 by' hu hi hz0 hz1 hz2 rfl (by decide) v l.length (l.map (Value.int k)) hs hown ⟨B, 0, none⟩ m m (news.map (Value.int k)) hx (by simp [hm]) (by rw [← hcs]; exact World.news_of_block hb) (ints_oneCell _ _) hm0 (by unfold maxLen; omega) (by omega) hbase _ rfl ?_
  intro g cap w1 hown1 hgrow _ _
  refine h _ _ ?_ ((Below.refl _ _).grown hgrow hbase (ownBlock_base hown))
  have e' : (l ++ news).length = l.length + m := by simp [hm]
  unfold OwnK
  rw [e', List.map_append]
  exact hown1

/-- The same, with what else is kept. -/
theorem wpList_appKg (hu : Try.prog.underlying t = some (.slice e)) (hinfo : (Try.prog.info? e).map (fun i => (i.zero, i.size, i.bytes)) = some (some (.int k 0), 1, by')) (hby : by' ≤ 8)
    {w : World} {ops : Array Oper} {rest : List Oper} {o : Oper} {a : Act} {Q : Exit → Act → World → Prop} (hgd : o.guard = none) (s x : Operand)
    (ho : o.op = .call { callee := .builtin .append, args := #[s, x], argTypes := #[t, t] })
    (base : Nat) (v : Value) (l : List Int) (hs : a.eval s = v) (hown : OwnK e k w base v l)
    (B m : Nat) (cs : Array Value) (fr : Nat × Nat) (news : List Int) (hx : a.eval x = .slice (some ⟨B, 0, none⟩) m m) (hb : w.heap[B]? = some (.cells cs e fr)) (hcs : cs.toList = news.map (Value.int k)) (hm : news.length = m) (hm0 : 0 < m)
    (hl : l.length + m ≤ 1000000000) (hbase : base ≤ w.heap.size)
    (h : ∀ v' w', OwnK e k w' base v' (l ++ news) → w.grownBy w' v.ownBlock → wpList Try.prog ops Q rest (a.put o.dst v') w') :
    wpList Try.prog ops Q (o :: rest) a w := by
  obtain ⟨i0, hi, hz0, hz1, hz2⟩ := info_parts hinfo
  have hb8 : (l.length + m) * by' ≤ (l.length + m) * 8 := Nat.mul_le_mul_left _ hby
  refine wpList_append_lies w hgd s x t ho base e i0 (.int k 0) 1 by' hu hi hz0 hz1 hz2 rfl (by decide) v l.length (l.map (Value.int k)) hs hown ⟨B, 0, none⟩ m m (news.map (Value.int k)) hx (by simp [hm]) (by rw [← hcs]; exact World.news_of_block hb) (ints_oneCell _ _) hm0 (by unfold maxLen; omega) (by omega) hbase _ rfl ?_
  intro g cap w1 hown1 hgrow _ _
  refine h _ _ ?_ hgrow
  have e' : (l ++ news).length = l.length + m := by simp [hm]
  unfold OwnK
  rw [e', List.map_append]
  exact hown1

/-- make([]T, 0, n) -/
theorem wpList_makeK (hu : Try.prog.underlying t = some (.slice e)) (hinfo : (Try.prog.info? e).map (fun i => (i.zero, i.size, i.bytes)) = some (some (.int k 0), 1, by')) (hby : by' ≤ 8)
    {w : World} {ops : Array Oper} {rest : List Oper} {o : Oper} {a : Act} {Q : Exit → Act → World → Prop}
    (hg : o.guard = none) (l c : Operand) (hop : o.op = Op.makeSlice t l c) (base : Nat) (kl kc : IntKind) (C : Int)
    (hl : a.eval l = .int kl 0) (hc : a.eval c = .int kc C) (hC0 : 0 ≤ C) (hC : C ≤ 1000000000) (hbase : base ≤ w.heap.size)
    (hK : ∀ v' w', OwnK e k w' base v' [] → Below base w w' → wpList Try.prog ops Q rest (a.put o.dst v') w') :
    wpList Try.prog ops Q (o :: rest) a w := by
  obtain ⟨i0, hi, hz0, hz1, hz2⟩ := info_parts hinfo
  have hb8 : by' * C.toNat ≤ 8 * C.toNat := Nat.mul_le_mul_right _ hby
  refine wpList_make_own w hg l c t hop base e i0 (.int k 0) 1 hu hi hz0 hz1 kl kc C C.toNat hl hc (by omega) (by rw [hz2]; omega) (by unfold maxLen; omega) hbase ?_
  intro w1 hown hgrow
  exact hK _ _ hown ((Below.refl _ _).grown hgrow hbase (fun k hk => by cases hk))

/-- make([]T, n) -/
theorem wpList_fullK (hu : Try.prog.underlying t = some (.slice e)) (hinfo : (Try.prog.info? e).map (fun i => (i.zero, i.size, i.bytes)) = some (some (.int k 0), 1, by')) (hby : by' ≤ 8)
    {w : World} {ops : Array Oper} {rest : List Oper} {o : Oper} {a : Act} {Q : Exit → Act → World → Prop}
    (hg : o.guard = none) (l c : Operand) (hop : o.op = Op.makeSlice t l c) (base : Nat) (kl kc : IntKind) (n : Nat)
    (hl : a.eval l = .int kl n) (hc : a.eval c = .int kc n) (hn : n ≤ 1000000000) (hbase : base ≤ w.heap.size)
    (hK : ∀ w', OwnK e k w' base (.slice (some ⟨w.heap.size, 0, none⟩) n n) (List.replicate n 0) → Below base w w' → wpList Try.prog ops Q rest (a.put o.dst (.slice (some ⟨w.heap.size, 0, none⟩) n n)) w') :
    wpList Try.prog ops Q (o :: rest) a w := by
  obtain ⟨i0, hi, hz0, hz1, hz2⟩ := info_parts hinfo
  have hb8 : by' * n ≤ 8 * n := Nat.mul_le_mul_right _ hby
  refine wpList_make_full w hg l c t hop base e i0 (.int k 0) 1 hu hi hz0 hz1 kl kc n n n hl hc rfl rfl (by rw [hz2]; omega) (by unfold maxLen; omega) hbase ?_
  intro w1 hown hgrow
  refine hK _ ?_ ((Below.refl _ _).grown hgrow hbase (fun k hk => by cases hk))
  unfold OwnK
  have e1 : (Value.int k 0).cells = #[Value.int k 0] := rfl
  rw [e1, Nat.mul_one, toList_madeCells_one] at hown
  simpa using hown
end

/-- A store into an owned row. -/
theorem OwnK.set {e : TypeId} {k : IntKind} {w : World} {base g cap n : Nat} {zs : List Int} (h : OwnK e k w base (.slice (some ⟨g, 0, none⟩) n cap) zs) (hn : n = zs.length) (j : Nat) (x : Int) :
    OwnK e k (w.setCell ⟨g, j, none⟩ (.int k x)) base (.slice (some ⟨g, 0, none⟩) n cap) (zs.set j x) := by
  subst hn
  have := (World.ownsRow.stored h j (.int k x)).1
  unfold OwnK
  rw [List.length_set, List.map_set]
  exact this

theorem OwnK.free {e : TypeId} {k : IntKind} {w : World} {base g cap n : Nat} {zs : List Int} (h : OwnK e k w base (.slice (some ⟨g, 0, none⟩) n cap) zs) (hn : n = zs.length) (j : Nat) : w.frozen? ⟨g, j, none⟩ = false := by
  subst hn
  exact World.ownsRow.frozenAt h j
theorem OwnK.cell {e : TypeId} {k : IntKind} {w : World} {base g cap n : Nat} {zs : List Int} (h : OwnK e k w base (.slice (some ⟨g, 0, none⟩) n cap) zs) (hn : n = zs.length) (j : Nat) (hj : j < n) : ∃ u, w.cell? ⟨g, j, none⟩ = some (.int k u) := by
  subst hn
  have := World.ownsRow.cellAt h j (by omega)
  rw [this]
  have hk' : j < (zs.map (Value.int k)).length := by rw [List.length_map]; exact hj
  rw [List.getElem?_eq_getElem hk', List.getElem_map]
  exact ⟨_, rfl⟩

theorem OwnK.form {e : TypeId} {k : IntKind} {w : World} {base : Nat} {v : Value} {zs : List Int} (h : OwnK e k w base v zs) (hn : zs ≠ []) :
    ∃ g cap, v = .slice (some ⟨g, 0, none⟩) zs.length cap ∧ base ≤ g ∧ g < w.heap.size ∧ ∀ j, w.frozen? ⟨g, j, none⟩ = false := by
  have hpos : 0 < zs.length := List.length_pos_iff.2 hn
  obtain ⟨g, cap, rfl, hb, hlt⟩ := World.ownsRow.form h hpos
  exact ⟨g, cap, rfl, hb, hlt, fun j => World.ownsRow.frozenAt h j⟩

/-- The numbers from k on. -/
def marks (k : Int) (n : Nat) : List Int := (List.range n).map fun (i : Nat) => k + (i : Int)
theorem marks_len (k : Int) (n : Nat) : (marks k n).length = n := by simp [marks]
theorem marks_get (k : Int) (n i : Nat) (h : i < n) : (marks k n).getD i 0 = k + i := by simp [marks, h]
theorem marks_set (k : Int) (xs : List Int) (i : Nat) (h : i < xs.length) : (marks k i ++ xs.drop i).set i (k + i) = marks k (i + 1) ++ xs.drop (i + 1) := by
  have e : (xs.drop i).set 0 (k + i) = (k + i) :: xs.drop (i + 1) := by rw [List.drop_eq_getElem_cons h, List.set_cons_zero]
  rw [List.set_append_right _ _ (by rw [marks_len]; exact Nat.le_refl _), marks_len, Nat.sub_self, e]
  simp [marks, List.range_succ]
theorem set_copy (zs : List Int) (i : Nat) (h : i < zs.length) : (zs.take i ++ List.replicate (zs.length - i) 0).set i (zs.getD i 0) = zs.take (i + 1) ++ List.replicate (zs.length - (i + 1)) 0 := by
  have hl : (zs.take i).length = i := by simp; omega
  rw [List.set_append_right _ _ (by omega), hl, Nat.sub_self, show zs.length - i = (zs.length - (i + 1)) + 1 by omega, List.replicate_succ, List.set_cons_zero]
  have g : zs.getD i 0 = zs[i] := by simp [h]
  rw [g, List.take_succ_eq_append_getElem h, List.append_assoc]
  rfl

/-- A row of another type is not turned by an append. -/
theorem OwnK.apart {e e' : TypeId} {k : IntKind} {w w' : World} {base base' size n : Nat} {u v : Value} {zs : List Int} {xs : List Value} (h : OwnK e k w base u zs) (hr : w.ownsRow base' e' size v n xs) (hne : e ≠ e') (hg : w.grownBy w' v.ownBlock) : OwnK e k w' base u zs := by
  refine ⟨h.1, ?_⟩
  rcases h.2 with h2 | ⟨g, cap, cur, hv, hgb, hh, r⟩
  · exact .inl h2
  · have hlt : g < w.heap.size := by
      rcases Nat.lt_or_ge g w.heap.size with hlt | hge
      · exact hlt
      · rw [Array.getElem?_eq_none hge] at hh; cases hh
    refine .inr ⟨g, cap, cur, hv, hgb, ?_, r⟩
    rw [hg.block g hlt ?_]
    · exact hh
    · rcases hr.2 with ⟨rfl, _⟩ | ⟨g', cap', cur', rfl, _, hg', _⟩
      · intro e1; cases e1
      · intro e1
        have : g = g' := by simpa [Value.ownBlock] using e1
        subst this
        rw [hh] at hg'
        simp at hg'
        exact hne hg'.2

theorem Try.infoI64 : (Try.prog.info? 2).map (fun i => (i.zero, i.size, i.bytes)) = some (some (.int .i64 0), 1, 8) := by kernel_rfl
theorem Try.infoU32 : (Try.prog.info? 222).map (fun i => (i.zero, i.size, i.bytes)) = some (some (.int .u32 0), 1, 4) := by kernel_rfl
end Go.Proofs.Ytffkakpbelknaaa

/- Recs -/
namespace Go.Proofs.Ytffkakpbelknaaa
open Go.RowKit
set_option linter.unusedVariables false

theorem cell_of8 {w : World} {b i : Nat} {cs : Array Value} {t : TypeId} {fr : Nat × Nat} {v : Value} (h : w.heap[b]? = some (.cells cs t fr)) (hi : cs[i]? = some v) : w.cell? ⟨b, i, none⟩ = some v := by
  rw [cell_of_row w b i cs t fr h]; exact hi
/-- A block that holds just these cells. -/
def Box (w : World) (g : Nat) (cs : Array Value) (t : TypeId) : Prop := w.heap[g]? = some (.cells cs t (0, 0))
theorem Box.new (w : World) (cs : Array Value) (t : TypeId) : Box (w.alloc (.cells cs t)) w.heap.size cs t := heap_alloc_new w _
theorem Box.lt {w : World} {g : Nat} {cs : Array Value} {t : TypeId} (h : Box w g cs t) : g < w.heap.size := (Array.getElem?_eq_some_iff.1 h).1
theorem Box.keep {w w' : World} {g B : Nat} {cs : Array Value} {t : TypeId} (h : Box w g cs t) (hb : Below B w w') (hB : g < B) : Box w' g cs t := (hb.block g hB).trans h
theorem Box.drew {w : World} {g : Nat} {cs : Array Value} {t : TypeId} (h : Box w g cs t) : Box w.drew g cs t := h
theorem Box.alloc {w : World} {g : Nat} {cs : Array Value} {t : TypeId} (h : Box w g cs t) (o : Obj) : Box (w.alloc o) g cs t := by
  unfold Box; rw [heap_alloc_old _ _ h.lt]; exact h
theorem Box.cell {w : World} {g : Nat} {cs : Array Value} {t : TypeId} (h : Box w g cs t) (i : Nat) (v : Value) (hi : cs[i]? = some v) : w.cell? ⟨g, i, none⟩ = some v := cell_of8 h hi
theorem Box.free {w : World} {g : Nat} {cs : Array Value} {t : TypeId} (h : Box w g cs t) (j : Nat) : w.frozen? ⟨g, j, none⟩ = false := frozen_of_row w g j _ _ h
theorem Box.other {w : World} {g : Nat} {cs : Array Value} {t : TypeId} (h : Box w g cs t) (p : Addr) (x : Value) (hp : g ≠ p.block) : Box (w.setCell p x) g cs t := by
  unfold Box; rw [Below.heap_setCell _ _ _ _ hp]; exact h
theorem Box.set {w : World} {g : Nat} {cs : Array Value} {t : TypeId} (h : Box w g cs t) (i : Nat) (x : Value) : Box (w.setCell ⟨g, i, none⟩ x) g (cs.setIfInBounds i x) t := heap_setCell_same w g i _ _ x h
section
variable {α : Type} {k : Nat} {C : α → List Value}
theorem flat_len (hk : ∀ x, (C x).length = k) (l : List α) : (l.flatMap C).length = l.length * k := by
  induction l with
  | nil => simp
  | cons x l ih => rw [List.flatMap_cons, List.length_append, hk, ih, List.length_cons, Nat.succ_mul]; omega
theorem flat_get (hk : ∀ x, (C x).length = k) (l : List α) (i j : Nat) (hi : i < l.length) (hj : j < k) : (l.flatMap C)[i * k + j]? = (C l[i])[j]? := by
  induction l generalizing i with
  | nil => simp at hi
  | cons x l ih =>
    cases i with
    | zero =>
      rw [List.flatMap_cons, List.getElem?_append_left (by rw [hk]; omega)]
      simp
    | succ q =>
      have e : (q + 1) * k = q * k + k := Nat.succ_mul q k
      rw [List.flatMap_cons, List.getElem?_append_right (by rw [hk]; omega), hk]
      have e2 : (q + 1) * k + j - k = q * k + j := by omega
      rw [e2]
      exact ih q (by simpa using hi)
theorem flat_take (hk : ∀ x, (C x).length = k) (l : List α) (i : Nat) : (l.flatMap C).take (i * k) = (l.take i).flatMap C := by
  induction l generalizing i with
  | nil => simp
  | cons x l ih =>
    cases i with
    | zero => simp
    | succ q =>
      have e : (q + 1) * k = k + q * k := by rw [Nat.succ_mul]; omega
      rw [List.flatMap_cons, List.take_succ_cons, List.flatMap_cons, e, List.take_append, hk, List.take_of_length_le (by rw [hk]; omega), Nat.add_sub_cancel_left, ih]
theorem flat_drop (hk : ∀ x, (C x).length = k) (l : List α) (i : Nat) : (l.flatMap C).drop (i * k) = (l.drop i).flatMap C := by
  induction l generalizing i with
  | nil => simp
  | cons x l ih =>
    cases i with
    | zero => simp
    | succ q =>
      have e : (q + 1) * k = k + q * k := by rw [Nat.succ_mul]; omega
      rw [List.flatMap_cons, List.drop_succ_cons, e, List.drop_append, hk, List.drop_of_length_le (by rw [hk]; omega), Nat.add_sub_cancel_left, ih, List.nil_append]

def setL : Nat → List Value → List Value → List Value
  | _, [], xs => xs
  | o, u :: us, xs => setL (o + 1) us (xs.set o u)
theorem setL_eq (us : List Value) : ∀ (o : Nat) (xs : List Value), o + us.length ≤ xs.length → setL o us xs = xs.take o ++ (us ++ xs.drop (o + us.length)) := by
  induction us with
  | nil => intro o xs h; simp [setL]
  | cons u us ih =>
    intro o xs h
    rw [List.length_cons] at h
    show setL (o + 1) us (xs.set o u) = _
    rw [ih (o + 1) _ (by rw [List.length_set]; omega)]
    have h1 : (xs.set o u).take (o + 1) = xs.take o ++ [u] := by
      rw [List.take_succ_eq_append_getElem (by rw [List.length_set]; omega), List.getElem_set_self, List.take_set_of_le (Nat.le_refl _)]
    have h2 : (xs.set o u).drop (o + 1 + us.length) = xs.drop (o + (us.length + 1)) := by
      rw [List.drop_set_of_lt (by omega)]
      congr 1
      omega
    rw [h1, h2, List.length_cons]
    simp
theorem flat_set (hk : ∀ x, (C x).length = k) (l : List α) (i : Nat) (x : α) (hi : i < l.length) : setL (i * k) (C x) (l.flatMap C) = (l.set i x).flatMap C := by
  have hm : (i + 1) * k ≤ l.length * k := Nat.mul_le_mul_right _ hi
  have e : (i + 1) * k = i * k + k := Nat.succ_mul i k
  rw [setL_eq _ _ _ (by rw [flat_len hk, hk]; omega), hk, ← e, flat_take hk, flat_drop hk, List.set_eq_take_append_cons_drop, if_pos hi, List.flatMap_append, List.flatMap_cons]
theorem made_flat (hk : ∀ x, (C x).length = k) (h0 : 0 < k) (z : α) (n : Nat) : (madeCells (C z).toArray (n * k)).toList = (List.replicate n z).flatMap C := by
  apply List.ext_getElem?
  intro j
  by_cases hj : j < n * k
  · have hd : j / k < n := (Nat.div_lt_iff_lt_mul h0).2 hj
    have hm : j % k < k := Nat.mod_lt _ h0
    have e : j = j / k * k + j % k := by rw [Nat.mul_comm]; exact (Nat.div_add_mod j k).symm
    have hf := flat_get hk (List.replicate n z) (j / k) (j % k) (by simpa using hd) hm
    rw [← e] at hf
    rw [hf, List.getElem_replicate]
    have hs : (C z).toArray.size = k := by simp [hk]
    simp [madeCells, hj, hk, hm]
  · rw [List.getElem?_eq_none (by simp [madeCells]; omega), List.getElem?_eq_none (by rw [flat_len hk]; simp; omega)]

/-- A row of records that is read: k cells each, in a block below B. -/
def RecAt (k : Nat) (C : α → List Value) (w : World) (B : Nat) (v : Value) (l : List α) : Prop :=
  ∃ a cap, v = .slice a l.length cap ∧ l.length ≤ cap ∧ cap ≤ maxLen ∧
    (0 < l.length → ∃ b off, a = some ⟨b, off, none⟩ ∧ b < B ∧ ∀ i (h : i < l.length) (j : Nat) (u : Value), (C l[i])[j]? = some u → w.cell? ⟨b, off + i * k + j, none⟩ = some u)
theorem RecAt.below {w w' : World} {B : Nat} {v : Value} {l : List α} (h : RecAt k C w B v l) (hb : Below B w w') : RecAt k C w' B v l := by
  obtain ⟨a, cap, hv, h1, h2, hc⟩ := h
  refine ⟨a, cap, hv, h1, h2, fun hp => ?_⟩
  obtain ⟨b, off, ha, hB, hr⟩ := hc hp
  exact ⟨b, off, ha, hB, fun i hi j u hu => by rw [hb.cell (p := ⟨b, off + i * k + j, none⟩) hB]; exact hr i hi j u hu⟩
theorem RecAt.mono {w : World} {B B' : Nat} {v : Value} {l : List α} (h : RecAt k C w B v l) (hb : B ≤ B') : RecAt k C w B' v l := by
  obtain ⟨a, cap, hv, h1, h2, hc⟩ := h
  refine ⟨a, cap, hv, h1, h2, fun hp => ?_⟩
  obtain ⟨b, off, ha, hB, hr⟩ := hc hp
  exact ⟨b, off, ha, by omega, hr⟩
theorem RecAt.drew {w : World} {B : Nat} {v : Value} {l : List α} (h : RecAt k C w B v l) : RecAt k C w.drew B v l := h
theorem RecAt.nil (w : World) (B : Nat) : RecAt k C w B (.slice none 0 0) [] := ⟨none, 0, rfl, Nat.le_refl _, Nat.zero_le _, fun h => absurd h (Nat.lt_irrefl _)⟩

/-- A row of records that a call has made (its block is from base on). -/
def OwnR (e : TypeId) (k : Nat) (C : α → List Value) (w : World) (base : Nat) (v : Value) (l : List α) : Prop := w.ownsRow base e k v l.length (l.flatMap C)
theorem OwnR.drew {e : TypeId} {w : World} {base : Nat} {v : Value} {l : List α} (h : OwnR e k C w base v l) : OwnR e k C w.drew base v l := h
theorem OwnR.alloc {e : TypeId} {w : World} {base : Nat} {v : Value} {l : List α} (h : OwnR e k C w base v l) (o : Obj) : OwnR e k C (w.alloc o) base v l := World.ownsRow.alloc h o
theorem OwnR.nil (e : TypeId) (w : World) (base : Nat) : OwnR e k C w base (.slice none 0 0) [] := ⟨by simp, .inl ⟨rfl, rfl⟩⟩
theorem OwnR.keep {e : TypeId} {w w' : World} {base B : Nat} {v : Value} {l : List α} (h : OwnR e k C w base v l) (hb : Below B w w') (hB : w.heap.size ≤ B) : OwnR e k C w' base v l := by
  refine ⟨h.1, ?_⟩
  rcases h.2 with hn | ⟨g, cap, cur, rfl, hb', hg, rest⟩
  · exact .inl hn
  · refine .inr ⟨g, cap, cur, rfl, hb', ?_, rest⟩
    have := (Array.getElem?_eq_some_iff.1 hg).1
    rw [hb.block g (by omega)]
    exact hg
theorem OwnR.base_mono {e : TypeId} {w : World} {base base' : Nat} {v : Value} {l : List α} (h : OwnR e k C w base v l) (hb : base' ≤ base) : OwnR e k C w base' v l := by
  refine ⟨h.1, ?_⟩
  rcases h.2 with hn | ⟨g, cap, cur, rfl, hb', rest⟩
  · exact .inl hn
  · exact .inr ⟨g, cap, cur, rfl, by omega, rest⟩
theorem OwnR.at {e : TypeId} {w : World} {base : Nat} {v : Value} {l : List α} (hk : ∀ x, (C x).length = k) (h : OwnR e k C w base v l) : RecAt k C w w.heap.size v l := by
  have h' : w.ownsRow base e k v l.length (l.flatMap C) := h
  rcases h.2 with ⟨rfl, hn⟩ | ⟨g, cap, cur, rfl, hb, hg, hnc, hm, hsz, ht⟩
  · have : l = [] := List.eq_nil_of_length_eq_zero hn
    subst this
    exact RecAt.nil w _
  · refine ⟨_, _, rfl, hnc, hm, fun hp => ⟨g, 0, rfl, (Array.getElem?_eq_some_iff.1 hg).1, fun i hi j u hu => ?_⟩⟩
    have hj : j < k := by have := (List.getElem?_eq_some_iff.1 hu).1; rwa [hk] at this
    have hlt : i * k + j < l.length * k := by
      have hm' : (i + 1) * k ≤ l.length * k := Nat.mul_le_mul_right _ hi
      have e : (i + 1) * k = i * k + k := Nat.succ_mul i k
      omega
    rw [Nat.zero_add, World.ownsRow.cellAt h' (i * k + j) hlt, flat_get hk l i j hi hj]
    exact hu
def putRow (g : Nat) : Nat → List Value → World → World
  | _, [], w => w
  | o, u :: us, w => putRow g (o + 1) us (w.setCell ⟨g, o, none⟩ u)
theorem putRow_owns {e : TypeId} {base g n cap : Nat} (us : List Value) : ∀ (o : Nat) (w : World) (xs : List Value), w.ownsRow base e k (.slice (some ⟨g, 0, none⟩) n cap) n xs →
    (putRow g o us w).ownsRow base e k (.slice (some ⟨g, 0, none⟩) n cap) n (setL o us xs) := by
  induction us with
  | nil => intro o w xs h; exact h
  | cons u us ih => intro o w xs h; exact ih (o + 1) _ _ (World.ownsRow.stored h o u).1
theorem OwnR.put {e : TypeId} {w : World} {base g n cap : Nat} {l : List α} (hk : ∀ x, (C x).length = k) (h : OwnR e k C w base (.slice (some ⟨g, 0, none⟩) n cap) l) (hn : n = l.length) (i : Nat) (x : α) (hi : i < l.length) :
    OwnR e k C (putRow g (i * k) (C x) w) base (.slice (some ⟨g, 0, none⟩) n cap) (l.set i x) := by
  subst hn
  have := putRow_owns (C x) (i * k) w _ h
  rw [flat_set hk l i x hi] at this
  unfold OwnR
  rw [List.length_set]
  exact this
theorem putRow_below {B g : Nat} (hB : B ≤ g) (us : List Value) : ∀ (o : Nat) (a w : World), Below B a w → Below B a (putRow g o us w) := by
  induction us with
  | nil => intro o a w h; exact h
  | cons u us ih => intro o a w h; exact ih (o + 1) _ _ (h.setCell hB u)
/-- make([]T, n) of records. -/
theorem wpList_fullR {P : Program} {t e : TypeId} {by' : Nat} {z : α} {zv : Value} (hk : ∀ x, (C x).length = k) (h0 : 0 < k) (hu : P.underlying t = some (.slice e)) (hinfo : (P.info? e).map (fun i => (i.zero, i.size, i.bytes)) = some (some zv, k, by')) (hz : zv.cells = (C z).toArray) (hby : by' ≤ 1000)
    {w : World} {ops : Array Oper} {rest : List Oper} {o : Oper} {a : Act} {Q : Exit → Act → World → Prop}
    (hg : o.guard = none) (l c : Operand) (hop : o.op = Op.makeSlice t l c) (base : Nat) (kl kc : IntKind) (n : Nat)
    (hl : a.eval l = .int kl n) (hc : a.eval c = .int kc n) (hn : n ≤ 100000000) (hbase : base ≤ w.heap.size)
    (hK : ∀ w', OwnR e k C w' base (.slice (some ⟨w.heap.size, 0, none⟩) n n) (List.replicate n z) → Below base w w' → wpList P ops Q rest (a.put o.dst (.slice (some ⟨w.heap.size, 0, none⟩) n n)) w') :
    wpList P ops Q (o :: rest) a w := by
  obtain ⟨i0, hi, hz0, hz1, hz2⟩ := info_parts hinfo
  have hb8 : by' * n ≤ 1000 * n := Nat.mul_le_mul_right _ hby
  refine wpList_make_full w hg l c t hop base e i0 zv k hu hi hz0 hz1 kl kc n n n hl hc rfl rfl (by rw [hz2]; omega) (by unfold maxLen; omega) hbase ?_
  intro w1 hown hgrow
  refine hK _ ?_ ((Below.refl _ _).grown hgrow hbase (fun k hk => by cases hk))
  unfold OwnR
  rw [hz, made_flat hk h0] at hown
  rw [List.length_replicate]
  exact hown
theorem OwnR.free {e : TypeId} {w : World} {base g n cap : Nat} {l : List α} (h : OwnR e k C w base (.slice (some ⟨g, 0, none⟩) n cap) l) (hn : n = l.length) (j : Nat) : w.frozen? ⟨g, j, none⟩ = false := by
  subst hn
  exact World.ownsRow.frozenAt h j
theorem OwnR.cell {e : TypeId} {w : World} {base g n cap : Nat} {l : List α} (hk : ∀ x, (C x).length = k) (h : OwnR e k C w base (.slice (some ⟨g, 0, none⟩) n cap) l) (hn : n = l.length) (i j : Nat) (hi : i < n) (hj : j < k) : ∃ u, w.cell? ⟨g, i * k + j, none⟩ = some u := by
  subst hn
  have hlt : i * k + j < l.length * k := by
    have hm' : (i + 1) * k ≤ l.length * k := Nat.mul_le_mul_right _ hi
    have e : (i + 1) * k = i * k + k := Nat.succ_mul i k
    omega
  rw [World.ownsRow.cellAt h (i * k + j) hlt, flat_get hk l i j hi hj, List.getElem?_eq_getElem (by rw [hk]; exact hj)]
  exact ⟨_, rfl⟩
theorem set_copyR (l : List α) (z : α) (i : Nat) (h : i < l.length) : (l.take i ++ List.replicate (l.length - i) z).set i l[i] = l.take (i + 1) ++ List.replicate (l.length - (i + 1)) z := by
  apply List.ext_getElem
  · simp; omega
  · intro j h1 h2
    rw [List.getElem_set]
    by_cases hj : i = j
    · subst hj
      rw [if_pos rfl, List.getElem_append_left (by simp; omega), List.getElem_take]
    · rw [if_neg hj]
      by_cases hlt : j < i
      · rw [List.getElem_append_left (by simp; omega), List.getElem_append_left (by simp; omega), List.getElem_take, List.getElem_take]
      · rw [List.getElem_append_right (by simp; omega), List.getElem_append_right (by simp; omega), List.getElem_replicate, List.getElem_replicate]
theorem OwnR.slice {e : TypeId} {w : World} {base : Nat} {v : Value} {l : List α} (h : OwnR e k C w base v l) : ∃ a cap, v = .slice a l.length cap := by
  rcases h.2 with ⟨rfl, hn⟩ | ⟨g, cap, cur, rfl, _⟩
  · exact ⟨none, 0, by rw [hn]⟩
  · exact ⟨_, _, rfl⟩
theorem RecAt.slice {w : World} {B : Nat} {v : Value} {l : List α} (h : RecAt k C w B v l) : ∃ a cap, v = .slice a l.length cap := by
  obtain ⟨a, cap, hv, _⟩ := h
  exact ⟨a, cap, hv⟩
theorem OwnR.other {e : TypeId} {w : World} {base : Nat} {v : Value} {l : List α} (h : OwnR e k C w base v l) (p : Addr) (x : Value) (hp : p.block < base) : OwnR e k C (w.setCell p x) base v l := by
  refine ⟨h.1, ?_⟩
  rcases h.2 with hn | ⟨g, cap, cur, rfl, hb', hg, rest⟩
  · exact .inl hn
  · refine .inr ⟨g, cap, cur, rfl, hb', ?_, rest⟩
    rw [Below.heap_setCell _ _ _ _ (by omega)]
    exact hg
/-- What a function that copies a row answers. -/
def OutR (e : TypeId) (k : Nat) (C : α → List Value) (l : List α) (w : World) (x : Ending) (w' : World) : Prop := ∃ v, x = .returned v ∧ OwnR e k C w' w.heap.size v l ∧ Below w.heap.size w w'
end
end Go.Proofs.Ytffkakpbelknaaa
