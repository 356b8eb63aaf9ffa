/- Joined: OwnM. -/
import Derived.Lib.AppendStr
import Derived.Laws.CopyRow
import Derived.Laws.IdiomStrings
import Derived.Laws.DeepStrings4
import Derived.Test.YtlipgmaiooljkaaGreatDoorH3
/- OwnM -/
namespace Go.Proofs.YtlipgmaiooljkaaGreatDoor
open Go.RowKit
set_option linter.unusedVariables false

/-- v owns the bytes l; no byte of its block is frozen. -/
def OwnM (w : World) (base : Nat) (v : Value) (l : List UInt8) : Prop :=
  ∃ g cap cur fz, v = .slice (some ⟨g, 0, none⟩) l.length cap ∧ base ≤ g ∧ w.heap[g]? = some (.cells cur 5 fz) ∧ (∀ j, j < cur.size → ¬ (fz.1 ≤ j ∧ j < fz.2)) ∧ l.length ≤ cap ∧ cap ≤ maxLen ∧ cur.size = cap ∧ cur.toList.take l.length = l.map bc
theorem OwnM.lt {w : World} {base : Nat} {v : Value} {l : List UInt8} (h : OwnM w base v l) : ∃ g cap, v = .slice (some ⟨g, 0, none⟩) l.length cap ∧ base ≤ g ∧ g < w.heap.size := by
  obtain ⟨g, cap, cur, fz, hv, hb, hg, _⟩ := h
  exact ⟨g, cap, hv, hb, (Array.getElem?_eq_some_iff.1 hg).1⟩
theorem OwnM.alloc {w : World} {base : Nat} {v : Value} {l : List UInt8} (h : OwnM w base v l) (o : Obj) : OwnM (w.alloc o) base v l := by
  obtain ⟨g, cap, cur, fz, hv, hb, hg, r⟩ := h
  exact ⟨g, cap, cur, fz, hv, hb, by rw [heap_alloc_old _ _ (Array.getElem?_eq_some_iff.1 hg).1]; exact hg, r⟩
theorem OwnM.keep {w w' : World} {base B : Nat} {v : Value} {l : List UInt8} (h : OwnM w base v l) (hb : Below B w w') (hB : w.heap.size ≤ B) : OwnM w' base v l := by
  obtain ⟨g, cap, cur, fz, hv, hb', hg, r⟩ := h
  have hlt := (Array.getElem?_eq_some_iff.1 hg).1
  exact ⟨g, cap, cur, fz, hv, hb', by rw [hb.block g (by omega)]; exact hg, r⟩
/-- []byte(s) -/
theorem conv_ownM (s : ByteArray) (w : World) (hs : s.size ≤ 1000000000) : ∃ v w', (convert 9 36 (.string s)).run Tryz.prog w = .ok v w' ∧ OwnM w' w.heap.size v s.data.toList ∧ Below w.heap.size w w' := by
  have hcap := grownCap_ge w s.size 0 5
  have hmax := grownCap_le_maxLen w s.size 0 5 (by unfold maxLen; omega)
  have hrs : (bytesRow s (grownCap w s.size 0 5)).size = grownCap w s.size 0 5 := by
    unfold bytesRow
    rw [Array.size_append, Array.size_map, Array.size_replicate]
    show s.size + _ = _
    omega
  refine ⟨_, _, run_bytes_of_string (P := Tryz.prog) w 9 36 5 s Tryz.underlying9 Tryz.underlying36 Tryz.underlying5, ⟨w.heap.size, grownCap w s.size 0 5, bytesRow s (grownCap w s.size 0 5), _, by simp, Nat.le_refl _, heap_alloc_new w.drew _, ?_, ?_, hmax, hrs, ?_⟩, (Below.refl _ _).drew.alloc (Nat.le_refl _) _⟩
  · intro j hj h
    simp only at h
    omega
  · simpa using hcap
  · unfold bytesRow
    rw [Array.toList_append, List.take_left' (by simp)]
    simp [bc]
/-- string(b) -/
theorem OwnM.text {w : World} {base : Nat} {v : Value} {l : List UInt8} (h : OwnM w base v l) : (convert 36 9 v).run Tryz.prog w = .ok (.string ⟨l.toArray⟩) w := by
  obtain ⟨g, cap, cur, fz, rfl, hb, hg, hf, hl, hm, hc, ht⟩ := h
  refine run_convert_bytes_back w 36 9 5 ⟨g, 0, none⟩ cap l Tryz.underlying36 Tryz.underlying5 Tryz.underlying9 ?_
  intro j hj
  rw [Addr.add_lit, Nat.zero_add, cell_of_row w g j cur _ fz hg]
  have e : (cur.toList.take l.length)[j]? = (l.map bc)[j]? := by rw [ht]
  rw [List.getElem?_take_of_lt hj, List.getElem?_map, List.getElem?_eq_getElem hj] at e
  simpa [bc] using e
theorem storeM {P : Program} (g o : Nat) (t : TypeId) (fz : Nat × Nat) : ∀ (vs : List Value) (i : Nat) (cur : Array Value) (w : World), w.heap[g]? = some (.cells cur t fz) → (∀ j, j < cur.size → ¬ (fz.1 ≤ j ∧ j < fz.2)) → o + i + vs.length ≤ cur.size → (∀ v ∈ vs, v.oneCell' = true) →
    (storeCells ⟨g, o, none⟩ vs i).run P w = .ok () (w.setRow g (cur.toList.take (o + i) ++ vs ++ cur.toList.drop (o + i + vs.length)).toArray)
  | [], i, cur, w, hg, _, _, _ => by
    simp only [storeCells, List.append_nil, List.length_nil, Nat.add_zero, List.take_append_drop, Array.toArray_toList]
    rw [setRow_self w g cur t fz hg]
    rfl
  | x :: r, i, cur, w, hg, hf, hl, h1 => by
    rw [List.length_cons] at hl
    have hi : o + i < cur.size := by omega
    have hfr : w.frozen? ⟨g, o + i, none⟩ = false := by
      have := hf (o + i) hi
      simp only [World.frozen?, hg, Bool.and_eq_false_iff, decide_eq_false_iff_not]
      omega
    have hst : (store ((⟨g, o, none⟩ : Addr).add i) x).run P w = .ok () (w.setRow g (cur.setIfInBounds (o + i) x)) := by
      rw [Addr.add_lit, run_store P w _ x _ (h1 x (by simp)), cell_of_row w g (o + i) cur t fz hg, Array.getElem?_eq_getElem hi]
      simp [hfr, setCell_eq_setRow w g (o + i) cur t fz x hg]
    have ih := storeM (P := P) g o t fz r (i + 1) (cur.setIfInBounds (o + i) x) (w.setRow g (cur.setIfInBounds (o + i) x)) (setRow_heap w g cur _ t _ hg) (by simpa using hf) (by simp; omega) (fun y hy => h1 y (by simp [hy]))
    simp only [storeCells, Sem.run_bind, hst, Result.andThen_ok, ih, setRow_setRow]
    have e := list_seg_step cur.toList (o + i) x r (by simp; omega)
    congr 3
    simpa [Array.toList_setIfInBounds, Nat.add_assoc] using e
theorem strCells_map (s : ByteArray) : Lib.strCells s = s.data.toList.map bc := by unfold Lib.strCells; simp [bc]

/-- What is left behind an append that finds room. -/
theorem OwnM.room {w : World} {base g cap : Nat} {cur : Array Value} {fz : Nat × Nat} {l news : List UInt8} (hb : base ≤ g) (hg : w.heap[g]? = some (.cells cur 5 fz)) (hf : ∀ j, j < cur.size → ¬ (fz.1 ≤ j ∧ j < fz.2)) (hm : cap ≤ maxLen) (hc : cur.size = cap) (ht : cur.toList.take l.length = l.map bc) (hroom : l.length + news.length ≤ cap) :
    OwnM (w.setRow g (cur.toList.take l.length ++ news.map bc ++ cur.toList.drop (l.length + news.length)).toArray) base (.slice (some ⟨g, 0, none⟩) (l.length + news.length) cap) (l ++ news) := by
  have hsz : (cur.toList.take l.length ++ news.map bc ++ cur.toList.drop (l.length + news.length)).toArray.size = cap := by
    simp only [List.size_toArray, List.length_append, List.length_take, List.length_drop, Array.length_toList, List.length_map]
    omega
  refine ⟨g, cap, _, fz, by simp, hb, setRow_heap w g cur _ _ _ hg, ?_, by simpa using hroom, hm, hsz, ?_⟩
  · rw [hsz, ← hc]; exact hf
  · rw [ht, ← List.map_append, List.length_append]
    have : (l ++ news).length = ((l ++ news).map bc).length := by simp
    rw [← List.length_append, this]
    exact List.take_left
theorem OwnM.grown {w : World} {base cap : Nat} {l news : List UInt8} (hbase : base ≤ w.heap.size) (hm : l.length + news.length ≤ 1000000000) :
    OwnM (w.drew.alloc (.cells ((l.map bc).toArray ++ (news.map bc).toArray ++ Builtin.zeroCells (Value.int .u8 0).cells (grownCap w (l.length + news.length) cap 5 - (l.length + news.length))) 5)) base (.slice (some ⟨w.heap.size, 0, none⟩) (l.length + news.length) (grownCap w (l.length + news.length) cap 5)) (l ++ news) := by
  have hge := grownCap_ge w (l.length + news.length) cap 5
  have hmx := grownCap_le_maxLen w (l.length + news.length) cap 5 (by unfold maxLen; omega)
  refine ⟨w.heap.size, _, _, (0, 0), by simp, hbase, heap_alloc_new w.drew _, fun j _ h => by simp at h, by simpa using hge, hmx, ?_, ?_⟩
  · have hz1 : (Value.int IntKind.u8 0).cells.size = 1 := rfl
    simp only [Array.size_append, List.size_toArray, size_zeroCells, hz1, List.length_map]
    omega
  · simp only [Array.toList_append, List.append_assoc]
    rw [← List.append_assoc, ← List.map_append]
    have : (l ++ news).length = ((l ++ news).map bc).length := by simp
    rw [this]
    exact List.take_left

theorem appM_string {w : World} {base : Nat} {v : Value} {l : List UInt8} (h : OwnM w base v l) (ty : TypeId) (s : ByteArray) (hl : l.length + s.size ≤ 1000000000) (hbase : base ≤ w.heap.size) :
    ∃ v' w', (Builtin.append_ #[36, 9] ty #[v, .string s]).run Tryz.prog w = .ok v' w' ∧ OwnM w' base v' (l ++ s.data.toList) ∧ Below base w w' := by
  obtain ⟨i0, hi, hz0, hz1, hz2⟩ := info_parts Tryz.infoU8
  obtain ⟨g, cap, cur, fz, rfl, hb, hg, hf, hlc, hm, hc, ht⟩ := h
  have hss : s.data.toList.length = s.size := by simp
  by_cases hroom : l.length + s.size ≤ cap
  · have hfc := Lib.run_firstCells_string (P := Tryz.prog) w 1 s
    have hst := storeM (P := Tryz.prog) g l.length 5 fz (Lib.strCells s) 0 cur w hg hf (by rw [strCells_map]; simpa using (by omega : l.length + s.size ≤ cur.size)) (by rw [strCells_map]; exact bc_oneCell _)
    rw [strCells_map] at hst hfc
    simp only [Nat.add_zero, List.length_map, hss] at hst
    refine ⟨_, _, ?_, OwnM.room (news := s.data.toList) hb hg hf hm hc ht (by rw [hss]; exact hroom), ?_⟩
    · simp [Builtin.append_, run_underlying Tryz.underlying36, run_underlying Tryz.underlying9, sizeOf, typeInfo, hi, hz1, Builtin.lenOf, hroom, hfc, Addr.add_lit, hst]
    · exact (Below.refl _ _).grown (row := some g) ⟨rfl, rfl, rfl, by simp, fun k _ hk => setRow_other w g k _ (fun e => hk (by rw [e]))⟩ hbase (fun k hk => by cases hk; exact hb)
  · have hr := Lib.run_append_grow_string (P := Tryz.prog) w 36 9 ty 5 i0 (.int .u8 0) Tryz.underlying36 Tryz.underlying9 hi hz0 ⟨g, 0, none⟩ l.length cap (l.map bc) (by rw [hz1]; simp) (fun j u hu => by
      rw [Addr.add_lit, Nat.zero_add, cell_of_row w g j cur _ fz hg]
      rw [← ht, List.getElem?_take] at hu
      split at hu
      · simpa using hu
      · cases hu) s (by omega) (by omega) (by rw [hz2]; exact growslice_fits (by omega) (by omega))
    rw [strCells_map] at hr
    have hG := OwnM.grown (w := w) (base := base) (cap := cap) (l := l) (news := s.data.toList) hbase (by rw [hss]; exact hl)
    rw [hss] at hG
    exact ⟨_, _, hr, hG, (Below.refl _ _).drew.alloc hbase _⟩
theorem appM_bytes {w : World} {base : Nat} {v : Value} {l : List UInt8} (h : OwnM w base v l) (ty : TypeId) (B : Nat) (cs : Array Value) (fr : Nat × Nat) (news : List UInt8) (hB : w.heap[B]? = some (.cells cs 5 fr)) (hcs : cs.toList = news.map bc) (m : Nat) (hmn : news.length = m) (hl : l.length + m ≤ 1000000000) (hbase : base ≤ w.heap.size) :
    ∃ v' w', (Builtin.append_ #[36, 36] ty #[v, .slice (some ⟨B, 0, none⟩) m m]).run Tryz.prog w = .ok v' w' ∧ OwnM w' base v' (l ++ news) ∧ Below base w w' := by
  subst hmn
  obtain ⟨i0, hi, hz0, hz1, hz2⟩ := info_parts Tryz.infoU8
  obtain ⟨g, cap, cur, fz, rfl, hb, hg, hf, hlc, hm, hc, ht⟩ := h
  have hnw : ∀ j u, (news.map bc)[j]? = some u → w.cell? ((⟨B, 0, none⟩ : Addr).add j) = some u := by rw [← hcs]; exact World.news_of_block hB
  by_cases hroom : l.length + news.length ≤ cap
  · have hfc := run_firstCells_some (P := Tryz.prog) w 1 news.length ⟨B, 0, none⟩ news.length news.length (news.map bc) (by simp) hnw
    have hst := storeM (P := Tryz.prog) g l.length 5 fz (news.map bc) 0 cur w hg hf (by simpa using (by omega : l.length + news.length ≤ cur.size)) (bc_oneCell _)
    simp only [Nat.add_zero, List.length_map] at hst
    refine ⟨_, _, ?_, OwnM.room (news := news) hb hg hf hm hc ht hroom, ?_⟩
    · simp [Builtin.append_, run_underlying Tryz.underlying36, sizeOf, typeInfo, hi, hz1, Builtin.lenOf, hroom, hfc, Addr.add_lit, hst]
    · exact (Below.refl _ _).grown (row := some g) ⟨rfl, rfl, rfl, by simp, fun k _ hk => setRow_other w g k _ (fun e => hk (by rw [e]))⟩ hbase (fun k hk => by cases hk; exact hb)
  · have hr := run_append_grow (P := Tryz.prog) w 36 ty 5 i0 (.int .u8 0) Tryz.underlying36 hi hz0 ⟨g, 0, none⟩ l.length cap (l.map bc) (by rw [hz1]; simp) (fun j u hu => by
      rw [Addr.add_lit, Nat.zero_add, cell_of_row w g j cur _ fz hg]
      rw [← ht, List.getElem?_take] at hu
      split at hu
      · simpa using hu
      · cases hu) ⟨B, 0, none⟩ news.length news.length (news.map bc) (by rw [hz1]; simp) hnw (by omega) (by omega) (by rw [hz2]; exact growslice_fits (by omega) (by omega))
    exact ⟨_, _, hr, OwnM.grown (w := w) (base := base) (cap := cap) (l := l) (news := news) hbase hl, (Below.refl _ _).drew.alloc hbase _⟩

/-- append(b, ..) of a text, at a plain region's list. -/
theorem wpList_appMS {w : World} {ops : Array Oper} {rest : List Oper} {o : Oper} {a : Act} {Q : Exit → Act → World → Prop} (hgd : o.guard = none) (s x : Operand)
    (ho : o.op = .call { callee := .builtin .append, args := #[s, x], argTypes := #[36, 9] })
    (base : Nat) (v : Value) (l : List UInt8) (hs : a.eval s = v) (hown : OwnM w base v l) (t : ByteArray) (hx : a.eval x = .string t)
    (hl : l.length + t.size ≤ 1000000000) (hbase : base ≤ w.heap.size)
    (h : ∀ v' w', OwnM w' base v' (l ++ t.data.toList) → Below base w w' → wpList Tryz.prog ops Q rest (a.put o.dst v') w') :
    wpList Tryz.prog ops Q (o :: rest) a w := by
  obtain ⟨v', w', hr, h1, h2⟩ := appM_string hown o.type t hl hbase
  refine wpList_plain hgd fun K hK => ?_
  unfold Oper.wp execOp
  simp only [ho, resolve, invoke, builtin, Sem.run_bind, Sem.run_pure, Result.andThen_ok, List.map_toArray, List.map_cons, List.map_nil, hs, hx, hr]
  exact hK _ _ (h v' w' h1 h2)
theorem wpList_appMB {w : World} {ops : Array Oper} {rest : List Oper} {o : Oper} {a : Act} {Q : Exit → Act → World → Prop} (hgd : o.guard = none) (s x : Operand)
    (ho : o.op = .call { callee := .builtin .append, args := #[s, x], argTypes := #[36, 36] })
    (base : Nat) (v : Value) (l : List UInt8) (hs : a.eval s = v) (hown : OwnM w base v l)
    (B m : Nat) (cs : Array Value) (fr : Nat × Nat) (news : List UInt8) (hx : a.eval x = .slice (some ⟨B, 0, none⟩) m m) (hb : w.heap[B]? = some (.cells cs 5 fr)) (hcs : cs.toList = news.map bc) (hm : news.length = m)
    (hl : l.length + m ≤ 1000000000) (hbase : base ≤ w.heap.size)
    (h : ∀ v' w', OwnM w' base v' (l ++ news) → Below base w w' → wpList Tryz.prog ops Q rest (a.put o.dst v') w') :
    wpList Tryz.prog ops Q (o :: rest) a w := by
  obtain ⟨v', w', hr, h1, h2⟩ := appM_bytes hown o.type B cs fr news hb hcs m hm hl hbase
  refine wpList_plain hgd fun K hK => ?_
  unfold Oper.wp execOp
  simp only [ho, resolve, invoke, builtin, Sem.run_bind, Sem.run_pure, Result.andThen_ok, List.map_toArray, List.map_cons, List.map_nil, hs, hx, hr]
  exact hK _ _ (h v' w' h1 h2)
end Go.Proofs.YtlipgmaiooljkaaGreatDoor
