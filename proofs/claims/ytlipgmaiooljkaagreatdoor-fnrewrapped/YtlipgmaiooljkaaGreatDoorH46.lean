/- Joined: W6d, W6g, W6h. -/
import Derived.Lib.AppendStr
import Derived.Lib.BufStepsIn
import Derived.Test.YtlipgmaiooljkaaGreatDoorH26
import Derived.Test.YtlipgmaiooljkaaGreatDoorH31
/- W6d -/
namespace Go.Proofs.YtlipgmaiooljkaaGreatDoor
open Go.ChangeShapes Go.WideShapes Go.ChangeAt Go.RowKit Go.Shelf
set_option linter.unusedVariables false

attribute [local go_sem] Oper.semAt_some

/-- A part, as a round is handed it. -/
abbrev Pt := { x : ByteArray // x.size = 32 }
/-- What comes in k rounds. -/
def ptL (key : ByteArray) (T : Nat → ByteArray → ByteArray) : Nat → List Pt
  | 0 => []
  | k + 1 => ptL key T k ++ [⟨ptB key T (k + 1), ptB_size key T k⟩]
theorem ptL_len (key : ByteArray) (T : Nat → ByteArray → ByteArray) : ∀ k, (ptL key T k).length = k
  | 0 => rfl
  | k + 1 => by rw [ptL, List.length_append, ptL_len key T k]; rfl

/-- What the iterator reads: its boxes, and what its function reads. -/
structure PG (Bk Bc Bt Bi : Nat) (key info : ByteArray) (cnt : Nat) (tv : Value) (W : World) : Prop where
  k : Boxed W Bk 9 (.string key)
  c : Boxed W Bc 2 (.int .i64 (cnt : Int))
  t : Boxed W Bt 80 tv
  i : Boxed W Bi 9 (.string info)
  F : FTab W
  K : KTab W
theorem blk_below {W W' : World} {B b : Nat} {o : Obj} (h : W.heap[b]? = some o) (hb : Below B W W') (hB : W.heap.size ≤ B) : W'.heap[b]? = some o := (hb.block b (by have := (Array.getElem?_eq_some_iff.1 h).1; omega)).trans h
theorem PG.below {Bk Bc Bt Bi : Nat} {key info : ByteArray} {cnt : Nat} {tv : Value} {W W' : World} {B : Nat} (h : PG Bk Bc Bt Bi key info cnt tv W) (hb : Below B W W') (hB : W.heap.size ≤ B) : PG Bk Bc Bt Bi key info cnt tv W' :=
  ⟨blk_below h.k hb hB, blk_below h.c hb hB, blk_below h.t hb hB, blk_below h.i hb hB, h.F.below hb hB, h.K.below hb hB⟩
theorem blk_put {W : World} {l b : Nat} {o o' : Obj} {c : Array Value} {t : TypeId} {f : Nat × Nat} (hl : W.heap[l]? = some o) (hn : o.isCells = false) (h : W.heap[b]? = some (.cells c t f)) : (W.putObj l o').heap[b]? = some (.cells c t f) := by
  by_cases e : b = l
  · subst e
    rw [hl] at h
    cases h
    cases hn
  · rw [World.putObj_heap_other e]; exact h
theorem PG.put {Bk Bc Bt Bi : Nat} {key info : ByteArray} {cnt : Nat} {tv : Value} {W : World} (h : PG Bk Bc Bt Bi key info cnt tv W) {l : Nat} {o : Obj} (o' : Obj) (hl : W.heap[l]? = some o) (hn : o.isCells = false) : PG Bk Bc Bt Bi key info cnt tv (W.putObj l o') := by
  obtain ⟨t1, h1⟩ := h.F
  obtain ⟨t2, h2⟩ := h.K
  exact ⟨blk_put hl hn h.k, blk_put hl hn h.c, blk_put hl hn h.t, blk_put hl hn h.i, ⟨t1, blk_put hl hn h1⟩, ⟨t2, blk_put hl hn h2⟩⟩
theorem blk_cell {W : World} {b g j : Nat} {o : Obj} (v : Value) (h : W.heap[b]? = some o) (hne : b ≠ g) : (W.setCell ⟨g, j, none⟩ v).heap[b]? = some o := (heap_setCell_other W ⟨g, j, none⟩ b v hne).trans h
theorem PG.cell {Bk Bc Bt Bi : Nat} {key info : ByteArray} {cnt : Nat} {tv : Value} {W : World} (h : PG Bk Bc Bt Bi key info cnt tv W) (g j : Nat) (v : Value) (h1 : Bk ≠ g) (h2 : Bc ≠ g) (h3 : Bt ≠ g) (h4 : Bi ≠ g) (h5 : 2 ≠ g) (h6 : 4 ≠ g) : PG Bk Bc Bt Bi key info cnt tv (W.setCell ⟨g, j, none⟩ v) := by
  obtain ⟨t1, k1⟩ := h.F
  obtain ⟨t2, k2⟩ := h.K
  exact ⟨blk_cell v h.k h1, blk_cell v h.c h2, blk_cell v h.t h3, blk_cell v h.i h4, ⟨t1, blk_cell v k1 h5⟩, ⟨t2, blk_cell v k2 h6⟩⟩
theorem grownBy_below {W W' : World} (h : Below W.heap.size W W') : W.grownBy W' none := ⟨h.os, h.tape, h.output, h.size, fun k hk _ => h.block k hk⟩

theorem hmacParts_any (key : ByteArray) (n : Int) (fn : Fn) (lb : Array Value) (w : World) :
    Calls Tryz.prog 70 #[.string key, .int .i64 n, .func fn #[] lb] w fun e w' => e = .returned (.func (.func 99) #[] #[.pointer (some ⟨w.heap.size + 1, 0, none⟩), .pointer (some ⟨w.heap.size, 0, none⟩), .pointer (some ⟨w.heap.size + 2, 0, none⟩)]) ∧ w' = ((w.alloc (.cells #[.string key] 9)).alloc (.cells #[.int .i64 n] 2)).alloc (.cells #[.func fn #[] lb] 80) := by
  go_enter Tryz.func70, Tryz.ntmps70
  go_wp2
  go_ret
  exact ⟨rfl, rfl⟩

theorem pg_own {β : Type} (Bk Bc Bt Bi : Nat) (key info : ByteArray) (cnt : Nat) (tv : Value) : Own (fun (_ : β) W => PG Bk Bc Bt Bi key info cnt tv W) := by
  intro s X Y row hs hg hrow
  have keep : ∀ {b : Nat} {c : Array Value} {t : TypeId} {f : Nat × Nat}, X.heap[b]? = some (.cells c t f) → Y.heap[b]? = some (.cells c t f) := by
    intro b c t f h
    refine (hg.block b (Array.getElem?_eq_some_iff.1 h).1 (fun e' => ?_)).trans h
    obtain ⟨o, ho, hc⟩ := hrow b e'.symm
    rw [h] at ho
    cases ho
    cases hc
  obtain ⟨t1, h1⟩ := hs.F
  obtain ⟨t2, h2⟩ := hs.K
  exact ⟨keep hs.k, keep hs.c, keep hs.t, keep hs.i, ⟨t1, keep h1⟩, ⟨t2, keep h2⟩⟩

/-- append(out, s...) of a text to bytes of the call's own, inside a fence. -/
theorem wpListIn_appS {F : Fence} {n' : Nat} {w : World} {ops : Array Oper} {rest : List Oper} {o : Oper} {a : Act} {Q : Exit → Act → World → Prop} (hgd : o.guard = none) (s x : Operand)
    (ho : o.op = .call { callee := .builtin .append, args := #[s, x], argTypes := #[36, 9] })
    (base : Nat) (v : Value) (k : Nat) (xs : List Value) (hs : a.eval s = v) (hown : w.ownsRow base 5 1 v k xs) (t : ByteArray) (hx : a.eval x = .string t)
    (hl : k + t.size ≤ 1000000000) (hbase : base ≤ w.heap.size)
    (h : ∀ v' w', w'.ownsRow base 5 1 v' (k + t.size) (xs ++ Lib.strCells t) → w.grownBy w' v.ownBlock → wpListIn F n' Tryz.prog ops Q rest (a.put o.dst v') w') :
    wpListIn F n' Tryz.prog ops Q (o :: rest) a w := by
  obtain ⟨i0, hi, hz0, hz1, hz2⟩ := info_parts Tryz.infoU8
  refine wpListIn_plain hgd fun K hK => ?_
  obtain ⟨v', w', hr, h2, h3, h4⟩ := Lib.run_append_own_string (P := Tryz.prog) w base 36 9 o.type 5 i0 Tryz.underlying36 Tryz.underlying9 hi hz0 hz1 hz2 v k xs hown t (by unfold maxLen; omega) (by omega) hbase
  unfold Oper.wpIn
  refine ⟨?_, ?_⟩
  · simp [Oper.about, ho, resolve, Target.leads, Sem.run_pure]
  · rw [Oper.semAt_plain F _ _ (by rw [ho]; intro c hc'; cases hc')]
    simp [execOp, ho, resolve, invoke, builtin, hs, hx, hr, Result.andThen]
    exact hK _ _ (h v' w' h2 h3)

theorem boxed_appS {W w1 : World} {n₀ B : Nat} {t e : TypeId} {size : Nat} {v v' : Value} {k m : Nat} {xs ys : List Value}
    (hv : Boxed W B t v) (hte : t ≠ e) (hrow : W.ownsRow n₀ e size v k xs) (hn₀ : n₀ ≤ W.heap.size) (hB : n₀ ≤ B)
    (hown' : w1.ownsRow n₀ e size v' m ys) (hgrow : W.grownBy w1 v.ownBlock) :
    Boxed w1 B t v ∧ Boxed (w1.setCell ⟨B, 0, none⟩ v') B t v' ∧ (w1.setCell ⟨B, 0, none⟩ v').ownsRow n₀ e size v' m ys ∧ KeepsOthers W (w1.setCell ⟨B, 0, none⟩ v') ∧ Below n₀ W (w1.setCell ⟨B, 0, none⟩ v') := by
  have hv1 : Boxed w1 B t v := hv.kept hgrow (hv.not_row hte hrow)
  refine ⟨hv1, hv1.set v', hown'.kept (grownBy_setCell' w1 B v') (.inr (hv1.not_row hte hown').symm), ?_, ?_⟩
  · refine (KeepsOthers.of_grownBy hgrow fun j o ej hj => ?_).trans (KeepsOthers.setCell _ _ _)
    rcases hrow.2 with ⟨rfl, _⟩ | ⟨g, cap, cur, rfl, _, hgb, _⟩
    · simp [Value.ownBlock] at ej
    · obtain rfl : g = j := by simpa [Value.ownBlock] using ej
      rw [hgb] at hj; cases hj; rfl
  · refine (((Below.refl n₀ W)).grown hgrow hn₀ fun j ej => ?_).setCell (p := ⟨B, 0, none⟩) hB v'
    rcases hrow.2 with ⟨rfl, _⟩ | ⟨g, cap, cur, rfl, hb, _, _⟩
    · simp [Value.ownBlock] at ej
    · obtain rfl : g = j := by simpa [Value.ownBlock] using ej
      exact hb
theorem boxed_step {W w1 : World} {b B : Nat} {t e : TypeId} {size : Nat} {u v v' : Value} {n₀ k : Nat} {xs : List Value} (h : Boxed W b t u) (hte : t ≠ e) (hrow : W.ownsRow n₀ e size v k xs) (hgrow : W.grownBy w1 v.ownBlock) (hne : b ≠ B) : Boxed (w1.setCell ⟨B, 0, none⟩ v') b t u :=
  blk_cell v' (h.kept hgrow (h.not_row hte hrow)) hne
theorem own_form {w : World} {base : Nat} {e : TypeId} {size : Nat} {v : Value} {n : Nat} {xs : List Value} (h : w.ownsRow base e size v n xs) (hn : 0 < n) : ∃ g cap, v = .slice (some ⟨g, 0, none⟩) n cap := by
  rcases h.2 with ⟨_, h0⟩ | ⟨g, cap, cur, rfl, _⟩
  · omega
  · exact ⟨g, cap, rfl⟩
end Go.Proofs.YtlipgmaiooljkaaGreatDoor

/- W6g -/
namespace Go.Proofs.YtlipgmaiooljkaaGreatDoor
open Go.ChangeShapes Go.WideShapes Go.ChangeAt Go.RowKit Go.Shelf
set_option linter.unusedVariables false

attribute [local go_sem] Oper.semAt_some

set_option maxRecDepth 100000 in
set_option maxHeartbeats 1600000 in
theorem stText_any (Bi : Nat) (info last : ByteArray) (k : Nat) (w : World) (hk : k < 200) (hs : info.size ≤ 1000) (hl : last.size ≤ 32) (hi : Boxed w Bi 9 (.string info)) :
    Calls Tryz.prog 68 #[.int .i64 ((k + 1 : Nat) : Int), .string last, .pointer (some ⟨Bi, 0, none⟩)] w fun e w' => e = .returned (.string (stT info (k + 1) last)) ∧ Below w.heap.size w w' := by
  by_cases h : k = 0
  · subst h
    have HX : Hid (stT info (0 + 1) last = info ++ ⟨#[0, 0, 0, 1]⟩) := Lib.hid rfl
    rw [HX.out]
    obtain ⟨M1, hM1⟩ : ∃ M : ByteArray, info ++ ⟨#[0, 0, 0, 1]⟩ = M := ⟨_, rfl⟩
    rw [hM1]
    have hc := hi.cell
    have hsum1 : info.size + 4 ≤ 2000 := by omega
    clear HX hi hs hl
    go_enter Tryz.func68, Tryz.ntmps68
    go_wp2
    go_ret
    exact ⟨rfl, Below.refl _ _⟩
  · have HX : Hid (stT info (k + 1) last = last) := Lib.hid (if_neg (by omega))
    rw [HX.out]
    have hd : ¬ ((k : Int) + 1 = 1) := by omega
    clear HX hi hs hl h
    go_enter Tryz.func68, Tryz.ntmps68
    go_wp2
    go_ret
    exact ⟨rfl, Below.refl _ _⟩

set_option maxRecDepth 100000 in
set_option maxHeartbeats 2000000 in
theorem stParts1_in (n : Nat) (hn : 1 ≤ n) (l Bk Bc Bt Bi : Nat) (key info : ByteArray) (cnt : Nat) (hk : key.size ≤ 4000) (hi : info.size ≤ 1000) (hc : cnt ≤ 100) (J Jx : List Pt → World → Prop)
    (hY : ∀ pre (x : Pt) W, J pre W → pre.length < cnt → YieldAt Fence.wide (n - 1) Tryz.prog l #[.string x.1] W fun e W' =>
      (e = .returned (.bool true) ∧ J (pre ++ [x]) W' ∧ (PG Bk Bc Bt Bi key info cnt (.func (.func 68) #[] #[.pointer (some ⟨Bi, 0, none⟩)]) W → PG Bk Bc Bt Bi key info cnt (.func (.func 68) #[] #[.pointer (some ⟨Bi, 0, none⟩)]) W')) ∨ (e = .returned (.bool false) ∧ Jx (pre ++ [x]) W'))
    (hJ : ∀ pre W W', J pre W → Below W.heap.size W W' → J pre W')
    (W : World) (hG : PG Bk Bc Bt Bi key info cnt (.func (.func 68) #[] #[.pointer (some ⟨Bi, 0, none⟩)]) W) (h0 : J [] W) :
    CallsIn Fence.wide n Tryz.prog 99 #[.func (.yield l) #[] #[], .pointer (some ⟨Bc, 0, none⟩), .pointer (some ⟨Bk, 0, none⟩), .pointer (some ⟨Bt, 0, none⟩)] W fun e W' => (∃ v, e = .returned v) ∧
      ((∃ ys, ys = ptL key (stT info) cnt ∧ J ys W') ∨ (∃ pre, (∃ k, k ≤ cnt ∧ pre = ptL key (stT info) k) ∧ Jx pre W')) := by
  refine callsIn_of_wp Tryz.func99 rfl trivial ?_ rfl
  simp only [Tryz.ntmps99, List.size_toArray, List.length_cons, List.length_nil, Nat.reduceAdd, Nat.reduceSub, Array.replicate_succ, Array.replicate_zero, List.push_toArray, List.append_toArray, List.nil_append, List.cons_append]
  gi_wp2
  gi_loopw [5, 6] (fun s i wr => ∃ k : Nat, k ≤ cnt ∧ i = .int .i64 ((k + 1 : Nat) : Int) ∧ s = .string (ptB key (stT info) k) ∧ J (ptL key (stT info) k) wr ∧ PG Bk Bc Bt Bi key info cnt (.func (.func 68) #[] #[.pointer (some ⟨Bi, 0, none⟩)]) wr)
    (fun _ i _ => cnt + 1 - (intOf i).toNat)
  case atStart => exact ⟨0, Nat.zero_le _, rfl, rfl, h0, hG⟩
  case round =>
    obtain ⟨k, hkc, rfl, rfl, hJs, hG1⟩ := hrel
    clear hG h0
    have hcc := hG1.c.cell
    by_cases hlt : k < cnt
    · have hck : (k : Int) + 1 ≤ (cnt : Int) := by omega
      have hl := ptB_le key (stT info) k
      have HN : Hid (ptB key (stT info) (k + 1) = hmB key (stT info (k + 1) (ptB key (stT info) k))) := Lib.hid rfl
      have HL1 : Hid (ptL key (stT info) (k + 1) = ptL key (stT info) k ++ [⟨ptB key (stT info) (k + 1), ptB_size key (stT info) k⟩]) := Lib.hid rfl
      obtain ⟨L, hL⟩ : ∃ L, L = ptB key (stT info) k := ⟨_, rfl⟩
      rw [← hL] at hl HN ⊢
      have hxs := stT_le info (k + 1) L
      have HT := Lib.hid (fun w hi' => stText_any Bi info L k w (by omega) hi hl hi')
      obtain ⟨X, hX⟩ : ∃ X, X = stT info (k + 1) L := ⟨_, rfl⟩
      rw [← hX] at HN hxs HT
      have HH := Lib.hid (fun w hF hK => implHmac_any key X w (by unfold maxLen; omega) (by unfold maxLen; omega) hF hK)
      rw [show hmR key X = hmB key X by unfold hmR; rw [if_pos ⟨hk, by omega⟩], ← HN.out] at HH
      have hG2 : PG Bk Bc Bt Bi key info cnt (.func (.func 68) #[] #[.pointer (some ⟨Bi, 0, none⟩)]) wr.drew := hG1.below (Below.refl wr.heap.size wr).drew (Nat.le_refl _)
      have hJd : J (ptL key (stT info) k) wr.drew := hJ _ _ _ hJs (Below.refl wr.heap.size wr).drew
      clear hX hL hxs hG1 hJs
      gi_wp2
      refine wpIn_wide.2 ?_
      refine wp_region_T (fun w' => PG Bk Bc Bt Bi key info cnt (.func (.func 68) #[] #[.pointer (some ⟨Bi, 0, none⟩)]) w') (fun _ => True) 6 (by kernel_rfl) 7 rfl ?_
      refine wpAnyT_takesA (md := .any) 3 (by kernel_rfl) (by intro d v c a w h; cases d <;> exact h) [0, 1, 2, 3] _ _ _ (by decide) (by kernel_rfl) ⟨hG2, fun _ => trivial⟩ ?_
      simp only [pick, List.filterMap_cons, List.filterMap_nil, List.getElem?_cons_zero, List.getElem?_cons_succ]
      refine wpIf_step (.string key) (by kernel_rfl) (fun w hw => by have h0 := hw.k.cell; go_simp) ?_
      refine wpIf_step (.func (.func 68) #[] #[.pointer (some ⟨Bi, 0, none⟩)]) (by kernel_rfl) (fun w hw => by have h0 := hw.t.cell; go_simp) ?_
      iterate 2 (refine wpIf_step ?_ (by kernel_rfl) ?_ ?_; rotate_left; (intro w _; go_simp); try with_reducible rfl)
      refine wpIf_nil (fun hS => ?_)
      refine wpAnyT_one 4 2 (by kernel_rfl) rfl (by kernel_rfl) (fun K hK => ?_)
      go_simp
      refine (HT.out _ hG2.i).mono ?_
      rintro e w1 ⟨rfl, hb1⟩
      have hG3 := hG2.below hb1 (Nat.le_refl _)
      have hJ3 := hJ _ _ _ hJd hb1
      refine hK _ _ ⟨hG3, fun _ => trivial⟩ (fun hS3 => ?_)
      clear hK K hS hb1 hJd hG2
      refine wpAnyT_one 5 1 (by kernel_rfl) rfl (by kernel_rfl) (fun K hK => ?_)
      go_simp
      refine (HH.out _ hG3.F hG3.K).mono ?_
      rintro e w2 ⟨rfl, hb2⟩
      have hG4 := hG3.below hb2 (Nat.le_refl _)
      have hJ4 := hJ _ _ _ hJ3 hb2
      refine hK _ _ ⟨hG4, fun _ => trivial⟩ (fun hS4 => ?_)
      clear hK K hS3 hb2 hJ3 hG3
      refine wpAnyT_one 6 0 (by kernel_rfl) rfl (by kernel_rfl) (fun K hK => ?_)
      go_simp
      refine hK _ _ ⟨hG4, fun _ => trivial⟩ (fun hS5 => ?_)
      clear hK K hS4
      refine wpAnyT_over (by kernel_rfl) ?_
      obtain ⟨fn, tmps, assign, body, hy, hR⟩ := hY _ ⟨ptB key (stT info) (k + 1), ptB_size key (stT info) k⟩ w2 hJ4 (by rw [ptL_len]; exact hlt)
      rw [← HL1.out] at hR
      dsimp only at hy
      generalize hP : ptB key (stT info) (k + 1) = P at hy ⊢
      have HP := Lib.hid hP
      clear hS5 hP
      gi_wp2
      refine hR.mono ?_
      rintro e W3 (⟨rfl, hJ5, hk5⟩ | ⟨rfl, hJx5⟩)
      · have hG5 := hk5 hG4
        clear hk5 hG4 hR hy
        gi_wp2
        go_roundw
        case rel => exact ⟨k + 1, by omega, by simp, by rw [HP.out], hJ5, hG5⟩
        case measure => simp [intOf]; omega
      · gi_wp2
        refine bodyPost_ret (results_none rfl _ _ _) rfl ?_
        exact ⟨⟨_, rfl⟩, .inr ⟨_, ⟨k + 1, by omega, rfl⟩, hJx5⟩⟩
    · have hke : k = cnt := by omega
      have HK := Lib.hid hke
      have hck : ¬ (k : Int) + 1 ≤ (cnt : Int) := by omega
      clear hke
      gi_wp2
      go_end0
      exact ⟨⟨_, rfl⟩, .inl (by rw [← HK.out]; exact hJs)⟩

theorem stParts_stops (n : Nat) (hn : 1 ≤ n) (Bk Bc Bt Bi : Nat) (key info : ByteArray) (cnt : Nat) (hk : key.size ≤ 4000) (hi : info.size ≤ 1000) (hc : cnt ≤ 100) (w : World)
    (hG : PG Bk Bc Bt Bi key info cnt (.func (.func 68) #[] #[.pointer (some ⟨Bi, 0, none⟩)]) w) :
    SeqStopsK Fence.wide n Tryz.prog 99 #[.pointer (some ⟨Bc, 0, none⟩), .pointer (some ⟨Bk, 0, none⟩), .pointer (some ⟨Bt, 0, none⟩)] (fun x : Pt => #[Value.string x.1])
      (fun W W' => PG Bk Bc Bt Bi key info cnt (.func (.func 68) #[] #[.pointer (some ⟨Bi, 0, none⟩)]) W → PG Bk Bc Bt Bi key info cnt (.func (.func 68) #[] #[.pointer (some ⟨Bi, 0, none⟩)]) W')
      (fun ys => ys = ptL key (stT info) cnt) (fun pre => ∃ k, k ≤ cnt ∧ pre = ptL key (stT info) k) cnt w := fun l J Jx W hW hJ _ hY h0 =>
  stParts1_in n hn l Bk Bc Bt Bi key info cnt hk hi hc J Jx hY (fun pre A B hA hb => hJ pre A B none hA (grownBy_below hb) (fun r e => by cases e)) W (hG.below hW (Nat.le_refl _)) h0
end Go.Proofs.YtlipgmaiooljkaaGreatDoor

/- W6h -/
namespace Go.Proofs.YtlipgmaiooljkaaGreatDoor
open Go.ChangeShapes Go.WideShapes Go.ChangeAt Go.RowKit Go.Shelf
set_option linter.unusedVariables false

attribute [local go_sem] Oper.semAt_some

def ptsX (pre : List Pt) : ByteArray := pre.foldl (fun a x => xorB a x.1) (nghB 32)
theorem ptsX_snoc (pre : List Pt) (x : Pt) : ptsX (pre ++ [x]) = xorB (ptsX pre) x.1 := by unfold ptsX; rw [List.foldl_append]; rfl
theorem ptsX_all (key : ByteArray) (T : Nat → ByteArray → ByteArray) : ∀ k, ptsX (ptL key T k) = ptX key T k
  | 0 => rfl
  | k + 1 => by rw [ptL, ptsX_snoc, ptsX_all key T k]; rfl
theorem fold_size : ∀ (pre : List Pt) (a : ByteArray), a.size = 32 → (pre.foldl (fun a (x : Pt) => xorB a x.1) a).size = 32
  | [], a, h => h
  | x :: pre, a, h => fold_size pre _ (by show (xorB a x.1).size = 32; rw [xorB_size _ _ (by rw [h, x.2]; omega), h])
theorem ptsX_size (pre : List Pt) : (ptsX pre).size = 32 := fold_size pre _ (nghB_size 32)
theorem boxF_own {β : Type} (B : Nat) (t : TypeId) (f : β → Value) : Own (fun s W => Boxed W B t (f s)) := fun s X Y row hs hg hrow =>
  (hg.block B hs.lt (fun e' => by obtain ⟨o, ho, hc⟩ := hrow B e'.symm; rw [show X.heap[B]? = _ from hs] at ho; cases ho; cases hc)).trans hs

set_option maxRecDepth 100000 in
set_option maxHeartbeats 2000000 in
theorem implStretched_any (key info : ByteArray) (n : Int) (w : World) (hk : key.size ≤ maxLen) (hi : info.size ≤ maxLen) (hn : (Lit.int .i64 n).wf = true) (hF : FTab w) (hK : KTab w) :
    Calls Tryz.prog 33 #[.string key, .string info, .int .i64 n] w fun e w' => e = .returned (.string (srR key info n)) ∧ Below w.heap.size w w' := by
  unfold maxLen at hk hi
  have hB1 : Hid (Below w.heap.size w (w.alloc (.cells #[.string info] 9))) := Lib.hid ((Below.refl _ _).alloc (Nat.le_refl _) _)
  by_cases h1 : key.size ≤ 1000
  · by_cases h2 : info.size ≤ 1000
    · by_cases h3 : 1 ≤ n
      · by_cases h4 : n ≤ 50
        · obtain ⟨m, rfl⟩ := Int.eq_ofNat_of_zero_le (show 0 ≤ n by omega)
          have HE : Hid (srR key info (m : Int) = ptX key (stT info) m) := Lib.hid (by unfold srR; rw [if_pos ⟨h1, h2, h3, h4⟩]; rfl)
          have HH1 : Hid (key.size ≤ 4000) := Lib.hid (by omega)
          have HH2 := Lib.hid h2
          have HC : Hid (m ≤ 100) := Lib.hid (by omega)
          generalize srR key info (m : Int) = out at HE ⊢
          have hd1 : ¬ (1000 < (key.size : Int)) := by omega
          have hd2 : ¬ (1000 < (info.size : Int)) := by omega
          have z1 : ¬ ((m : Int) < 1) := by omega
          have z2 : ¬ (50 < (m : Int)) := by omega
          have HF := Lib.hid hF
          have HK := Lib.hid hK
          clear h1 h2 hk hi hF hK
          refine (callsIn_wide (n := 5)).1 ?_
          have hF1 : Fence.wide.fn 70 := trivial
          have hF2 : Fence.wide.fn 99 := trivial
          have hF3 : Fence.wide.fn 69 := trivial
          have hF4 : Fence.wide.fn 71 := trivial
          refine callsIn_of_wp_marks Tryz.func33 rfl trivial ?_ rfl
          simp only [Tryz.ntmps33, List.size_toArray, List.length_cons, List.length_nil, Nat.reduceAdd, Nat.reduceSub, Array.replicate_succ, Array.replicate_zero, List.push_toArray, List.append_toArray, List.nil_append, List.cons_append]
          gi_wp2_with fail
          refine ((callsIn_wide (n := 4)).2 (noughts_any 32 _ (by omega))).mono ?_
          rintro e w0 ⟨rfl, hb0⟩
          have hB00 : Below w.heap.size w w0 := hB1.out.trans (hb0.mono (by simp))
          have bI0 : Boxed w0 w.heap.size 9 (.string info) := blk_below (Boxed.new w 9 (.string info)) hb0 (Nat.le_refl _)
          have hsz0 := hb0.size
          rw [World.size_alloc] at hsz0
          clear hb0
          have HN : Hid (ptsX [] = nghB 32) := Lib.hid rfl
          generalize nghB 32 = Z at HN ⊢
          gi_wp2_with fail
          refine ((callsIn_wide (n := 4)).2 (hmacParts_any key m (.func 68) #[.pointer (some ⟨w.heap.size, 0, none⟩)] _)).mono ?_
          rintro e w' ⟨rfl, rfl⟩
          gi_wp2
          have bO := (((Boxed.new w0 9 (.string Z)).alloc (.cells #[.string key] 9)).alloc (.cells #[.int .i64 (m : Int)] 2)).alloc (.cells #[.func (.func 68) #[] #[.pointer (some ⟨w.heap.size, 0, none⟩)]] 80)
          have bI := (((bI0.alloc (.cells #[.string Z] 9)).alloc (.cells #[.string key] 9)).alloc (.cells #[.int .i64 (m : Int)] 2)).alloc (.cells #[.func (.func 68) #[] #[.pointer (some ⟨w.heap.size, 0, none⟩)]] 80)
          have bK := ((Boxed.new (w0.alloc (.cells #[.string Z] 9)) 9 (.string key)).alloc (.cells #[.int .i64 (m : Int)] 2)).alloc (.cells #[.func (.func 68) #[] #[.pointer (some ⟨w.heap.size, 0, none⟩)]] 80)
          have bC := (Boxed.new ((w0.alloc (.cells #[.string Z] 9)).alloc (.cells #[.string key] 9)) 2 (.int .i64 (m : Int))).alloc (.cells #[.func (.func 68) #[] #[.pointer (some ⟨w.heap.size, 0, none⟩)]] 80)
          have bT := Boxed.new (((w0.alloc (.cells #[.string Z] 9)).alloc (.cells #[.string key] 9)).alloc (.cells #[.int .i64 (m : Int)] 2)) 80 (.func (.func 68) #[] #[.pointer (some ⟨w.heap.size, 0, none⟩)])
          have hB0 : Below w.heap.size w ((((w0.alloc (.cells #[.string Z] 9)).alloc (.cells #[.string key] 9)).alloc (.cells #[.int .i64 (m : Int)] 2)).alloc (.cells #[.func (.func 68) #[] #[.pointer (some ⟨w.heap.size, 0, none⟩)]] 80)) := (((hB00.alloc (by omega) _).alloc (by simp; omega) _).alloc (by simp; omega) _).alloc (by simp; omega) _
          simp only [World.size_alloc] at bK bC bT
          obtain ⟨V0, hVe⟩ : ∃ V0, V0 = ((((w0.alloc (.cells #[.string Z] 9)).alloc (.cells #[.string key] 9)).alloc (.cells #[.int .i64 (m : Int)] 2)).alloc (.cells #[.func (.func 68) #[] #[.pointer (some ⟨w.heap.size, 0, none⟩)]] 80)) := ⟨_, rfl⟩
          have hVs : V0.heap.size = w0.heap.size + 4 := by rw [hVe]; simp
          rw [← hVe] at bO bI bK bC bT hB0
          rw [← hVe]
          clear hVe bI0 hB00
          have hPG : PG (w0.heap.size + 1) (w0.heap.size + 1 + 1) (w0.heap.size + 1 + 2) w.heap.size key info m (.func (.func 68) #[] #[.pointer (some ⟨w.heap.size, 0, none⟩)]) V0 := ⟨bK, bC, bT, bI, HF.out.below hB0 (Nat.le_refl _), HK.out.below hB0 (Nat.le_refl _)⟩
          refine wpIn_rangeFunc_ownG rfl (by decide) (gf := 99) (lb := #[.pointer (some ⟨w0.heap.size + 1 + 1, 0, none⟩), .pointer (some ⟨w0.heap.size + 1, 0, none⟩), .pointer (some ⟨w0.heap.size + 1 + 2, 0, none⟩)]) rfl trivial (enters_of Tryz.func99 (by kernel_rfl) rfl)
            (stParts_stops 4 (by decide) _ _ _ w.heap.size key info m HH1.out HH2.out HC.out V0 hPG) (fun h k g => k (h g)) (fun W l o o' _ ho hn _ g => g.put o' ho hn) (Below.refl _ _) (fun _ => rfl)
            (fun (pre : List Pt) W => (Boxed W w0.heap.size 9 (.string (ptsX pre)) ∧ PG (w0.heap.size + 1) (w0.heap.size + 1 + 1) (w0.heap.size + 1 + 2) w.heap.size key info m (.func (.func 68) #[] #[.pointer (some ⟨w.heap.size, 0, none⟩)]) W) ∧ Below w.heap.size w W)
            (fun _ _ _ => False)
            (OwnFrom.and (OwnFrom.and (Own.from (boxF_own w0.heap.size 9 (fun (pre : List Pt) => .string (ptsX pre))) _) (Own.from (pg_own _ _ _ _ _ _ _ _) _)) (ownFrom_below (Nat.le_refl _) (by omega)))
            (fun _ _ _ _ _ hs _ _ => hs)
            ⟨⟨by rw [HN.out]; exact bO, hPG⟩, hB0⟩
            (fun x => { tmps := #[Value.string key, Value.string info, Value.int IntKind.i64 ↑m, undef,
          Value.pointer (some { block := w.heap.size, off := 0 }), undef, Value.string { data := #[] },
          Value.func (Fn.func 68) #[] #[Value.pointer (some { block := w.heap.size, off := 0 })],
          Value.pointer (some { block := w0.heap.size, off := 0 }), .string x.1, Value.string key,
          Value.int IntKind.i64 ↑key.size, Value.bool false, Value.bool false, Value.string info,
          Value.int IntKind.i64 ↑info.size, Value.bool false, Value.bool false, Value.bool false,
          Value.int IntKind.i64 ↑m, Value.bool false, Value.bool false, Value.bool false, Value.int IntKind.i64 ↑m,
          Value.bool false, Value.bool false,
          Value.func (Fn.func 68) #[] #[Value.pointer (some { block := w.heap.size, off := 0 })], Value.string Z,
          Value.string key, Value.int IntKind.i64 ↑m,
          Value.func (Fn.func 68) #[] #[Value.pointer (some { block := w.heap.size, off := 0 })],
          Value.func (Fn.func 99) #[]
            #[Value.pointer (some { block := w0.heap.size + 1 + 1, off := 0 }),
              Value.pointer (some { block := w0.heap.size + 1, off := 0 }),
              Value.pointer (some { block := w0.heap.size + 1 + 2, off := 0 })],
          .string x.1, undef, undef, undef, undef], defers := [] }) ?assign ?body ?done ?stop
          case assign =>
            intro l x W K hK
            gi_wp2
            exact hK
          case body =>
            rintro l pre x W ⟨⟨hv, hP⟩, hB⟩ hlt
            have HSN := Lib.hid (ptsX_snoc pre x)
            have hs1 := ptsX_size pre
            have hs2 := x.2
            have hX := fun w => implXor_any (ptsX pre) x.1 w (by unfold maxLen; omega) (by unfold maxLen; omega)
            rw [show xorR (ptsX pre) x.1 = ptsX (pre ++ [x]) by rw [HSN.out]; unfold xorR; rw [if_pos ⟨by omega, by omega⟩]] at hX
            have HX := Lib.hid hX
            generalize ptsX pre = A at hv HX HSN hs1
            have hc := hv.cell
            have hBs := hB.size
            clear hX hs1 hs2
            gi_wp2_with (gi_at_call 71; refine (CallsIn.inRound l (callsIn_wide.2 (HX.out _))).mono ?_; rintro e w1 ⟨rfl, hb1⟩; have hv1 : Boxed w1 w0.heap.size 9 (.string A) := blk_below hv hb1 (Nat.le_refl _); have hc1 := hv1.cell; have hf1 := hv1.frozen)
            have hb2 : Below w.heap.size w (w1.setCell ⟨w0.heap.size, 0, none⟩ (.string (ptsX (pre ++ [x])))) := (hB.trans (hb1.mono hBs)).setCell (p := ⟨w0.heap.size, 0, none⟩) (by show w.heap.size ≤ w0.heap.size; omega) _
            have hP1 := hP.below hb1 (Nat.le_refl _)
            have hP2 : PG (w0.heap.size + 1) (w0.heap.size + 1 + 1) (w0.heap.size + 1 + 2) w.heap.size key info m (.func (.func 68) #[] #[.pointer (some ⟨w.heap.size, 0, none⟩)]) (w1.setCell ⟨w0.heap.size, 0, none⟩ (.string (ptsX (pre ++ [x])))) := ⟨blk_cell _ hP1.k (by omega), blk_cell _ hP1.c (by omega), blk_cell _ hP1.t (by omega), blk_cell _ hP1.i (by omega), HF.out.below hb2 (Nat.le_refl _), HK.out.below hb2 (Nat.le_refl _)⟩
            exact ⟨((KeepsOthers.of_grownBy (grownBy_below hb1) (fun j o ej _ => by cases ej)).trans (KeepsOthers.setCell _ _ _)).from _, fun _ => hP2, ⟨hv1.set _, hP2⟩, hb2⟩
          case done =>
            rintro D ys W hD rfl ⟨⟨hv, hP⟩, hB⟩ hK
            rw [ptsX_all, ← HE.out] at hv
            have hc := hv.cell
            clear hv
            gi_wp2
            refine ⟨by simp, .inl ⟨_, _, rfl, run_takeDeferred hK, ?_⟩⟩
            exact ⟨_, results_tmp rfl _ _ _, rfl, hB.trans (belowK_b (w := w) (Nat.le_refl _) W D _ _ (by omega) hK rfl rfl)⟩
          case stop =>
            rintro D c pre W _ _ h _
            exact h.elim
        · have HR : Hid (srR key info n = ⟨#[]⟩) := Lib.hid (by unfold srR; rw [if_neg (by omega)])
          rw [HR.out]
          have hd1 : ¬ (1000 < (key.size : Int)) := by omega
          have hd2 : ¬ (1000 < (info.size : Int)) := by omega
          have z1 : ¬ (n < 1) := by omega
          have z2 : 50 < n := by omega
          clear hF hK
          go_enter Tryz.func33, Tryz.ntmps33
          go_wp2
          go_ret
          exact ⟨rfl, hB1.out⟩
      · have HR : Hid (srR key info n = ⟨#[]⟩) := Lib.hid (by unfold srR; rw [if_neg (by omega)])
        rw [HR.out]
        have hd1 : ¬ (1000 < (key.size : Int)) := by omega
        have hd2 : ¬ (1000 < (info.size : Int)) := by omega
        have z1 : n < 1 := by omega
        clear hF hK
        go_enter Tryz.func33, Tryz.ntmps33
        go_wp2
        go_ret
        exact ⟨rfl, hB1.out⟩
    · have HR : Hid (srR key info n = ⟨#[]⟩) := Lib.hid (by unfold srR; rw [if_neg (by omega)])
      rw [HR.out]
      have hd1 : ¬ (1000 < (key.size : Int)) := by omega
      have hd2 : 1000 < (info.size : Int) := by omega
      clear hF hK
      go_enter Tryz.func33, Tryz.ntmps33
      go_wp2
      go_ret
      exact ⟨rfl, hB1.out⟩
  · have HR : Hid (srR key info n = ⟨#[]⟩) := Lib.hid (by unfold srR; rw [if_neg (by omega)])
    rw [HR.out]
    have hd1 : 1000 < (key.size : Int) := by omega
    clear hF hK
    go_enter Tryz.func33, Tryz.ntmps33
    go_wp2
    go_ret
    exact ⟨rfl, hB1.out⟩
end Go.Proofs.YtlipgmaiooljkaaGreatDoor
