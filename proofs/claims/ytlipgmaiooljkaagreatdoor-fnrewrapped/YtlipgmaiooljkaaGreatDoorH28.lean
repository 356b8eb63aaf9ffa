/- Joined: W2e, W2f, W2h. -/
import Derived.Great.BuildSlice
import Derived.Laws.CopyOwn
import Derived.Test.YtlipgmaiooljkaaGreatDoorH9
import Derived.Test.YtlipgmaiooljkaaGreatDoorH18
/- W2e -/
namespace Go.Proofs.YtlipgmaiooljkaaGreatDoor
open Go.ChangeShapes Go.WideShapes Go.ChangeAt Go.RowKit
set_option linter.unusedVariables false

/-- An array of words, as its cells. -/
def stA (xs : List Int) : Array Value := (xs.map (Value.int .u32)).toArray
theorem stA_size (xs : List Int) : (stA xs).size = xs.length := by simp [stA]
theorem stA_one (xs : List Int) : (stA xs).all (·.oneCell') = true := by
  rw [Array.all_eq_true_iff_forall_mem]
  intro v hv
  simp [stA] at hv
  obtain ⟨x, _, rfl⟩ := hv
  rfl
/-- A quarter round at four places. -/
def qAt (i j k l : Nat) (zs : List Int) : List Int := upd zs i j k l (Four.mk (zs.getD i 0) (zs.getD j 0) (zs.getD k 0) (zs.getD l 0)).turn
theorem qAt_len (i j k l : Nat) (zs : List Int) : (qAt i j k l zs).length = zs.length := upd_len _ _ _ _ _ _

/-- The block of an owned row without spare room. -/
theorem OwnK.block {e : TypeId} {w : World} {base g n : Nat} {zs : List Int} (h : OwnK e .u32 w base (.slice (some ⟨g, 0, none⟩) n n) zs) (hn : n = zs.length) : w.heap[g]? = some (.cells (stA zs) e (0, 0)) := by
  subst hn
  rcases h.2 with ⟨h0, _⟩ | ⟨g', cap, cur, hv, hb, hh, hl, hm, hsz, ht⟩
  · cases h0
  · simp at hv
    obtain ⟨rfl, rfl⟩ := hv
    rw [hh]
    have : cur.toList = zs.map (Value.int .u32) := by rw [← ht]; exact (List.take_of_length_le (by simp; omega)).symm
    have e1 : cur = stA zs := by rw [stA, ← this]
    rw [e1]
theorem OwnK.ofBlock {e : TypeId} {w : World} {base g n : Nat} {zs : List Int} (hh : w.heap[g]? = some (.cells (stA zs) e (0, 0))) (hn : n = zs.length) (hb : base ≤ g) (hm : n ≤ maxLen) : OwnK e .u32 w base (.slice (some ⟨g, 0, none⟩) n n) zs := by
  subst hn
  refine ⟨by simp, .inr ⟨g, zs.length, stA zs, rfl, hb, hh, Nat.le_refl _, hm, by simp [stA], ?_⟩⟩
  rw [stA, Nat.mul_one]
  exact List.take_of_length_le (by simp)

/-- An array whose cells at four places are known. -/
structure P4 (e : TypeId) (w : World) (base g n : Nat) (zs : List Int) (i j k l : Nat) (q : Four) : Prop where
  own : OwnK e .u32 w base (.slice (some ⟨g, 0, none⟩) n n) (upd zs i j k l q)
  ca : w.cell? ⟨g, i, none⟩ = some (.int .u32 q.a)
  cb : w.cell? ⟨g, j, none⟩ = some (.int .u32 q.b)
  cc : w.cell? ⟨g, k, none⟩ = some (.int .u32 q.c)
  cd : w.cell? ⟨g, l, none⟩ = some (.int .u32 q.d)
  fr : ∀ x, w.frozen? ⟨g, x, none⟩ = false

theorem P4.mk' {e : TypeId} {w : World} {base g n : Nat} {zs : List Int} {i j k l : Nat} {q : Four} (hn : n = zs.length) (hA : Apart n i j k l) (h : OwnK e .u32 w base (.slice (some ⟨g, 0, none⟩) n n) (upd zs i j k l q)) : P4 e w base g n zs i j k l q := by
  subst hn
  have hl := upd_len zs i j k l q
  have hcell : ∀ x, x < zs.length → w.cell? ⟨g, x, none⟩ = ((upd zs i j k l q).map (Value.int .u32))[x]? := by
    intro x hx
    have h' := h
    unfold OwnK at h'
    rw [hl] at h'
    exact World.ownsRow.cellAt h' x (by omega)
  refine ⟨h, ?_, ?_, ?_, ?_, fun x => h.free hl.symm x⟩
  · rw [hcell i hA.hi, List.getElem?_map, upd_i hA]; rfl
  · rw [hcell j hA.hj, List.getElem?_map, upd_j hA]; rfl
  · rw [hcell k hA.hk, List.getElem?_map, upd_k hA]; rfl
  · rw [hcell l hA.hl, List.getElem?_map, upd_l hA]; rfl
theorem P4.set {e : TypeId} {w : World} {base g n : Nat} {zs : List Int} {i j k l : Nat} {q q' : Four} (h : P4 e w base g n zs i j k l q) (hn : n = zs.length) (hA : Apart n i j k l) (x : Nat) (v : Int) (he : (upd zs i j k l q).set x v = upd zs i j k l q') : P4 e (w.setCell ⟨g, x, none⟩ (.int .u32 v)) base g n zs i j k l q' := by
  have := h.own.set (by rw [upd_len]; exact hn) x v
  rw [he] at this
  exact P4.mk' hn hA this

theorem Tryz.undSt : Tryz.prog.underlying 133 = some (.array 16 104) := by kernel_rfl
theorem Tryz.infSt : (Tryz.prog.info? 133).map (·.size) = some 16 := by kernel_rfl

/-- The four boxes. -/
def Bx (b1 b2 b3 b4 i j k l : Nat) (w : World) : Prop := w.cell? ⟨b1, 0, none⟩ = some (.int .i64 i) ∧ w.cell? ⟨b2, 0, none⟩ = some (.int .i64 j) ∧ w.cell? ⟨b3, 0, none⟩ = some (.int .i64 k) ∧ w.cell? ⟨b4, 0, none⟩ = some (.int .i64 l)
theorem Bx.below {b1 b2 b3 b4 i j k l B : Nat} {w w' : World} (h : Bx b1 b2 b3 b4 i j k l w) (hb : Below B w w') (h1 : b1 < B) (h2 : b2 < B) (h3 : b3 < B) (h4 : b4 < B) : Bx b1 b2 b3 b4 i j k l w' :=
  ⟨by rw [hb.cell (p := ⟨b1, 0, none⟩) h1]; exact h.1, by rw [hb.cell (p := ⟨b2, 0, none⟩) h2]; exact h.2.1, by rw [hb.cell (p := ⟨b3, 0, none⟩) h3]; exact h.2.2.1, by rw [hb.cell (p := ⟨b4, 0, none⟩) h4]; exact h.2.2.2⟩
theorem Bx.lt {b1 b2 b3 b4 i j k l : Nat} {w : World} (h : Bx b1 b2 b3 b4 i j k l w) : b1 < w.heap.size ∧ b2 < w.heap.size ∧ b3 < w.heap.size ∧ b4 < w.heap.size :=
  ⟨World.block_lt_of_cell? w _ h.1, World.block_lt_of_cell? w _ h.2.1, World.block_lt_of_cell? w _ h.2.2.1, World.block_lt_of_cell? w _ h.2.2.2⟩
theorem Bx.set {b1 b2 b3 b4 i j k l B g : Nat} {w : World} (h : Bx b1 b2 b3 b4 i j k l w) (hg : B ≤ g) (h1 : b1 < B) (h2 : b2 < B) (h3 : b3 < B) (h4 : b4 < B) (o : Nat) (v : Value) : Bx b1 b2 b3 b4 i j k l (w.setCell ⟨g, o, none⟩ v) :=
  h.below ((Below.refl B w).setCell (p := ⟨g, o, none⟩) hg v) h1 h2 h3 h4

set_option maxRecDepth 100000 in
set_option maxHeartbeats 6400000 in
theorem round_any (xs : List Int) (i j k l : Nat) (b1 b2 b3 b4 : Nat) (w : World) (hn : xs.length = 16) (hA : Apart 16 i j k l) (hu : ∀ x ∈ xs, isU x) (hbx : Bx b1 b2 b3 b4 i j k l w) :
    Calls Tryz.prog 181 #[.agg (stA xs), .pointer (some ⟨b1, 0, none⟩), .pointer (some ⟨b2, 0, none⟩), .pointer (some ⟨b3, 0, none⟩), .pointer (some ⟨b4, 0, none⟩)] w fun e w' => e = .returned (.agg (stA (qAt i j k l xs))) ∧ Below w.heap.size w w' := by
  obtain ⟨l1, l2, l3, l4⟩ := hbx.lt
  have hi := hA.hi
  have hj := hA.hj
  have hk := hA.hk
  have hl := hA.hl
  have i0 : (i : Int) < 16 := by omega
  have j0 : (j : Int) < 16 := by omega
  have k0 : (k : Int) < 16 := by omega
  have l0 : (l : Int) < 16 := by omega
  obtain ⟨q, hq⟩ : ∃ q, q = Four.mk (xs.getD i 0) (xs.getD j 0) (xs.getD k 0) (xs.getD l 0) := ⟨_, rfl⟩
  have hmem : ∀ x, x < 16 → isU (xs.getD x 0) := fun x hx => by
    have hx' : x < xs.length := by omega
    have : xs.getD x 0 = xs[x] := by simp [hx']
    rw [this]; exact hu _ (List.getElem_mem _)
  have hqu : q.u := by rw [hq]; exact ⟨hmem i hi, hmem j hj, hmem k hk, hmem l hl⟩
  have hupd : upd xs i j k l q = xs := by
    rw [hq]
    have hx : ∀ (ys : List Int) (x : Nat), ys = xs → x < 16 → ys.set x (xs.getD x 0) = xs := fun ys x e hx => by
      subst e
      have hx' : x < ys.length := by omega
      have : ys.getD x 0 = ys[x] := by simp [hx']
      rw [this, List.set_getElem_self]
    unfold upd
    exact hx _ _ (hx _ _ (hx _ _ (hx _ _ rfl hi) hj) hk) hl
  have hres : qAt i j k l xs = upd xs i j k l q.turn := by rw [hq]; rfl
  obtain ⟨q', hq'⟩ : ∃ q', q' = q.turn := ⟨_, rfl⟩
  have hcall := fun w => quarterOf_any q w hqu
  rw [← hq'] at hcall hres
  have HC := Lib.hid hcall
  have HRES := Lib.hid hres
  clear hcall hres hmem hq'
  go_enter Tryz.func181, Tryz.ntmps181
  go_wp2_with fail
  obtain ⟨zo, hzo⟩ : ∃ zo, zo = Obj.cells #[Value.int IntKind.u32 0, Value.int IntKind.u32 0, Value.int IntKind.u32 0, Value.int IntKind.u32 0, Value.int IntKind.u32 0, Value.int IntKind.u32 0, Value.int IntKind.u32 0, Value.int IntKind.u32 0, Value.int IntKind.u32 0, Value.int IntKind.u32 0, Value.int IntKind.u32 0, Value.int IntKind.u32 0, Value.int IntKind.u32 0, Value.int IntKind.u32 0, Value.int IntKind.u32 0, Value.int IntKind.u32 0] 133 := ⟨_, rfl⟩
  rw [← hzo]
  obtain ⟨w1, hw1⟩ : ∃ w1, w1 = (w.alloc (Obj.cells (stA xs) 133)).alloc zo := ⟨_, rfl⟩
  obtain ⟨W0, hW0⟩ : ∃ W0, W0 = w1.drew := ⟨_, rfl⟩
  have hb1 : Below w.heap.size w W0 := by rw [hW0]; rw [hw1]; exact below_drewN (((Below.refl _ _).alloc (Nat.le_refl _) _).alloc (by simp) _) 1
  have hblk : w1.heap[w.heap.size]? = some (.cells (stA xs) 133 (0, 0)) := by rw [hw1, heap_alloc_old _ _ (by simp)]; exact heap_alloc_new _ _
  have hres1 : w1.heap[w.heap.size + 1]? = some zo := by
    have := heap_alloc_new (w.alloc (Obj.cells (stA xs) 133)) zo
    rw [← hw1] at this
    simpa using this
  rw [← hw1]
  have P0 : P4 133 W0 w.heap.size w.heap.size 16 xs i j k l q := P4.mk' hn.symm hA (by rw [hupd, hW0]; exact OwnK.ofBlock (w := w1) hblk hn.symm (Nat.le_refl _) (by decide))
  have hA2 := hn.symm ▸ hA
  have P1 := P0.set hn.symm hA i q'.a (upd_set_i hA2 q _)
  have P2 := P1.set hn.symm hA j q'.b (upd_set_j hA2 _ _)
  have P3 := P2.set hn.symm hA k q'.c (upd_set_k hA2 _ _)
  have P4' := P3.set hn.symm hA l q'.d (upd_set_l hA2 _ _)
  have s0 := hbx.below hb1 l1 l2 l3 l4
  have s1 := s0.set (Nat.le_refl w.heap.size) l1 l2 l3 l4 i (.int .u32 q'.a)
  have s2 := s1.set (Nat.le_refl w.heap.size) l1 l2 l3 l4 j (.int .u32 q'.b)
  have s3 := s2.set (Nat.le_refl w.heap.size) l1 l2 l3 l4 k (.int .u32 q'.c)
  have s4 := s3.set (Nat.le_refl w.heap.size) l1 l2 l3 l4 l (.int .u32 q'.d)
  have S0 := Lib.hid s0
  have S1 := Lib.hid s1
  have S2 := Lib.hid s2
  have S3 := Lib.hid s3
  have S4 := Lib.hid s4
  have c1 := P0.ca
  have c2 := P0.cb
  have c3 := P0.cc
  have c4 := P0.cd
  have d2 := P1.cb
  have d3 := P2.cc
  have d4 := P3.cd
  have f1 := P0.fr i
  have f2 := P0.fr j
  have f3 := P0.fr k
  have f4 := P0.fr l
  have HP := Lib.hid P4'
  dsimp only at d2 d3 d4
  have HZ := Lib.hid hzo
  have HR1 : Hid (W0.heap[w.heap.size + 1]? = some zo) := Lib.hid (by rw [hW0]; exact hres1)
  have HB1 := Lib.hid hb1
  clear s0 s1 s2 s3 s4 P0 P1 P2 P3 P4' hblk hzo hw1 hbx hA hA2 hu hupd hq hres1 hb1 hqu
  refine wp_region_T (Bx b1 b2 b3 b4 i j k l) (fun w' => w'.cell? ⟨w.heap.size, i, none⟩ = some (.int .u32 q.a) ∧ w'.cell? ⟨w.heap.size, j, none⟩ = some (.int .u32 q.b) ∧ w'.cell? ⟨w.heap.size, k, none⟩ = some (.int .u32 q.c) ∧ w'.cell? ⟨w.heap.size, l, none⟩ = some (.int .u32 q.d)) 23 (by kernel_rfl) 30 rfl ?_
  rw [← hW0]
  clear hW0
  refine wpAnyT_takesA (md := .any) 18 (by kernel_rfl) (by intro d v c a w h; cases d <;> exact h) [0, 1, 2, 3, 4, 5, 7, 8, 10, 11, 13, 14] _ _ _ (by decide) (by kernel_rfl) ⟨S0.out, fun _ => ⟨c1, c2, c3, c4⟩⟩ ?_
  simp only [pick, List.filterMap_cons, List.filterMap_nil, List.getElem?_cons_zero, List.getElem?_cons_succ]
  iterate 12 (refine wpIf_step ?_ (by kernel_rfl) ?_ ?_; rotate_left; (rintro w ⟨e1, e2, e3, e4⟩; go_simp); try with_reducible rfl)
  refine wpIf_nil (fun hS => ?_)
  refine wpAnyT_takesB (md := .any) 14 (by kernel_rfl) (by intro d v c a w h; cases d <;> exact h) [6, 9, 12, 15] _ _ _ (by decide) (by kernel_rfl) (by kernel_rfl) (by kernel_rfl) hS ?_
  simp only [pick, List.filterMap_cons, List.filterMap_nil, List.getElem?_cons_zero, List.getElem?_cons_succ]
  iterate 4 (refine wpIf_step ?_ (by kernel_rfl) ?_ ?_; rotate_left; (rintro w ⟨-, e1, e2, e3, e4⟩; go_simp); try with_reducible rfl)
  refine wpIf_nil (fun hS2 => ?_)
  clear hS
  refine wpAnyT_one 16 13 (by kernel_rfl) rfl (by kernel_rfl) (fun K hK => ?_)
  go_simp
  refine (HC.out _).mono ?_
  rintro e w' ⟨rfl, rfl⟩
  refine hK _ _ ⟨S0.out, fun _ => ⟨c1, c2, c3, c4⟩⟩ (fun hS3 => ?_)
  clear hK K hS2
  refine wpAnyT_takesA (md := .any) 7 (by kernel_rfl) (by intro d v c a w h; cases d <;> exact h) [17, 18, 19, 20, 21, 22] _ _ _ (by decide) (by kernel_rfl) hS3 ?_
  simp only [pick, List.filterMap_cons, List.filterMap_nil, List.getElem?_cons_zero, List.getElem?_cons_succ]
  iterate 6 (refine wpIf_step ?_ (by kernel_rfl) ?_ ?_; rotate_left; (rintro w ⟨e1, e2, e3, e4⟩; go_simp); try with_reducible rfl)
  refine wpIf_nil (fun hS4 => ?_)
  clear hS3
  refine wpAnyT_one 23 6 (by kernel_rfl) rfl (by kernel_rfl) (fun K hK => ?_)
  go_simp
  refine hK _ _ ⟨S1.out, fun h => by exact absurd h (by decide)⟩ (fun hS5 => ?_)
  clear hK K hS4
  refine wpAnyT_takesA (md := .any) 5 (by kernel_rfl) (by intro d v c a w h; cases d <;> exact h) [24] _ _ _ (by decide) (by kernel_rfl) hS5 ?_
  simp only [pick, List.filterMap_cons, List.filterMap_nil, List.getElem?_cons_zero, List.getElem?_cons_succ]
  iterate 1 (refine wpIf_step ?_ (by kernel_rfl) ?_ ?_; rotate_left; (rintro w ⟨e1, e2, e3, e4⟩; go_simp); try with_reducible rfl)
  refine wpIf_nil (fun hS6 => ?_)
  clear hS5
  refine wpAnyT_one 25 4 (by kernel_rfl) rfl (by kernel_rfl) (fun K hK => ?_)
  go_simp
  refine hK _ _ ⟨S2.out, fun h => by exact absurd h (by decide)⟩ (fun hS7 => ?_)
  clear hK K hS6
  refine wpAnyT_takesA (md := .any) 3 (by kernel_rfl) (by intro d v c a w h; cases d <;> exact h) [26] _ _ _ (by decide) (by kernel_rfl) hS7 ?_
  simp only [pick, List.filterMap_cons, List.filterMap_nil, List.getElem?_cons_zero, List.getElem?_cons_succ]
  iterate 1 (refine wpIf_step ?_ (by kernel_rfl) ?_ ?_; rotate_left; (rintro w ⟨e1, e2, e3, e4⟩; go_simp); try with_reducible rfl)
  refine wpIf_nil (fun hS8 => ?_)
  clear hS7
  refine wpAnyT_one 27 2 (by kernel_rfl) rfl (by kernel_rfl) (fun K hK => ?_)
  go_simp
  refine hK _ _ ⟨S3.out, fun h => by exact absurd h (by decide)⟩ (fun hS9 => ?_)
  clear hK K hS8
  refine wpAnyT_takesA (md := .any) 1 (by kernel_rfl) (by intro d v c a w h; cases d <;> exact h) [28] _ _ _ (by decide) (by kernel_rfl) hS9 ?_
  simp only [pick, List.filterMap_cons, List.filterMap_nil, List.getElem?_cons_zero, List.getElem?_cons_succ]
  iterate 1 (refine wpIf_step ?_ (by kernel_rfl) ?_ ?_; rotate_left; (rintro w ⟨e1, e2, e3, e4⟩; go_simp); try with_reducible rfl)
  refine wpIf_nil (fun hS10 => ?_)
  clear hS9
  refine wpAnyT_one 29 0 (by kernel_rfl) rfl (by kernel_rfl) (fun K hK => ?_)
  go_simp
  refine hK _ _ ⟨S4.out, fun h => by exact absurd h (by decide)⟩ (fun hS11 => ?_)
  clear hK K hS10
  refine wpAnyT_over (by kernel_rfl) ?_
  clear hS11 S0 S1 S2 S3 S4 c1 c2 c3 c4 d2 d3 d4 f1 f2 f3 f4 HC
  have hblk := HP.out.own.block (by rw [upd_len]; exact hn.symm)
  have hlen := upd_len xs i j k l q'
  have hbW : Below w.heap.size w ((((W0.setCell { block := w.heap.size, off := i } (Value.int IntKind.u32 q'.a)).setCell { block := w.heap.size, off := j } (Value.int IntKind.u32 q'.b)).setCell { block := w.heap.size, off := k } (Value.int IntKind.u32 q'.c)).setCell { block := w.heap.size, off := l } (Value.int IntKind.u32 q'.d)) :=
    (((HB1.out.setCell (p := ⟨w.heap.size, i, none⟩) (Nat.le_refl _) _).setCell (p := ⟨w.heap.size, j, none⟩) (Nat.le_refl _) _).setCell (p := ⟨w.heap.size, k, none⟩) (Nat.le_refl _) _).setCell (p := ⟨w.heap.size, l, none⟩) (Nat.le_refl _) _
  have hz4 : ((((W0.setCell { block := w.heap.size, off := i } (Value.int IntKind.u32 q'.a)).setCell { block := w.heap.size, off := j } (Value.int IntKind.u32 q'.b)).setCell { block := w.heap.size, off := k } (Value.int IntKind.u32 q'.c)).setCell { block := w.heap.size, off := l } (Value.int IntKind.u32 q'.d)).heap[w.heap.size + 1]? = some zo := by
    rw [Below.heap_setCell _ _ _ _ (by simp), Below.heap_setCell _ _ _ _ (by simp), Below.heap_setCell _ _ _ _ (by simp), Below.heap_setCell _ _ _ _ (by simp)]
    exact HR1.out
  change _ = some (Obj.cells (stA (upd xs i j k l q')) _ _) at hblk
  generalize ((((W0.setCell { block := w.heap.size, off := i } (Value.int IntKind.u32 q'.a)).setCell { block := w.heap.size, off := j } (Value.int IntKind.u32 q'.b)).setCell { block := w.heap.size, off := k } (Value.int IntKind.u32 q'.c)).setCell { block := w.heap.size, off := l } (Value.int IntKind.u32 q'.d)) = W4 at *
  rw [← HRES.out] at hblk hlen
  have hsz : (stA (qAt i j k l xs)).size = 16 := by rw [stA_size, hlen, hn]
  have hinf : (Tryz.prog.info? 133).map (·.size) = some (stA (qAt i j k l xs)).size := by rw [hsz]; exact Tryz.infSt
  rw [HZ.out] at hz4
  have HBK := Lib.hid hblk
  have HZ4 := Lib.hid hz4
  have HI := Lib.hid hinf
  have HSZ := Lib.hid hsz
  clear hblk hz4 hinf hsz HP HRES HB1 HR1 HZ
  go_wp2_with (first | (refine wpList_load_row rfl _ (.tmp 5) rfl w.heap.size rfl _ _ _ _ HBK.out Tryz.undSt rfl HI.out ?_) | (refine wpList_store_row rfl _ (.tmp 6) (.tmp 33) rfl (w.heap.size + 1) _ rfl rfl _ _ HZ4.out HI.out (by rw [HSZ.out]; rfl) (stA_one _) ?_))
  refine bodyPost_ret (results_cell_row rfl _ _ (w.heap.size + 1) _ _ _ _ rfl (setRow_heap _ _ _ _ _ _ HZ4.out) Tryz.undSt rfl HI.out) rfl ?_
  exact ⟨rfl, below_setRow hbW (by omega) _⟩
end Go.Proofs.YtlipgmaiooljkaaGreatDoor

/- W2f -/
namespace Go.Proofs.YtlipgmaiooljkaaGreatDoor
open Go.ChangeShapes Go.WideShapes Go.ChangeAt Go.RowKit
set_option linter.unusedVariables false

theorem mem_set_u {xs : List Int} {i : Nat} {y : Int} (h : ∀ x ∈ xs, isU x) (hy : isU y) : ∀ x ∈ xs.set i y, isU x := fun x hx => by
  rcases List.mem_or_eq_of_mem_set hx with h1 | rfl
  · exact h x h1
  · exact hy
theorem getD_u {xs : List Int} (h : ∀ x ∈ xs, isU x) (i : Nat) : isU (xs.getD i 0) := by
  by_cases hi : i < xs.length
  · have : xs.getD i 0 = xs[i] := by simp [hi]
    rw [this]; exact h _ (List.getElem_mem _)
  · have : xs.getD i 0 = 0 := by simp [hi]
    rw [this]; exact ⟨by decide, by decide⟩
theorem qAt_u (i j k l : Nat) {xs : List Int} (h : ∀ x ∈ xs, isU x) : ∀ x ∈ qAt i j k l xs, isU x := by
  have ht := Four.turn_u (q := ⟨xs.getD i 0, xs.getD j 0, xs.getD k 0, xs.getD l 0⟩) ⟨getD_u h i, getD_u h j, getD_u h k, getD_u h l⟩
  unfold qAt upd
  exact mem_set_u (mem_set_u (mem_set_u (mem_set_u h ht.1) ht.2.1) ht.2.2.1) ht.2.2.2

/-- The first n of the eight rounds. -/
def rnd : Nat → List Int → List Int
  | 0 => qAt 0 4 8 12
  | 1 => qAt 1 5 9 13
  | 2 => qAt 2 6 10 14
  | 3 => qAt 3 7 11 15
  | 4 => qAt 0 5 10 15
  | 5 => qAt 1 6 11 12
  | 6 => qAt 2 7 8 13
  | 7 => qAt 3 4 9 14
  | _ => id
def eightN : Nat → List Int → List Int
  | 0, xs => xs
  | n + 1, xs => rnd n (eightN n xs)
def tenN : Nat → List Int → List Int
  | 0, xs => xs
  | n + 1, xs => eightN 8 (tenN n xs)
/-- A state: sixteen words. -/
def isSt (xs : List Int) : Prop := xs.length = 16 ∧ ∀ x ∈ xs, isU x
theorem rnd_st (n : Nat) {xs : List Int} (h : isSt xs) : isSt (rnd n xs) := by
  unfold rnd
  split <;> first | exact ⟨by rw [qAt_len]; exact h.1, qAt_u _ _ _ _ h.2⟩ | exact h
theorem eightN_st : ∀ (n : Nat) {xs : List Int}, isSt xs → isSt (eightN n xs)
  | 0, _, h => h
  | n + 1, _, h => rnd_st n (eightN_st n h)
theorem tenN_st : ∀ (n : Nat) {xs : List Int}, isSt xs → isSt (tenN n xs)
  | 0, _, h => h
  | n + 1, _, h => eightN_st 8 (tenN_st n h)

/-- A round at four places, as a function value whose boxes lie from 'lo' on. -/
def Clo (lo : Nat) (v : Value) (i j k l : Nat) (w : World) : Prop := ∃ b1 b2 b3 b4, v = .func (.func 181) #[] #[.pointer (some ⟨b1, 0, none⟩), .pointer (some ⟨b2, 0, none⟩), .pointer (some ⟨b3, 0, none⟩), .pointer (some ⟨b4, 0, none⟩)] ∧ Bx b1 b2 b3 b4 i j k l w ∧ lo ≤ b1 ∧ lo ≤ b2 ∧ lo ≤ b3 ∧ lo ≤ b4
theorem Clo.keep {lo : Nat} {v : Value} {i j k l : Nat} {w w' : World} (h : Clo lo v i j k l w) (hb : Below w.heap.size w w') : Clo lo v i j k l w' := by
  obtain ⟨b1, b2, b3, b4, e, hx, r⟩ := h
  obtain ⟨l1, l2, l3, l4⟩ := hx.lt
  exact ⟨b1, b2, b3, b4, e, hx.below hb l1 l2 l3 l4, r⟩
theorem Clo.setRow {lo g : Nat} {v : Value} {i j k l : Nat} {w : World} (h : Clo lo v i j k l w) (hg : g < lo) (cs : Array Value) : Clo lo v i j k l (w.setRow g cs) := by
  obtain ⟨b1, b2, b3, b4, e, hx, r1, r2, r3, r4⟩ := h
  refine ⟨b1, b2, b3, b4, e, ⟨?_, ?_, ?_, ?_⟩, r1, r2, r3, r4⟩
  · rw [cell_setRow_other _ _ _ _ (by simp; omega)]; exact hx.1
  · rw [cell_setRow_other _ _ _ _ (by simp; omega)]; exact hx.2.1
  · rw [cell_setRow_other _ _ _ _ (by simp; omega)]; exact hx.2.2.1
  · rw [cell_setRow_other _ _ _ _ (by simp; omega)]; exact hx.2.2.2
theorem Clo.low {lo lo' : Nat} {v : Value} {i j k l : Nat} {w : World} (h : Clo lo v i j k l w) (hl : lo' ≤ lo) : Clo lo' v i j k l w := by
  obtain ⟨b1, b2, b3, b4, e, hx, r1, r2, r3, r4⟩ := h
  exact ⟨b1, b2, b3, b4, e, hx, by omega, by omega, by omega, by omega⟩

theorem new_at (w : World) (v : Value) (t : TypeId) (g : Nat) (hg : g = w.heap.size) : (w.alloc (.cells #[v] t)).cell? ⟨g, 0, none⟩ = some v := by
  subst hg
  rw [cell_of_row _ _ _ _ _ _ (heap_alloc_new w _)]; rfl
theorem old_at (w : World) (o : Obj) (g : Nat) (hg : g < w.heap.size) : (w.alloc o).cell? ⟨g, 0, none⟩ = w.cell? ⟨g, 0, none⟩ := World.cell?_alloc_lt _ _ _ hg

theorem roundAt_any (i j k l : Nat) (w : World) :
    Calls Tryz.prog 174 #[.int .i64 i, .int .i64 j, .int .i64 k, .int .i64 l] w fun e w' => ∃ v, e = .returned v ∧ Clo w.heap.size v i j k l w' ∧ Below w.heap.size w w' := by
  go_enter Tryz.func174, Tryz.ntmps174
  go_wp2
  go_ret
  refine ⟨_, rfl, ⟨w.heap.size, w.heap.size + 1, w.heap.size + 2, w.heap.size + 3, rfl, ⟨?_, ?_, ?_, ?_⟩, by omega, by omega, by omega, by omega⟩, ?_⟩
  · rw [old_at _ _ _ (by simp; omega), old_at _ _ _ (by simp; omega), old_at _ _ _ (by simp)]; exact new_at _ _ _ _ rfl
  · rw [old_at _ _ _ (by simp), old_at _ _ _ (by simp)]; exact new_at _ _ _ _ (by simp)
  · rw [old_at _ _ _ (by simp)]; exact new_at _ _ _ _ (by simp)
  · exact new_at _ _ _ _ (by simp)
  · exact ((((Below.refl _ _).alloc (Nat.le_refl _) _).alloc (by simp) _).alloc (by simp; omega) _).alloc (by simp; omega) _

/-- The eight rounds. -/
structure All8 (lo : Nat) (f0 f1 f2 f3 f4 f5 f6 f7 : Value) (w : World) : Prop where
  r0 : Clo lo f0 0 4 8 12 w
  r1 : Clo lo f1 1 5 9 13 w
  r2 : Clo lo f2 2 6 10 14 w
  r3 : Clo lo f3 3 7 11 15 w
  r4 : Clo lo f4 0 5 10 15 w
  r5 : Clo lo f5 1 6 11 12 w
  r6 : Clo lo f6 2 7 8 13 w
  r7 : Clo lo f7 3 4 9 14 w
theorem All8.keep {lo : Nat} {f0 f1 f2 f3 f4 f5 f6 f7 : Value} {w w' : World} (h : All8 lo f0 f1 f2 f3 f4 f5 f6 f7 w) (hb : Below w.heap.size w w') : All8 lo f0 f1 f2 f3 f4 f5 f6 f7 w' :=
  ⟨h.r0.keep hb, h.r1.keep hb, h.r2.keep hb, h.r3.keep hb, h.r4.keep hb, h.r5.keep hb, h.r6.keep hb, h.r7.keep hb⟩
theorem All8.setRow {lo g : Nat} {f0 f1 f2 f3 f4 f5 f6 f7 : Value} {w : World} (h : All8 lo f0 f1 f2 f3 f4 f5 f6 f7 w) (hg : g < lo) (cs : Array Value) : All8 lo f0 f1 f2 f3 f4 f5 f6 f7 (w.setRow g cs) :=
  ⟨h.r0.setRow hg cs, h.r1.setRow hg cs, h.r2.setRow hg cs, h.r3.setRow hg cs, h.r4.setRow hg cs, h.r5.setRow hg cs, h.r6.setRow hg cs, h.r7.setRow hg cs⟩

theorem Tryz.undRs : Tryz.prog.underlying 165 = some (.array 8 164) := by kernel_rfl
theorem Tryz.infRs : (Tryz.prog.info? 165).map (·.size) = some 8 := by kernel_rfl
theorem Clo.one {lo : Nat} {v : Value} {i j k l : Nat} {w : World} (h : Clo lo v i j k l w) : v.oneCell' = true := by
  obtain ⟨b1, b2, b3, b4, rfl, _⟩ := h; rfl

set_option maxRecDepth 100000 in
set_option maxHeartbeats 1000000 in
theorem chaRounds_any (w : World) :
    Calls Tryz.prog 155 #[] w fun e w' => ∃ f0 f1 f2 f3 f4 f5 f6 f7, e = .returned (.agg #[f0, f1, f2, f3, f4, f5, f6, f7]) ∧ All8 (w.heap.size + 1) f0 f1 f2 f3 f4 f5 f6 f7 w' ∧ Below w.heap.size w w' := by
  go_enter Tryz.func155, Tryz.ntmps155
  go_wp2_with fail
  obtain ⟨zo, hzo⟩ : ∃ zo, zo = Obj.cells #[Value.nilFunc, Value.nilFunc, Value.nilFunc, Value.nilFunc, Value.nilFunc, Value.nilFunc, Value.nilFunc, Value.nilFunc] 165 := ⟨_, rfl⟩
  obtain ⟨wa, hwa⟩ : ∃ wa, wa = w.alloc zo := ⟨_, rfl⟩
  have hb0 : Below w.heap.size w wa := by rw [hwa]; exact (Below.refl _ _).alloc (Nat.le_refl _) _
  have hz0 : wa.heap[w.heap.size]? = some zo := by rw [hwa]; exact heap_alloc_new _ _
  have hs0 : w.heap.size < wa.heap.size := by rw [hwa]; simp
  rw [← hzo, ← hwa]
  have HZO := Lib.hid hzo
  clear hwa hzo
  refine (roundAt_any 0 4 8 12 _).mono ?_
  rintro e w1 ⟨f0, rfl, g0, hb1⟩
  replace g0 := g0.low (lo' := w.heap.size + 1) (by omega)
  replace hz0 := (hb1.block w.heap.size hs0).trans hz0
  replace hb0 := hb0.trans (hb1.mono (by omega))
  replace hs0 := Nat.lt_of_lt_of_le hs0 hb1.size
  clear hb1
  go_wp2_with fail
  refine (roundAt_any 1 5 9 13 _).mono ?_
  rintro e w2 ⟨f1, rfl, g1, hb2⟩
  replace g0 := g0.keep hb2
  replace g1 := g1.low (lo' := w.heap.size + 1) (by omega)
  replace hz0 := (hb2.block w.heap.size hs0).trans hz0
  replace hb0 := hb0.trans (hb2.mono (by omega))
  replace hs0 := Nat.lt_of_lt_of_le hs0 hb2.size
  clear hb2
  go_wp2_with fail
  refine (roundAt_any 2 6 10 14 _).mono ?_
  rintro e w3 ⟨f2, rfl, g2, hb3⟩
  replace g0 := g0.keep hb3
  replace g1 := g1.keep hb3
  replace g2 := g2.low (lo' := w.heap.size + 1) (by omega)
  replace hz0 := (hb3.block w.heap.size hs0).trans hz0
  replace hb0 := hb0.trans (hb3.mono (by omega))
  replace hs0 := Nat.lt_of_lt_of_le hs0 hb3.size
  clear hb3
  go_wp2_with fail
  refine (roundAt_any 3 7 11 15 _).mono ?_
  rintro e w4 ⟨f3, rfl, g3, hb4⟩
  replace g0 := g0.keep hb4
  replace g1 := g1.keep hb4
  replace g2 := g2.keep hb4
  replace g3 := g3.low (lo' := w.heap.size + 1) (by omega)
  replace hz0 := (hb4.block w.heap.size hs0).trans hz0
  replace hb0 := hb0.trans (hb4.mono (by omega))
  replace hs0 := Nat.lt_of_lt_of_le hs0 hb4.size
  clear hb4
  go_wp2_with fail
  refine (roundAt_any 0 5 10 15 _).mono ?_
  rintro e w5 ⟨f4, rfl, g4, hb5⟩
  replace g0 := g0.keep hb5
  replace g1 := g1.keep hb5
  replace g2 := g2.keep hb5
  replace g3 := g3.keep hb5
  replace g4 := g4.low (lo' := w.heap.size + 1) (by omega)
  replace hz0 := (hb5.block w.heap.size hs0).trans hz0
  replace hb0 := hb0.trans (hb5.mono (by omega))
  replace hs0 := Nat.lt_of_lt_of_le hs0 hb5.size
  clear hb5
  go_wp2_with fail
  refine (roundAt_any 1 6 11 12 _).mono ?_
  rintro e w6 ⟨f5, rfl, g5, hb6⟩
  replace g0 := g0.keep hb6
  replace g1 := g1.keep hb6
  replace g2 := g2.keep hb6
  replace g3 := g3.keep hb6
  replace g4 := g4.keep hb6
  replace g5 := g5.low (lo' := w.heap.size + 1) (by omega)
  replace hz0 := (hb6.block w.heap.size hs0).trans hz0
  replace hb0 := hb0.trans (hb6.mono (by omega))
  replace hs0 := Nat.lt_of_lt_of_le hs0 hb6.size
  clear hb6
  go_wp2_with fail
  refine (roundAt_any 2 7 8 13 _).mono ?_
  rintro e w7 ⟨f6, rfl, g6, hb7⟩
  replace g0 := g0.keep hb7
  replace g1 := g1.keep hb7
  replace g2 := g2.keep hb7
  replace g3 := g3.keep hb7
  replace g4 := g4.keep hb7
  replace g5 := g5.keep hb7
  replace g6 := g6.low (lo' := w.heap.size + 1) (by omega)
  replace hz0 := (hb7.block w.heap.size hs0).trans hz0
  replace hb0 := hb0.trans (hb7.mono (by omega))
  replace hs0 := Nat.lt_of_lt_of_le hs0 hb7.size
  clear hb7
  go_wp2_with fail
  refine (roundAt_any 3 4 9 14 _).mono ?_
  rintro e w8 ⟨f7, rfl, g7, hb8⟩
  replace g0 := g0.keep hb8
  replace g1 := g1.keep hb8
  replace g2 := g2.keep hb8
  replace g3 := g3.keep hb8
  replace g4 := g4.keep hb8
  replace g5 := g5.keep hb8
  replace g6 := g6.keep hb8
  replace g7 := g7.low (lo' := w.heap.size + 1) (by omega)
  replace hz0 := (hb8.block w.heap.size hs0).trans hz0
  replace hb0 := hb0.trans (hb8.mono (by omega))
  replace hs0 := Nat.lt_of_lt_of_le hs0 hb8.size
  clear hb8
  have HA := Lib.hid (All8.mk g0 g1 g2 g3 g4 g5 g6 g7)
  obtain ⟨x01, x02, x03, x04, rfl, -⟩ := g0
  obtain ⟨x11, x12, x13, x14, rfl, -⟩ := g1
  obtain ⟨x21, x22, x23, x24, rfl, -⟩ := g2
  obtain ⟨x31, x32, x33, x34, rfl, -⟩ := g3
  obtain ⟨x41, x42, x43, x44, rfl, -⟩ := g4
  obtain ⟨x51, x52, x53, x54, rfl, -⟩ := g5
  obtain ⟨x61, x62, x63, x64, rfl, -⟩ := g6
  obtain ⟨x71, x72, x73, x74, rfl, -⟩ := g7
  rename_i hK
  refine hK _ _ ?_
  refine wpList_buildTo rfl _ _ rfl (some 9) rfl #[.func (.func 181) #[] #[.pointer (some ⟨x01, 0, none⟩), .pointer (some ⟨x02, 0, none⟩), .pointer (some ⟨x03, 0, none⟩), .pointer (some ⟨x04, 0, none⟩)], .func (.func 181) #[] #[.pointer (some ⟨x11, 0, none⟩), .pointer (some ⟨x12, 0, none⟩), .pointer (some ⟨x13, 0, none⟩), .pointer (some ⟨x14, 0, none⟩)], .func (.func 181) #[] #[.pointer (some ⟨x21, 0, none⟩), .pointer (some ⟨x22, 0, none⟩), .pointer (some ⟨x23, 0, none⟩), .pointer (some ⟨x24, 0, none⟩)], .func (.func 181) #[] #[.pointer (some ⟨x31, 0, none⟩), .pointer (some ⟨x32, 0, none⟩), .pointer (some ⟨x33, 0, none⟩), .pointer (some ⟨x34, 0, none⟩)], .func (.func 181) #[] #[.pointer (some ⟨x41, 0, none⟩), .pointer (some ⟨x42, 0, none⟩), .pointer (some ⟨x43, 0, none⟩), .pointer (some ⟨x44, 0, none⟩)], .func (.func 181) #[] #[.pointer (some ⟨x51, 0, none⟩), .pointer (some ⟨x52, 0, none⟩), .pointer (some ⟨x53, 0, none⟩), .pointer (some ⟨x54, 0, none⟩)], .func (.func 181) #[] #[.pointer (some ⟨x61, 0, none⟩), .pointer (some ⟨x62, 0, none⟩), .pointer (some ⟨x63, 0, none⟩), .pointer (some ⟨x64, 0, none⟩)], .func (.func 181) #[] #[.pointer (some ⟨x71, 0, none⟩), .pointer (some ⟨x72, 0, none⟩), .pointer (some ⟨x73, 0, none⟩), .pointer (some ⟨x74, 0, none⟩)]] (by kernel_rfl) ?_
  refine wpList_store_row rfl _ (.tmp 0) (.tmp 9) rfl w.heap.size _ rfl rfl _ _ (hz0.trans (congrArg some HZO.out)) (by exact Tryz.infRs) (by kernel_rfl) (by kernel_rfl) ?_
  go_wp2
  refine bodyPost_ret (results_cell_row rfl _ _ w.heap.size _ _ _ _ rfl (setRow_heap _ _ _ _ _ _ (hz0.trans (congrArg some HZO.out))) Tryz.undRs rfl (by exact Tryz.infRs)) rfl ?_
  exact ⟨_, _, _, _, _, _, _, _, rfl, HA.out.setRow (Nat.lt_succ_self _) _, below_setRow hb0 (Nat.le_refl _) _⟩
end Go.Proofs.YtlipgmaiooljkaaGreatDoor

/- W2h -/
namespace Go.Proofs.YtlipgmaiooljkaaGreatDoor
open Go.ChangeShapes Go.WideShapes Go.ChangeAt Go.RowKit
set_option linter.unusedVariables false

theorem upd_self {xs : List Int} {i j k l : Nat} (hi : i < xs.length) (hj : j < xs.length) (hk : k < xs.length) (hl : l < xs.length) : upd xs i j k l ⟨xs.getD i 0, xs.getD j 0, xs.getD k 0, xs.getD l 0⟩ = xs := by
  have hx : ∀ (ys : List Int) (x : Nat), ys = xs → x < xs.length → ys.set x (xs.getD x 0) = xs := fun ys x e hx => by
    subst e
    have : ys.getD x 0 = ys[x] := by simp [hx]
    rw [this, List.set_getElem_self]
  unfold upd
  exact hx _ _ (hx _ _ (hx _ _ (hx _ _ rfl hi) hj) hk) hl

theorem l2QAt_any (base g cap : Nat) (xs : List Int) (i j k l : Nat) (w : World) (hs : isSt xs) (hA : Apart 16 i j k l) (h : OwnK 104 .u32 w base (.slice (some ⟨g, 0, none⟩) 16 cap) xs) :
    Calls Tryz.prog 114 #[.slice (some ⟨g, 0, none⟩) 16 cap, .int .i64 i, .int .i64 j, .int .i64 k, .int .i64 l] w fun e w' => e = .returned (.tuple #[]) ∧ OwnK 104 .u32 w' base (.slice (some ⟨g, 0, none⟩) 16 cap) (qAt i j k l xs) ∧ w.grownBy w' (some g) := by
  have hn := hs.1
  exact l2Quarter_any base g 16 cap xs i j k l ⟨xs.getD i 0, xs.getD j 0, xs.getD k 0, xs.getD l 0⟩ w hn.symm (by decide) hA
    (by rw [upd_self (by rw [hn]; exact hA.hi) (by rw [hn]; exact hA.hj) (by rw [hn]; exact hA.hk) (by rw [hn]; exact hA.hl)]; exact h)
    ⟨getD_u hs.2 i, getD_u hs.2 j, getD_u hs.2 k, getD_u hs.2 l⟩

section
variable {e t : TypeId} {k : IntKind} {by' : Nat}
/-- append(row, other...), the other one a row that is read. -/
theorem wpList_appRow (hu : Tryz.prog.underlying t = some (.slice e)) (hinfo : (Tryz.prog.info? e).map (fun i => (i.zero, i.size, i.bytes)) = some (some (.int k 0), 1, by')) (hby : by' ≤ 8)
    {w : World} {ops : Array Oper} {rest : List Oper} {o : Oper} {a : Act} {Q : Exit → Act → World → Prop} (hgd : o.guard = none) (s x : Operand)
    (ho : o.op = .call { callee := .builtin .append, args := #[s, x], argTypes := #[t, t] })
    (base : Nat) (v : Value) (l : List Int) (hs : a.eval s = v) (hown : OwnK e k w base v l)
    (B : Nat) (v2 : Value) (news : List Int) (hx : a.eval x = v2) (hrow : RowAt k w B v2 news) (hm0 : 0 < news.length)
    (hl : l.length + news.length ≤ 1000000000) (hbase : base ≤ w.heap.size)
    (h : ∀ v' w', OwnK e k w' base v' (l ++ news) → w.grownBy w' v.ownBlock → wpList Tryz.prog ops Q rest (a.put o.dst v') w') :
    wpList Tryz.prog ops Q (o :: rest) a w := by
  obtain ⟨i0, hi, hz0, hz1, hz2⟩ := info_parts hinfo
  obtain ⟨ad, cap2, rfl, hlc, hmx, hc⟩ := hrow
  obtain ⟨b, off, rfl, hb, hr⟩ := hc 0 hm0
  have hb8 : (l.length + news.length) * by' ≤ (l.length + news.length) * 8 := Nat.mul_le_mul_left _ hby
  refine wpList_append_lies w hgd s x t ho base e i0 (.int k 0) 1 by' hu hi hz0 hz1 hz2 rfl (by decide) v l.length (l.map (Value.int k)) hs hown ⟨b, off, none⟩ news.length cap2 (news.map (Value.int k)) hx (by simp) ?_ (ints_oneCell _ _) hm0 (by unfold maxLen; omega) (by omega) hbase _ rfl ?_
  · intro j u hj
    have hadd : (⟨b, off, none⟩ : Addr).add j = ⟨b, off + j, none⟩ := by unfold Addr.add; split <;> simp_all
    rw [hadd]
    have hjl : j < news.length := by
      rcases Nat.lt_or_ge j news.length with h1 | h1
      · exact h1
      · rw [List.getElem?_eq_none (by simpa using h1)] at hj; cases hj
    rw [hr j hjl]
    simp [hjl] at hj
    simp [hjl, hj]
  · intro g cap w1 hown1 hgrow _ _
    refine h _ _ ?_ hgrow
    have e' : (l ++ news).length = l.length + news.length := by simp
    unfold OwnK
    rw [e', List.map_append]
    exact hown1
end
end Go.Proofs.YtlipgmaiooljkaaGreatDoor
