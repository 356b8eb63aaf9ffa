/- Contracts: the rounds of the program, function values over an array of words. -/
import Derived.Test.YtfjaincogbdeiaaGreatDoorW2a
import Derived.Test.YtfjaincogbdeiaaGreatDoorFreeA
import Derived.Great.BuildSlice
import Derived.Laws.CopyOwn
namespace Go.Proofs.YtfjaincogbdeiaaGreatDoor
open Go.ChangeShapes Go.WideShapes Go.ChangeAt Go.RowKit
set_option linter.unusedVariables false

/-- An array of words, as its cells. -/
def stA (xs : List Int) : Array Value := (xs.map (Value.int .u32)).toArray
theorem stA_size (xs : List Int) : (stA xs).size = xs.length := by simp [stA]
theorem stA_one (xs : List Int) : (stA xs).all (·.oneCell') = true := by
  rw [Array.all_eq_true_iff_forall_mem]
  intro v hv
  simp [stA] at hv
  obtain ⟨x, _, rfl⟩ := hv
  rfl
/-- A quarter round at four places. -/
def qAt (i j k l : Nat) (zs : List Int) : List Int := upd zs i j k l (Four.mk (zs.getD i 0) (zs.getD j 0) (zs.getD k 0) (zs.getD l 0)).turn
theorem qAt_len (i j k l : Nat) (zs : List Int) : (qAt i j k l zs).length = zs.length := upd_len _ _ _ _ _ _

/-- The block of an owned row without spare room. -/
theorem OwnK.block {e : TypeId} {w : World} {base g n : Nat} {zs : List Int} (h : OwnK e .u32 w base (.slice (some ⟨g, 0, none⟩) n n) zs) (hn : n = zs.length) : w.heap[g]? = some (.cells (stA zs) e (0, 0)) := by
  subst hn
  rcases h.2 with ⟨h0, _⟩ | ⟨g', cap, cur, hv, hb, hh, hl, hm, hsz, ht⟩
  · cases h0
  · simp at hv
    obtain ⟨rfl, rfl⟩ := hv
    rw [hh]
    have : cur.toList = zs.map (Value.int .u32) := by rw [← ht]; exact (List.take_of_length_le (by simp; omega)).symm
    have e1 : cur = stA zs := by rw [stA, ← this]
    rw [e1]
theorem OwnK.ofBlock {e : TypeId} {w : World} {base g n : Nat} {zs : List Int} (hh : w.heap[g]? = some (.cells (stA zs) e (0, 0))) (hn : n = zs.length) (hb : base ≤ g) (hm : n ≤ maxLen) : OwnK e .u32 w base (.slice (some ⟨g, 0, none⟩) n n) zs := by
  subst hn
  refine ⟨by simp, .inr ⟨g, zs.length, stA zs, rfl, hb, hh, Nat.le_refl _, hm, by simp [stA], ?_⟩⟩
  rw [stA, Nat.mul_one]
  exact List.take_of_length_le (by simp)

/-- An array whose cells at four places are known. -/
structure P4 (e : TypeId) (w : World) (base g n : Nat) (zs : List Int) (i j k l : Nat) (q : Four) : Prop where
  own : OwnK e .u32 w base (.slice (some ⟨g, 0, none⟩) n n) (upd zs i j k l q)
  ca : w.cell? ⟨g, i, none⟩ = some (.int .u32 q.a)
  cb : w.cell? ⟨g, j, none⟩ = some (.int .u32 q.b)
  cc : w.cell? ⟨g, k, none⟩ = some (.int .u32 q.c)
  cd : w.cell? ⟨g, l, none⟩ = some (.int .u32 q.d)
  fr : ∀ x, w.frozen? ⟨g, x, none⟩ = false

theorem P4.mk' {e : TypeId} {w : World} {base g n : Nat} {zs : List Int} {i j k l : Nat} {q : Four} (hn : n = zs.length) (hA : Apart n i j k l) (h : OwnK e .u32 w base (.slice (some ⟨g, 0, none⟩) n n) (upd zs i j k l q)) : P4 e w base g n zs i j k l q := by
  subst hn
  have hl := upd_len zs i j k l q
  have hcell : ∀ x, x < zs.length → w.cell? ⟨g, x, none⟩ = ((upd zs i j k l q).map (Value.int .u32))[x]? := by
    intro x hx
    have h' := h
    unfold OwnK at h'
    rw [hl] at h'
    exact World.ownsRow.cellAt h' x (by omega)
  refine ⟨h, ?_, ?_, ?_, ?_, fun x => h.free hl.symm x⟩
  · rw [hcell i hA.hi, List.getElem?_map, upd_i hA]; rfl
  · rw [hcell j hA.hj, List.getElem?_map, upd_j hA]; rfl
  · rw [hcell k hA.hk, List.getElem?_map, upd_k hA]; rfl
  · rw [hcell l hA.hl, List.getElem?_map, upd_l hA]; rfl
theorem P4.set {e : TypeId} {w : World} {base g n : Nat} {zs : List Int} {i j k l : Nat} {q q' : Four} (h : P4 e w base g n zs i j k l q) (hn : n = zs.length) (hA : Apart n i j k l) (x : Nat) (v : Int) (he : (upd zs i j k l q).set x v = upd zs i j k l q') : P4 e (w.setCell ⟨g, x, none⟩ (.int .u32 v)) base g n zs i j k l q' := by
  have := h.own.set (by rw [upd_len]; exact hn) x v
  rw [he] at this
  exact P4.mk' hn hA this

theorem Tryz.undSt : Tryz.prog.underlying 139 = some (.array 16 89) := by kernel_rfl
theorem Tryz.infSt : (Tryz.prog.info? 139).map (·.size) = some 16 := by kernel_rfl

/-- The four boxes. -/
def Bx (b1 b2 b3 b4 i j k l : Nat) (w : World) : Prop := w.cell? ⟨b1, 0, none⟩ = some (.int .i64 i) ∧ w.cell? ⟨b2, 0, none⟩ = some (.int .i64 j) ∧ w.cell? ⟨b3, 0, none⟩ = some (.int .i64 k) ∧ w.cell? ⟨b4, 0, none⟩ = some (.int .i64 l)
theorem Bx.below {b1 b2 b3 b4 i j k l B : Nat} {w w' : World} (h : Bx b1 b2 b3 b4 i j k l w) (hb : Below B w w') (h1 : b1 < B) (h2 : b2 < B) (h3 : b3 < B) (h4 : b4 < B) : Bx b1 b2 b3 b4 i j k l w' :=
  ⟨by rw [hb.cell (p := ⟨b1, 0, none⟩) h1]; exact h.1, by rw [hb.cell (p := ⟨b2, 0, none⟩) h2]; exact h.2.1, by rw [hb.cell (p := ⟨b3, 0, none⟩) h3]; exact h.2.2.1, by rw [hb.cell (p := ⟨b4, 0, none⟩) h4]; exact h.2.2.2⟩
theorem Bx.lt {b1 b2 b3 b4 i j k l : Nat} {w : World} (h : Bx b1 b2 b3 b4 i j k l w) : b1 < w.heap.size ∧ b2 < w.heap.size ∧ b3 < w.heap.size ∧ b4 < w.heap.size :=
  ⟨World.block_lt_of_cell? w _ h.1, World.block_lt_of_cell? w _ h.2.1, World.block_lt_of_cell? w _ h.2.2.1, World.block_lt_of_cell? w _ h.2.2.2⟩
theorem Bx.set {b1 b2 b3 b4 i j k l B g : Nat} {w : World} (h : Bx b1 b2 b3 b4 i j k l w) (hg : B ≤ g) (h1 : b1 < B) (h2 : b2 < B) (h3 : b3 < B) (h4 : b4 < B) (o : Nat) (v : Value) : Bx b1 b2 b3 b4 i j k l (w.setCell ⟨g, o, none⟩ v) :=
  h.below ((Below.refl B w).setCell (p := ⟨g, o, none⟩) hg v) h1 h2 h3 h4

set_option maxRecDepth 100000 in
set_option maxHeartbeats 6400000 in
theorem round_any (xs : List Int) (i j k l : Nat) (b1 b2 b3 b4 : Nat) (w : World) (hn : xs.length = 16) (hA : Apart 16 i j k l) (hu : ∀ x ∈ xs, isU x) (hbx : Bx b1 b2 b3 b4 i j k l w) :
    Calls Tryz.prog 168 #[.agg (stA xs), .pointer (some ⟨b1, 0, none⟩), .pointer (some ⟨b2, 0, none⟩), .pointer (some ⟨b3, 0, none⟩), .pointer (some ⟨b4, 0, none⟩)] w fun e w' => e = .returned (.agg (stA (qAt i j k l xs))) ∧ Below w.heap.size w w' := by
  obtain ⟨l1, l2, l3, l4⟩ := hbx.lt
  have hi := hA.hi
  have hj := hA.hj
  have hk := hA.hk
  have hl := hA.hl
  have i0 : (i : Int) < 16 := by omega
  have j0 : (j : Int) < 16 := by omega
  have k0 : (k : Int) < 16 := by omega
  have l0 : (l : Int) < 16 := by omega
  obtain ⟨q, hq⟩ : ∃ q, q = Four.mk (xs.getD i 0) (xs.getD j 0) (xs.getD k 0) (xs.getD l 0) := ⟨_, rfl⟩
  have hmem : ∀ x, x < 16 → isU (xs.getD x 0) := fun x hx => by
    have hx' : x < xs.length := by omega
    have : xs.getD x 0 = xs[x] := by simp [hx']
    rw [this]; exact hu _ (List.getElem_mem _)
  have hqu : q.u := by rw [hq]; exact ⟨hmem i hi, hmem j hj, hmem k hk, hmem l hl⟩
  have hupd : upd xs i j k l q = xs := by
    rw [hq]
    have hx : ∀ (ys : List Int) (x : Nat), ys = xs → x < 16 → ys.set x (xs.getD x 0) = xs := fun ys x e hx => by
      subst e
      have hx' : x < ys.length := by omega
      have : ys.getD x 0 = ys[x] := by simp [hx']
      rw [this, List.set_getElem_self]
    unfold upd
    exact hx _ _ (hx _ _ (hx _ _ (hx _ _ rfl hi) hj) hk) hl
  have hres : qAt i j k l xs = upd xs i j k l q.turn := by rw [hq]; rfl
  obtain ⟨q', hq'⟩ : ∃ q', q' = q.turn := ⟨_, rfl⟩
  have hcall := fun w => quarterOf_any q w hqu
  rw [← hq'] at hcall hres
  have HC := Lib.hid hcall
  have HRES := Lib.hid hres
  clear hcall hres hmem hq'
  go_enter Tryz.func168, Tryz.ntmps168
  go_wp2_with fail
  obtain ⟨zo, hzo⟩ : ∃ zo, zo = Obj.cells #[Value.int IntKind.u32 0, Value.int IntKind.u32 0, Value.int IntKind.u32 0, Value.int IntKind.u32 0, Value.int IntKind.u32 0, Value.int IntKind.u32 0, Value.int IntKind.u32 0, Value.int IntKind.u32 0, Value.int IntKind.u32 0, Value.int IntKind.u32 0, Value.int IntKind.u32 0, Value.int IntKind.u32 0, Value.int IntKind.u32 0, Value.int IntKind.u32 0, Value.int IntKind.u32 0, Value.int IntKind.u32 0] 139 := ⟨_, rfl⟩
  rw [← hzo]
  obtain ⟨w1, hw1⟩ : ∃ w1, w1 = (w.alloc (Obj.cells (stA xs) 139)).alloc zo := ⟨_, rfl⟩
  obtain ⟨W0, hW0⟩ : ∃ W0, W0 = w1.drew := ⟨_, rfl⟩
  have hb1 : Below w.heap.size w W0 := by rw [hW0]; rw [hw1]; exact below_drewN (((Below.refl _ _).alloc (Nat.le_refl _) _).alloc (by simp) _) 1
  have hblk : w1.heap[w.heap.size]? = some (.cells (stA xs) 139 (0, 0)) := by rw [hw1, heap_alloc_old _ _ (by simp)]; exact heap_alloc_new _ _
  have hres1 : w1.heap[w.heap.size + 1]? = some zo := by
    have := heap_alloc_new (w.alloc (Obj.cells (stA xs) 139)) zo
    rw [← hw1] at this
    simpa using this
  rw [← hw1]
  have P0 : P4 139 W0 w.heap.size w.heap.size 16 xs i j k l q := P4.mk' hn.symm hA (by rw [hupd, hW0]; exact OwnK.ofBlock (w := w1) hblk hn.symm (Nat.le_refl _) (by decide))
  have hA2 := hn.symm ▸ hA
  have P1 := P0.set hn.symm hA i q'.a (upd_set_i hA2 q _)
  have P2 := P1.set hn.symm hA j q'.b (upd_set_j hA2 _ _)
  have P3 := P2.set hn.symm hA k q'.c (upd_set_k hA2 _ _)
  have P4' := P3.set hn.symm hA l q'.d (upd_set_l hA2 _ _)
  have s0 := hbx.below hb1 l1 l2 l3 l4
  have s1 := s0.set (Nat.le_refl w.heap.size) l1 l2 l3 l4 i (.int .u32 q'.a)
  have s2 := s1.set (Nat.le_refl w.heap.size) l1 l2 l3 l4 j (.int .u32 q'.b)
  have s3 := s2.set (Nat.le_refl w.heap.size) l1 l2 l3 l4 k (.int .u32 q'.c)
  have s4 := s3.set (Nat.le_refl w.heap.size) l1 l2 l3 l4 l (.int .u32 q'.d)
  have S0 := Lib.hid s0
  have S1 := Lib.hid s1
  have S2 := Lib.hid s2
  have S3 := Lib.hid s3
  have S4 := Lib.hid s4
  have c1 := P0.ca
  have c2 := P0.cb
  have c3 := P0.cc
  have c4 := P0.cd
  have d2 := P1.cb
  have d3 := P2.cc
  have d4 := P3.cd
  have f1 := P0.fr i
  have f2 := P0.fr j
  have f3 := P0.fr k
  have f4 := P0.fr l
  have HP := Lib.hid P4'
  dsimp only at d2 d3 d4
  have HZ := Lib.hid hzo
  have HR1 : Hid (W0.heap[w.heap.size + 1]? = some zo) := Lib.hid (by rw [hW0]; exact hres1)
  have HB1 := Lib.hid hb1
  clear s0 s1 s2 s3 s4 P0 P1 P2 P3 P4' hblk hzo hw1 hbx hA hA2 hu hupd hq hres1 hb1 hqu
  refine wp_region_T (Bx b1 b2 b3 b4 i j k l) (fun w' => w'.cell? ⟨w.heap.size, i, none⟩ = some (.int .u32 q.a) ∧ w'.cell? ⟨w.heap.size, j, none⟩ = some (.int .u32 q.b) ∧ w'.cell? ⟨w.heap.size, k, none⟩ = some (.int .u32 q.c) ∧ w'.cell? ⟨w.heap.size, l, none⟩ = some (.int .u32 q.d)) 23 (by kernel_rfl) 30 rfl ?_
  rw [← hW0]
  clear hW0
  refine wpAnyT_takesA (md := .any) 18 (by kernel_rfl) (by intro d v c a w h; cases d <;> exact h) [0, 1, 2, 3, 4, 5, 7, 8, 10, 11, 13, 14] _ _ _ (by decide) (by kernel_rfl) ⟨S0.out, fun _ => ⟨c1, c2, c3, c4⟩⟩ ?_
  simp only [pick, List.filterMap_cons, List.filterMap_nil, List.getElem?_cons_zero, List.getElem?_cons_succ]
  iterate 12 (refine wpIf_step ?_ (by kernel_rfl) ?_ ?_; rotate_left; (rintro w ⟨e1, e2, e3, e4⟩; go_simp); try with_reducible rfl)
  refine wpIf_nil (fun hS => ?_)
  refine wpAnyT_takesB (md := .any) 14 (by kernel_rfl) (by intro d v c a w h; cases d <;> exact h) [6, 9, 12, 15] _ _ _ (by decide) (by kernel_rfl) (by kernel_rfl) (by kernel_rfl) hS ?_
  simp only [pick, List.filterMap_cons, List.filterMap_nil, List.getElem?_cons_zero, List.getElem?_cons_succ]
  iterate 4 (refine wpIf_step ?_ (by kernel_rfl) ?_ ?_; rotate_left; (rintro w ⟨-, e1, e2, e3, e4⟩; go_simp); try with_reducible rfl)
  refine wpIf_nil (fun hS2 => ?_)
  clear hS
  refine wpAnyT_one 16 13 (by kernel_rfl) rfl (by kernel_rfl) (fun K hK => ?_)
  go_simp
  refine (HC.out _).mono ?_
  rintro e w' ⟨rfl, rfl⟩
  refine hK _ _ ⟨S0.out, fun _ => ⟨c1, c2, c3, c4⟩⟩ (fun hS3 => ?_)
  clear hK K hS2
  refine wpAnyT_takesA (md := .any) 7 (by kernel_rfl) (by intro d v c a w h; cases d <;> exact h) [17, 18, 19, 20, 21, 22] _ _ _ (by decide) (by kernel_rfl) hS3 ?_
  simp only [pick, List.filterMap_cons, List.filterMap_nil, List.getElem?_cons_zero, List.getElem?_cons_succ]
  iterate 6 (refine wpIf_step ?_ (by kernel_rfl) ?_ ?_; rotate_left; (rintro w ⟨e1, e2, e3, e4⟩; go_simp); try with_reducible rfl)
  refine wpIf_nil (fun hS4 => ?_)
  clear hS3
  refine wpAnyT_one 23 6 (by kernel_rfl) rfl (by kernel_rfl) (fun K hK => ?_)
  go_simp
  refine hK _ _ ⟨S1.out, fun h => by exact absurd h (by decide)⟩ (fun hS5 => ?_)
  clear hK K hS4
  refine wpAnyT_takesA (md := .any) 5 (by kernel_rfl) (by intro d v c a w h; cases d <;> exact h) [24] _ _ _ (by decide) (by kernel_rfl) hS5 ?_
  simp only [pick, List.filterMap_cons, List.filterMap_nil, List.getElem?_cons_zero, List.getElem?_cons_succ]
  iterate 1 (refine wpIf_step ?_ (by kernel_rfl) ?_ ?_; rotate_left; (rintro w ⟨e1, e2, e3, e4⟩; go_simp); try with_reducible rfl)
  refine wpIf_nil (fun hS6 => ?_)
  clear hS5
  refine wpAnyT_one 25 4 (by kernel_rfl) rfl (by kernel_rfl) (fun K hK => ?_)
  go_simp
  refine hK _ _ ⟨S2.out, fun h => by exact absurd h (by decide)⟩ (fun hS7 => ?_)
  clear hK K hS6
  refine wpAnyT_takesA (md := .any) 3 (by kernel_rfl) (by intro d v c a w h; cases d <;> exact h) [26] _ _ _ (by decide) (by kernel_rfl) hS7 ?_
  simp only [pick, List.filterMap_cons, List.filterMap_nil, List.getElem?_cons_zero, List.getElem?_cons_succ]
  iterate 1 (refine wpIf_step ?_ (by kernel_rfl) ?_ ?_; rotate_left; (rintro w ⟨e1, e2, e3, e4⟩; go_simp); try with_reducible rfl)
  refine wpIf_nil (fun hS8 => ?_)
  clear hS7
  refine wpAnyT_one 27 2 (by kernel_rfl) rfl (by kernel_rfl) (fun K hK => ?_)
  go_simp
  refine hK _ _ ⟨S3.out, fun h => by exact absurd h (by decide)⟩ (fun hS9 => ?_)
  clear hK K hS8
  refine wpAnyT_takesA (md := .any) 1 (by kernel_rfl) (by intro d v c a w h; cases d <;> exact h) [28] _ _ _ (by decide) (by kernel_rfl) hS9 ?_
  simp only [pick, List.filterMap_cons, List.filterMap_nil, List.getElem?_cons_zero, List.getElem?_cons_succ]
  iterate 1 (refine wpIf_step ?_ (by kernel_rfl) ?_ ?_; rotate_left; (rintro w ⟨e1, e2, e3, e4⟩; go_simp); try with_reducible rfl)
  refine wpIf_nil (fun hS10 => ?_)
  clear hS9
  refine wpAnyT_one 29 0 (by kernel_rfl) rfl (by kernel_rfl) (fun K hK => ?_)
  go_simp
  refine hK _ _ ⟨S4.out, fun h => by exact absurd h (by decide)⟩ (fun hS11 => ?_)
  clear hK K hS10
  refine wpAnyT_over (by kernel_rfl) ?_
  clear hS11 S0 S1 S2 S3 S4 c1 c2 c3 c4 d2 d3 d4 f1 f2 f3 f4 HC
  have hblk := HP.out.own.block (by rw [upd_len]; exact hn.symm)
  have hlen := upd_len xs i j k l q'
  have hbW : Below w.heap.size w ((((W0.setCell { block := w.heap.size, off := i } (Value.int IntKind.u32 q'.a)).setCell { block := w.heap.size, off := j } (Value.int IntKind.u32 q'.b)).setCell { block := w.heap.size, off := k } (Value.int IntKind.u32 q'.c)).setCell { block := w.heap.size, off := l } (Value.int IntKind.u32 q'.d)) :=
    (((HB1.out.setCell (p := ⟨w.heap.size, i, none⟩) (Nat.le_refl _) _).setCell (p := ⟨w.heap.size, j, none⟩) (Nat.le_refl _) _).setCell (p := ⟨w.heap.size, k, none⟩) (Nat.le_refl _) _).setCell (p := ⟨w.heap.size, l, none⟩) (Nat.le_refl _) _
  have hz4 : ((((W0.setCell { block := w.heap.size, off := i } (Value.int IntKind.u32 q'.a)).setCell { block := w.heap.size, off := j } (Value.int IntKind.u32 q'.b)).setCell { block := w.heap.size, off := k } (Value.int IntKind.u32 q'.c)).setCell { block := w.heap.size, off := l } (Value.int IntKind.u32 q'.d)).heap[w.heap.size + 1]? = some zo := by
    rw [Below.heap_setCell _ _ _ _ (by simp), Below.heap_setCell _ _ _ _ (by simp), Below.heap_setCell _ _ _ _ (by simp), Below.heap_setCell _ _ _ _ (by simp)]
    exact HR1.out
  change _ = some (Obj.cells (stA (upd xs i j k l q')) _ _) at hblk
  generalize ((((W0.setCell { block := w.heap.size, off := i } (Value.int IntKind.u32 q'.a)).setCell { block := w.heap.size, off := j } (Value.int IntKind.u32 q'.b)).setCell { block := w.heap.size, off := k } (Value.int IntKind.u32 q'.c)).setCell { block := w.heap.size, off := l } (Value.int IntKind.u32 q'.d)) = W4 at *
  rw [← HRES.out] at hblk hlen
  have hsz : (stA (qAt i j k l xs)).size = 16 := by rw [stA_size, hlen, hn]
  have hinf : (Tryz.prog.info? 139).map (·.size) = some (stA (qAt i j k l xs)).size := by rw [hsz]; exact Tryz.infSt
  rw [HZ.out] at hz4
  have HBK := Lib.hid hblk
  have HZ4 := Lib.hid hz4
  have HI := Lib.hid hinf
  have HSZ := Lib.hid hsz
  clear hblk hz4 hinf hsz HP HRES HB1 HR1 HZ
  go_wp2_with (first | (refine wpList_load_row rfl _ (.tmp 5) rfl w.heap.size rfl _ _ _ _ HBK.out Tryz.undSt rfl HI.out ?_) | (refine wpList_store_row rfl _ (.tmp 6) (.tmp 33) rfl (w.heap.size + 1) _ rfl rfl _ _ HZ4.out HI.out (by rw [HSZ.out]; rfl) (stA_one _) ?_))
  refine bodyPost_ret (results_cell_row rfl _ _ (w.heap.size + 1) _ _ _ _ rfl (setRow_heap _ _ _ _ _ _ HZ4.out) Tryz.undSt rfl HI.out) rfl ?_
  exact ⟨rfl, below_setRow hbW (by omega) _⟩
end Go.Proofs.YtfjaincogbdeiaaGreatDoor
