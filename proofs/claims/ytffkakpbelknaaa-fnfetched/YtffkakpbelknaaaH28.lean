/- Joined: W9za, W9zb, W9zc. -/
import Derived.Test.YtffkakpbelknaaaH27
/- W9za -/
namespace Go.Proofs.Ytffkakpbelknaaa
open Go.ChangeShapes Go.WideShapes Go.ChangeAt Go.RowKit
set_option linter.unusedVariables false

def ghB (x y : En) : Bool := if x.st != y.st then y.st else decide (x.it.da < y.it.da)
set_option maxRecDepth 100000 in
set_option maxHeartbeats 1600000 in
theorem goesAhead_any (x y : En) (w : World) :
    Calls Try.prog 166 #[enV x.it.id x.it.ti x.it.da x.rd x.st, enV y.it.id y.it.ti y.it.da y.rd y.st] w fun e w' => e = .returned (.bool (ghB x y)) ∧ Below w.heap.size w w' := by
  have HG : Hid (ghB x y = if x.st != y.st then y.st else decide (x.it.da < y.it.da)) := Lib.hid rfl
  generalize ghB x y = R at HG ⊢
  obtain ⟨⟨x0, x1, x2⟩, x3, x4⟩ := x
  obtain ⟨⟨y0, y1, y2⟩, y3, y4⟩ := y
  simp only at HG ⊢
  have hb0 : Below w.heap.size w ((w.alloc (.cells #[.string x0, .string x1, .int .i64 x2, .bool x3, .bool x4] 47)).alloc (.cells #[.string y0, .string y1, .int .i64 y2, .bool y3, .bool y4] 47)) := ((Below.refl _ _).alloc (Nat.le_refl _) _).alloc (by simp) _
  cases x4 <;> cases y4
  all_goals
    go_enter Try.func166, Try.ntmps166
    go_wp2
    go_ret
    exact ⟨ret_bool (by rw [HG.out]; simp), hb0⟩

/-- The place of the first k. -/
def goP (es : List En) : Nat → Nat
  | 0 => 0
  | k + 1 => if ghB (es[k]?.getD en0) (es[goP es k]?.getD en0) then k else goP es k
theorem goP_lt (es : List En) (k : Nat) : goP es k ≤ k ∧ (0 < k → goP es k < k) := by
  induction k with
  | zero => exact ⟨Nat.le_refl _, fun h => absurd h (Nat.lt_irrefl _)⟩
  | succ k ih =>
    unfold goP
    split
    · exact ⟨by omega, fun _ => by omega⟩
    · exact ⟨by omega, fun _ => by omega⟩
theorem goP_step (es : List En) (k p : Nat) (hk : k < es.length) (hp : p < es.length) (e : goP es k = p) : goP es (k + 1) = if ghB es[k] es[p] then k else p := by
  conv => lhs; unfold goP
  rw [e]
  simp [hk, hp]

set_option maxRecDepth 100000 in
set_option maxHeartbeats 1600000 in
theorem placeToGo_any (v : Value) (es : List En) (w : World) (h : EnAt w w.heap.size v es) :
    Calls Try.prog 152 #[v] w fun e w' => e = .returned (.int .i64 (goP es es.length : Int)) ∧ Below w.heap.size w w' := by
  have HI := Lib.hid h
  obtain ⟨a, cap, rfl, hl, hm, hc⟩ := h.raw
  clear hc h
  unfold maxLen at hm
  obtain ⟨R, hR⟩ : ∃ R, R = goP es es.length := ⟨_, rfl⟩
  rw [← hR]
  have HR := Lib.hid hR
  clear hR
  go_enter Try.func152, Try.ntmps152
  go_wp2
  go_loopw [3, 8] (fun p i wr => ∃ k q : Nat, k ≤ es.length ∧ q ≤ k ∧ (0 < k → q < k) ∧ i = .int .i64 (k : Int) ∧ p = .int .i64 (q : Int) ∧ Below w.heap.size w wr ∧ Hid (goP es k = q)) (fun _ i _ => es.length - (intOf i).toNat)
  case atStart => exact ⟨0, 0, Nat.zero_le _, Nat.le_refl _, fun h => absurd h (Nat.lt_irrefl _), rfl, rfl, Below.refl _ _, Lib.hid rfl⟩
  case round =>
    obtain ⟨k, q, hk, hq1, hq2, rfl, rfl, hB, HO⟩ := hrel
    by_cases hlt : k < es.length
    · have hql : q < es.length := by omega
      obtain ⟨a', cap', hv, _, _, hc⟩ := (HI.out.below hB).raw
      cases hv
      obtain ⟨b, off, rfl, hb, hr⟩ := hc k hlt
      obtain ⟨c0, c1, c2, c3, c4, _, _⟩ := hr k hlt
      have HC := Lib.hid (fun w => goesAhead_any es[k] es[q] w)
      have HS := Lib.hid (goP_step es k q hlt hql HO.out)
      generalize ghB es[k] es[q] = G at HC HS
      obtain ⟨S0, hS0⟩ : ∃ x, x = es[k].it.id := ⟨_, rfl⟩
      rw [← hS0] at c0 HC
      obtain ⟨S1, hS1⟩ : ∃ x, x = es[k].it.ti := ⟨_, rfl⟩
      rw [← hS1] at c1 HC
      obtain ⟨S2, hS2⟩ : ∃ x, x = es[k].it.da := ⟨_, rfl⟩
      rw [← hS2] at c2 HC
      obtain ⟨S3, hS3⟩ : ∃ x, x = es[k].rd := ⟨_, rfl⟩
      rw [← hS3] at c3 HC
      obtain ⟨S4, hS4⟩ : ∃ x, x = es[k].st := ⟨_, rfl⟩
      rw [← hS4] at c4 HC
      obtain ⟨P0, hP0⟩ : ∃ x, x = es[q].it.id := ⟨_, rfl⟩
      rw [← hP0] at HC
      have HP0 := Lib.hid hP0.symm
      obtain ⟨P1, hP1⟩ : ∃ x, x = es[q].it.ti := ⟨_, rfl⟩
      rw [← hP1] at HC
      have HP1 := Lib.hid hP1.symm
      obtain ⟨P2, hP2⟩ : ∃ x, x = es[q].it.da := ⟨_, rfl⟩
      rw [← hP2] at HC
      have HP2 := Lib.hid hP2.symm
      obtain ⟨P3, hP3⟩ : ∃ x, x = es[q].rd := ⟨_, rfl⟩
      rw [← hP3] at HC
      have HP3 := Lib.hid hP3.symm
      obtain ⟨P4, hP4⟩ : ∃ x, x = es[q].st := ⟨_, rfl⟩
      rw [← hP4] at HC
      have HP4 := Lib.hid hP4.symm
      clear hr hc HO hS0 hS1 hS2 hS3 hS4 hP0 hP1 hP2 hP3 hP4
      have hB1 : Below w.heap.size w (wr.alloc (.cells #[.string S0, .string S1, .int .i64 S2, .bool S3, .bool S4] 47)) := hB.alloc hB.size _
      have hX := Box.new wr #[.string S0, .string S1, .int .i64 S2, .bool S3, .bool S4] 47
      go_wp2
      have HA : Hid (∀ w2 : World, Below ((wr.alloc (.cells #[.string S0, .string S1, .int .i64 S2, .bool S3, .bool S4] 47)).drew).heap.size ((wr.alloc (.cells #[.string S0, .string S1, .int .i64 S2, .bool S3, .bool S4] 47)).drew) w2 → Box w2 wr.heap.size #[.string S0, .string S1, .int .i64 S2, .bool S3, .bool S4] 47 ∧ w2.cell? ⟨b, off + q * 5, none⟩ = some (.string P0) ∧ w2.cell? ⟨b, off + q * 5 + 1, none⟩ = some (.string P1) ∧ w2.cell? ⟨b, off + q * 5 + 2, none⟩ = some (.int .i64 P2) ∧ w2.cell? ⟨b, off + q * 5 + 3, none⟩ = some (.bool P3) ∧ w2.cell? ⟨b, off + q * 5 + 4, none⟩ = some (.bool P4)) := Lib.hid (fun w2 hb2 => by
        obtain ⟨_, _, hv2, _, _, hc2⟩ := (HI.out.below (hB1.drew.trans (hb2.mono hB1.size))).raw
        cases hv2
        obtain ⟨_, _, hv3, _, hr2⟩ := hc2 k hlt
        cases hv3
        obtain ⟨p0, p1, p2, p3, p4, _, _⟩ := hr2 q hql
        exact ⟨hX.drew.keep hb2 hX.lt, HP0.out ▸ p0, HP1.out ▸ p1, HP2.out ▸ p2, HP3.out ▸ p3, HP4.out ▸ p4⟩)
      have hA := HA.out _ (Below.refl _ _)
      clear hX hB HP0 HP1 HP2 HP3 HP4 c0 c1 c2 c3 c4
      refine wp_region_T (fun w' => Box w' wr.heap.size #[.string S0, .string S1, .int .i64 S2, .bool S3, .bool S4] 47 ∧ w'.cell? ⟨b, off + q * 5, none⟩ = some (.string P0) ∧ w'.cell? ⟨b, off + q * 5 + 1, none⟩ = some (.string P1) ∧ w'.cell? ⟨b, off + q * 5 + 2, none⟩ = some (.int .i64 P2) ∧ w'.cell? ⟨b, off + q * 5 + 3, none⟩ = some (.bool P3) ∧ w'.cell? ⟨b, off + q * 5 + 4, none⟩ = some (.bool P4)) (fun _ => True) 5 (by kernel_rfl) 6 rfl ?_
      refine wpAnyT_takesA (md := .any) 1 (by kernel_rfl) (by intro d v c a w h; cases d <;> exact h) [0, 1, 2, 3, 4] _ _ _ (by decide) (by kernel_rfl) ⟨hA, fun _ => trivial⟩ ?_
      simp only [pick, List.filterMap_cons, List.filterMap_nil, List.getElem?_cons_zero, List.getElem?_cons_succ]
      refine wpIf_step (enV S0 S1 S2 S3 S4) (by kernel_rfl) (fun w hw => by have e0 := hw.1.cell 0 _ rfl; have e1 := hw.1.cell 1 _ rfl; have e2 := hw.1.cell 2 _ rfl; have e3 := hw.1.cell 3 _ rfl; have e4 := hw.1.cell 4 _ rfl; go_simp) ?_
      refine wpIf_step (.slice (some ⟨b, off, none⟩) es.length cap) (by kernel_rfl) (fun w hw => by go_simp) ?_
      refine wpIf_step (.int .i64 (q : Int)) (by kernel_rfl) (fun w hw => by go_simp) ?_
      refine wpIf_step (.pointer (some ⟨b, off + q * 5, none⟩)) (by kernel_rfl) (fun w hw => by go_simp) ?_
      refine wpIf_step (enV P0 P1 P2 P3 P4) (by kernel_rfl) (fun w hw => by obtain ⟨_, e0, e1, e2, e3, e4⟩ := hw; go_simp) ?_
      refine wpIf_nil (fun hS => ?_)
      clear hS
      refine wpAnyT_one 5 0 (by kernel_rfl) rfl (by kernel_rfl) (fun K hK => ?_)
      go_simp
      refine (HC.out _).mono ?_
      rintro e w1 ⟨rfl, hb1⟩
      have hA1 := HA.out _ hb1
      have hB2 := hB1.drew.trans (hb1.mono hB1.size)
      refine hK _ _ ⟨hA1, fun _ => trivial⟩ (fun hS => ?_)
      clear hK K hS
      refine wpAnyT_over (by kernel_rfl) ?_
      clear hA1 hA HA hb1 hB1
      cases G with
      | true =>
        have HS' : Hid (goP es (k + 1) = k) := Lib.hid (by rw [HS.out]; rfl)
        go_wp2
        go_roundw
        case rel => exact ⟨k + 1, k, by omega, by omega, fun _ => by omega, by go_num, rfl, hB2, HS'⟩
        case measure => simp [intOf]; omega
      | false =>
        have HS' : Hid (goP es (k + 1) = q) := Lib.hid (by rw [HS.out]; rfl)
        go_wp2
        go_roundw
        case rel => exact ⟨k + 1, q, by omega, by omega, fun _ => by omega, by go_num, rfl, hB2, HS'⟩
        case measure => simp [intOf]; omega
    · have HZ : Hid ((q : Int) = (R : Int)) := Lib.hid (by rw [HR.out, ← HO.out]; congr 1; congr 1; omega)
      clear hq1 hq2
      go_wp2
      go_ret
      exact ⟨ret_int HZ.out, hB⟩
end Go.Proofs.Ytffkakpbelknaaa

/- W9zb -/
namespace Go.Proofs.Ytffkakpbelknaaa
open Go.ChangeShapes Go.WideShapes Go.ChangeAt Go.RowKit
set_option linter.unusedVariables false

theorem OwnR.take {α : Type} {k : Nat} {C : α → List Value} {e : TypeId} {w : World} {B g n cap : Nat} {l : List α} (hk : ∀ x, (C x).length = k) (h : OwnR e k C w B (.slice (some ⟨g, 0, none⟩) n cap) l) (hn : n = l.length) (i : Nat) (hi : i ≤ n) : OwnR e k C w B (.slice (some ⟨g, 0, none⟩) i cap) (l.take i) := by
  subst hn
  have hli : (l.take i).length = i := by rw [List.length_take]; omega
  rcases h.2 with ⟨h1, _⟩ | ⟨g', c', cur, h1, h2, h3, h4, h5, h6, h7⟩
  · cases h1
  · cases h1
    refine ⟨by rw [flat_len hk], .inr ⟨g, cap, cur, by rw [hli], h2, h3, by omega, h5, h6, ?_⟩⟩
    rw [hli, ← flat_take hk, ← h7, List.take_take]
    congr 1
    have := Nat.mul_le_mul_right k hi
    omega

theorem clear_own (w : World) (B g n cap i : Nat) (l : List En) (ty : TypeId) (h : OwnR 47 5 enC w B (.slice (some ⟨g, 0, none⟩) n cap) l) (hn : n = l.length) (hi : i < n) :
    ∃ w', (Builtin.clear_ #[41] ty #[.slice (some ⟨g, i * 5, none⟩) (n - i) (cap - i)]).run Try.prog w = .ok (.tuple #[]) w' ∧ OwnR 47 5 enC w' B (.slice (some ⟨g, 0, none⟩) i cap) (l.take i) ∧ w.grownBy w' (some g) := by
  subst hn
  obtain ⟨i0, hi0, hz0, hz1, hz2⟩ := info_parts Try.infoEntry
  rcases h.2 with ⟨h1, _⟩ | ⟨g', c', cur, h1, h2, h3, h4, h5, h6, h7⟩
  · cases h1
  · cases h1
    have hzv : ∀ w : World, (zeroValue 47).run Try.prog w = .ok (.agg #[.string ByteArray.empty, .string ByteArray.empty, .int .i64 0, .bool false, .bool false]) w := fun w => by
      simp [zeroValue, typeInfo, hi0, hz0]
    obtain ⟨zs, hzs⟩ : ∃ zs, zs = (Builtin.zeroCells #[.string ByteArray.empty, .string ByteArray.empty, .int .i64 0, .bool false, .bool false] (l.length - i)).toList := ⟨_, rfl⟩
    have hzl : zs.length = (l.length - i) * 5 := by rw [hzs]; simp [Builtin.zeroCells]
    have hz1 : ∀ v ∈ zs, v.oneCell' = true := by
      intro v hv
      rw [hzs] at hv
      simp only [Builtin.zeroCells, Array.toList_map, List.mem_map] at hv
      obtain ⟨j, _, rfl⟩ := hv
      have h5 : j % 5 = 0 ∨ j % 5 = 1 ∨ j % 5 = 2 ∨ j % 5 = 3 ∨ j % 5 = 4 := by omega
      show Value.oneCell' (#[.string ByteArray.empty, .string ByteArray.empty, .int .i64 0, .bool false, .bool false][j % 5]!) = true
      rcases h5 with h | h | h | h | h <;> rw [h] <;> rfl
    have hst := run_storeCells_at (P := Try.prog) g (i * 5) 47 zs 0 cur w h3 (by rw [hzl, h6]; omega) hz1
    simp only [Nat.add_zero] at hst
    refine ⟨w.setRow g (cur.toList.take (i * 5) ++ zs ++ cur.toList.drop (i * 5 + zs.length)).toArray, ?_, ?_, ?_⟩
    · obtain ⟨m, hm⟩ : ∃ m, l.length - i = m + 1 := ⟨l.length - i - 1, by omega⟩
      rw [hm] at hzs ⊢
      simp [Builtin.clear_, run_underlying Try.underlying41, hzv, Value.cells, ← hzs, hst]
    · have hli : (l.take i).length = i := by rw [List.length_take]; omega
      refine ⟨by rw [flat_len enC_len], .inr ⟨g, cap, _, by rw [hli], h2, setRow_heap w g cur _ _ _ h3, by omega, h5, ?_, ?_⟩⟩
      · simp [hzl, h6]; omega
      · rw [hli, ← flat_take enC_len, ← h7, List.take_take]
        rw [show min (i * 5) (l.length * 5) = i * 5 by omega]
        rw [List.append_assoc, List.take_append_of_le_length (by simp [h6]; omega), List.take_take, Nat.min_self]
    · exact ⟨rfl, rfl, rfl, by simp, fun k hk hne => setRow_other w g k _ (fun h => hne (by rw [h]))⟩
end Go.Proofs.Ytffkakpbelknaaa

/- W9zc -/
namespace Go.Proofs.Ytffkakpbelknaaa
open Go.ChangeShapes Go.WideShapes Go.ChangeAt Go.RowKit
set_option linter.unusedVariables false

def pgL (es : List En) (d : Int) : List En := es.filter (fun x => !pgB x d)
/-- Half way: i are kept of the first j; what lies behind is as it was. -/
structure DelL (es : List En) (d : Int) (i j : Nat) (L : List En) : Prop where
  len : L.length = es.length
  kept : L.take i = pgL (es.take j) d
  rest : L.drop j = es.drop j
theorem ixP_parts {es : List En} {d : Int} {p : Nat} (h : ixP es d = some p) : p < es.length ∧ DelL es d p (p + 1) es := by
  unfold ixP at h
  obtain ⟨hp, h1, h2⟩ := List.findIdx?_eq_some_iff_getElem.1 h
  refine ⟨hp, rfl, ?_, rfl⟩
  unfold pgL
  rw [List.take_succ_eq_append_getElem hp, List.filter_append]
  have e1 : (es.take p).filter (fun x => !pgB x d) = es.take p := by
    rw [List.filter_eq_self]
    intro x hx
    obtain ⟨j, hj, rfl⟩ := List.getElem_of_mem hx
    have hj' : j < p := by rw [List.length_take] at hj; omega
    rw [List.getElem_take]
    have := h2 j hj'
    simpa using this
  rw [e1]
  simp [h1]
theorem ixP_no {es : List En} {d : Int} (h : ixP es d = none) : pgL es d = es := by
  unfold ixP at h
  unfold pgL
  rw [List.filter_eq_self]
  intro x hx
  have := List.findIdx?_eq_none_iff.1 h x hx
  simp [this]
theorem DelL.at {es L : List En} {d : Int} {i j : Nat} (h : DelL es d i j L) (hj : j < es.length) (hj2 : j < L.length) : L[j] = es[j] := by
  have := congrArg (fun l => l[0]?) h.rest
  simp only [List.getElem?_drop, Nat.add_zero] at this
  rw [List.getElem?_eq_getElem hj2, List.getElem?_eq_getElem hj] at this
  exact Option.some.inj this
theorem DelL.goes {es L : List En} {d : Int} {i j : Nat} (h : DelL es d i j L) (hj : j < es.length) (hg : pgB es[j] d = true) : DelL es d i (j + 1) L := by
  refine ⟨h.len, ?_, ?_⟩
  · rw [h.kept]; unfold pgL; rw [List.take_succ_eq_append_getElem hj, List.filter_append]; simp [hg]
  · rw [← List.drop_drop, ← List.drop_drop, h.rest]
theorem DelL.stays {es L : List En} {d : Int} {i j : Nat} (h : DelL es d i j L) (hij : i < j) (hj : j < es.length) (hg : pgB es[j] d = false) : DelL es d (i + 1) (j + 1) (L.set i es[j]) := by
  have hL := h.len
  refine ⟨by rw [List.length_set]; exact hL, ?_, ?_⟩
  · have e : pgL (es.take (j + 1)) d = pgL (es.take j) d ++ [es[j]] := by
      unfold pgL; rw [List.take_succ_eq_append_getElem hj, List.filter_append]; simp [hg]
    rw [e, ← h.kept, List.take_succ_eq_append_getElem (by rw [List.length_set]; omega), List.getElem_set_self, List.take_set_of_le (Nat.le_refl _)]
  · rw [List.drop_set_of_lt (by omega), ← List.drop_drop, ← List.drop_drop, h.rest]
theorem DelL.over {es L : List En} {d : Int} {i j : Nat} (h : DelL es d i j L) (hj : ¬ j < es.length) : L.take i = pgL es d := by
  rw [h.kept, List.take_of_length_le (by omega)]

theorem gb_put {w : World} {g : Nat} (us : List Value) : ∀ (o : Nat) (w' : World), w.grownBy w' (some g) → w.grownBy (putRow g o us w') (some g) := by
  induction us with
  | nil => intro o w' h; exact h
  | cons u us ih => intro o w' h; exact ih _ _ (gb_set h _ _ (.inr rfl))

theorem gb_trans {a b c : World} {row : Option Nat} (h : a.grownBy b row) (k : b.grownBy c row) : a.grownBy c row :=
  ⟨k.os.trans h.os, k.tape.trans h.tape, k.output.trans h.output, Nat.le_trans h.size k.size, fun i hi hne => (k.block i (Nat.lt_of_lt_of_le hi h.size) hne).trans (h.block i hi hne)⟩

def OutDF (es : List En) (x : Value) (B : Nat) (d : Int) (w : World) (e : Ending) (w' : World) : Prop := ∃ y, e = .returned y ∧ OwnR 47 5 enC w' B y (pgL es d) ∧ y.ownBlock = x.ownBlock ∧ w.grownBy w' x.ownBlock

set_option maxRecDepth 100000 in
set_option maxHeartbeats 1600000 in
theorem deleteFunc_any (x : Value) (es : List En) (B D : Nat) (d : Int) (w : World) (h : OwnR 47 5 enC w B x es) (hz : ∀ y ∈ es, EnSz y) (hn : es.length ≤ 1000) (hD : Box w D #[.int .i64 d] 2) (hDx : x.ownBlock ≠ some D) :
    Calls Try.prog 103 #[x, pgF D] w (OutDF es x B d w) := by
  have HF := Lib.hid (indexFunc_any x es D d w (EnAt.of_own h hz) hD)
  have HB : Hid (∀ g, x.ownBlock = some g → g < w.heap.size) := Lib.hid (fun g hg => (World.ownsRow.lt h g hg).2)
  cases hix : ixP es d with
  | none =>
    have HV : Hid (ixV es d = -1) := Lib.hid (by unfold ixV; rw [hix])
    have HP := Lib.hid (ixP_no hix)
    rw [HV.out] at HF
    have HI := Lib.hid h
    obtain ⟨a, cap, rfl, hle⟩ := h.len
    clear h hix HV hz hD hDx
    go_enter Try.func103, Try.ntmps103
    go_wp2_with fail
    refine HF.out.mono ?_
    rintro e w1 ⟨rfl, hb1⟩
    go_wp2
    go_ret
    refine ⟨_, rfl, ?_, rfl, gb_below (World.grownBy.refl w _) hb1 (Nat.le_refl _)⟩
    rw [HP.out]
    exact HI.out.keep hb1 (Nat.le_refl _)
  | some p =>
    have HV : Hid (ixV es d = (p : Int)) := Lib.hid (by unfold ixV; rw [hix])
    obtain ⟨hp, HDL⟩ := ixP_parts hix
    have HS := Lib.hid HDL
    rw [HV.out] at HF
    have HI := Lib.hid h
    obtain ⟨a, cap, rfl, hle⟩ := h.len
    have hcm : cap ≤ 9223372036854775807 := by
      rcases h.2 with ⟨h1, _⟩ | ⟨g, c, cur, h1, _, _, _, h2, _⟩
      · obtain ⟨_, _, h3⟩ : a = none ∧ es.length = 0 ∧ cap = 0 := by simpa using h1
        omega
      · obtain ⟨_, h3⟩ : a = some ⟨g, 0, none⟩ ∧ cap = c := by simpa using h1
        unfold maxLen at h2
        omega
    obtain ⟨g, rfl, hgw⟩ : ∃ g, a = some ⟨g, 0, none⟩ ∧ g < w.heap.size := by
      rcases h.2 with ⟨h1, _⟩ | ⟨g, c, cur, h1, _⟩
      · obtain ⟨_, h3, _⟩ : a = none ∧ es.length = 0 ∧ cap = 0 := by simpa using h1
        omega
      · obtain ⟨h4, _⟩ : a = some ⟨g, 0, none⟩ ∧ cap = c := by simpa using h1
        exact ⟨g, h4, HB.out g (by rw [h4]; rfl)⟩
    have hDg : D ≠ g := fun e => hDx (by rw [e]; rfl)
    have hDl := hD.lt
    have HDb := Lib.hid hD
    obtain ⟨n, hnn⟩ : ∃ n, n = es.length := ⟨_, rfl⟩
    have HN := Lib.hid hnn
    rw [← hnn] at HI hn hle hp HF ⊢
    have hp1 : ((p : Int) == -1) = false := by rw [beq_eq_false_iff_ne]; omega
    clear h hix HV hz hD hDx HDL HB hnn
    go_enter Try.func103, Try.ntmps103
    go_wp2_with fail
    refine HF.out.mono ?_
    rintro e w1 ⟨rfl, hb1⟩
    have hg1 := gb_below (World.grownBy.refl w (some g)) hb1 (Nat.le_refl _)
    have ho1 := HI.out.keep hb1 (Nat.le_refl _)
    clear HF HI hb1
    go_wp2
    go_loopw [5, 6] (fun p5 p6 wr => ∃ (i j : Nat) (L : List En), i < j ∧ j ≤ n ∧ p5 = .int .i64 (i : Int) ∧ p6 = .int .i64 (j : Int) ∧ Hid (DelL es d i j L) ∧ OwnR 47 5 enC wr B (.slice (some ⟨g, 0, none⟩) n cap) L ∧ w.grownBy wr (some g)) (fun _ p6 _ => n - (intOf p6).toNat)
    case atStart => exact ⟨p, p + 1, es, by omega, by omega, rfl, by go_num, HS, ho1, hg1⟩
    case round =>
      clear ho1 hg1 HS hp1 hp
      obtain ⟨i, j, L, hij, hj, rfl, rfl, HS, hown, hgr⟩ := hrel
      have hLn : n = L.length := by rw [HS.out.len]; exact HN.out
      by_cases hlt : j < n
      · have hje : j < es.length := by have := HN.out; omega
        have hjL : j < L.length := by omega
        have c0 : wr.cell? ⟨g, j * 5, none⟩ = some (.string L[j].it.id) := hown.val enC_len hLn j 0 _ hjL rfl
        have c1 : wr.cell? ⟨g, j * 5 + 1, none⟩ = some (.string L[j].it.ti) := hown.val enC_len hLn j 1 _ hjL rfl
        have c2 : wr.cell? ⟨g, j * 5 + 2, none⟩ = some (.int .i64 L[j].it.da) := hown.val enC_len hLn j 2 _ hjL rfl
        have c3 : wr.cell? ⟨g, j * 5 + 3, none⟩ = some (.bool L[j].rd) := hown.val enC_len hLn j 3 _ hjL rfl
        have c4 : wr.cell? ⟨g, j * 5 + 4, none⟩ = some (.bool L[j].st) := hown.val enC_len hLn j 4 _ hjL rfl
        have HE : Hid (L[j] = es[j]) := Lib.hid (HS.out.at hje hjL)
        have HC := Lib.hid (fun w hD => purged1_any L[j] D d w hD)
        have HG : Hid (pgB L[j] d = true → DelL es d i (j + 1) L) := Lib.hid (fun h => HS.out.goes hje (by rw [← HE.out]; exact h))
        have HT : Hid (pgB L[j] d = false → DelL es d (i + 1) (j + 1) (L.set i L[j])) := Lib.hid (fun h => by rw [HE.out]; exact HS.out.stays hij hje (by rw [← HE.out]; exact h))
        have HP : Hid (∀ w', OwnR 47 5 enC w' B (.slice (some ⟨g, 0, none⟩) n cap) L → OwnR 47 5 enC (putRow g (i * 5) (enC L[j]) w') B (.slice (some ⟨g, 0, none⟩) n cap) (L.set i L[j])) := Lib.hid (fun w' h => h.put enC_len hLn i L[j] (by omega))
        have HQ : Hid (∀ w', w.grownBy w' (some g) → w.grownBy (putRow g (i * 5) (enC L[j]) w') (some g)) := Lib.hid (fun w' h => gb_put (enC L[j]) _ _ h)
        unfold enC at HP HQ
        simp only [putRow] at HP HQ
        generalize pgB L[j] d = q at HC HG HT
        obtain ⟨L2, hL2⟩ : ∃ L2, L2 = L.set i L[j] := ⟨_, rfl⟩
        rw [← hL2] at HT HP
        obtain ⟨S0, hS0⟩ : ∃ x, x = L[j].it.id := ⟨_, rfl⟩
        rw [← hS0] at c0 HC HP HQ
        obtain ⟨S1, hS1⟩ : ∃ x, x = L[j].it.ti := ⟨_, rfl⟩
        rw [← hS1] at c1 HC HP HQ
        obtain ⟨S2, hS2⟩ : ∃ x, x = L[j].it.da := ⟨_, rfl⟩
        rw [← hS2] at c2 HC HP HQ
        obtain ⟨S3, hS3⟩ : ∃ x, x = L[j].rd := ⟨_, rfl⟩
        rw [← hS3] at c3 HC HP HQ
        obtain ⟨S4, hS4⟩ : ∃ x, x = L[j].st := ⟨_, rfl⟩
        rw [← hS4] at c4 HC HP HQ
        have hDr : Box wr D #[.int .i64 d] 2 := (hgr.block D hDl (fun e => hDg (Option.some.inj e))).trans HDb.out
        have hD2 := hDr.alloc (.cells #[.string S0, .string S1, .int .i64 S2, .bool S3, .bool S4] 47)
        have hX2 := Box.new wr #[.string S0, .string S1, .int .i64 S2, .bool S3, .bool S4] 47
        have ho2 := hown.alloc (.cells #[.string S0, .string S1, .int .i64 S2, .bool S3, .bool S4] 47)
        have hg2 := gb_alloc hgr (.cells #[.string S0, .string S1, .int .i64 S2, .bool S3, .bool S4] 47)
        have HO := Lib.hid ho2
        have HLn := Lib.hid hLn
        clear hS0 hS1 hS2 hS3 hS4 hown hgr hDr HE ho2 hL2 hLn
        have hin : i < n := by omega
        go_wp2_with fail
        refine (HC.out _ hD2).mono ?_
        rintro e w2 ⟨rfl, hb2⟩
        have ho3 := HO.out.keep hb2 (Nat.le_refl _)
        have hg3 := gb_below hg2 hb2 hg2.size
        have hX3 := hX2.keep hb2 hX2.lt
        clear hb2 hg2 hX2 HO hD2 c0 c1 c2 c3 c4
        cases q with
        | true =>
          have HS' := Lib.hid (HG.out rfl)
          have HO3 := Lib.hid ho3
          clear HG HT HP HQ HC ho3 HS
          go_wp2
          go_roundw
          case rel => exact ⟨i, j + 1, L, by omega, by omega, rfl, by go_num, HS', HO3.out, hg3⟩
          case measure => simp [intOf]; omega
        | false =>
          have HS' := Lib.hid (HT.out rfl)
          have f0 := hX3.cell 0 _ rfl
          have f1 := hX3.cell 1 _ rfl
          have f2 := hX3.cell 2 _ rfl
          have f3 := hX3.cell 3 _ rfl
          have f4 := hX3.cell 4 _ rfl
          have hfr : ∀ j, w2.frozen? ⟨g, j, none⟩ = false := fun j => ho3.free HLn.out j
          obtain ⟨x0, d0⟩ := ho3.cell enC_len HLn.out i 0 hin (by decide)
          obtain ⟨x1, d1⟩ := ho3.cell enC_len HLn.out i 1 hin (by decide)
          obtain ⟨x2, d2⟩ := ho3.cell enC_len HLn.out i 2 hin (by decide)
          obtain ⟨x3, d3⟩ := ho3.cell enC_len HLn.out i 3 hin (by decide)
          obtain ⟨x4, d4⟩ := ho3.cell enC_len HLn.out i 4 hin (by decide)
          rw [Nat.add_zero] at d0
          have HO3 := Lib.hid ho3
          clear HG HT HC ho3 HS hX3
          go_wp2
          go_roundw
          case rel => exact ⟨i + 1, j + 1, L2, by omega, by omega, by go_num, by go_num, HS', HP.out _ HO3.out, HQ.out _ hg3⟩
          case measure => simp [intOf]; omega
      · have HZ := Lib.hid (HS.out.over (by have := HN.out; omega))
        obtain ⟨w3, hr, ho3, hg3⟩ := clear_own wr B g n cap i L 0 hown hLn (by omega)
        have HO3 := Lib.hid ho3
        have hg4 := gb_trans hgr hg3
        clear ho3 hown hgr hg3 HS hLn
        have hci : ¬ cap = i := by omega
        have hci2 : ¬ cap < i := by omega
        have hni : ¬ n < i := by omega
        go_wp2
        go_ret
        refine ⟨_, rfl, ?_, rfl, hg4⟩
        rw [← HZ.out]
        exact HO3.out
end Go.Proofs.Ytffkakpbelknaaa
