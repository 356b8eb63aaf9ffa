/- Joined: W11o, OpenO. -/
import Derived.Test.YtfgdbpjmjeaolaaH27
/- W11o -/
namespace Go.Proofs.Ytfgdbpjmjeaolaa
open Go.ChangeShapes Go.WideShapes Go.ChangeAt Go.RowKit
set_option linter.unusedVariables false

/-- What szOpS answers. -/
def SzOs (P : Int → Prop) (n : Int) (w : World) (e : Ending) (w' : World) : Prop := ∃ r : Int, e = .returned (.int .i64 r) ∧ -1 ≤ r ∧ r ≤ n ∧ (0 ≤ r → P n) ∧ Below w.heap.size w w'
theorem putRow_own11 {α : Type} {k : Nat} {C : α → List Value} {e : TypeId} {base g : Nat} {v : Value} {l : List α} (hg : g < base) (us : List Value) : ∀ (o : Nat) (w : World), OwnR e k C w base v l → OwnR e k C (putRow g o us w) base v l := by
  induction us with
  | nil => intro o w h; exact h
  | cons u us ih => intro o w h; exact ih (o + 1) _ (h.other ⟨g, o, none⟩ u hg)
def opC (p : OpD × Value) : List Value := [.int .i64 p.1.k, .string p.1.u, .string p.1.i, .int .i64 p.1.d, .string p.1.fu, .string p.1.ft, p.2]
theorem opC_len (p : OpD × Value) : (opC p).length = 7 := rfl
def OpsAt (w : World) (B : Nat) (v : Value) (os : List OpD) : Prop := ∃ ps : List (OpD × Value), ps.map Prod.fst = os ∧ RecAt 7 opC w B v ps ∧ ∀ p ∈ ps, ItAt w B p.2 p.1.its ∧ OpSz p.1
theorem OpsAt.raw {w : World} {B : Nat} {v : Value} {os : List OpD} (h : OpsAt w B v os) : ∃ a cap, v = .slice a os.length cap ∧ os.length ≤ cap ∧ cap ≤ maxLen ∧
    ∀ j, j < os.length → ∃ b off, a = some ⟨b, off, none⟩ ∧ b < B ∧ ∀ i (h : i < os.length), ∃ x, w.cell? ⟨b, off + i * 7, none⟩ = some (.int .i64 os[i].k) ∧ w.cell? ⟨b, off + i * 7 + 1, none⟩ = some (.string os[i].u) ∧ w.cell? ⟨b, off + i * 7 + 2, none⟩ = some (.string os[i].i) ∧ w.cell? ⟨b, off + i * 7 + 3, none⟩ = some (.int .i64 os[i].d) ∧ w.cell? ⟨b, off + i * 7 + 4, none⟩ = some (.string os[i].fu) ∧ w.cell? ⟨b, off + i * 7 + 5, none⟩ = some (.string os[i].ft) ∧ w.cell? ⟨b, off + i * 7 + 6, none⟩ = some (x) ∧ ItAt w B x os[i].its ∧ OpSz os[i] := by
  obtain ⟨ps, rfl, ⟨a, cap, hv, h1, h2, hc⟩, hs⟩ := h
  refine ⟨a, cap, by rw [List.length_map]; exact hv, by rw [List.length_map]; exact h1, h2, fun j hj => ?_⟩
  rw [List.length_map] at hj
  obtain ⟨b, off, ha, hB, hr⟩ := hc (by omega)
  refine ⟨b, off, ha, hB, fun i hi => ?_⟩
  have hi' : i < ps.length := by rwa [List.length_map] at hi
  have hm := hs _ (List.getElem_mem hi')
  rw [List.getElem_map]
  exact ⟨_, hr i hi' 0 _ rfl, hr i hi' 1 _ rfl, hr i hi' 2 _ rfl, hr i hi' 3 _ rfl, hr i hi' 4 _ rfl, hr i hi' 5 _ rfl, hr i hi' 6 _ rfl, hm.1, hm.2⟩
theorem OpsAt.below {w w' : World} {B : Nat} {v : Value} {os : List OpD} (h : OpsAt w B v os) (hb : Below B w w') : OpsAt w' B v os := by
  obtain ⟨ps, h1, h2, h3⟩ := h
  exact ⟨ps, h1, h2.below hb, fun p hp => ⟨(h3 p hp).1.below hb, (h3 p hp).2⟩⟩
theorem OpsAt.mono {w : World} {B B' : Nat} {v : Value} {os : List OpD} (h : OpsAt w B v os) (hb : B ≤ B') : OpsAt w B' v os := by
  obtain ⟨ps, h1, h2, h3⟩ := h
  exact ⟨ps, h1, h2.mono hb, fun p hp => ⟨(h3 p hp).1.mono hb, (h3 p hp).2⟩⟩
theorem OpsAt.drew {w : World} {B : Nat} {v : Value} {os : List OpD} (h : OpsAt w B v os) : OpsAt w.drew B v os := h
theorem OpsAt.size {w : World} {B : Nat} {v : Value} {os : List OpD} (h : OpsAt w B v os) : ∀ o ∈ os, OpSz o ∧ ∀ x ∈ o.its, x.id.size ≤ maxLen ∧ x.ti.size ≤ maxLen := by
  obtain ⟨ps, rfl, _, h3⟩ := h
  intro s hs
  obtain ⟨p, hp, rfl⟩ := List.mem_map.1 hs
  exact ⟨(h3 p hp).2, (h3 p hp).1.2⟩
abbrev op0 : OpD × Value := (⟨0, ByteArray.empty, ByteArray.empty, 0, ByteArray.empty, ByteArray.empty, []⟩, .slice none 0 0)
theorem Try.infoOp : (Try.prog.info? 45).map (fun i => (i.zero, i.size, i.bytes)) = some (some (.agg #[.int .i64 0, .string ByteArray.empty, .string ByteArray.empty, .int .i64 0, .string ByteArray.empty, .string ByteArray.empty, .slice none 0 0]), 7, 104) := by kernel_rfl
/-- Operations that a call has made. -/
def OwnO (w : World) (B : Nat) (v : Value) (os : List OpD) : Prop := ∃ ps : List (OpD × Value), ps.map Prod.fst = os ∧ OwnR 45 7 opC w B v ps ∧ ∀ p ∈ ps, OwnR 107 3 itC w B p.2 p.1.its
theorem OwnO.at {w : World} {B : Nat} {v : Value} {os : List OpD} (h : OwnO w B v os) (hs : ∀ o ∈ os, OpSz o ∧ ∀ x ∈ o.its, x.id.size ≤ maxLen ∧ x.ti.size ≤ maxLen) : OpsAt w w.heap.size v os := by
  obtain ⟨ps, rfl, h2, h3⟩ := h
  exact ⟨ps, rfl, h2.at opC_len, fun p hp => ⟨ItAt.of_own (h3 p hp) (hs _ (List.mem_map.2 ⟨p, hp, rfl⟩)).2, (hs _ (List.mem_map.2 ⟨p, hp, rfl⟩)).1⟩⟩
theorem OwnO.slice {w : World} {B : Nat} {v : Value} {os : List OpD} (h : OwnO w B v os) : ∃ a cap, v = .slice a os.length cap := by
  obtain ⟨ps, rfl, h2, h3⟩ := h
  rw [List.length_map]
  exact OwnR.slice h2
/-- What toOpS answers. -/
def OutOs (os : List OpD) (w : World) (e : Ending) (w' : World) : Prop := ∃ v, e = .returned v ∧ OwnO w' w.heap.size v os ∧ Below w.heap.size w w'

set_option maxRecDepth 100000 in
set_option maxHeartbeats 1600000 in
theorem szOpS_any (v : Value) (os : List OpD) (n : Int) (w : World) (h : OpsAt w w.heap.size v os) (h0 : 0 ≤ n) (h1 : n ≤ 1048576) :
    Calls Try.prog 14 #[v, .int .i64 n] w (SzOs (fun n => (os.length : Int) ≤ n ∧ ∀ s ∈ os, (s.its.length : Int) ≤ n) n w) := by
  have HI := Lib.hid h
  obtain ⟨a, cap, rfl, hl, hm, hc⟩ := h.raw
  unfold maxLen at hm
  clear hc h
  by_cases h2 : n - os.length < 0
  · go_enter Try.func14, Try.ntmps14
    go_wp2
    go_ret
    exact ⟨-1, rfl, by omega, by omega, by omega, Below.refl _ _⟩
  · go_enter Try.func14, Try.ntmps14
    go_wp2
    go_loopw [1, 5] (fun r i wr => ∃ (k : Nat) (x : Int), k ≤ os.length ∧ i = .int .i64 (k : Int) ∧ r = .int .i64 x ∧ 0 ≤ x ∧ x ≤ n ∧ Below w.heap.size w wr ∧ Hid (∀ j (hj : j < os.length), j < k → (os[j].its.length : Int) ≤ n)) (fun _ i _ => os.length - (intOf i).toNat)
    case atStart => exact ⟨0, n - os.length, Nat.zero_le _, rfl, rfl, by omega, by omega, Below.refl _ _, Lib.hid (fun j hj h => by omega)⟩
    case round =>
      obtain ⟨k, x, hk, rfl, rfl, hx0, hx1, hB, HO⟩ := hrel
      by_cases hlt : k < os.length
      · obtain ⟨a', cap', hv, _, _, hc⟩ := (HI.out.below hB).raw
        cases hv
        obtain ⟨b, off, rfl, hb, hr⟩ := hc k hlt
        obtain ⟨y, c0, c1, c2, c3, c4, c5, c6, hy, hz⟩ := hr k hlt
        have hy1 := Lib.hid (hy.mono hB.size)
        have HC := Lib.hid (fun w (hy : ItAt w w.heap.size y os[k].its) => szOp_any os[k] y x w hy hz hx0 (by omega))
        unfold SzO at HC
        obtain ⟨P, hP⟩ : ∃ P, P = os[k] := ⟨_, rfl⟩
        rw [← hP] at c0 c1 c2 c3 c4 c5 hy1 HC
        have HPl : Hid (P.its.length = os[k].its.length) := Lib.hid (by rw [hP])
        clear hr hc hz hy hP
        go_wp2_with fail
        refine (HC.out _ hy1.out).mono ?_
        rintro e w1 ⟨r, rfl, hr0, hr1, hr2, hb1⟩
        have hB1 := hB.trans (hb1.mono hB.size)
        clear hb1 hB HC c0 c1 c2 c3 c4 c5 c6 hy1
        by_cases hy : r < 0
        · clear hr2
          go_wp2
          go_ret
          exact ⟨-1, rfl, by omega, by omega, by omega, hB1⟩
        · have HO' : Hid (∀ j (hj : j < os.length), j < k + 1 → (os[j].its.length : Int) ≤ n) := Lib.hid (fun j hj h => by
            by_cases hjk : j = k
            · subst hjk; have := hr2 (by omega); have := HPl.out; omega
            · exact HO.out j hj (by omega))
          clear hr2
          go_wp2
          go_roundw
          case rel => exact ⟨k + 1, r, by omega, by go_num, rfl, by omega, by omega, hB1, HO'⟩
          case measure => simp [intOf]; omega
      · go_wp2
        go_ret
        exact ⟨x, rfl, by omega, hx1, fun _ => ⟨by omega, fun s hs => by
          obtain ⟨j, hj, rfl⟩ := List.getElem_of_mem hs
          exact HO.out j hj (by omega)⟩, hB⟩

set_option maxRecDepth 100000 in
set_option maxHeartbeats 1600000 in
theorem toOpS_any (v : Value) (os : List OpD) (w : World) (h : OpsAt w w.heap.size v os) (hn : os.length ≤ 1048576) (hns : ∀ s ∈ os, s.its.length ≤ 1048576) :
    Calls Try.prog 16 #[v] w (OutOs os w) := by
  have HI := Lib.hid h
  have HNS := Lib.hid hns
  obtain ⟨a, cap, rfl, hl, hm, hc⟩ := h.raw
  unfold maxLen at hm
  clear hc h hns
  go_enter Try.func16, Try.ntmps16
  go_wp2_with (at_make; refine wpList_fullR (z := op0) opC_len (by decide) Try.underlying29 Try.infoOp rfl (by decide) rfl _ _ rfl w.heap.size .i64 .i64 os.length rfl rfl (by omega) (Nat.le_refl _) ?_; intro w0 hown0 hb0)
  have hg0 : w.heap.size < w0.heap.size := (World.ownsRow.lt hown0 _ rfl).2
  go_loopw [4] (fun i wr => ∃ (k : Nat) (qs : List (OpD × Value)), k ≤ os.length ∧ i = .int .i64 k ∧ Hid (qs.map Prod.fst = os.take k) ∧ OwnR 45 7 opC wr w.heap.size (.slice (some ⟨w.heap.size, 0, none⟩) os.length os.length) (qs ++ List.replicate (os.length - k) op0) ∧ Hid (∀ p ∈ qs, OwnR 107 3 itC wr (w.heap.size + 1) p.2 p.1.its) ∧ Below w.heap.size w wr ∧ w.heap.size < wr.heap.size)
    (fun i _ => os.length - (intOf i).toNat)
  case atStart => exact ⟨0, [], Nat.zero_le _, rfl, Lib.hid rfl, by simpa using hown0, Lib.hid (by simp), hb0, hg0⟩
  case round =>
    obtain ⟨k, qs, hk, rfl, HM, hown, HE, hbel, hgr⟩ := hrel
    clear hown0 hb0 hg0
    have hql : qs.length = k := by have := congrArg List.length HM.out; simpa [hk] using this
    by_cases hlt : k < os.length
    · obtain ⟨a', cap', hv, _, _, hc⟩ := (HI.out.below hbel).raw
      cases hv
      obtain ⟨b, off, rfl, hb, hr⟩ := hc k hlt
      obtain ⟨y, c0, c1, c2, c3, c4, c5, c6, hy, hz⟩ := hr k hlt
      have hy1 := Lib.hid (hy.mono hbel.size)
      have HC := Lib.hid (fun w (hy : ItAt w w.heap.size y os[k].its) => toOp_any os[k] y w hy hz (HNS.out _ (List.getElem_mem hlt)))
      have HP : Hid (∀ w' z, OwnR 45 7 opC w' w.heap.size (.slice (some ⟨w.heap.size, 0, none⟩) os.length os.length) (qs ++ List.replicate (os.length - k) op0) → OwnR 45 7 opC (putRow w.heap.size (k * 7) [.int .i64 os[k].k, .string os[k].u, .string os[k].i, .int .i64 os[k].d, .string os[k].fu, .string os[k].ft, z] w') w.heap.size (.slice (some ⟨w.heap.size, 0, none⟩) os.length os.length) ((qs ++ [(os[k], z)]) ++ List.replicate (os.length - (k + 1)) op0)) := Lib.hid (fun w' z h => by
        have h2 := h.put opC_len (by simp; omega) k (os[k], z) (by simp; omega)
        have e1 : (qs ++ List.replicate (os.length - k) op0).set k (os[k], z) = (qs ++ [(os[k], z)]) ++ List.replicate (os.length - (k + 1)) op0 := by
          have e2 : os.length - k = (os.length - (k + 1)) + 1 := by omega
          rw [e2, List.replicate_succ, List.set_append_right _ _ (by omega), hql, Nat.sub_self, List.set_cons_zero, List.append_assoc]
          rfl
        rw [e1] at h2
        exact h2)
      have HQ : Hid (∀ w' z, Below w.heap.size w w' → Below w.heap.size w (putRow w.heap.size (k * 7) [.int .i64 os[k].k, .string os[k].u, .string os[k].i, .int .i64 os[k].d, .string os[k].fu, .string os[k].ft, z] w')) := Lib.hid (fun w' z h => putRow_below (Nat.le_refl _) _ _ _ _ h)
      have HEn : Hid (∀ w' z, (∀ p ∈ qs ++ [(os[k], z)], OwnR 107 3 itC w' (w.heap.size + 1) p.2 p.1.its) → ∀ p ∈ qs ++ [(os[k], z)], OwnR 107 3 itC (putRow w.heap.size (k * 7) [.int .i64 os[k].k, .string os[k].u, .string os[k].i, .int .i64 os[k].d, .string os[k].fu, .string os[k].ft, z] w') (w.heap.size + 1) p.2 p.1.its) := Lib.hid (fun w' z h p hp => putRow_own11 (Nat.lt_succ_self _) _ _ _ (h p hp))
      have HSz : Hid (∀ (w' : World) z, (putRow w.heap.size (k * 7) [.int .i64 os[k].k, .string os[k].u, .string os[k].i, .int .i64 os[k].d, .string os[k].fu, .string os[k].ft, z] w').heap.size = w'.heap.size) := Lib.hid (fun w' z => by simp [putRow, World.setCell])
      have HM' : Hid (∀ z, (qs ++ [(os[k], z)]).map Prod.fst = os.take (k + 1)) := Lib.hid (fun z => by rw [List.map_append, HM.out, List.take_succ_eq_append_getElem hlt]; rfl)
      have HJ : Hid (∀ w' z, (∀ p ∈ qs, OwnR 107 3 itC w' (w.heap.size + 1) p.2 p.1.its) → OwnR 107 3 itC w' (w.heap.size + 1) z os[k].its → ∀ p ∈ qs ++ [(os[k], z)], OwnR 107 3 itC w' (w.heap.size + 1) p.2 p.1.its) := Lib.hid (fun w' z h1 h2 p hp => by
        rcases List.mem_append.1 hp with h | h
        · exact h1 p h
        · obtain rfl : p = (os[k], z) := by simpa using h
          exact h2)
      simp only [putRow, Nat.add_assoc, Nat.reduceAdd] at HP HQ HEn HSz
      have HOw := Lib.hid hown
      have HBl := Lib.hid hbel
      unfold OutO at HC

      obtain ⟨P, hP⟩ : ∃ P, P = os[k] := ⟨_, rfl⟩
      rw [← hP] at c0 c1 c2 c3 c4 c5 hy1 HC HP HQ HEn HSz HM' HJ
      clear hr hc hP hz hown hbel hy
      go_wp2_with fail
      refine (HC.out _ hy1.out).mono ?_
      rintro e w1 ⟨z, rfl, hz, hb1⟩
      obtain ⟨za, zc, rfl⟩ := hz.slice
      have hown1 := HOw.out.keep hb1 (Nat.le_refl _)
      have HE1 : Hid (∀ p ∈ qs, OwnR 107 3 itC w1 (w.heap.size + 1) p.2 p.1.its) := Lib.hid (fun p hp => (HE.out p hp).keep hb1 (Nat.le_refl _))
      have HZ := Lib.hid (HJ.out w1 _ HE1.out (hz.base_mono (by omega)))
      have hbel1 := HBl.out.trans (hb1.mono HBl.out.size)
      have hgr1 : w.heap.size < w1.heap.size := by have := hb1.size; omega
      have hfr : ∀ j, w1.frozen? ⟨w.heap.size, j, none⟩ = false := fun j => hown1.free (by simp; omega) j
      obtain ⟨x0, d0⟩ := hown1.cell opC_len (by simp; omega) k 0 hlt (by decide)
      obtain ⟨x1, d1⟩ := hown1.cell opC_len (by simp; omega) k 1 hlt (by decide)
      obtain ⟨x2, d2⟩ := hown1.cell opC_len (by simp; omega) k 2 hlt (by decide)
      obtain ⟨x3, d3⟩ := hown1.cell opC_len (by simp; omega) k 3 hlt (by decide)
      obtain ⟨x4, d4⟩ := hown1.cell opC_len (by simp; omega) k 4 hlt (by decide)
      obtain ⟨x5, d5⟩ := hown1.cell opC_len (by simp; omega) k 5 hlt (by decide)
      obtain ⟨x6, d6⟩ := hown1.cell opC_len (by simp; omega) k 6 hlt (by decide)
      rw [Nat.add_zero] at d0
      have HO1 := Lib.hid hown1
      clear hown1 HOw hb1 HBl c0 c1 c2 c3 c4 c5 c6 hz HE HE1 hql
      go_wp2
      have n1 := HM'.out (.slice za P.its.length zc)
      have n2 := HP.out w1 (.slice za P.its.length zc) HO1.out
      have n3 := HEn.out w1 (.slice za P.its.length zc) HZ.out
      have n4 := HQ.out w1 (.slice za P.its.length zc) hbel1
      have n5 := Nat.lt_of_lt_of_eq hgr1 (HSz.out w1 (.slice za P.its.length zc)).symm
      refine ⟨⟨k + 1, qs ++ [(P, .slice za P.its.length zc)], by omega, by simp, Lib.hid n1, n2, Lib.hid n3, n4, n5⟩, ?_⟩
      simp [intOf]; omega
    · go_wp2
      go_ret
      have : k = os.length := by omega
      subst this
      simp only [Nat.sub_self, List.replicate_zero, List.append_nil] at hown
      have hM := HM.out
      rw [List.take_length] at hM
      exact ⟨_, rfl, ⟨qs, hM, hown, fun p hp => (HE.out p hp).base_mono (by omega)⟩, hbel⟩
end Go.Proofs.Ytfgdbpjmjeaolaa

/- OpenO -/
namespace Go.Proofs.Ytfgdbpjmjeaolaa
open Go.ChangeShapes Go.WideShapes Go.Deep Go.RowKit
set_option linter.unusedVariables false

section
variable {H : Type} {enc : TypeId × Value → H} {w : World} {base : Nat} {spare : Nat → Bool} {held : Bool}
theorem open_ops_cell {n : Nat} {v : Value} {y : DataW H × List MemPlace} (h : DataW.trod enc Try.prog w base spare held n 22 [v] = some y) : ∃ os, OpsAt w w.heap.size v os := by
  obtain ⟨l, hl, hg⟩ := open_recs (C := opC) (G := fun z : OpD × Value => ItAt w w.heap.size z.2 z.1.its ∧ OpSz z.1) Try.underlying22 Try.cellsLOp (by decide) (fun n cs y h => by
    obtain ⟨o, x, e, h1, h2⟩ := open_op_cells h
    exact ⟨(o, x), e, h1, h2⟩) h
  exact ⟨l.map Prod.fst, l, rfl, hl, hg⟩
set_option maxRecDepth 100000 in
theorem open_ops {r : Reach} {b0 : Nat} {v : Value} {d : DataW H} {p : List MemPlace} (hv : Value.okWide Try.prog w r b0 22 v) (h : DataW.Trod enc Try.prog w base spare held 22 v d p) : ∃ os, OpsAt w w.heap.size v os := by
  obtain ⟨a, n, c, rfl⟩ := okWide_slice Try.underlying22 hv
  obtain ⟨fuel, hf⟩ := h
  have hf' : DataW.trod enc Try.prog w base spare held fuel 22 [.slice a n c] = some (d, p) := hf
  clear hf hv
  exact open_ops_cell hf'
end
end Go.Proofs.Ytfgdbpjmjeaolaa
