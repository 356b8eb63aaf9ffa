/- Joined: W11o, W12c, W12d, W12e, W12f, OpenO, V12b. -/
import Derived.Lib.AppendStr
import Derived.Test.YtfjaincogbdeiaaGreatDoorH22
import Derived.Test.YtfjaincogbdeiaaGreatDoorH47
/- W11o -/
namespace Go.Proofs.YtfjaincogbdeiaaGreatDoor
open Go.ChangeShapes Go.WideShapes Go.ChangeAt Go.RowKit
set_option linter.unusedVariables false

/-- What szOpS answers. -/
def SzOs (P : Int → Prop) (n : Int) (w : World) (e : Ending) (w' : World) : Prop := ∃ r : Int, e = .returned (.int .i64 r) ∧ -1 ≤ r ∧ r ≤ n ∧ (0 ≤ r → P n) ∧ Below w.heap.size w w'
theorem putRow_own11 {α : Type} {k : Nat} {C : α → List Value} {e : TypeId} {base g : Nat} {v : Value} {l : List α} (hg : g < base) (us : List Value) : ∀ (o : Nat) (w : World), OwnR e k C w base v l → OwnR e k C (putRow g o us w) base v l := by
  induction us with
  | nil => intro o w h; exact h
  | cons u us ih => intro o w h; exact ih (o + 1) _ (h.other ⟨g, o, none⟩ u hg)
def opC (p : OpD × Value) : List Value := [.int .i64 p.1.k, .string p.1.u, .string p.1.i, .int .i64 p.1.d, .string p.1.fu, .string p.1.ft, p.2]
theorem opC_len (p : OpD × Value) : (opC p).length = 7 := rfl
def OpsAt (w : World) (B : Nat) (v : Value) (os : List OpD) : Prop := ∃ ps : List (OpD × Value), ps.map Prod.fst = os ∧ RecAt 7 opC w B v ps ∧ ∀ p ∈ ps, ItAt w B p.2 p.1.its ∧ OpSz p.1
theorem OpsAt.raw {w : World} {B : Nat} {v : Value} {os : List OpD} (h : OpsAt w B v os) : ∃ a cap, v = .slice a os.length cap ∧ os.length ≤ cap ∧ cap ≤ maxLen ∧
    ∀ j, j < os.length → ∃ b off, a = some ⟨b, off, none⟩ ∧ b < B ∧ ∀ i (h : i < os.length), ∃ x, w.cell? ⟨b, off + i * 7, none⟩ = some (.int .i64 os[i].k) ∧ w.cell? ⟨b, off + i * 7 + 1, none⟩ = some (.string os[i].u) ∧ w.cell? ⟨b, off + i * 7 + 2, none⟩ = some (.string os[i].i) ∧ w.cell? ⟨b, off + i * 7 + 3, none⟩ = some (.int .i64 os[i].d) ∧ w.cell? ⟨b, off + i * 7 + 4, none⟩ = some (.string os[i].fu) ∧ w.cell? ⟨b, off + i * 7 + 5, none⟩ = some (.string os[i].ft) ∧ w.cell? ⟨b, off + i * 7 + 6, none⟩ = some (x) ∧ ItAt w B x os[i].its ∧ OpSz os[i] := by
  obtain ⟨ps, rfl, ⟨a, cap, hv, h1, h2, hc⟩, hs⟩ := h
  refine ⟨a, cap, by rw [List.length_map]; exact hv, by rw [List.length_map]; exact h1, h2, fun j hj => ?_⟩
  rw [List.length_map] at hj
  obtain ⟨b, off, ha, hB, hr⟩ := hc (by omega)
  refine ⟨b, off, ha, hB, fun i hi => ?_⟩
  have hi' : i < ps.length := by rwa [List.length_map] at hi
  have hm := hs _ (List.getElem_mem hi')
  rw [List.getElem_map]
  exact ⟨_, hr i hi' 0 _ rfl, hr i hi' 1 _ rfl, hr i hi' 2 _ rfl, hr i hi' 3 _ rfl, hr i hi' 4 _ rfl, hr i hi' 5 _ rfl, hr i hi' 6 _ rfl, hm.1, hm.2⟩
theorem OpsAt.below {w w' : World} {B : Nat} {v : Value} {os : List OpD} (h : OpsAt w B v os) (hb : Below B w w') : OpsAt w' B v os := by
  obtain ⟨ps, h1, h2, h3⟩ := h
  exact ⟨ps, h1, h2.below hb, fun p hp => ⟨(h3 p hp).1.below hb, (h3 p hp).2⟩⟩
theorem OpsAt.mono {w : World} {B B' : Nat} {v : Value} {os : List OpD} (h : OpsAt w B v os) (hb : B ≤ B') : OpsAt w B' v os := by
  obtain ⟨ps, h1, h2, h3⟩ := h
  exact ⟨ps, h1, h2.mono hb, fun p hp => ⟨(h3 p hp).1.mono hb, (h3 p hp).2⟩⟩
theorem OpsAt.drew {w : World} {B : Nat} {v : Value} {os : List OpD} (h : OpsAt w B v os) : OpsAt w.drew B v os := h
theorem OpsAt.size {w : World} {B : Nat} {v : Value} {os : List OpD} (h : OpsAt w B v os) : ∀ o ∈ os, OpSz o ∧ ∀ x ∈ o.its, x.id.size ≤ maxLen ∧ x.ti.size ≤ maxLen := by
  obtain ⟨ps, rfl, _, h3⟩ := h
  intro s hs
  obtain ⟨p, hp, rfl⟩ := List.mem_map.1 hs
  exact ⟨(h3 p hp).2, (h3 p hp).1.2⟩
abbrev op0 : OpD × Value := (⟨0, ByteArray.empty, ByteArray.empty, 0, ByteArray.empty, ByteArray.empty, []⟩, .slice none 0 0)
theorem Tryz.infoOp : (Tryz.prog.info? 33).map (fun i => (i.zero, i.size, i.bytes)) = some (some (.agg #[.int .i64 0, .string ByteArray.empty, .string ByteArray.empty, .int .i64 0, .string ByteArray.empty, .string ByteArray.empty, .slice none 0 0]), 7, 104) := by kernel_rfl
/-- Operations that a call has made. -/
def OwnO (w : World) (B : Nat) (v : Value) (os : List OpD) : Prop := ∃ ps : List (OpD × Value), ps.map Prod.fst = os ∧ OwnR 33 7 opC w B v ps ∧ ∀ p ∈ ps, OwnR 81 3 itC w B p.2 p.1.its
theorem OwnO.at {w : World} {B : Nat} {v : Value} {os : List OpD} (h : OwnO w B v os) (hs : ∀ o ∈ os, OpSz o ∧ ∀ x ∈ o.its, x.id.size ≤ maxLen ∧ x.ti.size ≤ maxLen) : OpsAt w w.heap.size v os := by
  obtain ⟨ps, rfl, h2, h3⟩ := h
  exact ⟨ps, rfl, h2.at opC_len, fun p hp => ⟨ItAt.of_own (h3 p hp) (hs _ (List.mem_map.2 ⟨p, hp, rfl⟩)).2, (hs _ (List.mem_map.2 ⟨p, hp, rfl⟩)).1⟩⟩
theorem OwnO.slice {w : World} {B : Nat} {v : Value} {os : List OpD} (h : OwnO w B v os) : ∃ a cap, v = .slice a os.length cap := by
  obtain ⟨ps, rfl, h2, h3⟩ := h
  rw [List.length_map]
  exact OwnR.slice h2
/-- What toOpS answers. -/
def OutOs (os : List OpD) (w : World) (e : Ending) (w' : World) : Prop := ∃ v, e = .returned v ∧ OwnO w' w.heap.size v os ∧ Below w.heap.size w w'

set_option maxRecDepth 100000 in
set_option maxHeartbeats 1600000 in
theorem szOpS_any (v : Value) (os : List OpD) (n : Int) (w : World) (h : OpsAt w w.heap.size v os) (h0 : 0 ≤ n) (h1 : n ≤ 1048576) :
    Calls Tryz.prog 10 #[v, .int .i64 n] w (SzOs (fun n => (os.length : Int) ≤ n ∧ ∀ s ∈ os, (s.its.length : Int) ≤ n) n w) := by
  have HI := Lib.hid h
  obtain ⟨a, cap, rfl, hl, hm, hc⟩ := h.raw
  unfold maxLen at hm
  clear hc h
  by_cases h2 : n - os.length < 0
  · go_enter Tryz.func10, Tryz.ntmps10
    go_wp2
    go_ret
    exact ⟨-1, rfl, by omega, by omega, by omega, Below.refl _ _⟩
  · go_enter Tryz.func10, Tryz.ntmps10
    go_wp2
    go_loopw [1, 5] (fun r i wr => ∃ (k : Nat) (x : Int), k ≤ os.length ∧ i = .int .i64 (k : Int) ∧ r = .int .i64 x ∧ 0 ≤ x ∧ x ≤ n ∧ Below w.heap.size w wr ∧ Hid (∀ j (hj : j < os.length), j < k → (os[j].its.length : Int) ≤ n)) (fun _ i _ => os.length - (intOf i).toNat)
    case atStart => exact ⟨0, n - os.length, Nat.zero_le _, rfl, rfl, by omega, by omega, Below.refl _ _, Lib.hid (fun j hj h => by omega)⟩
    case round =>
      obtain ⟨k, x, hk, rfl, rfl, hx0, hx1, hB, HO⟩ := hrel
      by_cases hlt : k < os.length
      · obtain ⟨a', cap', hv, _, _, hc⟩ := (HI.out.below hB).raw
        cases hv
        obtain ⟨b, off, rfl, hb, hr⟩ := hc k hlt
        obtain ⟨y, c0, c1, c2, c3, c4, c5, c6, hy, hz⟩ := hr k hlt
        have hy1 := Lib.hid (hy.mono hB.size)
        have HC := Lib.hid (fun w (hy : ItAt w w.heap.size y os[k].its) => szOp_any os[k] y x w hy hz hx0 (by omega))
        unfold SzO at HC
        obtain ⟨P, hP⟩ : ∃ P, P = os[k] := ⟨_, rfl⟩
        rw [← hP] at c0 c1 c2 c3 c4 c5 hy1 HC
        have HPl : Hid (P.its.length = os[k].its.length) := Lib.hid (by rw [hP])
        clear hr hc hz hy hP
        go_wp2_with fail
        refine (HC.out _ hy1.out).mono ?_
        rintro e w1 ⟨r, rfl, hr0, hr1, hr2, hb1⟩
        have hB1 := hB.trans (hb1.mono hB.size)
        clear hb1 hB HC c0 c1 c2 c3 c4 c5 c6 hy1
        by_cases hy : r < 0
        · clear hr2
          go_wp2
          go_ret
          exact ⟨-1, rfl, by omega, by omega, by omega, hB1⟩
        · have HO' : Hid (∀ j (hj : j < os.length), j < k + 1 → (os[j].its.length : Int) ≤ n) := Lib.hid (fun j hj h => by
            by_cases hjk : j = k
            · subst hjk; have := hr2 (by omega); have := HPl.out; omega
            · exact HO.out j hj (by omega))
          clear hr2
          go_wp2
          go_roundw
          case rel => exact ⟨k + 1, r, by omega, by go_num, rfl, by omega, by omega, hB1, HO'⟩
          case measure => simp [intOf]; omega
      · go_wp2
        go_ret
        exact ⟨x, rfl, by omega, hx1, fun _ => ⟨by omega, fun s hs => by
          obtain ⟨j, hj, rfl⟩ := List.getElem_of_mem hs
          exact HO.out j hj (by omega)⟩, hB⟩

set_option maxRecDepth 100000 in
set_option maxHeartbeats 1600000 in
theorem toOpS_any (v : Value) (os : List OpD) (w : World) (h : OpsAt w w.heap.size v os) (hn : os.length ≤ 1048576) (hns : ∀ s ∈ os, s.its.length ≤ 1048576) :
    Calls Tryz.prog 12 #[v] w (OutOs os w) := by
  have HI := Lib.hid h
  have HNS := Lib.hid hns
  obtain ⟨a, cap, rfl, hl, hm, hc⟩ := h.raw
  unfold maxLen at hm
  clear hc h hns
  go_enter Tryz.func12, Tryz.ntmps12
  go_wp2_with (at_make; refine wpList_fullR (z := op0) opC_len (by decide) Tryz.underlying40 Tryz.infoOp rfl (by decide) rfl _ _ rfl w.heap.size .i64 .i64 os.length rfl rfl (by omega) (Nat.le_refl _) ?_; intro w0 hown0 hb0)
  have hg0 : w.heap.size < w0.heap.size := (World.ownsRow.lt hown0 _ rfl).2
  go_loopw [4] (fun i wr => ∃ (k : Nat) (qs : List (OpD × Value)), k ≤ os.length ∧ i = .int .i64 k ∧ Hid (qs.map Prod.fst = os.take k) ∧ OwnR 33 7 opC wr w.heap.size (.slice (some ⟨w.heap.size, 0, none⟩) os.length os.length) (qs ++ List.replicate (os.length - k) op0) ∧ Hid (∀ p ∈ qs, OwnR 81 3 itC wr (w.heap.size + 1) p.2 p.1.its) ∧ Below w.heap.size w wr ∧ w.heap.size < wr.heap.size)
    (fun i _ => os.length - (intOf i).toNat)
  case atStart => exact ⟨0, [], Nat.zero_le _, rfl, Lib.hid rfl, by simpa using hown0, Lib.hid (by simp), hb0, hg0⟩
  case round =>
    obtain ⟨k, qs, hk, rfl, HM, hown, HE, hbel, hgr⟩ := hrel
    clear hown0 hb0 hg0
    have hql : qs.length = k := by have := congrArg List.length HM.out; simpa [hk] using this
    by_cases hlt : k < os.length
    · obtain ⟨a', cap', hv, _, _, hc⟩ := (HI.out.below hbel).raw
      cases hv
      obtain ⟨b, off, rfl, hb, hr⟩ := hc k hlt
      obtain ⟨y, c0, c1, c2, c3, c4, c5, c6, hy, hz⟩ := hr k hlt
      have hy1 := Lib.hid (hy.mono hbel.size)
      have HC := Lib.hid (fun w (hy : ItAt w w.heap.size y os[k].its) => toOp_any os[k] y w hy hz (HNS.out _ (List.getElem_mem hlt)))
      have HP : Hid (∀ w' z, OwnR 33 7 opC w' w.heap.size (.slice (some ⟨w.heap.size, 0, none⟩) os.length os.length) (qs ++ List.replicate (os.length - k) op0) → OwnR 33 7 opC (putRow w.heap.size (k * 7) [.int .i64 os[k].k, .string os[k].u, .string os[k].i, .int .i64 os[k].d, .string os[k].fu, .string os[k].ft, z] w') w.heap.size (.slice (some ⟨w.heap.size, 0, none⟩) os.length os.length) ((qs ++ [(os[k], z)]) ++ List.replicate (os.length - (k + 1)) op0)) := Lib.hid (fun w' z h => by
        have h2 := h.put opC_len (by simp; omega) k (os[k], z) (by simp; omega)
        have e1 : (qs ++ List.replicate (os.length - k) op0).set k (os[k], z) = (qs ++ [(os[k], z)]) ++ List.replicate (os.length - (k + 1)) op0 := by
          have e2 : os.length - k = (os.length - (k + 1)) + 1 := by omega
          rw [e2, List.replicate_succ, List.set_append_right _ _ (by omega), hql, Nat.sub_self, List.set_cons_zero, List.append_assoc]
          rfl
        rw [e1] at h2
        exact h2)
      have HQ : Hid (∀ w' z, Below w.heap.size w w' → Below w.heap.size w (putRow w.heap.size (k * 7) [.int .i64 os[k].k, .string os[k].u, .string os[k].i, .int .i64 os[k].d, .string os[k].fu, .string os[k].ft, z] w')) := Lib.hid (fun w' z h => putRow_below (Nat.le_refl _) _ _ _ _ h)
      have HEn : Hid (∀ w' z, (∀ p ∈ qs ++ [(os[k], z)], OwnR 81 3 itC w' (w.heap.size + 1) p.2 p.1.its) → ∀ p ∈ qs ++ [(os[k], z)], OwnR 81 3 itC (putRow w.heap.size (k * 7) [.int .i64 os[k].k, .string os[k].u, .string os[k].i, .int .i64 os[k].d, .string os[k].fu, .string os[k].ft, z] w') (w.heap.size + 1) p.2 p.1.its) := Lib.hid (fun w' z h p hp => putRow_own11 (Nat.lt_succ_self _) _ _ _ (h p hp))
      have HSz : Hid (∀ (w' : World) z, (putRow w.heap.size (k * 7) [.int .i64 os[k].k, .string os[k].u, .string os[k].i, .int .i64 os[k].d, .string os[k].fu, .string os[k].ft, z] w').heap.size = w'.heap.size) := Lib.hid (fun w' z => by simp [putRow, World.setCell])
      have HM' : Hid (∀ z, (qs ++ [(os[k], z)]).map Prod.fst = os.take (k + 1)) := Lib.hid (fun z => by rw [List.map_append, HM.out, List.take_succ_eq_append_getElem hlt]; rfl)
      have HJ : Hid (∀ w' z, (∀ p ∈ qs, OwnR 81 3 itC w' (w.heap.size + 1) p.2 p.1.its) → OwnR 81 3 itC w' (w.heap.size + 1) z os[k].its → ∀ p ∈ qs ++ [(os[k], z)], OwnR 81 3 itC w' (w.heap.size + 1) p.2 p.1.its) := Lib.hid (fun w' z h1 h2 p hp => by
        rcases List.mem_append.1 hp with h | h
        · exact h1 p h
        · obtain rfl : p = (os[k], z) := by simpa using h
          exact h2)
      simp only [putRow, Nat.add_assoc, Nat.reduceAdd] at HP HQ HEn HSz
      have HOw := Lib.hid hown
      have HBl := Lib.hid hbel
      unfold OutO at HC

      obtain ⟨P, hP⟩ : ∃ P, P = os[k] := ⟨_, rfl⟩
      rw [← hP] at c0 c1 c2 c3 c4 c5 hy1 HC HP HQ HEn HSz HM' HJ
      clear hr hc hP hz hown hbel hy
      go_wp2_with fail
      refine (HC.out _ hy1.out).mono ?_
      rintro e w1 ⟨z, rfl, hz, hb1⟩
      obtain ⟨za, zc, rfl⟩ := hz.slice
      have hown1 := HOw.out.keep hb1 (Nat.le_refl _)
      have HE1 : Hid (∀ p ∈ qs, OwnR 81 3 itC w1 (w.heap.size + 1) p.2 p.1.its) := Lib.hid (fun p hp => (HE.out p hp).keep hb1 (Nat.le_refl _))
      have HZ := Lib.hid (HJ.out w1 _ HE1.out (hz.base_mono (by omega)))
      have hbel1 := HBl.out.trans (hb1.mono HBl.out.size)
      have hgr1 : w.heap.size < w1.heap.size := by have := hb1.size; omega
      have hfr : ∀ j, w1.frozen? ⟨w.heap.size, j, none⟩ = false := fun j => hown1.free (by simp; omega) j
      obtain ⟨x0, d0⟩ := hown1.cell opC_len (by simp; omega) k 0 hlt (by decide)
      obtain ⟨x1, d1⟩ := hown1.cell opC_len (by simp; omega) k 1 hlt (by decide)
      obtain ⟨x2, d2⟩ := hown1.cell opC_len (by simp; omega) k 2 hlt (by decide)
      obtain ⟨x3, d3⟩ := hown1.cell opC_len (by simp; omega) k 3 hlt (by decide)
      obtain ⟨x4, d4⟩ := hown1.cell opC_len (by simp; omega) k 4 hlt (by decide)
      obtain ⟨x5, d5⟩ := hown1.cell opC_len (by simp; omega) k 5 hlt (by decide)
      obtain ⟨x6, d6⟩ := hown1.cell opC_len (by simp; omega) k 6 hlt (by decide)
      rw [Nat.add_zero] at d0
      have HO1 := Lib.hid hown1
      clear hown1 HOw hb1 HBl c0 c1 c2 c3 c4 c5 c6 hz HE HE1 hql
      go_wp2
      have n1 := HM'.out (.slice za P.its.length zc)
      have n2 := HP.out w1 (.slice za P.its.length zc) HO1.out
      have n3 := HEn.out w1 (.slice za P.its.length zc) HZ.out
      have n4 := HQ.out w1 (.slice za P.its.length zc) hbel1
      have n5 := Nat.lt_of_lt_of_eq hgr1 (HSz.out w1 (.slice za P.its.length zc)).symm
      refine ⟨⟨k + 1, qs ++ [(P, .slice za P.its.length zc)], by omega, by simp, Lib.hid n1, n2, Lib.hid n3, n4, n5⟩, ?_⟩
      simp [intOf]; omega
    · go_wp2
      go_ret
      have : k = os.length := by omega
      subst this
      simp only [Nat.sub_self, List.replicate_zero, List.append_nil] at hown
      have hM := HM.out
      rw [List.take_length] at hM
      exact ⟨_, rfl, ⟨qs, hM, hown, fun p hp => (HE.out p hp).base_mono (by omega)⟩, hbel⟩
end Go.Proofs.YtfjaincogbdeiaaGreatDoor

/- W12c -/
namespace Go.Proofs.YtfjaincogbdeiaaGreatDoor
open Go.ChangeShapes Go.WideShapes Go.ChangeAt Go.RowKit
set_option linter.unusedVariables false

theorem conv_two (w : World) (b c : UInt8) (x y : Int) (hx : x = (b.toNat : Int)) (hy : y = (c.toNat : Int)) : (convert 56 9 (.slice (some ⟨w.heap.size, 0, none⟩) 2 2)).run Tryz.prog (w.alloc (.cells #[.int .u8 x, .int .u8 y] 5)) = .ok (.string ⟨#[b, c]⟩) (w.alloc (.cells #[.int .u8 x, .int .u8 y] 5)) := by
  subst hx hy
  refine run_convert_bytes_back _ 56 9 5 ⟨w.heap.size, 0, none⟩ 2 [b, c] Tryz.underlying56 Tryz.underlying5 Tryz.underlying9 ?_
  intro j hj
  have : j = 0 ∨ j = 1 := by simp at hj; omega
  rcases this with rfl | rfl
  · simp [go_sem]
  · simp [go_sem]
/-- A box with its length ahead. -/
def frB (s : ByteArray) : ByteArray := ⟨#[UInt8.ofNat (s.size / 256), UInt8.ofNat (s.size % 256)]⟩ ++ s
theorem frB_size (s : ByteArray) : (frB s).size = s.size + 2 := by unfold frB; rw [ByteArray.size_append, Nat.add_comm]; rfl
theorem ofNat_lt (n : Nat) (h : n < 256) : ((UInt8.ofNat n).toNat : Int) = (n : Int) := by simp; omega

set_option maxRecDepth 100000 in
set_option maxHeartbeats 1600000 in
theorem withLength_any (s : ByteArray) (w : World) (hs : s.size ≤ 60000) :
    Calls Tryz.prog 31 #[.string s] w fun e w' => e = .returned (.string (frB s)) ∧ Below w.heap.size w w' := by
  have h1 : IntKind.u8.wrap ((s.size : Int) / 256) = ((UInt8.ofNat (s.size / 256)).toNat : Int) := by rw [ofNat_lt _ (by omega), IntKind.wrap_u8]; omega
  have h2 : IntKind.u8.wrap (s.size : Int) = ((UInt8.ofNat (s.size % 256)).toNat : Int) := by rw [ofNat_lt _ (by omega), IntKind.wrap_u8]; omega
  have HE : Hid (frB s = ⟨#[UInt8.ofNat (s.size / 256), UInt8.ofNat (s.size % 256)]⟩ ++ s) := Lib.hid rfl
  generalize UInt8.ofNat (s.size / 256) = b at h1 HE
  generalize UInt8.ofNat (s.size % 256) = c at h2 HE
  have hcv := conv_two w b c _ _ rfl rfl
  generalize frB s = R at HE ⊢
  have hR := HE.out.symm
  have hz : (⟨#[b, c]⟩ : ByteArray).size = 2 := rfl
  have hz2 : (⟨#[b, c]⟩ : ByteArray).size + s.size ≤ 9223372036854775807 := by omega
  generalize (⟨#[b, c]⟩ : ByteArray) = H at hcv hR hz2 HE
  generalize (b.toNat : Int) = x at h1 hcv
  generalize (c.toNat : Int) = y at h2 hcv
  clear HE hz
  go_enter Tryz.func31, Tryz.ntmps31
  go_wp2
  go_ret
  exact ⟨rfl, (Below.refl _ _).alloc (Nat.le_refl _) _⟩

set_option maxRecDepth 100000 in
set_option maxHeartbeats 1600000 in
theorem l12Frame_any (s : ByteArray) (w : World) (hs : s.size ≤ 60000) :
    Calls Tryz.prog 27 #[.string s] w fun e w' => e = .returned (.string (frB s)) ∧ Below w.heap.size w w' := by
  have h1 : IntKind.u8.wrap ((s.size : Int) / 256) = ((UInt8.ofNat (s.size / 256)).toNat : Int) := by rw [ofNat_lt _ (by omega), IntKind.wrap_u8]; omega
  have h2 : IntKind.u8.wrap ((s.size : Int) % 256) = ((UInt8.ofNat (s.size % 256)).toNat : Int) := by rw [ofNat_lt _ (by omega), IntKind.wrap_u8]; omega
  have HE : Hid (frB s = ⟨#[UInt8.ofNat (s.size / 256), UInt8.ofNat (s.size % 256)]⟩ ++ s) := Lib.hid rfl
  generalize UInt8.ofNat (s.size / 256) = b at h1 HE
  generalize UInt8.ofNat (s.size % 256) = c at h2 HE
  have hcv := conv_two w b c _ _ rfl rfl
  generalize frB s = R at HE ⊢
  have hR := HE.out.symm
  have hz : (⟨#[b, c]⟩ : ByteArray).size = 2 := rfl
  have hz2 : (⟨#[b, c]⟩ : ByteArray).size + s.size ≤ 9223372036854775807 := by omega
  generalize (⟨#[b, c]⟩ : ByteArray) = H at hcv hR hz2 HE
  generalize (b.toNat : Int) = x at h1 hcv
  generalize (c.toNat : Int) = y at h2 hcv
  clear HE hz
  go_enter Tryz.func27, Tryz.ntmps27
  go_wp2
  go_ret
  exact ⟨rfl, (Below.refl _ _).alloc (Nat.le_refl _) _⟩

/-- The tag ahead. -/
def noB : ByteArray := ⟨#[110, 111, 32, 98, 111, 120, 32, 105, 115, 32, 97, 104, 101, 97, 100, 46]⟩
def l16 (s : ByteArray) : ByteArray := s.extract (s.size - 16) s.size
theorem l16_size (s : ByteArray) (h : 16 ≤ s.size) : (l16 s).size = 16 := by unfold l16; rw [ByteArray.size_extract]; omega
def tgB (s : ByteArray) : ByteArray := if s.size = 0 then noB else l16 s
theorem tgB_size (s : ByteArray) (h : s.size = 0 ∨ 16 ≤ s.size) : (tgB s).size = 16 := by
  unfold tgB
  by_cases h0 : s.size = 0
  · rw [if_pos h0]; rfl
  · rw [if_neg h0]; exact l16_size s (by omega)

set_option maxRecDepth 100000 in
set_option maxHeartbeats 1600000 in
theorem tagAhead_any (s : ByteArray) (w : World) (h : s.size = 0 ∨ 16 ≤ s.size) (hm : s.size ≤ 100000) :
    Calls Tryz.prog 30 #[.string s] w fun e w' => e = .returned (.string (tgB s)) ∧ w' = w := by
  by_cases h0 : s.size = 0
  · have HE : Hid (tgB s = noB) := Lib.hid (by unfold tgB; rw [if_pos h0])
    rw [HE.out]
    have hs : s = ⟨#[]⟩ := by
      obtain ⟨⟨l⟩⟩ := s
      have h1 : l.length = 0 := h0
      have : l = [] := List.eq_nil_of_length_eq_zero h1
      rw [this]
    subst hs
    clear h h0 hm HE
    go_enter Tryz.func30, Tryz.ntmps30
    go_wp2
    go_ret
    exact ⟨rfl, rfl⟩
  · have HE : Hid (tgB s = s.extract (s.size - 16) s.size) := Lib.hid (by unfold tgB; rw [if_neg h0]; rfl)
    rw [HE.out]
    have hne : s.toList.isEmpty = false := by
      rw [ByteArray.toList_eq]
      cases hh : s.data.toList with
      | nil => exact absurd (by have e : s.data.toList.length = s.size := (by simp); rw [hh] at e; exact e.symm) h0
      | cons a l => rfl
    obtain ⟨m, hm2⟩ : ∃ m, s.size = m + 16 := ⟨s.size - 16, by omega⟩
    have hw : IntKind.i64.wrap ((s.size : Int) - 16) = ((s.size - 16 : Nat) : Int) := by rw [IntKind.wrap_i64]; omega
    have hw2 : (s.size : Int) - 16 = ((s.size - 16 : Nat) : Int) := by omega
    have HM2 := Lib.hid hm2
    clear h HE
    go_enter Tryz.func30, Tryz.ntmps30
    go_wp2
    go_ret
    exact ⟨ret_str (by have e := HM2.out; rw [show s.size - 16 = m by omega, e]), rfl⟩

set_option maxRecDepth 100000 in
set_option maxHeartbeats 1600000 in
theorem areOps_any (v : Value) (os : List OpD) (w : World) (h : OpsAt w w.heap.size v os) :
    Calls Tryz.prog 28 #[v] w fun e w' => e = .returned (.bool (os.all opB)) ∧ Below w.heap.size w w' := by
  have HI := Lib.hid h
  obtain ⟨a, cap, rfl, hl, hm, hc⟩ := h.raw
  clear hc h
  unfold maxLen at hm
  have HX : Hid (∀ k (hk : k < os.length), opB os[k] = false → os.all opB = false) := Lib.hid (fun k hk h => by
    rw [List.all_eq_false]
    exact ⟨_, List.getElem_mem hk, by rw [h]; simp⟩)
  have HD : Hid ((∀ j (hj : j < os.length), opB os[j] = true) → os.all opB = true) := Lib.hid (fun h => by
    rw [List.all_eq_true]
    intro o ho
    obtain ⟨j, hj, rfl⟩ := List.getElem_of_mem ho
    exact h j hj)
  generalize os.all opB = RR at HX HD ⊢
  go_enter Tryz.func28, Tryz.ntmps28
  go_wp2
  go_loopw [7] (fun i wr => ∃ k : Nat, k ≤ os.length ∧ i = .int .i64 (k : Int) ∧ Below w.heap.size w wr ∧ Hid (∀ j (hj : j < os.length), j < k → opB os[j] = true)) (fun i _ => os.length - (intOf i).toNat)
  case atStart => exact ⟨0, Nat.zero_le _, rfl, Below.refl _ _, Lib.hid (fun j hj h => by omega)⟩
  case round =>
    obtain ⟨k, hk, rfl, hB, HO⟩ := hrel
    by_cases hlt : k < os.length
    · obtain ⟨a', cap', hv, _, _, hc⟩ := (HI.out.below hB).raw
      cases hv
      obtain ⟨b, off, rfl, hb, hr⟩ := hc k hlt
      obtain ⟨y, c0, c1, c2, c3, c4, c5, c6, hy, hz⟩ := hr k hlt
      have HK := Lib.hid (HX.out k hlt)
      have HC := Lib.hid (fun w (hy : ItAt w w.heap.size y os[k].its) => implOpOk_any os[k] y w hy hz)
      have HN : Hid (opB os[k] = true → ∀ j (hj : j < os.length), j < k + 1 → opB os[j] = true) := Lib.hid (fun h j hj hjk => by
        by_cases e : j = k
        · subst e; exact h
        · exact HO.out j hj (by omega))
      obtain ⟨ya, yc, rfl⟩ := hy.1.slice
      obtain ⟨P, hP⟩ : ∃ P, P = os[k] := ⟨_, rfl⟩
      rw [← hP] at c0 c1 c2 c3 c4 c5 c6 hy HC HK HN
      have hba : Below wr.heap.size wr (wr.alloc (.cells #[.int .i64 P.k, .string P.u, .string P.i, .int .i64 P.d, .string P.fu, .string P.ft, .slice ya P.its.length yc] 33)) := (Below.refl _ _).alloc (Nat.le_refl _) _
      have hB1 := hB.trans (hba.mono hB.size)
      have HY := Lib.hid (((hy.mono hB.size).below hba).mono hba.size)
      generalize opB P = Q at HC HK HN
      clear hr hc hP hz hy hB hba
      go_wp2_with fail
      refine (HC.out _ HY.out).mono ?_
      rintro e w1 ⟨rfl, hb1⟩
      have hB2 := hB1.trans (hb1.mono hB1.size)
      clear hb1 hB1 c0 c1 c2 c3 c4 c5 c6 HY HC
      cases Q with
      | false =>
        have HZ := Lib.hid (HK.out rfl)
        go_wp2
        go_ret
        exact ⟨ret_bool HZ.out.symm, hB2⟩
      | true =>
        have HN' := Lib.hid (HN.out rfl)
        go_wp2
        go_roundw
        case rel => exact ⟨k + 1, by omega, by go_num, hB2, HN'⟩
        case measure => simp [intOf]; omega
    · have HZ : Hid (RR = true) := Lib.hid (HD.out (fun j hj => HO.out j hj (by omega)))
      go_wp2
      go_ret
      exact ⟨ret_bool HZ.out.symm, hB⟩

/-- What the boxes of a log are, one behind the other. -/
noncomputable def lgX (key : ByteArray) : List OpD → Nat → ByteArray → List UInt8
  | [], _, _ => []
  | o :: os, n, last => (frB (bxB key n last o)).data.toList ++ lgX key os (n + 1) (l16 (bxB key n last o))
theorem bxB_least (key : ByteArray) (n : Nat) (last : ByteArray) (o : OpD) : 16 ≤ (bxB key n last o).size := by
  unfold bxB sealB
  rw [ByteArray.size_append, ncB_size, ByteArray.size_append, strB_size]
  have h1 := room_end ((opX o).size + 1) 64 (by omega)
  have h2 : (ptO o).size = (opX o).size + 1 + room ((opX o).size + 1) 64 := by unfold ptO; rw [padT_size]
  omega
theorem tgB_box (key : ByteArray) (n : Nat) (last : ByteArray) (o : OpD) : tgB (bxB key n last o) = l16 (bxB key n last o) := by
  have := bxB_least key n last o
  unfold tgB
  rw [if_neg (by omega)]
theorem lgX_step (key : ByteArray) (os : List OpD) (p n : Nat) (last : ByteArray) (hp : p < os.length) : lgX key (os.drop p) n last = (frB (bxB key n last os[p])).data.toList ++ lgX key (os.drop (p + 1)) (n + 1) (l16 (bxB key n last os[p])) := by
  rw [List.drop_eq_getElem_cons hp]
  rfl
theorem OwnB.keep {w w' : World} {base B : Nat} {v : Value} {l : List UInt8} (h : OwnB w base v l) (hb : Below B w w') (hB : w.heap.size ≤ B) : OwnB w' base v l := by
  refine ⟨h.1, ?_⟩
  rcases h.2 with hn | ⟨g, cap, cur, rfl, hb', hg, rest⟩
  · exact .inl hn
  · refine .inr ⟨g, cap, cur, rfl, hb', ?_, rest⟩
    have := (Array.getElem?_eq_some_iff.1 hg).1
    rw [hb.block g (by omega)]
    exact hg
theorem OwnB.other {w : World} {base : Nat} {v : Value} {l : List UInt8} (h : OwnB w base v l) (p : Addr) (x : Value) (hp : p.block < base) : OwnB (w.setCell p x) base v l := by
  refine ⟨h.1, ?_⟩
  rcases h.2 with hn | ⟨g, cap, cur, rfl, hb', hg, rest⟩
  · exact .inl hn
  · refine .inr ⟨g, cap, cur, rfl, hb', ?_, rest⟩
    rw [Below.heap_setCell _ _ _ _ (by omega)]
    exact hg
/-- The closure that adds boxes. -/
def lgF (gk gl gg gf : Nat) : Value := .func (.func 29) #[] #[.pointer (some ⟨gl, 0, none⟩), .pointer (some ⟨gk, 0, none⟩), .pointer (some ⟨gg, 0, none⟩), .pointer (some ⟨gf, 0, none⟩)]
/-- What the closure finds when it is called. -/
structure LgS (w0 : World) (B2 : Nat) (key : ByteArray) (v : Value) (gk gl gg gf : Nat) (L : List UInt8) (lv : Value) (w : World) : Prop where
  k : Box w gk #[.string key] 9
  l : Box w gl #[v] 40
  g : Box w gg #[lv] 56
  f : Box w gf #[lgF gk gl gg gf] 57
  own : OwnB w B2 lv L
  bel : Below w0.heap.size w0 w
  hk : gk < B2
  hl : gl < B2
  hg : gg < B2
  hf : gf < B2
  b0 : w0.heap.size ≤ gg
  b2 : B2 ≤ w.heap.size
  nkg : gk ≠ gg
  nlg : gl ≠ gg
  nfg : gf ≠ gg
theorem LgS.below {w0 : World} {B2 : Nat} {key : ByteArray} {v : Value} {gk gl gg gf : Nat} {L : List UInt8} {lv : Value} {w w' : World} (h : LgS w0 B2 key v gk gl gg gf L lv w) (hb : Below w.heap.size w w') : LgS w0 B2 key v gk gl gg gf L lv w' :=
  ⟨h.k.keep hb h.k.lt, h.l.keep hb h.l.lt, h.g.keep hb h.g.lt, h.f.keep hb h.f.lt, h.own.keep hb (Nat.le_refl _), h.bel.trans (hb.mono h.bel.size), h.hk, h.hl, h.hg, h.hf, h.b0, Nat.le_trans h.b2 hb.size, h.nkg, h.nlg, h.nfg⟩
theorem LgS.drew {w0 : World} {B2 : Nat} {key : ByteArray} {v : Value} {gk gl gg gf : Nat} {L : List UInt8} {lv : Value} {w : World} (h : LgS w0 B2 key v gk gl gg gf L lv w) : LgS w0 B2 key v gk gl gg gf L lv w.drew :=
  ⟨h.k, h.l, h.g, h.f, h.own, h.bel.drew, h.hk, h.hl, h.hg, h.hf, h.b0, h.b2, h.nkg, h.nlg, h.nfg⟩
/-- A text appended, and the box of the log written. -/
theorem LgS.app {w0 : World} {B2 : Nat} {key : ByteArray} {v : Value} {gk gl gg gf : Nat} {L : List UInt8} {lv : Value} {w : World} (h : LgS w0 B2 key v gk gl gg gf L lv w) (hw0 : w0.heap.size ≤ B2) (s : ByteArray) (hL : L.length + s.size ≤ 100000000) (ty : TypeId) :
    ∃ v' w', (Builtin.append_ #[56, 9] ty #[lv, .string s]).run Tryz.prog w = .ok v' w' ∧ Box w' gg #[lv] 56 ∧ LgS w0 B2 key v gk gl gg gf (L ++ s.data.toList) v' (w'.setCell ⟨gg, 0, none⟩ v') ∧ (∃ a n c, v' = .slice a n c) := by
  obtain ⟨i0, hi, hz0, hz1, hz2⟩ := info_parts Tryz.infoU8
  obtain ⟨v', w', hr, h2, h3, h4⟩ := Lib.run_append_own_string (P := Tryz.prog) (w := w) B2 56 9 ty 5 i0 Tryz.underlying56 Tryz.underlying9 hi hz0 hz1 hz2 lv L.length (L.map bc) h.own s (by unfold maxLen; omega) (by omega) h.b2
  have hb : Below B2 w w' := (Below.refl _ _).grown h3 h.b2 (ownBlock_base h.own)
  have e2 : (L ++ s.data.toList).length = L.length + s.size := by simp
  have hown : OwnB w' B2 v' (L ++ s.data.toList) := by
    unfold OwnB
    rw [e2, List.map_append]
    have e3 : Lib.strCells s = s.data.toList.map bc := by simp [Lib.strCells, bc]
    rw [← e3]
    exact h2
  have hs : ∃ a n c, v' = .slice a n c := by
    rcases hown.2 with ⟨rfl, _⟩ | ⟨g, cap, cur, rfl, _⟩
    · exact ⟨_, _, _, rfl⟩
    · exact ⟨_, _, _, rfl⟩
  have hk' := h.k.keep hb h.hk
  have hl' := h.l.keep hb h.hl
  have hg' := h.g.keep hb h.hg
  have hf' := h.f.keep hb h.hf
  have hbe := h.bel.trans (hb.mono hw0)
  have hsz := Nat.le_trans h.b2 hb.size
  refine ⟨v', w', hr, ?_, ?_, hs⟩
  · exact hg'
  · refine ⟨hk'.other ⟨gg, 0, none⟩ v' h.nkg, hl'.other ⟨gg, 0, none⟩ v' h.nlg, ?_, hf'.other ⟨gg, 0, none⟩ v' h.nfg, hown.other ⟨gg, 0, none⟩ v' h.hg, hbe.setCell (p := ⟨gg, 0, none⟩) h.b0 v', h.hk, h.hl, h.hg, h.hf, h.b0, by simpa [World.setCell] using hsz, h.nkg, h.nlg, h.nfg⟩
    exact hg'.set 0 v'
end Go.Proofs.YtfjaincogbdeiaaGreatDoor

/- W12d -/
namespace Go.Proofs.YtfjaincogbdeiaaGreatDoor
open Go.ChangeShapes Go.WideShapes Go.ChangeAt Go.RowKit
set_option linter.unusedVariables false

theorem bxR_at (key : ByteArray) (p : Nat) (last : ByteArray) (o : OpD) (hk : key.size = 32) (hp : p + 1 ≤ 1000000) (hl : last.size = 16) (hop : opB o = true) : bxR key ((p : Int) + 1) last o = bxB key (p + 1) last o := by
  unfold bxR
  rw [if_pos ⟨hk, by omega, by omega, hl, hop⟩]
  have e : ((p : Int) + 1).toNat = p + 1 := by omega
  rw [e]
/-- append of a text, at one step. -/
theorem wp_appS {w w' : World} {o : Oper} {a : Act} {K : Act → World → Prop} {Q : Exit → Act → World → Prop} (s x : Operand) (ho : o.op = .call { callee := .builtin .append, args := #[s, x], argTypes := #[56, 9] }) (v xv v' : Value) (hs : a.eval s = v) (hx : a.eval x = xv) (hrun : (Builtin.append_ #[56, 9] o.type #[v, xv]).run Tryz.prog w = .ok v' w') (h : K (a.put o.dst v') w') : o.wp Tryz.prog a w K Q := by
  unfold Oper.wp
  simp [execOp, ho, resolve, invoke, builtin, hs, hx, hrun, Result.andThen]
  exact h
/-- What the closure leaves. -/
def LgO (w0 : World) (B2 : Nat) (key : ByteArray) (v : Value) (gk gl gg gf : Nat) (L : List UInt8) (w : World) : Prop := ∃ lv, LgS w0 B2 key v gk gl gg gf L lv w

set_option maxRecDepth 100000 in
set_option maxHeartbeats 3000000 in
theorem logFrom_any (w0 : World) (B2 : Nat) (key : ByteArray) (v : Value) (os : List OpD) (gk gl gg gf : Nat) (hkey : key.size = 32) (hO : OpsAt w0 w0.heap.size v os) (hall : ∀ o ∈ os, opB o = true) (hT : TabsB w0) (hn : os.length ≤ 200) (hw0 : w0.heap.size ≤ B2) :
    ∀ (d p : Nat) (ahead : ByteArray) (L : List UInt8) (w : World), p + d = os.length → (ahead.size = 0 ∨ 16 ≤ ahead.size) → ahead.size ≤ 3146 → L.length ≤ 3200 * p → LgO w0 B2 key v gk gl gg gf L w →
    Calls Tryz.prog 29 #[.int .i64 (p : Int), .string ahead, .pointer (some ⟨gl, 0, none⟩), .pointer (some ⟨gk, 0, none⟩), .pointer (some ⟨gg, 0, none⟩), .pointer (some ⟨gf, 0, none⟩)] w fun e w' => (∃ x, e = .returned x) ∧ LgO w0 B2 key v gk gl gg gf (L ++ lgX key (os.drop p) (p + 1) (tgB ahead)) w' := by
  have HO := Lib.hid hO
  have HT := Lib.hid hT
  have HAll := Lib.hid hall
  have HK32 := Lib.hid hkey
  obtain ⟨a, cap, rfl, hl, hm, hc⟩ := hO.raw
  unfold maxLen at hm
  clear hc hO hT hall hkey
  intro d
  induction d with
  | zero =>
    intro p ahead L w hp ha1 ha2 hL hS
    obtain ⟨lv, hs⟩ := hS
    have HF : Hid (LgO w0 B2 key (.slice a os.length cap) gk gl gg gf (L ++ lgX key (os.drop p) (p + 1) (tgB ahead)) w) := Lib.hid (by
      rw [List.drop_of_length_le (by omega)]
      show LgO _ _ _ _ _ _ _ _ (L ++ []) _
      rw [List.append_nil]
      exact ⟨lv, hs⟩)
    have c0 := hs.l.cell 0 _ rfl
    have hpe : ((p : Int) == (os.length : Int)) = true := beq_iff_eq.2 (by omega)
    clear hs ha1 ha2 hL
    go_enter Tryz.func29, Tryz.ntmps29
    go_wp2
    try simp only [Exit.inBlock, Exit.then]
    refine bodyPost_ret (results_none rfl _ _ _) rfl ?_
    exact ⟨⟨_, rfl⟩, HF.out⟩
  | succ d ih =>
    intro p ahead L w hp ha1 ha2 hL hS
    have HIH := Lib.hid ih
    clear ih
    obtain ⟨lv, hs⟩ := hS
    have hlt : p < os.length := by omega
    have HB := Lib.hid hs.bel
    obtain ⟨a', cap', hv, _, _, hc⟩ := (HO.out.below hs.bel).raw
    cases hv
    obtain ⟨b, off, rfl, hb, hr⟩ := hc p hlt
    obtain ⟨y, c0, c1, c2, c3, c4, c5, c6, hy, hz⟩ := hr p hlt
    obtain ⟨xa, xc, rfl⟩ := hy.1.slice
    have hop := HAll.out _ (List.getElem_mem hlt)
    have HSt := Lib.hid (lgX_step key os p (p + 1) (tgB ahead) hlt)
    obtain ⟨P, hP⟩ : ∃ P, P = os[p] := ⟨_, rfl⟩
    rw [← hP] at c0 c1 c2 c3 c4 c5 c6 hy hz hop HSt
    have hts := tgB_size ahead ha1
    have HTg := Lib.hid (fun w => tagAhead_any ahead w ha1 (by omega))
    have HBx := Lib.hid (fun w h hT => implBoxOf_any key ((p : Int) + 1) (tgB ahead) P (.slice xa P.its.length xc) w (by have := HK32.out; unfold maxLen; omega) (by unfold maxLen; omega) h hz hT)
    have HBe := Lib.hid (bxR_at key p (tgB ahead) P HK32.out (by omega) hts hop)
    rw [HBe.out] at HBx
    have hbs := bxB_size key (p + 1) (tgB ahead) P
    have hbl := bxB_least key (p + 1) (tgB ahead) P
    have HTb0 := Lib.hid (tgB_box key (p + 1) (tgB ahead) P)
    generalize bxB key (p + 1) (tgB ahead) P = BX at HBx HSt hbs hbl HTb0
    rw [← HTb0.out] at HSt
    generalize tgB ahead = TG at HTg HBx HSt ⊢
    have HFr := Lib.hid (fun w => withLength_any BX w (by omega))
    have hfs := frB_size BX
    have hfs2 : (frB BX).data.toList.length = (frB BX).size := by simp
    generalize frB BX = FR at HFr HSt hfs hfs2
    have HIt := Lib.hid (hy.mono hs.bel.size)
    have HTb := Lib.hid (HT.out.below hs.bel (Nat.le_refl _))
    have HP1 : Hid (IntKind.i64.wrap ((p : Int) + 1) = (p : Int) + 1) := Lib.hid (by rw [IntKind.wrap_i64]; omega)
    have hpe : ((p : Int) == (os.length : Int)) = false := beq_eq_false_iff_ne.2 (by omega)
    have f0 := hs.l.cell 0 _ rfl
    have hbw : b < w.heap.size := by have := hs.bel.size; omega
    have hA : (fun w' => (Box w' gk #[.string key] 9 ∧ Box w' gl #[.slice (some ⟨b, off, none⟩) os.length cap] 40) ∧ w'.cell? ⟨b, off + p * 7, none⟩ = some (.int .i64 P.k) ∧ w'.cell? ⟨b, off + p * 7 + 1, none⟩ = some (.string P.u) ∧ w'.cell? ⟨b, off + p * 7 + 2, none⟩ = some (.string P.i) ∧ w'.cell? ⟨b, off + p * 7 + 3, none⟩ = some (.int .i64 P.d) ∧ w'.cell? ⟨b, off + p * 7 + 4, none⟩ = some (.string P.fu) ∧ w'.cell? ⟨b, off + p * 7 + 5, none⟩ = some (.string P.ft) ∧ w'.cell? ⟨b, off + p * 7 + 6, none⟩ = some (.slice xa P.its.length xc)) w.drew := ⟨⟨hs.k, hs.l⟩, c0, c1, c2, c3, c4, c5, c6⟩
    have HKA : Hid (∀ w2, Below w.drew.heap.size w.drew w2 → (fun w' => (Box w' gk #[.string key] 9 ∧ Box w' gl #[.slice (some ⟨b, off, none⟩) os.length cap] 40) ∧ w'.cell? ⟨b, off + p * 7, none⟩ = some (.int .i64 P.k) ∧ w'.cell? ⟨b, off + p * 7 + 1, none⟩ = some (.string P.u) ∧ w'.cell? ⟨b, off + p * 7 + 2, none⟩ = some (.string P.i) ∧ w'.cell? ⟨b, off + p * 7 + 3, none⟩ = some (.int .i64 P.d) ∧ w'.cell? ⟨b, off + p * 7 + 4, none⟩ = some (.string P.fu) ∧ w'.cell? ⟨b, off + p * 7 + 5, none⟩ = some (.string P.ft) ∧ w'.cell? ⟨b, off + p * 7 + 6, none⟩ = some (.slice xa P.its.length xc)) w2) := Lib.hid (fun w2 hb2 => by
      have kc : ∀ o x, w.cell? ⟨b, o, none⟩ = some x → w2.cell? ⟨b, o, none⟩ = some x := fun o x h => by
        rw [hb2.cell (p := ⟨b, o, none⟩) hbw]; exact h
      exact ⟨⟨hs.drew.k.keep hb2 hs.k.lt, hs.drew.l.keep hb2 hs.l.lt⟩, kc _ _ c0, kc _ _ c1, kc _ _ c2, kc _ _ c3, kc _ _ c4, kc _ _ c5, kc _ _ c6⟩)
    have HS := Lib.hid hs
    clear hr hc hy hz hs hP HBe HTb0 hop c0 c1 c2 c3 c4 c5 c6 HB
    go_enter Tryz.func29, Tryz.ntmps29
    go_wp2
    clear f0
    refine wp_region_T (fun w' => (Box w' gk #[.string key] 9 ∧ Box w' gl #[.slice (some ⟨b, off, none⟩) os.length cap] 40) ∧ w'.cell? ⟨b, off + p * 7, none⟩ = some (.int .i64 P.k) ∧ w'.cell? ⟨b, off + p * 7 + 1, none⟩ = some (.string P.u) ∧ w'.cell? ⟨b, off + p * 7 + 2, none⟩ = some (.string P.i) ∧ w'.cell? ⟨b, off + p * 7 + 3, none⟩ = some (.int .i64 P.d) ∧ w'.cell? ⟨b, off + p * 7 + 4, none⟩ = some (.string P.fu) ∧ w'.cell? ⟨b, off + p * 7 + 5, none⟩ = some (.string P.ft) ∧ w'.cell? ⟨b, off + p * 7 + 6, none⟩ = some (.slice xa P.its.length xc)) (fun _ => True) 10 (by kernel_rfl) 11 rfl ?_
    refine wpAnyT_takesA (md := .any) 3 (by kernel_rfl) (by intro d v c a w h; cases d <;> exact h) [0, 1, 2, 3, 5, 6, 7, 8] _ _ _ (by decide) (by kernel_rfl) ⟨hA, fun _ => trivial⟩ ?_
    simp only [pick, List.filterMap_cons, List.filterMap_nil, List.getElem?_cons_zero, List.getElem?_cons_succ]
    refine wpIf_step (.string key) (by kernel_rfl) (fun w hw => by have e0 := hw.1.1.cell 0 _ rfl; go_simp) ?_
    refine wpIf_step (.int .i64 (p : Int)) (by kernel_rfl) (fun w hw => by go_simp) ?_
    refine wpIf_step (.int .i64 ((p : Int) + 1)) (by kernel_rfl) (fun w hw => by have hp1 := HP1.out; go_simp) ?_
    refine wpIf_step (.string ahead) (by kernel_rfl) (fun w hw => by go_simp) ?_
    refine wpIf_step (.slice (some ⟨b, off, none⟩) os.length cap) (by kernel_rfl) (fun w hw => by have e0 := hw.1.2.cell 0 _ rfl; go_simp) ?_
    refine wpIf_step (.int .i64 (p : Int)) (by kernel_rfl) (fun w hw => by go_simp) ?_
    refine wpIf_step (.pointer (some ⟨b, off + p * 7, none⟩)) (by kernel_rfl) (fun w hw => by go_simp) ?_
    refine wpIf_step (opV P (.slice xa P.its.length xc)) (by kernel_rfl) (fun w hw => by have e0 := hw.2.1; have e1 := hw.2.2.1; have e2 := hw.2.2.2.1; have e3 := hw.2.2.2.2.1; have e4 := hw.2.2.2.2.2.1; have e5 := hw.2.2.2.2.2.2.1; have e6 := hw.2.2.2.2.2.2.2; go_simp) ?_
    refine wpIf_nil (fun hS => ?_)
    clear hS
    refine wpAnyT_one 4 2 (by kernel_rfl) rfl (by kernel_rfl) (fun K hK => ?_)
    go_simp
    refine (HTg.out _).mono ?_
    rintro e w1 ⟨rfl, rfl⟩
    refine hK _ _ ⟨hA, fun _ => trivial⟩ (fun hS => ?_)
    clear hK K hS
    refine wpAnyT_one 9 1 (by kernel_rfl) rfl (by kernel_rfl) (fun K hK => ?_)
    go_simp
    refine (HBx.out w.drew HIt.out HTb.out).mono ?_
    rintro e w2 ⟨rfl, hb2⟩
    have hA2 := HKA.out w2 hb2
    refine hK _ _ ⟨hA2, fun _ => trivial⟩ (fun hS => ?_)
    clear hK K hS
    refine wpAnyT_one 10 0 (by kernel_rfl) rfl (by kernel_rfl) (fun K hK => ?_)
    go_simp
    refine hK _ _ ⟨hA2, fun _ => trivial⟩ (fun hS => ?_)
    clear hK K hS
    refine wpAnyT_over (by kernel_rfl) ?_
    have hs2 := HS.out.drew.below hb2
    clear hb2 hA2 hA HKA
    have hA3 := hs2.drew
    clear hs2
    have HI2 : Hid (∀ (W : World), LgO w0 B2 key (.slice (some ⟨b, off, none⟩) os.length cap) gk gl gg gf (L ++ FR.data.toList) W → Calls Tryz.prog 29 #[.int .i64 ((p : Int) + 1), .string BX, .pointer (some ⟨gl, 0, none⟩), .pointer (some ⟨gk, 0, none⟩), .pointer (some ⟨gg, 0, none⟩), .pointer (some ⟨gf, 0, none⟩)] W fun e w' => (∃ x, e = .returned x) ∧ LgO w0 B2 key (.slice (some ⟨b, off, none⟩) os.length cap) gk gl gg gf (L ++ lgX key (os.drop p) (p + 1) TG) w') := Lib.hid (fun W hW => by
      have h := HIH.out (p + 1) BX (L ++ FR.data.toList) W (by omega) (.inr hbl) hbs (by rw [List.length_append]; omega) hW
      rw [show ((p + 1 : Nat) : Int) = (p : Int) + 1 from rfl] at h
      refine h.mono ?_
      rintro e w' ⟨h1, h2⟩
      rw [HSt.out, ← List.append_assoc]
      exact ⟨h1, h2⟩)
    have hLs : L.length + FR.size ≤ 100000000 := by omega
    clear HIH HSt HBx HTg HIt HTb hfs2 hbl hts
    go_wp2
    refine wp_region_T (fun _ => True) (fun w' => Box w' gg #[lv] 56) 4 (by kernel_rfl) 5 rfl ?_
    refine wpAnyT_takesA (md := .any) 4 (by kernel_rfl) (by intro d v c a w h; cases d <;> exact h) [1] _ _ _ (by decide) (by kernel_rfl) ⟨trivial, fun _ => hA3.g⟩ ?_
    simp only [pick, List.filterMap_cons, List.filterMap_nil, List.getElem?_cons_zero, List.getElem?_cons_succ]
    refine wpIf_step (.string BX) (by kernel_rfl) (fun w hw => by go_simp) ?_
    refine wpIf_nil (fun hS => ?_)
    refine wpAnyT_takesB (md := .any) 3 (by kernel_rfl) (by intro d v c a w h; cases d <;> exact h) [0] _ _ _ (by decide) (by kernel_rfl) (by kernel_rfl) (by kernel_rfl) hS ?_
    simp only [pick, List.filterMap_cons, List.filterMap_nil, List.getElem?_cons_zero]
    refine wpIf_step lv (by kernel_rfl) (fun w hw => by have e0 := hw.2.cell 0 _ rfl; go_simp) ?_
    refine wpIf_nil (fun hS => ?_)
    clear hS
    refine wpAnyT_one 2 2 (by kernel_rfl) rfl (by kernel_rfl) (fun K hK => ?_)
    go_simp
    refine (HFr.out _).mono ?_
    rintro e w4 ⟨rfl, hb4⟩
    have hA4 := hA3.below hb4
    clear hb4 hA3
    refine hK _ _ ⟨trivial, fun _ => hA4.g⟩ (fun hS => ?_)
    clear hK K hS
    obtain ⟨v', w5, hrun, hg5, hs5, v1, v2, v3, rfl⟩ := hA4.app hw0 FR hLs 56
    have HS5 := Lib.hid hs5
    clear hs5 hA4
    refine wpAnyT_one 3 1 (by kernel_rfl) rfl (by kernel_rfl) (fun K hK => ?_)
    refine wp_appS (.tmp 23) (.tmp 25) rfl lv (.string FR) (.slice v1 v2 v3) rfl rfl hrun ?_
    go_simp
    refine hK _ _ ⟨trivial, fun _ => hg5⟩ (fun hS => ?_)
    clear hK K hS hrun
    have q0 := hg5.cell 0 _ rfl
    have qf := hg5.free
    refine wpAnyT_one 4 0 (by kernel_rfl) rfl (by kernel_rfl) (fun K hK => ?_)
    go_simp
    refine hK _ _ ⟨trivial, fun h => by exact absurd h (by decide)⟩ (fun hS => ?_)
    clear hK K hS q0 qf hg5
    refine wpAnyT_over (by kernel_rfl) ?_
    have q3 := HS5.out.f.cell 0 _ rfl
    unfold lgF at q3
    have HC := Lib.hid (HI2.out _ ⟨_, HS5.out⟩)
    generalize w5.setCell ⟨gg, 0, none⟩ (.slice v1 v2 v3) = W6 at q3 HC ⊢
    clear HS5 HI2
    go_wp2_with fail
    refine HC.out.mono ?_
    rintro e w7 ⟨⟨x7, rfl⟩, h7⟩
    have H7 := Lib.hid h7
    clear h7
    go_wp2
    go_end0
    exact ⟨⟨_, rfl⟩, H7.out⟩
end Go.Proofs.YtfjaincogbdeiaaGreatDoor

/- W12e -/
namespace Go.Proofs.YtfjaincogbdeiaaGreatDoor
open Go.ChangeShapes Go.WideShapes Go.ChangeAt Go.RowKit
set_option linter.unusedVariables false

/-- What LogOf answers. -/
noncomputable def lgR (key : ByteArray) (os : List OpD) : ByteArray := if key.size = 32 ∧ os.length ≤ 200 ∧ os.all opB = true then ⟨(lgX key os 1 noB).toArray⟩ else ⟨#[]⟩

set_option maxRecDepth 100000 in
set_option maxHeartbeats 3000000 in
theorem implLogOf_any (key : ByteArray) (v : Value) (os : List OpD) (w : World) (hk : key.size ≤ maxLen) (h : OpsAt w w.heap.size v os) (hT : TabsB w) :
    Calls Tryz.prog 13 #[.string key, v] w fun e w' => e = .returned (.string (lgR key os)) ∧ Below w.heap.size w w' := by
  have HI := Lib.hid h
  have HT := Lib.hid hT
  obtain ⟨a, cap, rfl, hl, hm, hc⟩ := h.raw
  unfold maxLen at hm hk
  have HA := Lib.hid (fun w h => areOps_any (.slice a os.length cap) os w h)
  clear hc h hT
  have hB0 : Below w.heap.size w ((w.alloc (.cells #[.string key] 9)).alloc (.cells #[.slice a os.length cap] 40)) := ((Below.refl _ _).alloc (Nat.le_refl _) _).alloc (by simp) _
  have hK0 := (Box.new w #[.string key] 9).alloc (.cells #[.slice a os.length cap] 40)
  have hL0 : Box ((w.alloc (.cells #[.string key] 9)).alloc (.cells #[.slice a os.length cap] 40)) (w.heap.size + 1) #[.slice a os.length cap] 40 := by
    have := Box.new (w.alloc (.cells #[.string key] 9)) #[.slice a os.length cap] 40
    simpa using this
  by_cases g1 : key.size = 32
  case neg =>
    have HV : Hid (lgR key os = ⟨#[]⟩) := Lib.hid (by unfold lgR; rw [if_neg (fun h => g1 h.1)])
    rw [HV.out]
    have d1 : ((key.size : Int) == 32) = false := beq_eq_false_iff_ne.2 (by omega)
    have d2 : ((key.size : Int) != 32) = true := by rw [bne, d1]; rfl
    clear g1 HV
    go_enter Tryz.func13, Tryz.ntmps13
    go_wp2
    go_ret
    exact ⟨rfl, hB0⟩
  have d1 : ((key.size : Int) == 32) = true := beq_iff_eq.2 (by omega)
  have d2 : ((key.size : Int) != 32) = false := by rw [bne, d1]; rfl
  by_cases g2 : os.length ≤ 200
  case neg =>
    have HV : Hid (lgR key os = ⟨#[]⟩) := Lib.hid (by unfold lgR; rw [if_neg (fun h => g2 h.2.1)])
    rw [HV.out]
    have d3 : decide (200 < (os.length : Int)) = true := decide_eq_true (by omega)
    clear g1 g2 HV
    go_enter Tryz.func13, Tryz.ntmps13
    go_wp2
    go_ret
    exact ⟨rfl, hB0⟩
  have d3 : decide (200 < (os.length : Int)) = false := decide_eq_false (by omega)
  cases hop : os.all opB with
  | false =>
    have HV : Hid (lgR key os = ⟨#[]⟩) := Lib.hid (by unfold lgR; rw [if_neg (fun h => by rw [hop] at h; exact absurd h.2.2 (by simp))])
    rw [HV.out]
    rw [hop] at HA
    clear g1 g2 HV hop
    go_enter Tryz.func13, Tryz.ntmps13
    go_wp2_with fail
    refine (HA.out _ ((HI.out.below hB0).mono hB0.size)).mono ?_
    rintro e w1 ⟨rfl, hb1⟩
    have hB1 := hB0.trans (hb1.mono hB0.size)
    clear hb1 hB0
    go_wp2
    go_ret
    exact ⟨rfl, hB1⟩
  | true =>
    have HV : Hid (lgR key os = ⟨(lgX key os 1 noB).toArray⟩) := Lib.hid (by unfold lgR; rw [if_pos ⟨g1, g2, hop⟩])
    have hall : ∀ o ∈ os, opB o = true := List.all_eq_true.1 hop
    rw [HV.out]
    rw [hop] at HA
    have HF := Lib.hid (fun B2 gg gf hw0 W hW => logFrom_any w B2 key (.slice a os.length cap) os w.heap.size (w.heap.size + 1) gg gf g1 HI.out hall HT.out g2 hw0 os.length 0 ⟨#[]⟩ [] W (by omega) (.inl rfl) (by decide) (by simp) hW)
    have e1 : tgB ⟨#[]⟩ = noB := rfl
    simp only [e1, List.drop_zero, List.nil_append, Nat.zero_add] at HF
    generalize lgX key os 1 noB = R at HF ⊢
    clear g1 g2 HV hop hall e1
    go_enter Tryz.func13, Tryz.ntmps13
    go_wp2_with fail
    refine (HA.out _ ((HI.out.below hB0).mono hB0.size)).mono ?_
    rintro e w1 ⟨rfl, hb1⟩
    have hB1 := hB0.trans (hb1.mono hB0.size)
    have hK1 := hK0.keep hb1 hK0.lt
    have hL1 := hL0.keep hb1 hL0.lt
    have hsz1 : w.heap.size + 2 ≤ w1.heap.size := by have := hb1.size; simp at this; omega
    clear hb1 hB0 hK0 hL0 HA
    have hW : (w1.alloc (.cells #[.slice none 0 0] 56)).heap.size = w1.heap.size + 1 := by simp
    have hZ0 : Box ((w1.alloc (.cells #[.slice none 0 0] 56)).alloc (.cells #[.nilFunc] 57)) (w1.heap.size + 1) #[.nilFunc] 57 := by
      have := Box.new (w1.alloc (.cells #[.slice none 0 0] 56)) #[.nilFunc] 57
      rw [hW] at this
      exact this
    have hG0 := (Box.new w1 #[.slice none 0 0] 56).alloc (.cells #[(lgF w.heap.size (w.heap.size + 1) w1.heap.size (w1.heap.size + 1))] 57)
    have hF0 : Box ((w1.alloc (.cells #[.slice none 0 0] 56)).alloc (.cells #[(lgF w.heap.size (w.heap.size + 1) w1.heap.size (w1.heap.size + 1))] 57)) (w1.heap.size + 1) #[(lgF w.heap.size (w.heap.size + 1) w1.heap.size (w1.heap.size + 1))] 57 := by
      have := Box.new (w1.alloc (.cells #[.slice none 0 0] 56)) #[(lgF w.heap.size (w.heap.size + 1) w1.heap.size (w1.heap.size + 1))] 57
      rw [hW] at this
      exact this
    have hK2 := (hK1.alloc (.cells #[.slice none 0 0] 56)).alloc (.cells #[(lgF w.heap.size (w.heap.size + 1) w1.heap.size (w1.heap.size + 1))] 57)
    have hL2 := (hL1.alloc (.cells #[.slice none 0 0] 56)).alloc (.cells #[(lgF w.heap.size (w.heap.size + 1) w1.heap.size (w1.heap.size + 1))] 57)
    have hO2 : OwnB ((w1.alloc (.cells #[.slice none 0 0] 56)).alloc (.cells #[(lgF w.heap.size (w.heap.size + 1) w1.heap.size (w1.heap.size + 1))] 57)) (w1.heap.size + 2) (.slice none 0 0) [] := ⟨by simp, .inl ⟨rfl, rfl⟩⟩
    have hB2 : Below w.heap.size w ((w1.alloc (.cells #[.slice none 0 0] 56)).alloc (.cells #[(lgF w.heap.size (w.heap.size + 1) w1.heap.size (w1.heap.size + 1))] 57)) := (hB1.alloc hB1.size _).alloc (by rw [hW]; have := hB1.size; omega) _
    have hS2 : ((w1.alloc (.cells #[.slice none 0 0] 56)).alloc (.cells #[(lgF w.heap.size (w.heap.size + 1) w1.heap.size (w1.heap.size + 1))] 57)).heap.size = w1.heap.size + 2 := by simp
    have q0 := hZ0.cell 0 _ rfl
    have qf := hZ0.free
    have hsf := fun (a : Addr) (c : Array Value) (w : World) => run_store Tryz.prog w a (.func (.func 29) #[] c) .plain rfl
    go_wp2_with fail
    clear hsf
    refine (HF.out (w1.heap.size + 2) w1.heap.size (w1.heap.size + 1) (by have := hB1.size; omega) _ ⟨.slice none 0 0, ?hS⟩).mono ?_
    case hS => exact ⟨hK2, hL2, hG0, hF0, hO2, hB2, by omega, by omega, by omega, by omega, by omega, Nat.le_of_eq hS2.symm, by omega, by omega, by omega⟩
    rintro e w5 ⟨⟨x5, rfl⟩, lv, hs5⟩
    have c0 := hs5.g.cell 0 _ rfl
    have hcv := conv_ownB hs5.own
    have hB5 := hs5.bel
    clear hs5 hG0 hF0 hK2 hL2 hO2 hB2 hS2 q0 qf HF hB1 hK1 hL1 hZ0
    go_wp2
    go_ret
    exact ⟨rfl, hB5⟩
end Go.Proofs.YtfjaincogbdeiaaGreatDoor

/- W12f -/
namespace Go.Proofs.YtfjaincogbdeiaaGreatDoor
open Go.ChangeShapes Go.WideShapes Go.ChangeAt Go.RowKit
set_option linter.unusedVariables false

theorem ba_of_list {X : ByteArray} {l : List UInt8} (h : X.data.toList = l) : X = ⟨l.toArray⟩ := by
  obtain ⟨⟨x⟩⟩ := X
  simp only at h
  rw [h]

set_option maxRecDepth 100000 in
set_option maxHeartbeats 3000000 in
theorem specLogOf_any (key : ByteArray) (v : Value) (os : List OpD) (w : World) (hk : key.size ≤ maxLen) (h : OpsAt w w.heap.size v os) :
    Calls Tryz.prog 11 #[.string key, v] w fun e w' => e = .returned (.string (lgR key os)) ∧ Below w.heap.size w w' := by
  have HI := Lib.hid h
  obtain ⟨a, cap, rfl, hl, hm, hc⟩ := h.raw
  unfold maxLen at hm hk
  clear hc h
  by_cases g1 : key.size = 32
  case neg =>
    have HV : Hid (lgR key os = ⟨#[]⟩) := Lib.hid (by unfold lgR; rw [if_neg (fun h => g1 h.1)])
    rw [HV.out]
    have d1 : ((key.size : Int) == 32) = false := beq_eq_false_iff_ne.2 (by omega)
    have d2 : ((key.size : Int) != 32) = true := by rw [bne, d1]; rfl
    clear g1 HV
    go_enter Tryz.func11, Tryz.ntmps11
    go_wp2
    go_ret
    exact ⟨rfl, Below.refl _ _⟩
  have d1 : ((key.size : Int) == 32) = true := beq_iff_eq.2 (by omega)
  have d2 : ((key.size : Int) != 32) = false := by rw [bne, d1]; rfl
  by_cases g2 : os.length ≤ 200
  case neg =>
    have HV : Hid (lgR key os = ⟨#[]⟩) := Lib.hid (by unfold lgR; rw [if_neg (fun h => g2 h.2.1)])
    rw [HV.out]
    have d3 : decide (200 < (os.length : Int)) = true := decide_eq_true (by omega)
    clear g1 g2 HV
    go_enter Tryz.func11, Tryz.ntmps11
    go_wp2
    go_ret
    exact ⟨rfl, Below.refl _ _⟩
  have d3 : decide (200 < (os.length : Int)) = false := decide_eq_false (by omega)
  have HRf : Hid (∀ k (hk : k < os.length), opB os[k] = false → lgR key os = ⟨#[]⟩) := Lib.hid (fun k hk h => by
    unfold lgR
    rw [if_neg]
    intro h2
    have := List.all_eq_true.1 h2.2.2 _ (List.getElem_mem hk)
    rw [h] at this
    cases this)
  have HRt : Hid ((∀ j (hj : j < os.length), opB os[j] = true) → lgR key os = ⟨(lgX key os 1 noB).toArray⟩) := Lib.hid (fun h => by
    unfold lgR
    rw [if_pos]
    refine ⟨g1, g2, List.all_eq_true.2 (fun o ho => ?_)⟩
    obtain ⟨j, hj, rfl⟩ := List.getElem_of_mem ho
    exact h j hj)
  have HK32 := Lib.hid g1
  generalize lgR key os = R at HRf HRt ⊢
  clear g1
  go_enter Tryz.func11, Tryz.ntmps11
  go_wp2
  go_loopw [5, 6, 7] (fun s t i wr => ∃ (k : Nat) (X T : ByteArray), k ≤ os.length ∧ i = .int .i64 (k : Int) ∧ s = .string X ∧ t = .string T ∧ X.size ≤ 3200 * k ∧ 16 ≤ T.size ∧ T.size ≤ 16 ∧ Below w.heap.size w wr ∧ Hid (X.data.toList ++ lgX key (os.drop k) (k + 1) T = lgX key os 1 noB) ∧ Hid (∀ j (hj : j < os.length), j < k → opB os[j] = true)) (fun _ _ i _ => os.length - (intOf i).toNat)
  case atStart => exact ⟨0, ⟨#[]⟩, noB, Nat.zero_le _, rfl, rfl, rfl, by decide, by decide, by decide, Below.refl _ _, Lib.hid rfl, Lib.hid (fun j hj h => by omega)⟩
  case round =>
    obtain ⟨k, X, T, hk2, rfl, rfl, rfl, hXs, hT1, hT2, hB, HX, HO⟩ := hrel
    by_cases hlt : k < os.length
    · obtain ⟨a', cap', hv, _, _, hc⟩ := (HI.out.below hB).raw
      cases hv
      obtain ⟨b, off, rfl, hb, hr⟩ := hc k hlt
      obtain ⟨y, c0, c1, c2, c3, c4, c5, c6, hy, hz⟩ := hr k hlt
      obtain ⟨ya, yc, rfl⟩ := hy.1.slice
      have HF := Lib.hid (HRf.out k hlt)
      have HSt := Lib.hid (lgX_step key os k (k + 1) T hlt)
      have HN : Hid (opB os[k] = true → ∀ j (hj : j < os.length), j < k + 1 → opB os[j] = true) := Lib.hid (fun h j hj hjk => by
        by_cases e : j = k
        · subst e; exact h
        · exact HO.out j hj (by omega))
      obtain ⟨P, hP⟩ : ∃ P, P = os[k] := ⟨_, rfl⟩
      rw [← hP] at c0 c1 c2 c3 c4 c5 c6 hy hz HF HSt HN
      have HC := Lib.hid (fun w h => specOpOk_any P (.slice ya P.its.length yc) w h hz)
      have HBx := Lib.hid (fun w h => l12Box_any key (k + 1) T P (.slice ya P.its.length yc) w HK32.out (by omega) (by omega) h hz)
      rw [show ((k + 1 : Nat) : Int) = (k : Int) + 1 from rfl] at HBx
      have hbs := bxB_size key (k + 1) T P
      have hbl := bxB_least key (k + 1) T P
      generalize bxB key (k + 1) T P = BX at HBx HSt hbs hbl
      have HFr := Lib.hid (fun w => l12Frame_any BX w (by omega))
      have hfs := frB_size BX
      have HLs : Hid (l16 BX = BX.extract (BX.size - 16) BX.size) := Lib.hid rfl
      have hls := l16_size BX hbl
      generalize frB BX = FR at HFr HSt hfs
      obtain ⟨m, hmm⟩ : ∃ m, BX.size = m + 16 := ⟨BX.size - 16, by omega⟩
      have HLm : Hid (BX.extract m (m + 16) = l16 BX) := Lib.hid (by rw [HLs.out, show BX.size - 16 = m by omega, hmm])
      obtain ⟨T2, hT2e⟩ : ∃ T2, l16 BX = T2 := ⟨_, rfl⟩
      rw [hT2e] at HLm hls HSt
      have hLm := HLm.out
      have HY := Lib.hid (hy.mono hB.size)
      have hw1 : IntKind.i64.wrap ((k : Int) + 1) = (k : Int) + 1 := by rw [IntKind.wrap_i64]; omega
      obtain ⟨Z, hZ⟩ : ∃ Z, X ++ FR = Z := ⟨_, rfl⟩
      have hzs : Z.size ≤ 3200 * (k + 1) := by rw [← hZ, ByteArray.size_append]; omega
      have hsum : X.size + FR.size ≤ 9223372036854775807 := by omega
      have HXn : Hid (Z.data.toList ++ lgX key (os.drop (k + 1)) (k + 1 + 1) T2 = lgX key os 1 noB) := Lib.hid (by
        have e : Z.data.toList = X.data.toList ++ FR.data.toList := by rw [← hZ, ByteArray.data_append, Array.toList_append]
        rw [e, List.append_assoc, ← HSt.out]
        exact HX.out)
      have hkb : b < wr.heap.size := by have := hB.size; omega
      have Hkc : Hid (∀ w1, Below wr.heap.size wr w1 → ∀ o x, wr.cell? ⟨b, o, none⟩ = some x → w1.cell? ⟨b, o, none⟩ = some x) := Lib.hid (fun w1 hb1 o x hx => by
        rw [hb1.cell (p := ⟨b, o, none⟩) hkb]; exact hx)
      generalize opB P = Q at HF HN HC
      clear hr hc hP hz hy HSt HX HLs HLm hT2e hfs
      cases Q with
      | false =>
        have HZ := Lib.hid (HF.out rfl)
        go_wp2_with fail
        refine (HC.out _ HY.out).mono ?_
        rintro e w1 ⟨rfl, hb1⟩
        have hB1 := hB.trans (hb1.mono hB.size)
        clear hb1 hB c0 c1 c2 c3 c4 c5 c6 hLm
        go_wp2
        go_ret
        exact ⟨ret_str HZ.out.symm, hB1⟩
      | true =>
        have HN' := Lib.hid (HN.out rfl)
        go_wp2_with fail
        refine (HC.out _ HY.out).mono ?_
        rintro e w1 ⟨rfl, hb1⟩
        have hB1 := hB.trans (hb1.mono hB.size)
        have e0 := Hkc.out w1 hb1 _ _ c0
        have e1 := Hkc.out w1 hb1 _ _ c1
        have e2 := Hkc.out w1 hb1 _ _ c2
        have e3 := Hkc.out w1 hb1 _ _ c3
        have e4 := Hkc.out w1 hb1 _ _ c4
        have e5 := Hkc.out w1 hb1 _ _ c5
        have e6 := Hkc.out w1 hb1 _ _ c6
        have HY1 := Lib.hid ((HY.out.below hb1).mono hb1.size)
        clear hb1 hB c0 c1 c2 c3 c4 c5 c6 HY Hkc HC
        go_wp2_with fail
        refine (HBx.out _ HY1.out).mono ?_
        rintro e w2 ⟨rfl, hb2⟩
        have hB2 := hB1.trans (hb2.mono hB1.size)
        clear hb2 hB1 e0 e1 e2 e3 e4 e5 e6 HY1 HBx
        go_wp2_with fail
        refine (HFr.out _).mono ?_
        rintro e w3 ⟨rfl, hb3⟩
        have hB3 := hB2.trans (hb3.mono hB2.size)
        clear hb3 hB2 HFr
        go_wp2
        go_roundw
        case rel => exact ⟨k + 1, Z, T2, by omega, by go_num, rfl, rfl, hzs, by omega, by omega, hB3, HXn, HN'⟩
        case measure => simp [intOf]; omega
    · have HZ : Hid (R = X) := Lib.hid (by
        rw [HRt.out (fun j hj => HO.out j hj (by omega))]
        refine (ba_of_list ?_).symm
        have := HX.out
        rw [List.drop_of_length_le (by omega)] at this
        rw [← this]
        show _ = _ ++ []
        rw [List.append_nil])
      go_wp2
      go_ret
      exact ⟨ret_str HZ.out.symm, hB⟩
end Go.Proofs.YtfjaincogbdeiaaGreatDoor

/- OpenO -/
namespace Go.Proofs.YtfjaincogbdeiaaGreatDoor
open Go.ChangeShapes Go.WideShapes Go.Deep Go.RowKit
set_option linter.unusedVariables false

section
variable {H : Type} {enc : TypeId × Value → H} {w : World} {base : Nat} {spare : Nat → Bool} {held : Bool}
theorem open_ops_cell {n : Nat} {v : Value} {y : DataW H × List MemPlace} (h : DataW.trod enc Tryz.prog w base spare held n 37 [v] = some y) : ∃ os, OpsAt w w.heap.size v os := by
  obtain ⟨l, hl, hg⟩ := open_recs (C := opC) (G := fun z : OpD × Value => ItAt w w.heap.size z.2 z.1.its ∧ OpSz z.1) Tryz.underlying37 Tryz.cellsLOp (by decide) (fun n cs y h => by
    obtain ⟨o, x, e, h1, h2⟩ := open_op_cells h
    exact ⟨(o, x), e, h1, h2⟩) h
  exact ⟨l.map Prod.fst, l, rfl, hl, hg⟩
set_option maxRecDepth 100000 in
theorem open_ops {r : Reach} {b0 : Nat} {v : Value} {d : DataW H} {p : List MemPlace} (hv : Value.okWide Tryz.prog w r b0 37 v) (h : DataW.Trod enc Tryz.prog w base spare held 37 v d p) : ∃ os, OpsAt w w.heap.size v os := by
  obtain ⟨a, n, c, rfl⟩ := okWide_slice Tryz.underlying37 hv
  obtain ⟨fuel, hf⟩ := h
  have hf' : DataW.trod enc Tryz.prog w base spare held fuel 37 [.slice a n c] = some (d, p) := hf
  clear hf hv
  exact open_ops_cell hf'
end
end Go.Proofs.YtfjaincogbdeiaaGreatDoor

/- V12b -/
namespace Go.Proofs.YtfjaincogbdeiaaGreatDoor
open Go.ChangeShapes Go.WideShapes Go.ChangeAt Go.RowKit
set_option linter.unusedVariables false

set_option maxRecDepth 100000 in
set_option maxHeartbeats 1600000 in
theorem eqOpS_same (v v' : Value) (os : List OpD) (w : World) (h : OpsAt w w.heap.size v os) (h' : OpsAt w w.heap.size v' os) :
    Calls Tryz.prog 14 #[v, v'] w fun e w' => e = .returned (.bool true) ∧ Below w.heap.size w w' := by
  have HI := Lib.hid h
  have HJ := Lib.hid h'
  obtain ⟨a, cap, rfl, hl, hm, hc⟩ := h.raw
  obtain ⟨a2, cap2, rfl, hl2, hm2, hc2⟩ := h'.raw
  unfold maxLen at hm hm2
  clear hc h hc2 h'
  go_enter Tryz.func14, Tryz.ntmps14
  go_wp2
  go_loopw [5] (fun i wr => ∃ k : Nat, k ≤ os.length ∧ i = .int .i64 k ∧ Below w.heap.size w wr) (fun i _ => os.length - (intOf i).toNat)
  case atStart => exact ⟨0, Nat.zero_le _, rfl, Below.refl _ _⟩
  case round =>
    obtain ⟨k, hk, rfl, hbel⟩ := hrel
    by_cases hlt : k < os.length
    · obtain ⟨a', cap', hv, _, _, hc⟩ := (HI.out.below hbel).raw
      cases hv
      obtain ⟨b, off, rfl, hb, hr⟩ := hc k hlt
      obtain ⟨x, c0, c1, c2, c3, c4, c5, c6, hx, hz⟩ := hr k hlt
      obtain ⟨a'2, cap'2, hv2, _, _, hc2⟩ := (HJ.out.below hbel).raw
      cases hv2
      obtain ⟨b2, off2, rfl, hb2, hr2⟩ := hc2 k hlt
      obtain ⟨y, g0, g1, g2, g3, g4, g5, g6, hy, _⟩ := hr2 k hlt
      obtain ⟨xa, xc, rfl⟩ := hx.1.slice
      obtain ⟨xa2, xc2, rfl⟩ := hy.1.slice
      have hx1 := Lib.hid (hx.mono hbel.size)
      have hy1 := Lib.hid (hy.mono hbel.size)
      obtain ⟨P, hP⟩ : ∃ P, P = os[k] := ⟨_, rfl⟩
      rw [← hP] at c0 c1 c2 c3 c4 c5 c6 g0 g1 g2 g3 g4 g5 g6 hx1 hy1 hz
      have HC := Lib.hid (fun w h h' => eqOp_same P (.slice xa P.its.length xc) (.slice xa2 P.its.length xc2) w h h' hz)
      have hA : (fun w' => (w'.cell? ⟨b, off + k * 7, none⟩ = some (.int .i64 P.k) ∧ w'.cell? ⟨b, off + k * 7 + 1, none⟩ = some (.string P.u) ∧ w'.cell? ⟨b, off + k * 7 + 2, none⟩ = some (.string P.i) ∧ w'.cell? ⟨b, off + k * 7 + 3, none⟩ = some (.int .i64 P.d) ∧ w'.cell? ⟨b, off + k * 7 + 4, none⟩ = some (.string P.fu) ∧ w'.cell? ⟨b, off + k * 7 + 5, none⟩ = some (.string P.ft) ∧ w'.cell? ⟨b, off + k * 7 + 6, none⟩ = some (.slice xa P.its.length xc)) ∧ (w'.cell? ⟨b2, off2 + k * 7, none⟩ = some (.int .i64 P.k) ∧ w'.cell? ⟨b2, off2 + k * 7 + 1, none⟩ = some (.string P.u) ∧ w'.cell? ⟨b2, off2 + k * 7 + 2, none⟩ = some (.string P.i) ∧ w'.cell? ⟨b2, off2 + k * 7 + 3, none⟩ = some (.int .i64 P.d) ∧ w'.cell? ⟨b2, off2 + k * 7 + 4, none⟩ = some (.string P.fu) ∧ w'.cell? ⟨b2, off2 + k * 7 + 5, none⟩ = some (.string P.ft) ∧ w'.cell? ⟨b2, off2 + k * 7 + 6, none⟩ = some (.slice xa2 P.its.length xc2))) wr.drew := ⟨⟨c0, c1, c2, c3, c4, c5, c6⟩, g0, g1, g2, g3, g4, g5, g6⟩
      have hbw : b < wr.heap.size := by have := hbel.size; omega
      have hbw2 : b2 < wr.heap.size := by have := hbel.size; omega
      have HKA : Hid (∀ w1, Below wr.drew.heap.size wr.drew w1 → (fun w' => (w'.cell? ⟨b, off + k * 7, none⟩ = some (.int .i64 P.k) ∧ w'.cell? ⟨b, off + k * 7 + 1, none⟩ = some (.string P.u) ∧ w'.cell? ⟨b, off + k * 7 + 2, none⟩ = some (.string P.i) ∧ w'.cell? ⟨b, off + k * 7 + 3, none⟩ = some (.int .i64 P.d) ∧ w'.cell? ⟨b, off + k * 7 + 4, none⟩ = some (.string P.fu) ∧ w'.cell? ⟨b, off + k * 7 + 5, none⟩ = some (.string P.ft) ∧ w'.cell? ⟨b, off + k * 7 + 6, none⟩ = some (.slice xa P.its.length xc)) ∧ (w'.cell? ⟨b2, off2 + k * 7, none⟩ = some (.int .i64 P.k) ∧ w'.cell? ⟨b2, off2 + k * 7 + 1, none⟩ = some (.string P.u) ∧ w'.cell? ⟨b2, off2 + k * 7 + 2, none⟩ = some (.string P.i) ∧ w'.cell? ⟨b2, off2 + k * 7 + 3, none⟩ = some (.int .i64 P.d) ∧ w'.cell? ⟨b2, off2 + k * 7 + 4, none⟩ = some (.string P.fu) ∧ w'.cell? ⟨b2, off2 + k * 7 + 5, none⟩ = some (.string P.ft) ∧ w'.cell? ⟨b2, off2 + k * 7 + 6, none⟩ = some (.slice xa2 P.its.length xc2))) w1) := Lib.hid (fun w1 hb1 => by
        have kc : ∀ q o x, q < wr.heap.size → wr.cell? ⟨q, o, none⟩ = some x → w1.cell? ⟨q, o, none⟩ = some x := fun q o x hq h => by
          rw [hb1.cell (p := ⟨q, o, none⟩) hq]; exact h
        exact ⟨⟨kc _ _ _ hbw c0, kc _ _ _ hbw c1, kc _ _ _ hbw c2, kc _ _ _ hbw c3, kc _ _ _ hbw c4, kc _ _ _ hbw c5, kc _ _ _ hbw c6⟩, kc _ _ _ hbw2 g0, kc _ _ _ hbw2 g1, kc _ _ _ hbw2 g2, kc _ _ _ hbw2 g3, kc _ _ _ hbw2 g4, kc _ _ _ hbw2 g5, kc _ _ _ hbw2 g6⟩)
      clear hr hc hr2 hc2 hP hx hy hz c0 c1 c2 c3 c4 c5 c6 g0 g1 g2 g3 g4 g5 g6
      go_wp2
      refine wp_region_T (fun w' => (w'.cell? ⟨b, off + k * 7, none⟩ = some (.int .i64 P.k) ∧ w'.cell? ⟨b, off + k * 7 + 1, none⟩ = some (.string P.u) ∧ w'.cell? ⟨b, off + k * 7 + 2, none⟩ = some (.string P.i) ∧ w'.cell? ⟨b, off + k * 7 + 3, none⟩ = some (.int .i64 P.d) ∧ w'.cell? ⟨b, off + k * 7 + 4, none⟩ = some (.string P.fu) ∧ w'.cell? ⟨b, off + k * 7 + 5, none⟩ = some (.string P.ft) ∧ w'.cell? ⟨b, off + k * 7 + 6, none⟩ = some (.slice xa P.its.length xc)) ∧ (w'.cell? ⟨b2, off2 + k * 7, none⟩ = some (.int .i64 P.k) ∧ w'.cell? ⟨b2, off2 + k * 7 + 1, none⟩ = some (.string P.u) ∧ w'.cell? ⟨b2, off2 + k * 7 + 2, none⟩ = some (.string P.i) ∧ w'.cell? ⟨b2, off2 + k * 7 + 3, none⟩ = some (.int .i64 P.d) ∧ w'.cell? ⟨b2, off2 + k * 7 + 4, none⟩ = some (.string P.fu) ∧ w'.cell? ⟨b2, off2 + k * 7 + 5, none⟩ = some (.string P.ft) ∧ w'.cell? ⟨b2, off2 + k * 7 + 6, none⟩ = some (.slice xa2 P.its.length xc2))) (fun _ => True) 9 (by kernel_rfl) 10 rfl ?_
      refine wpAnyT_takesA (md := .any) 2 (by kernel_rfl) (by intro d v c a w h; cases d <;> exact h) [0, 1, 2, 3, 4, 5, 6, 7] _ _ _ (by decide) (by kernel_rfl) ⟨hA, fun _ => trivial⟩ ?_
      simp only [pick, List.filterMap_cons, List.filterMap_nil, List.getElem?_cons_zero, List.getElem?_cons_succ]
      refine wpIf_step (.slice (some ⟨b, off, none⟩) os.length cap) (by kernel_rfl) (fun w hw => by go_simp) ?_
      refine wpIf_step (.int .i64 (k : Int)) (by kernel_rfl) (fun w hw => by go_simp) ?_
      refine wpIf_step (.pointer (some ⟨b, off + k * 7, none⟩)) (by kernel_rfl) (fun w hw => by go_simp) ?_
      refine wpIf_step (opV P (.slice xa P.its.length xc)) (by kernel_rfl) (fun w hw => by have e0 := hw.1.1; have e1 := hw.1.2.1; have e2 := hw.1.2.2.1; have e3 := hw.1.2.2.2.1; have e4 := hw.1.2.2.2.2.1; have e5 := hw.1.2.2.2.2.2.1; have e6 := hw.1.2.2.2.2.2.2; go_simp) ?_
      refine wpIf_step (.slice (some ⟨b2, off2, none⟩) os.length cap2) (by kernel_rfl) (fun w hw => by go_simp) ?_
      refine wpIf_step (.int .i64 (k : Int)) (by kernel_rfl) (fun w hw => by go_simp) ?_
      refine wpIf_step (.pointer (some ⟨b2, off2 + k * 7, none⟩)) (by kernel_rfl) (fun w hw => by go_simp) ?_
      refine wpIf_step (opV P (.slice xa2 P.its.length xc2)) (by kernel_rfl) (fun w hw => by have e0 := hw.2.1; have e1 := hw.2.2.1; have e2 := hw.2.2.2.1; have e3 := hw.2.2.2.2.1; have e4 := hw.2.2.2.2.2.1; have e5 := hw.2.2.2.2.2.2.1; have e6 := hw.2.2.2.2.2.2.2; go_simp) ?_
      refine wpIf_nil (fun hS => ?_)
      clear hS
      refine wpAnyT_one 8 1 (by kernel_rfl) rfl (by kernel_rfl) (fun K hK => ?_)
      go_simp
      refine (HC.out wr.drew hx1.out hy1.out).mono ?_
      rintro e w1 ⟨rfl, hb1⟩
      have hbel2 := hbel.drew.trans (hb1.mono hbel.size)
      have hA2 := HKA.out w1 hb1
      refine hK _ _ ⟨hA2, fun _ => trivial⟩ (fun hS => ?_)
      clear hK K hS
      refine wpAnyT_one 9 0 (by kernel_rfl) rfl (by kernel_rfl) (fun K hK => ?_)
      go_simp
      refine hK _ _ ⟨hA2, fun _ => trivial⟩ (fun hS => ?_)
      clear hK K hS
      refine wpAnyT_over (by kernel_rfl) ?_
      clear hA hA2 HKA hb1
      go_wp2
      go_roundw
      case rel => exact ⟨k + 1, by omega, by go_num, hbel2⟩
      case measure => simp [intOf]; omega
    · go_wp2
      go_ret
      exact ⟨rfl, hbel⟩

set_option maxRecDepth 100000 in
set_option maxHeartbeats 1600000 in
theorem walk_FnExactLogOf (key : ByteArray) (v : Value) (os : List OpD) (w : World) (hk : key.size ≤ maxLen) (h : OpsAt w w.heap.size v os) (hT : TabsB w) :
    Calls Tryz.prog 4 #[.string key, v] w fun e w' => e = .returned (.bool true) ∧ Below w.heap.size w w' := by
  have HS := Lib.hid h.size
  have HI := Lib.hid h
  have HT := Lib.hid hT
  have HFi := Lib.hid (fun v w h hT => implLogOf_any key v os w hk h hT)
  have HFs := Lib.hid (fun v w h => specLogOf_any key v os w hk h)
  generalize lgR key os = R at HFi HFs
  obtain ⟨va, vc, hv, _, _, _⟩ := h.raw
  subst hv
  unfold maxLen at hk
  clear h hT
  rcases Nat.lt_or_ge 1048576 key.size with hql | hql
  · have hqd : decide ((1048576 : Int) < (key.size : Int)) = true := decide_eq_true (by omega)
    go_enter Tryz.func4, Tryz.ntmps4
    go_wp2
    go_ret
    exact ⟨rfl, Below.refl _ _⟩
  have hqd : decide ((1048576 : Int) < (key.size : Int)) = false := decide_eq_false (by omega)
  go_enter Tryz.func4, Tryz.ntmps4
  go_wp2_with fail
  refine (szOpS_any _ os 1048576 _ HI.out (by decide) (by decide)).mono ?_
  rintro e w1 ⟨r, rfl, hr0, hr1, hr2, hB1⟩
  by_cases hr : r < 0
  · go_wp2
    go_ret
    exact ⟨rfl, hB1⟩
  · have hn : os.length ≤ 1048576 := by have := (hr2 (by omega)).1; omega
    have hns : ∀ s ∈ os, s.its.length ≤ 1048576 := fun s hs => by have := (hr2 (by omega)).2 s hs; omega
    have HNS := Lib.hid hns
    clear hns hr2
    have HA1 := Lib.hid ((HI.out.below hB1).mono hB1.size)
    go_wp2_with fail
    refine (toOpS_any _ os _ HA1.out hn HNS.out).mono ?_
    rintro e w2 ⟨x2, rfl, ho2, hb2⟩
    have hB2 := hB1.trans (hb2.mono hB1.size)
    have HO2 := Lib.hid ho2
    clear ho2 hB1 HA1 hb2
    go_wp2_with fail
    refine (HFs.out x2 _ (HO2.out.at HS.out)).mono ?_
    rintro e w3 ⟨rfl, hb3⟩
    have hB3 := hB2.trans (hb3.mono hB2.size)
    have HA3 := Lib.hid ((HI.out.below hB3).mono hB3.size)
    clear HO2 hB2 hb3
    go_wp2_with fail
    refine (toOpS_any _ os _ HA3.out hn HNS.out).mono ?_
    rintro e w4 ⟨x4, rfl, ho4, hb4⟩
    have hB4 := hB3.trans (hb4.mono hB3.size)
    have HO4 := Lib.hid (OwnO.at ho4 HS.out)
    obtain ⟨xa, xc, rfl⟩ := ho4.slice
    clear ho4 hB3 HA3 hb4
    go_wp2_with fail
    refine (HFi.out _ _ HO4.out (HT.out.below hB4 (Nat.le_refl _))).mono ?_
    rintro e w5 ⟨rfl, hb5⟩
    have hB5 := hB4.trans (hb5.mono hB4.size)
    have HO5 := Lib.hid ((HO4.out.below hb5).mono hb5.size)
    have HA5 := Lib.hid ((HI.out.below hB5).mono hB5.size)
    clear HO4 hB4 hb5
    go_wp2_with fail
    refine (toOpS_any _ os _ HA5.out hn HNS.out).mono ?_
    rintro e w6 ⟨x6, rfl, ho6, hb6⟩
    have hB6 := hB5.trans (hb6.mono hB5.size)
    have HO6 := Lib.hid ((HO5.out.below hb6).mono hb6.size)
    have HP6 := Lib.hid (OwnO.at ho6 HS.out)
    clear HO5 HA5 hB5 hb6 ho6
    go_wp2_with fail
    refine (eqOpS_same _ _ os _ HO6.out HP6.out).mono ?_
    rintro e w7 ⟨rfl, hb7⟩
    have hB7 := hB6.trans (hb7.mono hB6.size)
    clear HO6 HP6 hB6 hb7
    go_wp2
    go_ret
    exact ⟨rfl, hB7⟩
end Go.Proofs.YtfjaincogbdeiaaGreatDoor
