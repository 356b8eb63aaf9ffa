/- Joined: M9g. -/
import Derived.Test.YtfgdbpjmjeaolaaH28
import Derived.Test.YtfgdbpjmjeaolaaH50
/- M9g -/
namespace Go.Proofs.Ytfgdbpjmjeaolaa
open Go.ChangeShapes Go.WideShapes Go.ChangeAt Go.RowKit
set_option linter.unusedVariables false

theorem apart_snocG {bs : List (Option Nat)} {g0 B : Nat} {b : Option Nat} (h : ApartD (some g0 :: bs)) (hg : g0 < B) (hq : b = none ∨ ∃ g, b = some g ∧ B ≤ g) (hp : ∀ c ∈ bs, c = none ∨ ∃ g, c = some g ∧ g < B) : ApartD (some g0 :: (bs ++ [b])) := by
  unfold ApartD at h ⊢
  rw [← List.cons_append, List.pairwise_append]
  refine ⟨h, by simp, fun a ha c hc => ?_⟩
  obtain rfl : c = b := by simpa using hc
  rcases List.mem_cons.1 ha with rfl | h1
  · right
    rcases hq with h2 | ⟨g, h2, h3⟩
    · rw [h2]; intro h4; cases h4
    · rw [h2]; intro h4; cases h4; omega
  · rcases hp a h1 with h5 | ⟨g1, h5, h6⟩
    · exact .inl h5
    · right
      rcases hq with h2 | ⟨g, h2, h3⟩
      · rw [h2, h5]; intro h4; cases h4
      · rw [h2, h5]; intro h4; cases h4; omega
/-- Operations that a call has made: no two lists share a block. -/
def OwnP (w : World) (B : Nat) (v : Value) (ps : List (OpD × Value)) : Prop := OwnR 45 7 opC w B v ps ∧ (∀ p ∈ ps, OwnR 107 3 itC w B p.2 p.1.its) ∧ ApartD (v.ownBlock :: ps.map fun p => p.2.ownBlock)
theorem OwnP.keep {w w' : World} {B B' : Nat} {v : Value} {ps : List (OpD × Value)} (h : OwnP w B v ps) (hb : Below B' w w') (hB : w.heap.size ≤ B') : OwnP w' B v ps := ⟨h.1.keep hb hB, fun p hp => (h.2.1 p hp).keep hb hB, h.2.2⟩
theorem OwnP.drew {w : World} {B : Nat} {v : Value} {ps : List (OpD × Value)} (h : OwnP w B v ps) : OwnP w.drew B v ps := h
theorem OwnP.at {w : World} {B : Nat} {v : Value} {ps : List (OpD × Value)} {os : List OpD} (h : OwnP w B v ps) (hq : ps.map Prod.fst = os) (hs : ∀ o ∈ os, OpSz o ∧ ∀ x ∈ o.its, x.id.size ≤ maxLen ∧ x.ti.size ≤ maxLen) : OpsAt w w.heap.size v os := OwnO.at (show OwnO w B v os from ⟨ps, hq, h.1, h.2.1⟩) hs
theorem OwnP.lt {w : World} {B : Nat} {v : Value} {qs : List (OpD × Value)} (h : OwnP w B v qs) : (∀ b, v.ownBlock = Option.some b → b < w.heap.size) ∧ ∀ p ∈ qs, ∀ b, p.2.ownBlock = Option.some b → b < w.heap.size := ⟨fun b hb => (World.ownsRow.lt h.1 b hb).2, fun p hp b hb => (World.ownsRow.lt (h.2.1 p hp) b hb).2⟩
def OutOD (os : List OpD) (w : World) (e : Ending) (w' : World) : Prop := ∃ v qs, e = .returned v ∧ qs.map Prod.fst = os ∧ OwnP w' w.heap.size v qs ∧ Below w.heap.size w w'
theorem OwnP.fld {w w2 : World} {B g n cap k : Nat} {qs : List (OpD × Value)} {o o' : OpD} {y : Value} (h : OwnP w B (.slice (Option.some ⟨g, 0, none⟩) n cap) (qs.set k (o, y))) (hn : n = qs.length) (hk : k < qs.length) (hb : Below w.heap.size w w2) (j : Nat) (u : Value) (hj : j < 7) (hx : opC (o', y) = (opC (o, y)).set j u) (hi : o'.its = o.its) : OwnP (w2.setCell ⟨g, k * 7 + j, none⟩ u) B (.slice (Option.some ⟨g, 0, none⟩) n cap) (qs.set k (o', y)) := by
  have hk2 : k < (qs.set k (o, y)).length := by rw [List.length_set]; exact hk
  have hrow := h.1.keep hb (Nat.le_refl _)
  have ho := own_fld opC_len hrow hn hk j u hj hx
  have hg : w2.grownBy (w2.setCell ⟨g, k * 7 + j, none⟩ u) (Option.some g) := gb_set1 g _ u (World.grownBy.refl _ _)
  have hent : ∀ p ∈ qs.set k (o', y), OwnR 107 3 itC w2 B p.2 p.1.its := by
    intro p hp
    rcases List.mem_or_eq_of_mem_set hp with h1 | h1
    · by_cases hpk : p ∈ qs.set k (o, y)
      · exact (h.2.1 p hpk).keep hb (Nat.le_refl _)
      · obtain ⟨i, hi2, rfl⟩ := List.getElem_of_mem hp
        rw [List.length_set] at hi2
        by_cases e : k = i
        · subst e
          rw [List.getElem_set_self]
          show OwnR _ _ _ _ _ y o'.its
          rw [hi]
          have := h.2.1 _ (List.getElem_mem hk2)
          rw [set_at hk] at this
          exact this.keep hb (Nat.le_refl _)
        · exact absurd (by
            rw [List.getElem_set_ne e]
            have := List.getElem_mem (l := qs.set k (o, y)) (n := i) (by rw [List.length_set]; exact hi2)
            rw [List.getElem_set_ne e] at this
            exact this) hpk
    · rw [h1]
      show OwnR _ _ _ _ _ y o'.its
      rw [hi]
      have := h.2.1 _ (List.getElem_mem hk2)
      rw [set_at hk] at this
      exact this.keep hb (Nat.le_refl _)
  refine ⟨ho, fun p hp => World.ownsRow.kept (hent p hp) hg (own_apart (by decide) (hent p hp) hrow), ?_⟩
  have e : (qs.set k (o', y)).map (fun p => p.2.ownBlock) = (qs.set k (o, y)).map (fun p => p.2.ownBlock) := by rw [List.map_set, List.map_set]
  rw [e]
  exact h.2.2
theorem OwnP.inI {w w2 : World} {B k : Nat} {v : Value} {qs : List (OpD × Value)} {o o' : OpD} {y : Value} (h : OwnP w B v (qs.set k (o, y))) (hk : k < qs.length) (hx : opC (o', y) = opC (o, y)) (hg : w.grownBy w2 y.ownBlock) (ho : OwnR 107 3 itC w2 B y o'.its) : OwnP w2 B v (qs.set k (o', y)) := by
  have hk2 : k < (qs.set k (o, y)).length := by rw [List.length_set]; exact hk
  have hap := h.2.2
  have hyk : (qs.set k (o, y))[k].2 = y := by rw [set_at hk]
  have hv : v.ownBlock = none ∨ v.ownBlock ≠ y.ownBlock := apart_head hap (List.mem_map.2 ⟨_, List.getElem_mem hk2, by rw [set_at hk]⟩)
  have e : (qs.set k (o', y)).map (fun p => p.2.ownBlock) = (qs.set k (o, y)).map (fun p => p.2.ownBlock) := by rw [List.map_set, List.map_set]
  refine ⟨?_, ?_, by rw [e]; exact hap⟩
  · have h1 : OwnR 45 7 opC w2 B v (qs.set k (o, y)) := World.ownsRow.kept h.1 hg hv
    have e2 : (qs.set k (o', y)).flatMap opC = (qs.set k (o, y)).flatMap opC := by
      rw [List.flatMap_def, List.flatMap_def, List.map_set, List.map_set, hx]
    unfold OwnR at h1 ⊢
    rw [List.length_set] at h1 ⊢
    rw [e2]
    exact h1
  · intro p hp
    obtain ⟨i, hi, rfl⟩ := List.getElem_of_mem hp
    rw [List.length_set] at hi
    by_cases e3 : k = i
    · subst e3
      rw [List.getElem_set_self]
      exact ho
    · have hi2 : i < (qs.set k (o, y)).length := by rw [List.length_set]; exact hi
      rw [List.getElem_set_ne e3]
      have h2 := apart_two (List.pairwise_cons.1 hap).2 i k (by rw [List.length_map]; exact hi2) (by rw [List.length_map]; exact hk2) (fun h => e3 h.symm)
      simp only [List.getElem_map, set_at hk, List.getElem_set_ne e3] at h2
      have h3 := h.2.1 _ (List.getElem_mem hi2)
      rw [List.getElem_set_ne e3] at h3
      exact World.ownsRow.kept h3 hg h2
theorem OwnP.cellAt {w : World} {B g n cap k : Nat} {qs : List (OpD × Value)} {o : OpD} {y : Value} (h : OwnP w B (.slice (Option.some ⟨g, 0, none⟩) n cap) (qs.set k (o, y))) (hn : n = qs.length) (hk : k < qs.length) : (∀ j u, (opC (o, y))[j]? = Option.some u → w.cell? ⟨g, k * 7 + j, none⟩ = Option.some u) ∧ ∀ j, w.frozen? ⟨g, j, none⟩ = false := ⟨fun j u hu => own_cell opC_len h.1 hn hk j u hu, fun j => own_free h.1 hn j⟩
/-- Where the marks of operations end. -/
def naN1 (o : OpD) (m : Int) : Int := m + 1 + 1 + 1 + 1 + 1 + 1 + 3 * (o.its.length : Int)
def naN : List OpD → Int → Int
  | [], m => m
  | o :: os, m => naN os (naN1 o m)
theorem naN_app (a b : List OpD) (m : Int) : naN (a ++ b) m = naN b (naN a m) := by
  induction a generalizing m with
  | nil => rfl
  | cons s a ih => exact ih _
theorem naN_take (os : List OpD) (m : Int) (k : Nat) (h : k < os.length) : naN (os.take (k + 1)) m = naN1 os[k] (naN (os.take k) m) := by
  rw [List.take_succ_eq_append_getElem h, naN_app]
  rfl
theorem naN_le (os : List OpD) (m : Int) (q : Nat) (hq : ∀ s ∈ os, s.its.length ≤ q) : m ≤ naN os m ∧ naN os m ≤ m + (os.length : Int) * (6 + 3 * (q : Int)) := by
  induction os generalizing m with
  | nil => unfold naN; simp
  | cons s ss ih =>
    have h1 := ih (naN1 s m) (fun x hx => hq x (List.mem_cons_of_mem _ hx))
    have h2 := hq s List.mem_cons_self
    have h3 : naN (s :: ss) m = naN ss (naN1 s m) := rfl
    rw [h3, List.length_cons]
    have h4 : m ≤ naN1 s m ∧ naN1 s m ≤ m + (6 + 3 * (q : Int)) := by unfold naN1; omega
    have h5 : (((ss.length + 1 : Nat) : Int)) * (6 + 3 * (q : Int)) = (ss.length : Int) * (6 + 3 * (q : Int)) + (6 + 3 * (q : Int)) := by
      rw [Int.natCast_add, Int.add_mul]; simp
    omega
def NaOk (os : List OpD) (m : Int) : Prop := (∀ k, k ≤ os.length → 0 < naN (os.take k) m ∧ naN (os.take k) m ≤ 10000000000000) ∧ ∀ s ∈ os, s.its.length ≤ 1048576
theorem naOk_one {os : List OpD} (h1 : os.length ≤ 1048576) (h2 : ∀ s ∈ os, s.its.length ≤ 1048576) : NaOk os 1 := by
  refine ⟨fun k hk => ?_, h2⟩
  have h3 := naN_le (os.take k) 1 1048576 (fun s hs => h2 s (List.mem_of_mem_take hs))
  have hl : (os.take k).length ≤ 1048576 := by rw [List.length_take]; omega
  have h4 : ((os.take k).length : Int) * (6 + 3 * ((1048576 : Nat) : Int)) ≤ 1048576 * (6 + 3 * ((1048576 : Nat) : Int)) := Int.mul_le_mul_of_nonneg_right (by omega) (by omega)
  omega
theorem naN_pos {os : List OpD} {m : Int} (hm : NaOk os m) : 0 < naN os m ∧ naN os m ≤ 10000000000000 := by
  have := hm.1 os.length (Nat.le_refl _)
  rw [List.take_length] at this
  exact this

set_option maxRecDepth 100000 in
set_option maxHeartbeats 1600000 in
theorem toOpS_D (v : Value) (os : List OpD) (w : World) (h : OpsAt w w.heap.size v os) (hn : os.length ≤ 1048576) (hns : ∀ s ∈ os, s.its.length ≤ 1048576) :
    Calls Try.prog 16 #[v] w (OutOD os w) := by
  have HI := Lib.hid h
  have HNS := Lib.hid hns
  obtain ⟨a, cap, rfl, hl, hm, hc⟩ := h.raw
  unfold maxLen at hm
  clear hc h hns
  go_enter Try.func16, Try.ntmps16
  go_wp2_with (at_make; refine wpList_fullR (z := op0) opC_len (by decide) Try.underlying29 Try.infoOp rfl (by decide) rfl _ _ rfl w.heap.size .i64 .i64 os.length rfl rfl (by omega) (Nat.le_refl _) ?_; intro w0 hown0 hb0)
  have hg0 : w.heap.size < w0.heap.size := (World.ownsRow.lt hown0 _ rfl).2
  go_loopw [4] (fun i wr => ∃ (k : Nat) (qs : List (OpD × Value)), k ≤ os.length ∧ i = .int .i64 k ∧ Hid (qs.map Prod.fst = os.take k) ∧ OwnR 45 7 opC wr w.heap.size (.slice (some ⟨w.heap.size, 0, none⟩) os.length os.length) (qs ++ List.replicate (os.length - k) op0) ∧ Hid (∀ p ∈ qs, OwnR 107 3 itC wr (w.heap.size + 1) p.2 p.1.its) ∧ Below w.heap.size w wr ∧ w.heap.size < wr.heap.size ∧ Hid (ApartD (some w.heap.size :: qs.map fun p => p.2.ownBlock)))
    (fun i _ => os.length - (intOf i).toNat)
  case atStart => exact ⟨0, [], Nat.zero_le _, rfl, Lib.hid rfl, by simpa using hown0, Lib.hid (by simp), hb0, hg0, Lib.hid (by unfold ApartD; simp)⟩
  case round =>
    obtain ⟨k, qs, hk, rfl, HM, hown, HE, hbel, hgr, HAp⟩ := hrel
    clear hown0 hb0 hg0
    have hql : qs.length = k := by have := congrArg List.length HM.out; simpa [hk] using this
    by_cases hlt : k < os.length
    · obtain ⟨a', cap', hv, _, _, hc⟩ := (HI.out.below hbel).raw
      cases hv
      obtain ⟨b, off, rfl, hb, hr⟩ := hc k hlt
      obtain ⟨y, c0, c1, c2, c3, c4, c5, c6, hy, hz⟩ := hr k hlt
      have hy1 := Lib.hid (hy.mono hbel.size)
      have HC := Lib.hid (fun w (hy : ItAt w w.heap.size y os[k].its) => toOp_any os[k] y w hy hz (HNS.out _ (List.getElem_mem hlt)))
      have HP : Hid (∀ w' z, OwnR 45 7 opC w' w.heap.size (.slice (some ⟨w.heap.size, 0, none⟩) os.length os.length) (qs ++ List.replicate (os.length - k) op0) → OwnR 45 7 opC (putRow w.heap.size (k * 7) [.int .i64 os[k].k, .string os[k].u, .string os[k].i, .int .i64 os[k].d, .string os[k].fu, .string os[k].ft, z] w') w.heap.size (.slice (some ⟨w.heap.size, 0, none⟩) os.length os.length) ((qs ++ [(os[k], z)]) ++ List.replicate (os.length - (k + 1)) op0)) := Lib.hid (fun w' z h => by
        have h2 := h.put opC_len (by simp; omega) k (os[k], z) (by simp; omega)
        have e1 : (qs ++ List.replicate (os.length - k) op0).set k (os[k], z) = (qs ++ [(os[k], z)]) ++ List.replicate (os.length - (k + 1)) op0 := by
          have e2 : os.length - k = (os.length - (k + 1)) + 1 := by omega
          rw [e2, List.replicate_succ, List.set_append_right _ _ (by omega), hql, Nat.sub_self, List.set_cons_zero, List.append_assoc]
          rfl
        rw [e1] at h2
        exact h2)
      have HQ : Hid (∀ w' z, Below w.heap.size w w' → Below w.heap.size w (putRow w.heap.size (k * 7) [.int .i64 os[k].k, .string os[k].u, .string os[k].i, .int .i64 os[k].d, .string os[k].fu, .string os[k].ft, z] w')) := Lib.hid (fun w' z h => putRow_below (Nat.le_refl _) _ _ _ _ h)
      have HEn : Hid (∀ w' z, (∀ p ∈ qs ++ [(os[k], z)], OwnR 107 3 itC w' (w.heap.size + 1) p.2 p.1.its) → ∀ p ∈ qs ++ [(os[k], z)], OwnR 107 3 itC (putRow w.heap.size (k * 7) [.int .i64 os[k].k, .string os[k].u, .string os[k].i, .int .i64 os[k].d, .string os[k].fu, .string os[k].ft, z] w') (w.heap.size + 1) p.2 p.1.its) := Lib.hid (fun w' z h p hp => putRow_own11 (Nat.lt_succ_self _) _ _ _ (h p hp))
      have HSz : Hid (∀ (w' : World) z, (putRow w.heap.size (k * 7) [.int .i64 os[k].k, .string os[k].u, .string os[k].i, .int .i64 os[k].d, .string os[k].fu, .string os[k].ft, z] w').heap.size = w'.heap.size) := Lib.hid (fun w' z => by simp [putRow, World.setCell])
      have HM' : Hid (∀ z, (qs ++ [(os[k], z)]).map Prod.fst = os.take (k + 1)) := Lib.hid (fun z => by rw [List.map_append, HM.out, List.take_succ_eq_append_getElem hlt]; rfl)
      have HJ : Hid (∀ w' z, (∀ p ∈ qs, OwnR 107 3 itC w' (w.heap.size + 1) p.2 p.1.its) → OwnR 107 3 itC w' (w.heap.size + 1) z os[k].its → ∀ p ∈ qs ++ [(os[k], z)], OwnR 107 3 itC w' (w.heap.size + 1) p.2 p.1.its) := Lib.hid (fun w' z h1 h2 p hp => by
        rcases List.mem_append.1 hp with h | h
        · exact h1 p h
        · obtain rfl : p = (os[k], z) := by simpa using h
          exact h2)
      simp only [putRow, Nat.add_assoc, Nat.reduceAdd] at HP HQ HEn HSz
      have HOw := Lib.hid hown
      have HBl := Lib.hid hbel
      unfold OutO at HC
      obtain ⟨P, hP⟩ : ∃ P, P = os[k] := ⟨_, rfl⟩
      rw [← hP] at c0 c1 c2 c3 c4 c5 hy1 HC HP HQ HEn HSz HM' HJ
      clear hr hc hP hz hown hbel hy
      go_wp2_with fail
      refine (HC.out _ hy1.out).mono ?_
      rintro e w1 ⟨z, rfl, hz, hb1⟩
      obtain ⟨za, zc, rfl⟩ := hz.slice
      have hown1 := HOw.out.keep hb1 (Nat.le_refl _)
      have HE1 : Hid (∀ p ∈ qs, OwnR 107 3 itC w1 (w.heap.size + 1) p.2 p.1.its) := Lib.hid (fun p hp => (HE.out p hp).keep hb1 (Nat.le_refl _))
      have HZ := Lib.hid (HJ.out w1 _ HE1.out (hz.base_mono (by omega)))
      have hbel1 := HBl.out.trans (hb1.mono HBl.out.size)
      have hgr1 : w.heap.size < w1.heap.size := by have := hb1.size; omega
      have hfr : ∀ j, w1.frozen? ⟨w.heap.size, j, none⟩ = false := fun j => hown1.free (by simp; omega) j
      obtain ⟨x0, d0⟩ := hown1.cell opC_len (by simp; omega) k 0 hlt (by decide)
      obtain ⟨x1, d1⟩ := hown1.cell opC_len (by simp; omega) k 1 hlt (by decide)
      obtain ⟨x2, d2⟩ := hown1.cell opC_len (by simp; omega) k 2 hlt (by decide)
      obtain ⟨x3, d3⟩ := hown1.cell opC_len (by simp; omega) k 3 hlt (by decide)
      obtain ⟨x4, d4⟩ := hown1.cell opC_len (by simp; omega) k 4 hlt (by decide)
      obtain ⟨x5, d5⟩ := hown1.cell opC_len (by simp; omega) k 5 hlt (by decide)
      obtain ⟨x6, d6⟩ := hown1.cell opC_len (by simp; omega) k 6 hlt (by decide)
      rw [Nat.add_zero] at d0
      have HO1 := Lib.hid hown1
      have HApn : Hid (ApartD (some w.heap.size :: (qs ++ [(P, Value.slice za P.its.length zc)]).map fun p => p.2.ownBlock)) := Lib.hid (by
        rw [List.map_append]
        exact apart_snocG HAp.out hgr (by rcases hz.blk with h | ⟨g, h1, h2, _⟩; exact .inl h; exact .inr ⟨g, h1, h2⟩) (fun c hc => by obtain ⟨p, hp, rfl⟩ := List.mem_map.1 hc; rcases (HE.out p hp).blk with h | ⟨g, h1, _, h2⟩; exact .inl h; exact .inr ⟨g, h1, h2⟩))
      clear hown1 HOw hb1 HBl c0 c1 c2 c3 c4 c5 c6 hz HE HE1 hql
      go_wp2
      have n1 := HM'.out (.slice za P.its.length zc)
      have n2 := HP.out w1 (.slice za P.its.length zc) HO1.out
      have n3 := HEn.out w1 (.slice za P.its.length zc) HZ.out
      have n4 := HQ.out w1 (.slice za P.its.length zc) hbel1
      have n5 := Nat.lt_of_lt_of_eq hgr1 (HSz.out w1 (.slice za P.its.length zc)).symm
      refine ⟨⟨k + 1, qs ++ [(P, .slice za P.its.length zc)], by omega, by simp, Lib.hid n1, n2, Lib.hid n3, n4, n5, HApn⟩, ?_⟩
      simp [intOf]; omega
    · go_wp2
      go_ret
      have : k = os.length := by omega
      subst this
      simp only [Nat.sub_self, List.replicate_zero, List.append_nil] at hown
      have hM := HM.out
      rw [List.take_length] at hM
      exact ⟨_, qs, rfl, hM, ⟨hown, (fun p hp => (HE.out p hp).base_mono (by omega)), HAp.out⟩, hbel⟩

set_option maxRecDepth 100000 in
set_option maxHeartbeats 1600000 in
theorem eqOpS_same (v v' : Value) (os : List OpD) (w : World) (h : OpsAt w w.heap.size v os) (h' : OpsAt w w.heap.size v' os) :
    Calls Try.prog 19 #[v, v'] w fun e w' => e = .returned (.bool true) ∧ Below w.heap.size w w' := by
  have HI := Lib.hid h
  have HJ := Lib.hid h'
  obtain ⟨a, cap, rfl, hl, hm, hc⟩ := h.raw
  obtain ⟨a2, cap2, rfl, hl2, hm2, hc2⟩ := h'.raw
  unfold maxLen at hm hm2
  clear hc h hc2 h'
  go_enter Try.func19, Try.ntmps19
  go_wp2
  go_loopw [5] (fun i wr => ∃ k : Nat, k ≤ os.length ∧ i = .int .i64 k ∧ Below w.heap.size w wr) (fun i _ => os.length - (intOf i).toNat)
  case atStart => exact ⟨0, Nat.zero_le _, rfl, Below.refl _ _⟩
  case round =>
    obtain ⟨k, hk, rfl, hbel⟩ := hrel
    by_cases hlt : k < os.length
    · obtain ⟨a', cap', hv, _, _, hc⟩ := (HI.out.below hbel).raw
      cases hv
      obtain ⟨b, off, rfl, hb, hr⟩ := hc k hlt
      obtain ⟨x, c0, c1, c2, c3, c4, c5, c6, hx, hz⟩ := hr k hlt
      obtain ⟨a'2, cap'2, hv2, _, _, hc2⟩ := (HJ.out.below hbel).raw
      cases hv2
      obtain ⟨b2, off2, rfl, hb2, hr2⟩ := hc2 k hlt
      obtain ⟨y, g0, g1, g2, g3, g4, g5, g6, hy, _⟩ := hr2 k hlt
      obtain ⟨xa, xc, rfl⟩ := hx.1.slice
      obtain ⟨xa2, xc2, rfl⟩ := hy.1.slice
      have hx1 := Lib.hid (hx.mono hbel.size)
      have hy1 := Lib.hid (hy.mono hbel.size)
      obtain ⟨P, hP⟩ : ∃ P, P = os[k] := ⟨_, rfl⟩
      rw [← hP] at c0 c1 c2 c3 c4 c5 c6 g0 g1 g2 g3 g4 g5 g6 hx1 hy1 hz
      have HC := Lib.hid (fun w h h' => eqOp_same P (.slice xa P.its.length xc) (.slice xa2 P.its.length xc2) w h h' hz)
      have hA : (fun w' => (w'.cell? ⟨b, off + k * 7, none⟩ = some (.int .i64 P.k) ∧ w'.cell? ⟨b, off + k * 7 + 1, none⟩ = some (.string P.u) ∧ w'.cell? ⟨b, off + k * 7 + 2, none⟩ = some (.string P.i) ∧ w'.cell? ⟨b, off + k * 7 + 3, none⟩ = some (.int .i64 P.d) ∧ w'.cell? ⟨b, off + k * 7 + 4, none⟩ = some (.string P.fu) ∧ w'.cell? ⟨b, off + k * 7 + 5, none⟩ = some (.string P.ft) ∧ w'.cell? ⟨b, off + k * 7 + 6, none⟩ = some (.slice xa P.its.length xc)) ∧ (w'.cell? ⟨b2, off2 + k * 7, none⟩ = some (.int .i64 P.k) ∧ w'.cell? ⟨b2, off2 + k * 7 + 1, none⟩ = some (.string P.u) ∧ w'.cell? ⟨b2, off2 + k * 7 + 2, none⟩ = some (.string P.i) ∧ w'.cell? ⟨b2, off2 + k * 7 + 3, none⟩ = some (.int .i64 P.d) ∧ w'.cell? ⟨b2, off2 + k * 7 + 4, none⟩ = some (.string P.fu) ∧ w'.cell? ⟨b2, off2 + k * 7 + 5, none⟩ = some (.string P.ft) ∧ w'.cell? ⟨b2, off2 + k * 7 + 6, none⟩ = some (.slice xa2 P.its.length xc2))) wr.drew := ⟨⟨c0, c1, c2, c3, c4, c5, c6⟩, g0, g1, g2, g3, g4, g5, g6⟩
      have hbw : b < wr.heap.size := by have := hbel.size; omega
      have hbw2 : b2 < wr.heap.size := by have := hbel.size; omega
      have HKA : Hid (∀ w1, Below wr.drew.heap.size wr.drew w1 → (fun w' => (w'.cell? ⟨b, off + k * 7, none⟩ = some (.int .i64 P.k) ∧ w'.cell? ⟨b, off + k * 7 + 1, none⟩ = some (.string P.u) ∧ w'.cell? ⟨b, off + k * 7 + 2, none⟩ = some (.string P.i) ∧ w'.cell? ⟨b, off + k * 7 + 3, none⟩ = some (.int .i64 P.d) ∧ w'.cell? ⟨b, off + k * 7 + 4, none⟩ = some (.string P.fu) ∧ w'.cell? ⟨b, off + k * 7 + 5, none⟩ = some (.string P.ft) ∧ w'.cell? ⟨b, off + k * 7 + 6, none⟩ = some (.slice xa P.its.length xc)) ∧ (w'.cell? ⟨b2, off2 + k * 7, none⟩ = some (.int .i64 P.k) ∧ w'.cell? ⟨b2, off2 + k * 7 + 1, none⟩ = some (.string P.u) ∧ w'.cell? ⟨b2, off2 + k * 7 + 2, none⟩ = some (.string P.i) ∧ w'.cell? ⟨b2, off2 + k * 7 + 3, none⟩ = some (.int .i64 P.d) ∧ w'.cell? ⟨b2, off2 + k * 7 + 4, none⟩ = some (.string P.fu) ∧ w'.cell? ⟨b2, off2 + k * 7 + 5, none⟩ = some (.string P.ft) ∧ w'.cell? ⟨b2, off2 + k * 7 + 6, none⟩ = some (.slice xa2 P.its.length xc2))) w1) := Lib.hid (fun w1 hb1 => by
        have kc : ∀ q o x, q < wr.heap.size → wr.cell? ⟨q, o, none⟩ = some x → w1.cell? ⟨q, o, none⟩ = some x := fun q o x hq h => by
          rw [hb1.cell (p := ⟨q, o, none⟩) hq]; exact h
        exact ⟨⟨kc _ _ _ hbw c0, kc _ _ _ hbw c1, kc _ _ _ hbw c2, kc _ _ _ hbw c3, kc _ _ _ hbw c4, kc _ _ _ hbw c5, kc _ _ _ hbw c6⟩, kc _ _ _ hbw2 g0, kc _ _ _ hbw2 g1, kc _ _ _ hbw2 g2, kc _ _ _ hbw2 g3, kc _ _ _ hbw2 g4, kc _ _ _ hbw2 g5, kc _ _ _ hbw2 g6⟩)
      clear hr hc hr2 hc2 hP hx hy hz c0 c1 c2 c3 c4 c5 c6 g0 g1 g2 g3 g4 g5 g6
      go_wp2
      refine wp_region_T (fun w' => (w'.cell? ⟨b, off + k * 7, none⟩ = some (.int .i64 P.k) ∧ w'.cell? ⟨b, off + k * 7 + 1, none⟩ = some (.string P.u) ∧ w'.cell? ⟨b, off + k * 7 + 2, none⟩ = some (.string P.i) ∧ w'.cell? ⟨b, off + k * 7 + 3, none⟩ = some (.int .i64 P.d) ∧ w'.cell? ⟨b, off + k * 7 + 4, none⟩ = some (.string P.fu) ∧ w'.cell? ⟨b, off + k * 7 + 5, none⟩ = some (.string P.ft) ∧ w'.cell? ⟨b, off + k * 7 + 6, none⟩ = some (.slice xa P.its.length xc)) ∧ (w'.cell? ⟨b2, off2 + k * 7, none⟩ = some (.int .i64 P.k) ∧ w'.cell? ⟨b2, off2 + k * 7 + 1, none⟩ = some (.string P.u) ∧ w'.cell? ⟨b2, off2 + k * 7 + 2, none⟩ = some (.string P.i) ∧ w'.cell? ⟨b2, off2 + k * 7 + 3, none⟩ = some (.int .i64 P.d) ∧ w'.cell? ⟨b2, off2 + k * 7 + 4, none⟩ = some (.string P.fu) ∧ w'.cell? ⟨b2, off2 + k * 7 + 5, none⟩ = some (.string P.ft) ∧ w'.cell? ⟨b2, off2 + k * 7 + 6, none⟩ = some (.slice xa2 P.its.length xc2))) (fun _ => True) 9 (by kernel_rfl) 10 rfl ?_
      refine wpAnyT_takesA (md := .any) 2 (by kernel_rfl) (by intro d v c a w h; cases d <;> exact h) [0, 1, 2, 3, 4, 5, 6, 7] _ _ _ (by decide) (by kernel_rfl) ⟨hA, fun _ => trivial⟩ ?_
      simp only [pick, List.filterMap_cons, List.filterMap_nil, List.getElem?_cons_zero, List.getElem?_cons_succ]
      refine wpIf_step (.slice (some ⟨b, off, none⟩) os.length cap) (by kernel_rfl) (fun w hw => by go_simp) ?_
      refine wpIf_step (.int .i64 (k : Int)) (by kernel_rfl) (fun w hw => by go_simp) ?_
      refine wpIf_step (.pointer (some ⟨b, off + k * 7, none⟩)) (by kernel_rfl) (fun w hw => by go_simp) ?_
      refine wpIf_step (opV P (.slice xa P.its.length xc)) (by kernel_rfl) (fun w hw => by have e0 := hw.1.1; have e1 := hw.1.2.1; have e2 := hw.1.2.2.1; have e3 := hw.1.2.2.2.1; have e4 := hw.1.2.2.2.2.1; have e5 := hw.1.2.2.2.2.2.1; have e6 := hw.1.2.2.2.2.2.2; go_simp) ?_
      refine wpIf_step (.slice (some ⟨b2, off2, none⟩) os.length cap2) (by kernel_rfl) (fun w hw => by go_simp) ?_
      refine wpIf_step (.int .i64 (k : Int)) (by kernel_rfl) (fun w hw => by go_simp) ?_
      refine wpIf_step (.pointer (some ⟨b2, off2 + k * 7, none⟩)) (by kernel_rfl) (fun w hw => by go_simp) ?_
      refine wpIf_step (opV P (.slice xa2 P.its.length xc2)) (by kernel_rfl) (fun w hw => by have e0 := hw.2.1; have e1 := hw.2.2.1; have e2 := hw.2.2.2.1; have e3 := hw.2.2.2.2.1; have e4 := hw.2.2.2.2.2.1; have e5 := hw.2.2.2.2.2.2.1; have e6 := hw.2.2.2.2.2.2.2; go_simp) ?_
      refine wpIf_nil (fun hS => ?_)
      clear hS
      refine wpAnyT_one 8 1 (by kernel_rfl) rfl (by kernel_rfl) (fun K hK => ?_)
      go_simp
      refine (HC.out wr.drew hx1.out hy1.out).mono ?_
      rintro e w1 ⟨rfl, hb1⟩
      have hbel2 := hbel.drew.trans (hb1.mono hbel.size)
      have hA2 := HKA.out w1 hb1
      refine hK _ _ ⟨hA2, fun _ => trivial⟩ (fun hS => ?_)
      clear hK K hS
      refine wpAnyT_one 9 0 (by kernel_rfl) rfl (by kernel_rfl) (fun K hK => ?_)
      go_simp
      refine hK _ _ ⟨hA2, fun _ => trivial⟩ (fun hS => ?_)
      clear hK K hS
      refine wpAnyT_over (by kernel_rfl) ?_
      clear hA hA2 HKA hb1
      go_wp2
      go_roundw
      case rel => exact ⟨k + 1, by omega, by go_num, hbel2⟩
      case measure => simp [intOf]; omega
    · go_wp2
      go_ret
      exact ⟨rfl, hbel⟩

set_option maxRecDepth 100000 in
set_option maxHeartbeats 3000000 in
theorem markOpS_any (v : Value) (ps : List (OpD × Value)) (os : List OpD) (B S : Nat) (m : Int) (w : World) (h : OwnP w B v ps) (hps : ps.map Prod.fst = os) (hB : B ≤ w.heap.size) (hv : ∀ b, v.ownBlock = some b → b < S) (hvs : ∀ p ∈ ps, ∀ b, p.2.ownBlock = some b → b < S) (hm : NaOk os m) (hn : os.length ≤ 1048576) :
    Calls Try.prog 20 #[v, .int .i64 m] w fun e w' => e = .returned (.int .i64 (naN os m)) ∧ Mid B S w w' := by
  have hpl : ps.length = os.length := by have := congrArg List.length hps; simpa using this
  obtain ⟨va, vc, rfl⟩ := h.1.slice
  rw [hpl] at h hv ⊢
  have HM := Lib.hid (fun k w h0 h1 => markText_any k w h0 h1)
  have HO := Lib.hid h
  have HMa := Lib.hid hm
  have HV := Lib.hid hv
  have HVs : Hid (∀ y ∈ ps.map Prod.snd, ∀ b, y.ownBlock = some b → b < S) := Lib.hid (fun y hy => by obtain ⟨p, hp, rfl⟩ := List.mem_map.1 hy; exact hvs p hp)
  have HLe : Hid (ps.map (fun p => p.1.its.length) = os.map fun o => o.its.length) := Lib.hid (by rw [← hps, List.map_map]; rfl)
  clear h hps hm hv hvs hpl
  go_enter Try.func20, Try.ntmps20
  go_wp2
  go_loopw [1, 5] (fun c i wr => ∃ (k : Nat) (qs : List (OpD × Value)), k ≤ os.length ∧ i = .int .i64 (k : Int) ∧ c = .int .i64 (naN (os.take k) m) ∧ Hid (qs.map (fun p => p.1.its.length) = os.map fun o => o.its.length) ∧ Hid (qs.map Prod.snd = ps.map Prod.snd) ∧ Hid (OwnP wr B (.slice va os.length vc) qs) ∧ Hid (Mid B S w wr)) (fun _ i _ => os.length - (intOf i).toNat)
  case atStart => exact ⟨0, ps, Nat.zero_le _, rfl, rfl, HLe, Lib.hid rfl, HO, Lib.hid (Mid.refl _)⟩
  case round =>
    obtain ⟨k, qs, hk, rfl, rfl, HQ, HQ2, HD, HMi⟩ := hrel
    clear HO
    by_cases hlt : k < os.length
    · have hql : qs.length = os.length := by have := congrArg List.length HQ.out; simpa using this
      have hkq : k < qs.length := by omega
      obtain ⟨g, hva, hg1, hg2, hgn⟩ := OwnR.form HD.out.1 (by omega)
      subst hva
      have hPl : qs[k].1.its.length = os[k].its.length := by
        have := congrArg (fun l => l[k]?) HQ.out
        simp only [List.getElem?_map, List.getElem?_eq_getElem hkq, List.getElem?_eq_getElem hlt, Option.map_some] at this
        exact Option.some.inj this
      obtain ⟨ya, yc, hyv⟩ := (HD.out.2.1 _ (List.getElem_mem hkq)).slice
      obtain ⟨O, hO⟩ : ∃ O, O = qs[k].1 := ⟨_, rfl⟩
      rw [← hO] at hPl hyv
      have HD0 : Hid (OwnP wr B (.slice (some ⟨g, 0, none⟩) os.length vc) (qs.set k (O, .slice ya O.its.length yc))) := Lib.hid (by
        have e : (O, Value.slice ya O.its.length yc) = qs[k] := Prod.ext hO hyv.symm
        rw [e, List.set_getElem_self]
        exact HD.out)
      have HYb : Hid (∀ b, Value.ownBlock (.slice ya O.its.length yc) = some b → b < S) := Lib.hid (fun b hb => HVs.out _ (by rw [← HQ2.out]; exact List.mem_map.2 ⟨_, List.getElem_mem hkq, hyv⟩) b hb)
      have HQ2n : Hid (∀ s : OpD, (qs.set k (s, Value.slice ya O.its.length yc)).map Prod.snd = ps.map Prod.snd) := Lib.hid (fun s => by
        rw [List.map_set, HQ2.out]
        have e : Value.slice ya O.its.length yc = (ps.map Prod.snd)[k]'(by rw [← HQ2.out, List.length_map]; exact hkq) := by
          rw [← hyv]
          have : (qs.map Prod.snd)[k]'(by rw [List.length_map]; exact hkq) = qs[k].2 := by simp
          rw [← this]
          simp only [HQ2.out]
        rw [e, List.set_getElem_self])
      have HQn : Hid (∀ (s : OpD) (y : Value), s.its.length = O.its.length → (qs.set k (s, y)).map (fun p => p.1.its.length) = os.map fun o => o.its.length) := Lib.hid (fun s y hs => by
        rw [List.map_set, HQ.out]
        have e : s.its.length = (os.map fun o => o.its.length)[k]'(by rw [List.length_map]; exact hlt) := by rw [List.getElem_map, hs]; exact hPl
        show (os.map fun o => o.its.length).set k s.its.length = _
        rw [e, List.set_getElem_self])
      have HN := Lib.hid (naN_take os m k hlt)
      obtain ⟨hcb0, hcb1⟩ := HMa.out.1 k (by omega)
      have hes := HMa.out.2 _ (List.getElem_mem hlt)
      rw [← hPl] at hes
      have hBS : g < S := HV.out g rfl
      obtain ⟨c, hc⟩ : ∃ c, c = naN (os.take k) m := ⟨_, rfl⟩
      rw [← hc] at hcb0 hcb1 HN ⊢
      have HN2 : Hid (naN (os.take (k + 1)) m = c + 1 + 1 + 1 + 1 + 1 + 1 + 3 * (O.its.length : Int)) := Lib.hid (by rw [HN.out]; unfold naN1; rw [hPl])
      have HgN := Lib.hid hgn
      have HkQ := Lib.hid hkq
      clear hc hql hkq hyv HD hgn HQ HQ2 hO hPl HN
      have hBw : B ≤ wr.heap.size := Nat.le_trans hB HMi.out.1.size
      have q0 := (HD0.out.cellAt HgN.out HkQ.out).1 0 _ rfl
      rw [Nat.add_zero] at q0
      have fz0 := (HD0.out.cellAt HgN.out HkQ.out).2
      have HD1 : Hid (OwnP ((wr).setCell ⟨g, k * 7, none⟩ (.int .i64 (c))) B (.slice (some ⟨g, 0, none⟩) os.length vc) (qs.set k ((⟨(c), O.u, O.i, O.d, O.fu, O.ft, O.its⟩ : OpD), .slice ya O.its.length yc))) := Lib.hid (by have := HD0.out.fld (o' := ⟨(c), O.u, O.i, O.d, O.fu, O.ft, O.its⟩) HgN.out HkQ.out (Below.refl _ _) 0 (.int .i64 (c)) (by decide) rfl rfl; exact this)
      have HM1 := Lib.hid ((HMi.out).setCell ⟨g, k * 7, none⟩ (.int .i64 (c)) hg1 hBS)
      have hs1 : B ≤ ((wr).setCell ⟨g, k * 7, none⟩ (.int .i64 (c))).heap.size := Nat.le_trans hB HM1.out.1.size
      go_wp2_with fail
      clear q0 fz0
      refine (HM.out (c + 1) _ (by omega) (by omega)).mono ?_
      rintro e w1 ⟨rfl, hb1⟩
      obtain ⟨X1, hX1⟩ : ∃ X, X = mtX (c + 1) := ⟨_, rfl⟩
      rw [← hX1]
      clear hX1
      have HK1 := Lib.hid (HD1.out.keep hb1 (Nat.le_refl _))
      have HMk1 := Lib.hid (HM1.out.trans (Mid.below hb1 hs1))
      have q1 := (HK1.out.cellAt HgN.out HkQ.out).1 1 _ rfl
      have fz1 := (HK1.out.cellAt HgN.out HkQ.out).2
      have HD2 : Hid (OwnP ((w1).setCell ⟨g, k * 7 + 1, none⟩ (.string X1)) B (.slice (some ⟨g, 0, none⟩) os.length vc) (qs.set k ((⟨(c), X1, O.i, O.d, O.fu, O.ft, O.its⟩ : OpD), .slice ya O.its.length yc))) := Lib.hid (by have := HD1.out.fld (o' := ⟨(c), X1, O.i, O.d, O.fu, O.ft, O.its⟩) HgN.out HkQ.out hb1 1 (.string X1) (by decide) rfl rfl; exact this)
      have HM2 := Lib.hid ((HMk1.out).setCell ⟨g, k * 7 + 1, none⟩ (.string X1) hg1 hBS)
      have hs2 : B ≤ ((w1).setCell ⟨g, k * 7 + 1, none⟩ (.string X1)).heap.size := Nat.le_trans hB HM2.out.1.size
      clear hb1
      go_wp2_with fail
      clear q1 fz1
      refine (HM.out (c + 1 + 1) _ (by omega) (by omega)).mono ?_
      rintro e w2 ⟨rfl, hb2⟩
      obtain ⟨X2, hX2⟩ : ∃ X, X = mtX (c + 1 + 1) := ⟨_, rfl⟩
      rw [← hX2]
      clear hX2
      have HK2 := Lib.hid (HD2.out.keep hb2 (Nat.le_refl _))
      have HMk2 := Lib.hid (HM2.out.trans (Mid.below hb2 hs2))
      have q2 := (HK2.out.cellAt HgN.out HkQ.out).1 2 _ rfl
      have fz2 := (HK2.out.cellAt HgN.out HkQ.out).2
      have HD3 : Hid (OwnP ((w2).setCell ⟨g, k * 7 + 2, none⟩ (.string X2)) B (.slice (some ⟨g, 0, none⟩) os.length vc) (qs.set k ((⟨(c), X1, X2, O.d, O.fu, O.ft, O.its⟩ : OpD), .slice ya O.its.length yc))) := Lib.hid (by have := HD2.out.fld (o' := ⟨(c), X1, X2, O.d, O.fu, O.ft, O.its⟩) HgN.out HkQ.out hb2 2 (.string X2) (by decide) rfl rfl; exact this)
      have HM3 := Lib.hid ((HMk2.out).setCell ⟨g, k * 7 + 2, none⟩ (.string X2) hg1 hBS)
      have hs3 : B ≤ ((w2).setCell ⟨g, k * 7 + 2, none⟩ (.string X2)).heap.size := Nat.le_trans hB HM3.out.1.size
      clear hb2
      have q3 := (HD3.out.cellAt HgN.out HkQ.out).1 3 _ rfl
      have fz3 := (HD3.out.cellAt HgN.out HkQ.out).2
      have HD4 : Hid (OwnP (((w2).setCell ⟨g, k * 7 + 2, none⟩ (.string X2)).setCell ⟨g, k * 7 + 3, none⟩ (.int .i64 (c + 1 + 1 + 1))) B (.slice (some ⟨g, 0, none⟩) os.length vc) (qs.set k ((⟨(c), X1, X2, (c + 1 + 1 + 1), O.fu, O.ft, O.its⟩ : OpD), .slice ya O.its.length yc))) := Lib.hid (by have := HD3.out.fld (o' := ⟨(c), X1, X2, (c + 1 + 1 + 1), O.fu, O.ft, O.its⟩) HgN.out HkQ.out (Below.refl _ _) 3 (.int .i64 (c + 1 + 1 + 1)) (by decide) rfl rfl; exact this)
      have HM4 := Lib.hid ((HM3.out).setCell ⟨g, k * 7 + 3, none⟩ (.int .i64 (c + 1 + 1 + 1)) hg1 hBS)
      have hs4 : B ≤ (((w2).setCell ⟨g, k * 7 + 2, none⟩ (.string X2)).setCell ⟨g, k * 7 + 3, none⟩ (.int .i64 (c + 1 + 1 + 1))).heap.size := Nat.le_trans hB HM4.out.1.size
      go_wp2_with fail
      clear q2 fz2 q3 fz3
      refine (HM.out (c + 1 + 1 + 1 + 1) _ (by omega) (by omega)).mono ?_
      rintro e w4 ⟨rfl, hb4⟩
      obtain ⟨X4, hX4⟩ : ∃ X, X = mtX (c + 1 + 1 + 1 + 1) := ⟨_, rfl⟩
      rw [← hX4]
      clear hX4
      have HK4 := Lib.hid (HD4.out.keep hb4 (Nat.le_refl _))
      have HMk4 := Lib.hid (HM4.out.trans (Mid.below hb4 hs4))
      have q4 := (HK4.out.cellAt HgN.out HkQ.out).1 4 _ rfl
      have fz4 := (HK4.out.cellAt HgN.out HkQ.out).2
      have HD5 : Hid (OwnP ((w4).setCell ⟨g, k * 7 + 4, none⟩ (.string X4)) B (.slice (some ⟨g, 0, none⟩) os.length vc) (qs.set k ((⟨(c), X1, X2, (c + 1 + 1 + 1), X4, O.ft, O.its⟩ : OpD), .slice ya O.its.length yc))) := Lib.hid (by have := HD4.out.fld (o' := ⟨(c), X1, X2, (c + 1 + 1 + 1), X4, O.ft, O.its⟩) HgN.out HkQ.out hb4 4 (.string X4) (by decide) rfl rfl; exact this)
      have HM5 := Lib.hid ((HMk4.out).setCell ⟨g, k * 7 + 4, none⟩ (.string X4) hg1 hBS)
      have hs5 : B ≤ ((w4).setCell ⟨g, k * 7 + 4, none⟩ (.string X4)).heap.size := Nat.le_trans hB HM5.out.1.size
      clear hb4
      go_wp2_with fail
      clear q4 fz4
      refine (HM.out (c + 1 + 1 + 1 + 1 + 1) _ (by omega) (by omega)).mono ?_
      rintro e w5 ⟨rfl, hb5⟩
      obtain ⟨X5, hX5⟩ : ∃ X, X = mtX (c + 1 + 1 + 1 + 1 + 1) := ⟨_, rfl⟩
      rw [← hX5]
      clear hX5
      have HK5 := Lib.hid (HD5.out.keep hb5 (Nat.le_refl _))
      have HMk5 := Lib.hid (HM5.out.trans (Mid.below hb5 hs5))
      have q5 := (HK5.out.cellAt HgN.out HkQ.out).1 5 _ rfl
      have fz5 := (HK5.out.cellAt HgN.out HkQ.out).2
      have HD6 : Hid (OwnP ((w5).setCell ⟨g, k * 7 + 5, none⟩ (.string X5)) B (.slice (some ⟨g, 0, none⟩) os.length vc) (qs.set k ((⟨(c), X1, X2, (c + 1 + 1 + 1), X4, X5, O.its⟩ : OpD), .slice ya O.its.length yc))) := Lib.hid (by have := HD5.out.fld (o' := ⟨(c), X1, X2, (c + 1 + 1 + 1), X4, X5, O.its⟩) HgN.out HkQ.out hb5 5 (.string X5) (by decide) rfl rfl; exact this)
      have HM6 := Lib.hid ((HMk5.out).setCell ⟨g, k * 7 + 5, none⟩ (.string X5) hg1 hBS)
      have hs6 : B ≤ ((w5).setCell ⟨g, k * 7 + 5, none⟩ (.string X5)).heap.size := Nat.le_trans hB HM6.out.1.size
      clear hb5
      have q6 := (HD6.out.cellAt HgN.out HkQ.out).1 6 _ rfl
      go_wp2_with fail
      clear q5 fz5 q6
      have HE : Hid (OwnR 107 3 itC ((w5).setCell ⟨g, k * 7 + 5, none⟩ (.string X5)) B (.slice ya O.its.length yc) O.its) := Lib.hid (by have := HD6.out.2.1 _ (List.getElem_mem (show k < (qs.set k ((⟨(c), X1, X2, (c + 1 + 1 + 1), X4, X5, O.its⟩ : OpD), Value.slice ya O.its.length yc)).length by rw [List.length_set]; exact HkQ.out)); rw [set_at HkQ.out] at this; exact this)
      generalize (w5).setCell ⟨g, k * 7 + 5, none⟩ (.string X5) = W6 at HD6 HM6 hs6 HE ⊢
      refine (markItemS_any _ O.its B (c + 1 + 1 + 1 + 1 + 1 + 1) W6 HE.out (by omega) (by omega) hes).mono ?_
      rintro e w7 ⟨rfl, ho7, hg7⟩
      have HD7 := Lib.hid (HD6.out.inI (o' := ⟨(c), X1, X2, (c + 1 + 1 + 1), X4, X5, maIs O.its.length (c + 1 + 1 + 1 + 1 + 1 + 1)⟩) HkQ.out rfl hg7 ho7)
      have HM7 : Hid (Mid B S w w7) := Lib.hid (HM6.out.trans (Mid.gb hg7 hs6 (fun b hb => ⟨by have := World.ownsRow.lt HE.out b hb; omega, HYb.out b hb⟩)))
      have HZ2 := Lib.hid (HMa.out.1 (k + 1) (by omega))
      obtain ⟨c2, hc2⟩ : ∃ c2, c2 = naN (os.take (k + 1)) m := ⟨_, rfl⟩
      have HN3 : Hid (c + 1 + 1 + 1 + 1 + 1 + 1 + 3 * (O.its.length : Int) = c2) := Lib.hid (by rw [hc2, HN2.out])
      rw [HN3.out]
      obtain ⟨hz0, hz1⟩ := HZ2.out
      rw [← hc2] at hz0 hz1
      have HC2 := Lib.hid hc2
      clear hc2 ho7 hg7 HE HM6 HD6 hs6 HZ2 HN2
      go_wp2
      go_roundw
      case rel => exact ⟨k + 1, _, by omega, by go_num, by rw [HC2.out], Lib.hid (HQn.out _ _ (maIs_len _ _)), Lib.hid (HQ2n.out _), HD7, HM7⟩
      case measure => simp [intOf]; omega
    · have hke : k = os.length := by omega
      have HZ : Hid (naN (os.take k) m = naN os m) := Lib.hid (by rw [hke, List.take_length])
      clear hke
      generalize naN (os.take k) m = c at HZ ⊢
      go_wp2
      go_ret
      exact ⟨ret_int HZ.out, HMi.out⟩
end Go.Proofs.Ytfgdbpjmjeaolaa
