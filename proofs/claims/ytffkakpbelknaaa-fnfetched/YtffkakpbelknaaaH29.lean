/- Joined: W9zd, W9ze, W9zf, W9zg. -/
import Derived.Test.YtffkakpbelknaaaH28
/- W9zd -/
namespace Go.Proofs.Ytffkakpbelknaaa
open Go.ChangeShapes Go.WideShapes Go.ChangeAt Go.RowKit
set_option linter.unusedVariables false

/-- Feeds whose entries went. -/
def pg1 (d : Int) (s : Sb) : Sb := { s with es := pgL s.es d }
def pgS (ss : List Sb) (d : Int) : List Sb := ss.map (pg1 d)
theorem gb_Below {w w' : World} {row : Option Nat} {B : Nat} (h : w.grownBy w' row) (hB : B ≤ w.heap.size) (hr : ∀ b, row = some b → B ≤ b) : Below B w w' :=
  ⟨h.os, h.tape, h.output, h.size, fun k hk => h.block k (by omega) (fun e => by have := hr k e.symm; omega)⟩
theorem apart_head {b : Option Nat} {bs : List (Option Nat)} (h : ApartD (b :: bs)) {c : Option Nat} (hc : c ∈ bs) : b = none ∨ b ≠ c := List.rel_of_pairwise_cons h hc
theorem apart_two {bs : List (Option Nat)} (h : ApartD bs) (i j : Nat) (hi : i < bs.length) (hj : j < bs.length) (hij : i ≠ j) : bs[i] = none ∨ bs[i] ≠ bs[j] := by
  rcases Nat.lt_or_gt_of_ne hij with h1 | h1
  · exact List.pairwise_iff_getElem.1 h i j hi hj h1
  · rcases List.pairwise_iff_getElem.1 h j i hj hi h1 with h2 | h2
    · by_cases e : bs[i] = none
      · exact .inl e
      · exact .inr (by rw [h2]; exact e)
    · exact .inr (fun e => h2 e.symm)

structure PgH (w wr : World) (B : Nat) (v : Value) (ss : List Sb) (d : Int) (k : Nat) (qs : List (Sb × Value)) : Prop where
  fst : qs.map Prod.fst = pgS (ss.take k) d ++ ss.drop k
  own : OwnD wr B v qs
  lt : ∀ q ∈ qs, ∀ b, q.2.ownBlock = some b → b < w.heap.size
  box : Box wr w.heap.size #[.int .i64 d] 2
  bel : Below B w wr
theorem PgH.len {w wr : World} {B : Nat} {v : Value} {ss : List Sb} {d : Int} {k : Nat} {qs : List (Sb × Value)} (h : PgH w wr B v ss d k qs) : qs.length = ss.length := by
  have := congrArg List.length h.fst
  simp [pgS] at this
  omega
theorem PgH.at {w wr : World} {B : Nat} {v : Value} {ss : List Sb} {d : Int} {k : Nat} {qs : List (Sb × Value)} (h : PgH w wr B v ss d k qs) (hk : k < qs.length) (hk2 : k < ss.length) : qs[k].1 = ss[k] := by
  have := congrArg (fun l => l[k]?) h.fst
  simp only [List.getElem?_map, List.getElem?_eq_getElem hk, Option.map_some] at this
  rw [List.getElem?_append_right (by simp [pgS]; omega)] at this
  have e : k - (pgS (ss.take k) d).length = 0 := by simp [pgS]; omega
  rw [e, List.getElem?_drop, Nat.add_zero, List.getElem?_eq_getElem hk2] at this
  exact Option.some.inj this
theorem pgS_set (ss : List Sb) (d : Int) (k : Nat) (hk : k < ss.length) : (pgS (ss.take k) d ++ ss.drop k).set k (pg1 d ss[k]) = pgS (ss.take (k + 1)) d ++ ss.drop (k + 1) := by
  have hl : (pgS (ss.take k) d).length = k := by simp [pgS]; omega
  rw [List.set_append_right _ _ (by omega), hl, Nat.sub_self, List.take_succ_eq_append_getElem hk, List.drop_eq_getElem_cons hk, List.set_cons_zero]
  unfold pgS
  rw [List.map_append]
  simp

theorem PgH.step {w wr w2 : World} {B g n cap k : Nat} {ss : List Sb} {d : Int} {qs : List (Sb × Value)} {y : Value} (hH : PgH w wr B (.slice (some ⟨g, 0, none⟩) n cap) ss d k qs) (hB : B ≤ w.heap.size) (hgw : g < w.heap.size) (hn : n = qs.length) (hk : k < qs.length) (hk2 : k < ss.length)
    (hy : OwnR 47 5 enC w2 B y (pgL qs[k].1.es d)) (hyb : y.ownBlock = qs[k].2.ownBlock) (hgr : wr.grownBy w2 qs[k].2.ownBlock) :
    PgH w (w2.setCell ⟨g, k * 3 + 2, none⟩ y) B (.slice (some ⟨g, 0, none⟩) n cap) ss d (k + 1) (qs.set k (pg1 d qs[k].1, y)) := by
  have hap := hH.own.2.2
  have hgk : (some g : Option Nat) ≠ qs[k].2.ownBlock := by
    rcases apart_head hap (c := qs[k].2.ownBlock) (List.mem_map.2 ⟨_, List.getElem_mem hk, rfl⟩) with h | h
    · cases h
    · exact h
  have hBg : B ≤ g := (World.ownsRow.lt hH.own.1 g rfl).1
  have hrow : ∀ b, qs[k].2.ownBlock = some b → B ≤ b := fun b hb => (World.ownsRow.lt (hH.own.2.1 _ (List.getElem_mem hk)) b hb).1
  have hb2 : Below B wr w2 := gb_Below hgr (Nat.le_trans hB hH.bel.size) hrow
  refine ⟨?_, ⟨?_, ?_, ?_⟩, ?_, ?_, ?_⟩
  · rw [List.map_set, hH.fst, hH.at hk hk2]
    exact pgS_set ss d k hk2
  · have h1 : OwnR 43 3 sbC w2 B (.slice (some ⟨g, 0, none⟩) n cap) qs := World.ownsRow.kept hH.own.1 hgr (.inr hgk)
    exact h1.setF sbC_len hn k 2 (pg1 d qs[k].1, y) y hk (by decide) rfl
  · intro p hp
    obtain ⟨i, hi, rfl⟩ := List.getElem_of_mem hp
    rw [List.length_set] at hi
    by_cases e : i = k
    · subst e
      simp only [List.getElem_set_self]
      exact hy.off _ _ (by rw [hyb]; exact fun h => hgk h.symm)
    · rw [List.getElem_set_ne (fun h => e h.symm)]
      have h2 := apart_two (List.pairwise_cons.1 hap).2 i k (by rw [List.length_map]; exact hi) (by rw [List.length_map]; exact hk) e
      simp only [List.getElem_map] at h2
      have h1 : OwnR 47 5 enC w2 B qs[i].2 qs[i].1.es := World.ownsRow.kept (hH.own.2.1 _ (List.getElem_mem hi)) hgr h2
      refine h1.off _ _ ?_
      rcases apart_head hap (c := qs[i].2.ownBlock) (List.mem_map.2 ⟨_, List.getElem_mem hi, rfl⟩) with h | h
      · cases h
      · exact fun h3 => h h3.symm
  · have e : (qs.set k (pg1 d qs[k].1, y)).map (fun p => p.2.ownBlock) = qs.map (fun p => p.2.ownBlock) := by
      rw [List.map_set, hyb]
      apply List.ext_getElem?
      intro j
      rw [List.getElem?_set]
      by_cases e : k = j
      · subst e; simp [hk]
      · rw [if_neg e]
    rw [e]
    exact hap
  · intro q hq b hb
    obtain ⟨i, hi, rfl⟩ := List.getElem_of_mem hq
    rw [List.length_set] at hi
    by_cases e : i = k
    · subst e
      simp only [List.getElem_set_self] at hb
      exact hH.lt _ (List.getElem_mem hk) b (by rw [← hyb]; exact hb)
    · rw [List.getElem_set_ne (fun h => e h.symm)] at hb
      exact hH.lt _ (List.getElem_mem hi) b hb
  · have h1 : Box w2 w.heap.size #[.int .i64 d] 2 := (hgr.block _ hH.box.lt (fun h => by
      have := hH.lt _ (List.getElem_mem hk) _ h.symm
      omega)).trans hH.box
    exact h1.other _ _ (by show w.heap.size ≠ g; omega)
  · exact (hH.bel.trans hb2).setCell (p := ⟨g, k * 3 + 2, none⟩) hBg y
theorem PgH.over {w wr : World} {B : Nat} {v : Value} {ss : List Sb} {d : Int} {k : Nat} {qs : List (Sb × Value)} (h : PgH w wr B v ss d k qs) (hk : ¬ k < ss.length) : qs.map Prod.fst = pgS ss d := by
  rw [h.fst, List.take_of_length_le (by omega), List.drop_eq_nil_of_le (by omega), List.append_nil]

def OutPg (ss : List Sb) (d : Int) (v : Value) (B : Nat) (w : World) (e : Ending) (w' : World) : Prop := ∃ qs, e = .returned v ∧ qs.map Prod.fst = pgS ss d ∧ OwnD w' B v qs ∧ Below B w w'

set_option maxRecDepth 100000 in
set_option maxHeartbeats 1600000 in
theorem purged_any (v : Value) (ps : List (Sb × Value)) (ss : List Sb) (B : Nat) (d : Int) (w : World) (h : OwnD w B v ps) (hps : ps.map Prod.fst = ss) (hB : B ≤ w.heap.size) (hn : ss.length ≤ 1000) (hz : ∀ s ∈ ss, s.es.length ≤ 1000 ∧ ∀ y ∈ s.es, EnSz y) :
    Calls Try.prog 51 #[v, .int .i64 d] w (OutPg ss d v B w) := by
  have hlen : ps.length = ss.length := by rw [← hps, List.length_map]
  have HH : Hid (PgH w (w.alloc (.cells #[.int .i64 d] 2)) B v ss d 0 ps) := Lib.hid ⟨by rw [hps]; simp [pgS], h.keep ((Below.refl w.heap.size w).alloc (Nat.le_refl _) _) (Nat.le_refl _), fun q hq b hb => (World.ownsRow.lt (h.2.1 q hq) b hb).2, Box.new w _ _, (Below.refl B w).alloc hB _⟩
  have HZ := Lib.hid hz
  have HB : Hid (∀ g, v.ownBlock = some g → g < w.heap.size) := Lib.hid (fun g hg => (World.ownsRow.lt h.1 g hg).2)
  obtain ⟨n, hnn⟩ : ∃ n, n = ss.length := ⟨_, rfl⟩
  have HN := Lib.hid hnn
  rw [← hnn] at hn hlen
  rcases h.1.2 with ⟨rfl, hnil⟩ | ⟨g, cap, cur, rfl, hgb, hgw, hnc, hcm, _⟩
  · have HE : Hid (∀ w', PgH w w' B (.slice none 0 0) ss d 0 ps → OutPg ss d (.slice none 0 0) B w (.returned (.slice none 0 0)) w') := Lib.hid (fun w' hw => ⟨ps, rfl, hw.over (by omega), hw.own, hw.bel⟩)
    clear h hps hz hnil hnn hlen
    go_enter Try.func51, Try.ntmps51
    go_wp2
    generalize w.alloc (.cells #[.int .i64 d] 2) = W at HH ⊢
    go_loop [8] (fun i => i = .int .i64 0) (fun _ => 0)
    case atStart => exact rfl
    case round =>
      obtain rfl := hrel
      go_wp2
      go_ret
      exact HE.out _ HH.out
  · rw [hlen] at HH HB hnc ⊢
    unfold maxLen at hcm
    have hgl : g < w.heap.size := HB.out g rfl
    clear h hps hz hnn hgw HB hlen
    go_enter Try.func51, Try.ntmps51
    go_wp2
    generalize w.alloc (.cells #[.int .i64 d] 2) = W at HH ⊢
    go_loopw [8] (fun i wr => ∃ (k : Nat) (qs : List (Sb × Value)), k ≤ n ∧ i = .int .i64 (k : Int) ∧ Hid (PgH w wr B (.slice (some ⟨g, 0, none⟩) n cap) ss d k qs)) (fun i _ => n - (intOf i).toNat)
    case atStart => exact ⟨0, ps, Nat.zero_le _, rfl, HH⟩
    case round =>
      clear HH
      obtain ⟨k, qs, hk, rfl, HF⟩ := hrel
      have HL : Hid (n = qs.length) := Lib.hid (by rw [HF.out.len]; exact HN.out)
      by_cases hlt : k < n
      · have hkq : k < qs.length := by have := HL.out; omega
        have hks : k < ss.length := by have := HN.out; omega
        have c2 := HF.out.own.1.val sbC_len HL.out k 2 _ hkq rfl
        have hzk := HZ.out _ (List.getElem_mem hks)
        rw [← HF.out.at hkq hks] at hzk
        have hbD : qs[k].2.ownBlock ≠ some w.heap.size := fun h => by
          have := HF.out.lt _ (List.getElem_mem hkq) _ h
          omega
        have HDl := Lib.hid (deleteFunc_any qs[k].2 qs[k].1.es B w.heap.size d wr (HF.out.own.2.1 _ (List.getElem_mem hkq)) hzk.2 hzk.1 HF.out.box hbD)
        have HSt := Lib.hid (fun w2 y hy hyb hg => HF.out.step (y := y) (w2 := w2) hB hgl HL.out hkq hks hy hyb hg)
        have HFs : Hid (∀ w2, wr.grownBy w2 qs[k].2.ownBlock → (∀ j, w2.frozen? ⟨g, j, none⟩ = false) ∧ w2.cell? ⟨g, k * 3 + 2, none⟩ = some qs[k].2) := Lib.hid (fun w2 hg => by
          have hgk : (some g : Option Nat) ≠ qs[k].2.ownBlock := by
            rcases apart_head HF.out.own.2.2 (c := qs[k].2.ownBlock) (List.mem_map.2 ⟨_, List.getElem_mem hkq, rfl⟩) with h | h
            · cases h
            · exact h
          have h1 : OwnR 43 3 sbC w2 B (.slice (some ⟨g, 0, none⟩) n cap) qs := World.ownsRow.kept HF.out.own.1 hg (.inr hgk)
          exact ⟨fun j => h1.free HL.out j, h1.val sbC_len HL.out k 2 _ hkq rfl⟩)
        obtain ⟨xa, xc, hxe⟩ := (HF.out.own.2.1 _ (List.getElem_mem hkq)).slice
        obtain ⟨X, hX⟩ : ∃ X, X = qs[k].2 := ⟨_, rfl⟩
        obtain ⟨m, hm⟩ : ∃ m, m = qs[k].1.es.length := ⟨_, rfl⟩
        rw [← hX] at c2 HDl HSt HFs hxe
        rw [← hm] at hxe
        subst hxe
        obtain ⟨E, hE⟩ : ∃ E, E = qs[k].1.es := ⟨_, rfl⟩
        rw [← hE] at HDl HSt
        obtain ⟨Q, hQ⟩ : ∃ Q, Q = pg1 d qs[k].1 := ⟨_, rfl⟩
        rw [← hQ] at HSt
        clear hX hm hzk hbD hE hQ
        go_wp2_with fail
        refine HDl.out.mono ?_
        rintro e w2 ⟨y, rfl, hy, hyb, hg2⟩
        obtain ⟨hfr, d2⟩ := HFs.out w2 hg2
        have HS2 := Lib.hid (HSt.out w2 y hy hyb hg2)
        obtain ⟨ya, yc, rfl⟩ := hy.slice
        obtain ⟨m2, hm2⟩ : ∃ m2, m2 = (pgL E d).length := ⟨_, rfl⟩
        rw [← hm2] at HS2 ⊢
        clear hm2 hy hyb hg2 c2 HF HSt HDl HFs HL
        go_wp2
        go_roundw
        case rel => exact ⟨k + 1, _, by omega, by go_num, HS2⟩
        case measure => simp [intOf]; omega
      · have HE : Hid (OutPg ss d (.slice (some ⟨g, 0, none⟩) n cap) B w (.returned (.slice (some ⟨g, 0, none⟩) n cap)) wr) := Lib.hid ⟨qs, rfl, HF.out.over (by have := HN.out; omega), HF.out.own, HF.out.bel⟩
        clear HF HL
        go_wp2
        go_ret
        exact HE.out
end Go.Proofs.Ytffkakpbelknaaa

/- W9ze -/
namespace Go.Proofs.Ytffkakpbelknaaa
open Go.ChangeShapes Go.WideShapes Go.ChangeAt Go.RowKit
set_option linter.unusedVariables false

theorem less_tri (x y : List UInt8) (h1 : Op.bytesLess x y = false) (h2 : x ≠ y) : Op.bytesLess y x = true := by
  have h3 : ¬ Lib.compareBytes x y < 0 := by rw [cmp_less]; simp [h1]
  clear h1
  induction x generalizing y with
  | nil => cases y with
    | nil => exact absurd rfl h2
    | cons q y => exact absurd (by simp [Lib.compareBytes]) h3
  | cons p x ih =>
    cases y with
    | nil => simp [Op.bytesLess]
    | cons q y =>
      unfold Lib.compareBytes at h3
      unfold Op.bytesLess
      by_cases hpq : p < q
      · simp [hpq] at h3
      · by_cases hqp : q < p
        · have : q ≠ p := fun h => by subst h; exact UInt8.lt_irrefl _ hqp
          simp [hqp]
        · have : p = q := UInt8.le_antisymm (UInt8.not_lt.1 hqp) (UInt8.not_lt.1 hpq)
          subst this
          simp [hpq] at h3
          have := ih y (fun e => h2 (by rw [e])) (by omega)
          simp [hpq, this]
theorem ltK_tri {a x : ByteArray} (h1 : ¬ cmpB a x < 0) (h2 : cmpB a x ≠ 0) : ltK x a = true := by
  have h3 : ltK a x = false := by rw [ltK_cmp]; exact decide_eq_false h1
  have h4 : a ≠ x := fun e => h2 ((cmpB_zero _ _).2 e)
  refine less_tri _ _ h3 (fun e => h4 ?_)
  have := str_eq a x
  rw [e] at this
  simpa using this.symm
theorem ris_iff (ks : List ByteArray) : risB ks = true ↔ ks.Pairwise (fun a b => ltK a b = true) := by
  constructor
  · intro h
    rw [List.pairwise_iff_getElem]
    intro i j hi hj hij
    exact ris_lt h i j hj hij
  · intro h
    rw [List.pairwise_iff_getElem] at h
    refine allB_end ks.length (Nat.lt_irrefl _) (fun j hj => ?_)
    cases j with
    | zero => rfl
    | succ q =>
      have h2 := ordK_at (fun k : ByteArray => k) ks q hj
      rw [List.map_id'] at h2
      rw [h2]
      exact h q (q + 1) (by omega) hj (by omega)
theorem ris_put {ks : List ByteArray} (h : risB ks = true) (x : ByteArray) : risB (putP ks (plK ks x) (fnB ks x) x) = true := by
  have hp := (ris_iff ks).1 h
  have hlo : ∀ a ∈ ks.take (plK ks x), ltK a x = true := fun a ha => by
    obtain ⟨i, hi, rfl⟩ := List.mem_take_iff_getElem.1 ha
    rw [ltK_cmp]
    exact decide_eq_true (plK_lo ks x i (by omega))
  have hhi : ∀ b ∈ ks.drop (if fnB ks x then plK ks x + 1 else plK ks x), ltK x b = true := fun b hb => by
    cases hfb : fnB ks x with
    | true =>
      rw [hfb, if_pos rfl] at hb
      obtain ⟨i, hi, rfl⟩ := List.getElem_of_mem hb
      rw [List.length_drop] at hi
      have hpl : plK ks x < ks.length := by omega
      have hf : fnB ks x = (cmpB ks[plK ks x] x == 0) := by unfold fnB; rw [List.getElem?_eq_getElem hpl]
      rw [hfb] at hf
      have e : ks[plK ks x] = x := (cmpB_zero _ _).1 (by simpa using hf.symm)
      have := ris_lt h (plK ks x) (plK ks x + 1 + i) (by omega) (by omega)
      rw [e] at this
      rw [List.getElem_drop]
      exact this
    | false =>
      rw [hfb, if_neg (by simp)] at hb
      obtain ⟨i, hi, rfl⟩ := List.getElem_of_mem hb
      rw [List.length_drop] at hi
      have hpl : plK ks x < ks.length := by omega
      have hf : fnB ks x = (cmpB ks[plK ks x] x == 0) := by unfold fnB; rw [List.getElem?_eq_getElem hpl]
      rw [hfb] at hf
      have e := ltK_tri (plK_hi hpl) (by simpa using hf.symm)
      rw [List.getElem_drop]
      rcases Nat.eq_zero_or_pos i with h0 | h0
      · subst h0; simpa using e
      · exact ltK_trans e (ris_lt h (plK ks x) (plK ks x + i) (by omega) (by omega))
  rw [ris_iff]
  unfold putP
  rw [List.pairwise_append]
  refine ⟨hp.sublist (List.take_sublist _ _), ?_, ?_⟩
  · rw [List.pairwise_cons]
    exact ⟨hhi, hp.sublist (List.drop_sublist _ _)⟩
  · intro a ha b hb
    rcases List.mem_cons.1 hb with rfl | hb
    · exact hlo a ha
    · exact ltK_trans (hlo a ha) (hhi b hb)
theorem ris_cut {ks : List ByteArray} (h : risB ks = true) (p : Nat) : risB (ks.take p ++ ks.drop (p + 1)) = true := by
  rw [ris_iff, ← List.eraseIdx_eq_take_drop_succ]
  exact ((ris_iff ks).1 h).sublist (List.eraseIdx_sublist _ _)

/-- One item fetched, with the marks of the entry that was there. -/
def neE (es : List En) (it : It) : En := if fnB (enKs es) it.id then ⟨it, (es[plK (enKs es) it.id]?.getD en0).rd, (es[plK (enKs es) it.id]?.getD en0).st⟩ else ⟨it, false, false⟩
def ft1 (es : List En) (it : It) : List En := putP es (plK (enKs es) it.id) (fnB (enKs es) it.id) (neE es it)
def ftN (es : List En) (its : List It) : List En := its.foldl ft1 es
def cut1 (es : List En) : List En := es.take (goP es es.length) ++ es.drop (goP es es.length + 1)
def cutE : Nat → List En → List En
  | 0, es => es
  | n + 1, es => if 12 < es.length then cutE n (cut1 es) else es
def ftV (es : List En) (its : List It) : List En := cutE (es.length + its.length) (ftN es its)
theorem neE_it (es : List En) (it : It) : (neE es it).it = it := by unfold neE; split <;> rfl
theorem enKs_put (es : List En) (p : Nat) (f : Bool) (x : En) : enKs (putP es p f x) = putP (enKs es) p f x.it.id := by
  unfold enKs putP
  rw [List.map_append, List.map_take, List.map_cons, List.map_drop]
theorem ris_ft1 {es : List En} (h : risB (enKs es) = true) (it : It) : risB (enKs (ft1 es it)) = true := by
  unfold ft1
  rw [enKs_put, neE_it]
  exact ris_put h it.id
theorem len_ft1 (es : List En) (it : It) : (ft1 es it).length ≤ es.length + 1 := by
  unfold ft1 putP
  rw [List.length_append, List.length_take, List.length_cons, List.length_drop]
  split <;> omega
theorem ftN_step (es : List En) (its : List It) (k : Nat) (hk : k < its.length) : ftN es (its.take (k + 1)) = ft1 (ftN es (its.take k)) its[k] := by
  unfold ftN
  rw [List.take_succ_eq_append_getElem hk, List.foldl_append]
  rfl
theorem ris_ftN {es : List En} (h : risB (enKs es) = true) (its : List It) : risB (enKs (ftN es its)) = true := by
  unfold ftN
  induction its generalizing es with
  | nil => exact h
  | cons it its ih => exact ih (ris_ft1 h it)
theorem len_ftN (es : List En) (its : List It) : (ftN es its).length ≤ es.length + its.length := by
  unfold ftN
  induction its generalizing es with
  | nil => exact Nat.le_refl _
  | cons it its ih =>
    have h1 := ih (ft1 es it)
    have h2 := len_ft1 es it
    rw [List.foldl_cons, List.length_cons]
    omega
theorem len_cut1 (es : List En) (h : 0 < es.length) : (cut1 es).length + 1 = es.length := by
  have := (goP_lt es es.length).2 h
  unfold cut1
  rw [List.length_append, List.length_take, List.length_drop]
  omega
theorem cutE_end (n : Nat) (es : List En) (h : ¬ 12 < es.length) : cutE n es = es := by
  cases n with
  | zero => rfl
  | succ n => unfold cutE; rw [if_neg h]
theorem ris_cut1 {es : List En} (h : risB (enKs es) = true) : risB (enKs (cut1 es)) = true := by
  unfold cut1 enKs
  rw [List.map_append, List.map_take, List.map_drop]
  exact ris_cut h _
end Go.Proofs.Ytffkakpbelknaaa

/- W9zf -/
namespace Go.Proofs.Ytffkakpbelknaaa
open Go.ChangeShapes Go.WideShapes Go.ChangeAt Go.RowKit
set_option linter.unusedVariables false

theorem sz_put {es : List En} (h : ∀ x ∈ es, EnSz x) (p : Nat) (f : Bool) (x : En) (hx : EnSz x) : ∀ y ∈ putP es p f x, EnSz y := by
  intro y hy
  unfold putP at hy
  rcases List.mem_append.1 hy with h1 | h1
  · exact h y (List.mem_of_mem_take h1)
  · rcases List.mem_cons.1 h1 with rfl | h1
    · exact hx
    · exact h y (List.mem_of_mem_drop h1)
theorem sz_cut {es : List En} (h : ∀ x ∈ es, EnSz x) : ∀ y ∈ cut1 es, EnSz y := by
  intro y hy
  unfold cut1 at hy
  rcases List.mem_append.1 hy with h1 | h1
  · exact h y (List.mem_of_mem_take h1)
  · exact h y (List.mem_of_mem_drop h1)
/-- The list of entries half way: the argument's own, or a new one. -/
structure FtH (w wr : World) (B : Nat) (x y : Value) (es : List En) : Prop where
  own : OwnR 47 5 enC wr B y es
  new : y = x ∨ OwnR 47 5 enC wr w.heap.size y es
  sz : ∀ z ∈ es, EnSz z
  ris : risB (enKs es) = true
  bel : Below w.heap.size w wr
  far : y.ownBlock ≠ some (w.heap.size + 1 + 1)
theorem FtH.keep {w wr w2 : World} {B : Nat} {x y : Value} {es : List En} (h : FtH w wr B x y es) (hb : Below wr.heap.size wr w2) : FtH w w2 B x y es :=
  ⟨h.own.keep hb (Nat.le_refl _), h.new.elim .inl (fun h => .inr (h.keep hb (Nat.le_refl _))), h.sz, h.ris, h.bel.trans (hb.mono h.bel.size), h.far⟩
theorem FtH.next {w w1 w2 : World} {B C : Nat} {x y v : Value} {es L : List En} (h : FtH w w1 B x y es) (hB : B ≤ w.heap.size) (hC : w.heap.size + 3 ≤ C) (ho : OwnR 47 5 enC w2 C v L) (hb : Below C w1 w2) (hz : ∀ z ∈ L, EnSz z) (hr : risB (enKs L) = true) : FtH w w2 B x v L :=
  ⟨ho.base_mono (by omega), .inr (ho.base_mono (by omega)), hz, hr, h.bel.trans (hb.mono (by omega)), fun e => by have := (World.ownsRow.lt ho _ e).1; omega⟩
def lenOf : Value → Nat
  | .slice _ n _ => n
  | _ => 0
theorem FtH.res {w wr : World} {B : Nat} {x y : Value} {es : List En} (h : FtH w wr B x y es) (j : Nat) (z : Value) : FtH w (wr.setCell ⟨w.heap.size + 1 + 1, j, none⟩ z) B x y es :=
  ⟨h.own.off _ _ h.far, h.new.elim .inl (fun h2 => .inr (h2.off _ _ h.far)), h.sz, h.ris, h.bel.setCell (p := ⟨w.heap.size + 1 + 1, j, none⟩) (by simp; omega) z, h.far⟩
theorem FtH.off {w wr : World} {B : Nat} {x y : Value} {es : List En} (h : FtH w wr B x y es) (p : Addr) (z : Value) (hp : y.ownBlock ≠ some p.block) (hw : w.heap.size ≤ p.block) : FtH w (wr.setCell p z) B x y es :=
  ⟨h.own.off _ _ hp, h.new.elim .inl (fun h2 => .inr (h2.off _ _ hp)), h.sz, h.ris, h.bel.setCell (p := p) hw z, h.far⟩
theorem FtH.drew {w wr : World} {B : Nat} {x y : Value} {es : List En} (h : FtH w wr B x y es) : FtH w wr.drew B x y es :=
  ⟨h.own.drew, h.new.elim .inl (fun h2 => .inr h2.drew), h.sz, h.ris, h.bel.drew, h.far⟩
def FtOut (s : Sb) (t : ByteArray) (its : List It) (x : Value) (B : Nat) (w : World) (e : Ending) (w' : World) : Prop := ∃ y, e = .returned (sbV s.u t y) ∧ FtH w w' B x y (ftV s.es its)

end Go.Proofs.Ytffkakpbelknaaa

/- W9zg -/
namespace Go.Proofs.Ytffkakpbelknaaa
open Go.ChangeShapes Go.WideShapes Go.ChangeAt Go.RowKit
set_option linter.unusedVariables false

set_option maxRecDepth 100000 in
set_option maxHeartbeats 1600000 in
theorem fetched_any (s : Sb) (x : Value) (u t : ByteArray) (v : Value) (its : List It) (B : Nat) (w : World) (h : OwnR 47 5 enC w B x s.es) (hz : ∀ z ∈ s.es, EnSz z) (hr : risB (enKs s.es) = true) (hB : B ≤ w.heap.size) (hi : ItAt w w.heap.size v its) (hn : s.es.length ≤ 100) (hni : its.length ≤ 100) :
    Calls Try.prog 107 #[sbV s.u s.t x, .agg #[.string u, .string t, v]] w (FtOut s t its x B w) := by
  have HI := Lib.hid hi
  obtain ⟨a, cap, rfl, hl, hm, hc⟩ := hi.raw
  clear hc hi
  unfold maxLen at hm
  obtain ⟨W, hW⟩ : ∃ W, W = ((w.alloc (.cells #[.string s.u, .string s.t, x] 43)).alloc (.cells #[.string u, .string t, .slice a its.length cap] 29)).alloc (.cells #[.string ⟨#[]⟩, .string ⟨#[]⟩, .slice none 0 0] 43) := ⟨_, rfl⟩
  have hb0 : Below w.heap.size w W := by rw [hW]; exact (((Below.refl _ _).alloc (Nat.le_refl _) _).alloc (by simp) _).alloc (by simp; omega) _
  have HH : Hid (FtH w W B x x s.es) := Lib.hid ⟨h.keep hb0 (Nat.le_refl _), .inl rfl, hz, hr, hb0, fun e => by have := (World.ownsRow.lt h _ e).2; omega⟩
  obtain ⟨xa, xc, rfl⟩ := h.slice
  have hX0 : Box W w.heap.size #[.string s.u, .string s.t, .slice xa s.es.length xc] 43 := by rw [hW]; exact ((Box.new w _ _).alloc _).alloc _
  have hF0 : Box W (w.heap.size + 1) #[.string u, .string t, .slice a its.length cap] 29 := by
    have := (Box.new (w.alloc (.cells #[.string s.u, .string s.t, .slice xa s.es.length xc] 43)) #[.string u, .string t, .slice a its.length cap] 29).alloc (.cells #[.string ⟨#[]⟩, .string ⟨#[]⟩, .slice none 0 0] 43)
    rw [hW]; simpa using this
  have hR0 : Box W (w.heap.size + 2) #[.string ⟨#[]⟩, .string ⟨#[]⟩, .slice none 0 0] 43 := by
    have := Box.new ((w.alloc (.cells #[.string s.u, .string s.t, .slice xa s.es.length xc] 43)).alloc (.cells #[.string u, .string t, .slice a its.length cap] 29)) #[.string ⟨#[]⟩, .string ⟨#[]⟩, .slice none 0 0] 43
    rw [hW]; simpa using this
  have hWs : W.heap.size = w.heap.size + 3 := by rw [hW]; simp
  obtain ⟨n, hnn⟩ : ∃ n, n = its.length := ⟨_, rfl⟩
  have HN := Lib.hid hnn
  have HW := Lib.hid hW
  rw [← hnn] at hl hni HI hF0 HW ⊢
  clear hnn hW h hz hr
  go_enter Try.func107, Try.ntmps107
  go_wp2
  rw [← HW.out]
  go_loopw [5, 16] (fun e i wr => ∃ (k : Nat) (es : List En) (ya : Option Addr) (yc : Nat), k ≤ n ∧ i = .int .i64 (k : Int) ∧ e = .slice ya es.length yc ∧ es.length ≤ 100 + k ∧ Hid (es = ftN s.es (its.take k)) ∧ Hid (FtH w wr B (.slice xa s.es.length xc) (.slice ya es.length yc) es) ∧ Box wr w.heap.size #[.string s.u, .string s.t, .slice xa s.es.length xc] 43 ∧ Box wr (w.heap.size + 1) #[.string u, .string t, .slice a n cap] 29 ∧ Box wr (w.heap.size + 1 + 1) #[.string ⟨#[]⟩, .string ⟨#[]⟩, .slice none 0 0] 43) (fun _ i _ => n - (intOf i).toNat)
  case atStart => exact ⟨0, s.es, xa, xc, Nat.zero_le _, rfl, rfl, by omega, Lib.hid rfl, HH, hX0, hF0, hR0⟩
  case round =>
    clear HH hX0 hF0 hR0 HW hWs
    obtain ⟨k, es, ya, yc, hk, rfl, rfl, hel, HE, HF, hX, hF, hR⟩ := hrel
    by_cases hlt : k < n
    · have hki : k < its.length := by have := HN.out; omega
      obtain ⟨a', cap', hv, _, _, hc⟩ := (HI.out.below HF.out.bel).raw
      have hv2 : a = a' ∧ cap = cap' := by
        simp at hv; exact ⟨hv.1, hv.2.2⟩
      obtain ⟨rfl, rfl⟩ := hv2
      obtain ⟨b, off, rfl, hb, hr⟩ := hc k hki
      obtain ⟨c0, c1, c2, z0, z1⟩ := hr k hki
      clear hr hc hv
      have HSt := Lib.hid (ftN_step s.es its k hki)
      rw [← HE.out] at HSt
      obtain ⟨I0, hI0⟩ : ∃ x, x = its[k].id := ⟨_, rfl⟩
      obtain ⟨I1, hI1⟩ : ∃ x, x = its[k].ti := ⟨_, rfl⟩
      obtain ⟨I2, hI2⟩ : ∃ x, x = its[k].da := ⟨_, rfl⟩
      have HIt : Hid (its[k] = ⟨I0, I1, I2⟩) := Lib.hid (by rw [hI0, hI1, hI2])
      rw [← hI0] at c0 z0
      rw [← hI1] at c1 z1
      rw [← hI2] at c2
      clear hI0 hI1 hI2
      have HPl := Lib.hid (fun w h => placeOfE_any (.slice ya es.length yc) es I0 w h (by omega) (ris_mono HF.out.ris I0))
      obtain ⟨P, hP⟩ : ∃ P, P = plK (enKs es) I0 := ⟨_, rfl⟩
      cases hfn : fnB (enKs es) I0 with
      | false =>
        rw [hfn, ← hP] at HPl
        have HWi := Lib.hid (fun w h => withE_any (.slice ya es.length yc) es ⟨⟨I0, I1, I2⟩, false, false⟩ w h HF.out.ris (by omega))
        have HL : Hid (putP es (plK (enKs es) I0) (fnB (enKs es) I0) ⟨⟨I0, I1, I2⟩, false, false⟩ = ft1 es its[k]) := Lib.hid (by rw [HIt.out]; unfold ft1 neE; rw [hfn]; rfl)
        have HSz : Hid (∀ z ∈ ft1 es its[k], EnSz z) := Lib.hid (by rw [← HL.out]; exact sz_put HF.out.sz _ _ _ ⟨z0, z1⟩)
        have HRi := Lib.hid (ris_ft1 HF.out.ris its[k])
        have hL1 := len_ft1 es its[k]
        simp only at HWi
        rw [HL.out] at HWi
        clear hfn HL
        obtain ⟨L, hL⟩ : ∃ L, L = ft1 es its[k] := ⟨_, rfl⟩
        rw [← hL] at HWi HSz HRi HSt hL1
        have hbA : Below wr.heap.size wr ((wr.alloc (.cells #[.string I0, .string I1, .int .i64 I2] 45)).alloc (.cells #[.string I0, .string I1, .int .i64 I2, .bool false, .bool false] 47)) := ((Below.refl _ _).alloc (Nat.le_refl _) _).alloc (by simp) _
        have hEn : Box ((wr.alloc (.cells #[.string I0, .string I1, .int .i64 I2] 45)).alloc (.cells #[.string I0, .string I1, .int .i64 I2, .bool false, .bool false] 47)) (wr.heap.size + 1) #[.string I0, .string I1, .int .i64 I2, .bool false, .bool false] 47 := by
          have := Box.new (wr.alloc (.cells #[.string I0, .string I1, .int .i64 I2] 45)) #[.string I0, .string I1, .int .i64 I2, .bool false, .bool false] 47
          simpa using this
        have HFA := Lib.hid (HF.out.keep hbA)
        have hXA := hX.keep hbA hX.lt
        have hFA := hF.keep hbA hF.lt
        have hRA := hR.keep hbA hR.lt
        have hsz : w.heap.size + 3 ≤ wr.heap.size := by have := hR.lt; omega
        clear hX hF hR HF HE hL HIt hP
        go_wp2_with fail
        refine (HPl.out _ (EnAt.of_own HFA.out.own HFA.out.sz)).mono ?_
        rintro e w1 ⟨rfl, hb1⟩
        have HFB := Lib.hid (HFA.out.keep hb1)
        have hXB := hXA.keep hb1 hXA.lt
        have hFB := hFA.keep hb1 hFA.lt
        have hRB := hRA.keep hb1 hRA.lt
        have hEB := hEn.keep hb1 hEn.lt
        have hsB : w.heap.size + 3 ≤ w1.heap.size := by have h1 := hb1.size; have h2 := hbA.size; omega
        have f0 := hEB.cell 0 _ rfl
        have f1 := hEB.cell 1 _ rfl
        have f2 := hEB.cell 2 _ rfl
        have f3 := hEB.cell 3 _ rfl
        have f4 := hEB.cell 4 _ rfl
        clear hXA hFA hRA hEn hb1 hbA HFA c0 c1 c2
        go_wp2_with fail
        refine (HWi.out _ (EnAt.of_own HFB.out.own HFB.out.sz)).mono ?_
        rintro e w2 ⟨y2, rfl, ho2, hb2⟩
        have HFC := Lib.hid (HFB.out.next hB hsB ho2 hb2 HSz.out HRi.out)
        have hXC := hXB.keep hb2 hXB.lt
        have hFC := hFB.keep hb2 hFB.lt
        have hRC := hRB.keep hb2 hRB.lt
        obtain ⟨y2a, y2c, rfl⟩ := ho2.slice
        clear f0 f1 f2 f3 f4 hXB hFB hRB hEB HFB ho2 hb2 HPl HWi
        go_wp2
        go_roundw
        case rel => exact ⟨k + 1, L, y2a, y2c, by omega, by go_num, rfl, by omega, Lib.hid HSt.out.symm, HFC, hXC, hFC, hRC⟩
        case measure => simp [intOf]; omega
      | true =>
        have hPl : P < es.length := by
          rw [hP]
          unfold fnB at hfn
          rcases Nat.lt_or_ge (plK (enKs es) I0) (enKs es).length with h | h
          · simpa [enKs] using h
          · rw [List.getElem?_eq_none h] at hfn; cases hfn
        rw [hfn, ← hP] at HPl
        have HWi := Lib.hid (fun w h => withE_any (.slice ya es.length yc) es ⟨⟨I0, I1, I2⟩, es[P].rd, es[P].st⟩ w h HF.out.ris (by omega))
        have HL : Hid (putP es (plK (enKs es) I0) (fnB (enKs es) I0) ⟨⟨I0, I1, I2⟩, es[P].rd, es[P].st⟩ = ft1 es its[k]) := Lib.hid (by rw [HIt.out]; unfold ft1 neE; simp only [hfn, ← hP]; simp [hPl])
        have HSz : Hid (∀ z ∈ ft1 es its[k], EnSz z) := Lib.hid (by rw [← HL.out]; exact sz_put HF.out.sz _ _ _ ⟨z0, z1⟩)
        have HRi := Lib.hid (ris_ft1 HF.out.ris its[k])
        have hL1 := len_ft1 es its[k]
        simp only at HWi
        rw [HL.out] at HWi
        clear hfn HL
        obtain ⟨L, hL⟩ : ∃ L, L = ft1 es its[k] := ⟨_, rfl⟩
        rw [← hL] at HWi HSz HRi HSt hL1
        obtain ⟨g, rfl, hgw⟩ : ∃ g, ya = some ⟨g, 0, none⟩ ∧ g < wr.heap.size := by
          rcases HF.out.own.2 with ⟨h1, h2⟩ | ⟨g, c, cur, h1, _⟩
          · omega
          · obtain ⟨h4, _⟩ : ya = some ⟨g, 0, none⟩ ∧ yc = c := by simpa using h1
            exact ⟨g, h4, (World.ownsRow.lt HF.out.own g (by rw [h4]; rfl)).2⟩
        obtain ⟨S3, hS3⟩ : ∃ z, z = es[P].rd := ⟨_, rfl⟩
        obtain ⟨S4, hS4⟩ : ∃ z, z = es[P].st := ⟨_, rfl⟩
        rw [← hS3, ← hS4] at HWi
        have HCe : Hid (∀ w2, OwnR 47 5 enC w2 B (.slice (some ⟨g, 0, none⟩) es.length yc) es → w2.cell? ⟨g, P * 5 + 3, none⟩ = some (.bool S3) ∧ w2.cell? ⟨g, P * 5 + 4, none⟩ = some (.bool S4)) := Lib.hid (fun w2 h => by
          rw [hS3, hS4]
          exact ⟨h.val enC_len rfl P 3 _ hPl rfl, h.val enC_len rfl P 4 _ hPl rfl⟩)
        have hbA : Below wr.heap.size wr ((wr.alloc (.cells #[.string I0, .string I1, .int .i64 I2] 45)).alloc (.cells #[.string I0, .string I1, .int .i64 I2, .bool false, .bool false] 47)) := ((Below.refl _ _).alloc (Nat.le_refl _) _).alloc (by simp) _
        have hEn : Box ((wr.alloc (.cells #[.string I0, .string I1, .int .i64 I2] 45)).alloc (.cells #[.string I0, .string I1, .int .i64 I2, .bool false, .bool false] 47)) (wr.heap.size + 1) #[.string I0, .string I1, .int .i64 I2, .bool false, .bool false] 47 := by
          have := Box.new (wr.alloc (.cells #[.string I0, .string I1, .int .i64 I2] 45)) #[.string I0, .string I1, .int .i64 I2, .bool false, .bool false] 47
          simpa using this
        have HFA := Lib.hid (HF.out.keep hbA)
        have hXA := hX.keep hbA hX.lt
        have hFA := hF.keep hbA hF.lt
        have hRA := hR.keep hbA hR.lt
        have hsz : w.heap.size + 3 ≤ wr.heap.size := by have := hR.lt; omega
        clear hX hF hR HF HE hL HIt hP hS3 hS4
        go_wp2_with fail
        refine (HPl.out _ (EnAt.of_own HFA.out.own HFA.out.sz)).mono ?_
        rintro e w1 ⟨rfl, hb1⟩
        have HFB := Lib.hid (HFA.out.keep hb1)
        have hXB := hXA.keep hb1 hXA.lt
        have hFB := hFA.keep hb1 hFA.lt
        have hRB := hRA.keep hb1 hRA.lt
        have hEB := hEn.keep hb1 hEn.lt
        have hsB : w.heap.size + 3 ≤ w1.heap.size := by have h1 := hb1.size; have h2 := hbA.size; omega
        obtain ⟨e3, e4⟩ := HCe.out _ HFB.out.own
        have hef := hEB.free
        have f3 := hEB.cell 3 _ rfl
        have f4 := hEB.cell 4 _ rfl
        have hne : ¬ g = wr.heap.size + 1 := by omega
        have hne2 : ¬ wr.heap.size + 1 = g := by omega
        have HEB := Lib.hid hEB
        have HXB := Lib.hid hXB
        have HFeB := Lib.hid hFB
        have HRB := Lib.hid hRB
        clear hXA hFA hRA hEn hb1 hbA HFA c0 c1 c2 hEB hXB hFB hRB HCe
        go_wp2
        go_region
        have hgb : (Value.slice (some ⟨g, 0, none⟩) es.length yc).ownBlock ≠ some (wr.heap.size + 1) := fun h => hne (Option.some.inj h)
        have HF2 := Lib.hid ((HFB.out.off ⟨wr.heap.size + 1, 3, none⟩ (.bool S3) hgb (by simp; omega)).off ⟨wr.heap.size + 1, 4, none⟩ (.bool S4) hgb (by simp; omega)).drew
        have hE2 : Box ((w1.setCell ⟨wr.heap.size + 1, 3, none⟩ (.bool S3)).setCell ⟨wr.heap.size + 1, 4, none⟩ (.bool S4)).drew (wr.heap.size + 1) #[.string I0, .string I1, .int .i64 I2, .bool S3, .bool S4] 47 := ((HEB.out.set 3 (.bool S3)).set 4 (.bool S4)).drew
        have hX2 := ((HXB.out.other ⟨wr.heap.size + 1, 3, none⟩ (.bool S3) (by simp; omega)).other ⟨wr.heap.size + 1, 4, none⟩ (.bool S4) (by simp; omega)).drew
        have hF2 := ((HFeB.out.other ⟨wr.heap.size + 1, 3, none⟩ (.bool S3) (by simp; omega)).other ⟨wr.heap.size + 1, 4, none⟩ (.bool S4) (by simp; omega)).drew
        have hR2 := ((HRB.out.other ⟨wr.heap.size + 1, 3, none⟩ (.bool S3) (by simp; omega)).other ⟨wr.heap.size + 1, 4, none⟩ (.bool S4) (by simp; omega)).drew
        have hs2 : w.heap.size + 3 ≤ ((w1.setCell ⟨wr.heap.size + 1, 3, none⟩ (.bool S3)).setCell ⟨wr.heap.size + 1, 4, none⟩ (.bool S4)).drew.heap.size := by have := hR2.lt; omega
        generalize ((w1.setCell ⟨wr.heap.size + 1, 3, none⟩ (.bool S3)).setCell ⟨wr.heap.size + 1, 4, none⟩ (.bool S4)).drew = W2 at HF2 hE2 hX2 hF2 hR2 hs2 ⊢
        clear e3 e4 hef f3 f4 hne hne2 HEB HXB HFeB HRB HFB hgb
        have q0 := hE2.cell 0 _ rfl
        have q1 := hE2.cell 1 _ rfl
        have q2 := hE2.cell 2 _ rfl
        have q3 := hE2.cell 3 _ rfl
        have q4 := hE2.cell 4 _ rfl
        go_wp2_with fail
        refine (HWi.out _ (EnAt.of_own HF2.out.own HF2.out.sz)).mono ?_
        rintro e w3 ⟨y2, rfl, ho2, hb2⟩
        have HFC := Lib.hid (HF2.out.next hB hs2 ho2 hb2 HSz.out HRi.out)
        have hXC := hX2.keep hb2 hX2.lt
        have hFC := hF2.keep hb2 hF2.lt
        have hRC := hR2.keep hb2 hR2.lt
        obtain ⟨y2a, y2c, rfl⟩ := ho2.slice
        clear q0 q1 q2 q3 q4 hX2 hF2 hR2 hE2 HF2 ho2 hb2 HPl HWi
        go_wp2
        go_roundw
        case rel => exact ⟨k + 1, L, y2a, y2c, by omega, by go_num, rfl, by omega, Lib.hid HSt.out.symm, HFC, hXC, hFC, hRC⟩
        case measure => simp [intOf]; omega
    · have HV : Hid (cutE (s.es.length + its.length) es = ftV s.es its) := Lib.hid (by rw [HE.out, List.take_of_length_le (by have := HN.out; omega)]; rfl)
      have hle2 : es.length ≤ s.es.length + its.length := by
        have := len_ftN s.es (its.take k)
        rw [← HE.out, List.length_take] at this
        omega
      clear HE HI
      obtain ⟨V, hV⟩ : ∃ V, V = ftV s.es its := ⟨_, rfl⟩
      rw [← hV] at HV
      have HVe := Lib.hid hV
      obtain ⟨f0, hf0⟩ : ∃ f, f = s.es.length + its.length := ⟨_, rfl⟩
      rw [← hf0] at HV hle2
      clear hV hf0 hm hl
      go_wp2
      go_loopw [5] (fun e wr => ∃ (f : Nat) (es : List En) (ya : Option Addr) (yc : Nat), e = .slice ya es.length yc ∧ es.length ≤ 300 ∧ es.length ≤ f ∧ Hid (cutE f es = V) ∧ Hid (FtH w wr B (.slice xa s.es.length xc) (.slice ya es.length yc) es) ∧ Box wr w.heap.size #[.string s.u, .string s.t, .slice xa s.es.length xc] 43 ∧ Box wr (w.heap.size + 1) #[.string u, .string t, .slice a n cap] 29 ∧ Box wr (w.heap.size + 1 + 1) #[.string ⟨#[]⟩, .string ⟨#[]⟩, .slice none 0 0] 43) (fun e _ => lenOf e)
      case atStart => exact ⟨f0, es, ya, yc, rfl, by omega, hle2, HV, HF, hX, hF, hR⟩
      case round =>
        clear HF hX hF hR HV hle2
        obtain ⟨f, E, ea, ec, rfl, h300, hlf, HV, HF, hX, hF, hR⟩ := hrel
        by_cases h12 : 12 < E.length
        · obtain ⟨f', rfl⟩ : ∃ f', f = f' + 1 := ⟨f - 1, by omega⟩
          have HV2 : Hid (cutE f' (cut1 E) = V) := Lib.hid (by rw [← HV.out]; conv => rhs; unfold cutE; rw [if_pos h12])
          have hlc := len_cut1 E (by omega)
          have hgo := (goP_lt E E.length).2 (by omega)
          have HGo := Lib.hid (fun w h => placeToGo_any (.slice ea E.length ec) E w h)
          have HWo := Lib.hid (fun w h => withoutE_any (.slice ea E.length ec) E (goP E E.length) w h hgo (by omega))
          have HSz := Lib.hid (sz_cut HF.out.sz)
          have HRi := Lib.hid (ris_cut1 HF.out.ris)
          rw [show E.take (goP E E.length) ++ E.drop (goP E E.length + 1) = cut1 E from rfl] at HWo
          generalize goP E E.length = P at HGo HWo hgo
          obtain ⟨L, hL⟩ : ∃ L, L = cut1 E := ⟨_, rfl⟩
          rw [← hL] at HWo HV2 hlc HSz HRi
          have hsz : w.heap.size + 3 ≤ wr.heap.size := by have := hR.lt; omega
          clear hL HV
          go_wp2_with fail
          refine (HGo.out _ (EnAt.of_own HF.out.own HF.out.sz)).mono ?_
          rintro e w1 ⟨rfl, hb1⟩
          have HFB := Lib.hid (HF.out.keep hb1)
          have hXB := hX.keep hb1 hX.lt
          have hFB := hF.keep hb1 hF.lt
          have hRB := hR.keep hb1 hR.lt
          have hsB : w.heap.size + 3 ≤ w1.heap.size := by have h1 := hb1.size; omega
          clear hX hF hR hb1 HF
          go_wp2_with fail
          refine (HWo.out _ (EnAt.of_own HFB.out.own HFB.out.sz).1).mono ?_
          rintro e w2 ⟨y2, rfl, ho2, hb2⟩
          have HFC := Lib.hid (HFB.out.next hB hsB ho2 hb2 HSz.out HRi.out)
          have hXC := hXB.keep hb2 hXB.lt
          have hFC := hFB.keep hb2 hFB.lt
          have hRC := hRB.keep hb2 hRB.lt
          obtain ⟨y2a, y2c, rfl⟩ := ho2.slice
          clear hXB hFB hRB HFB ho2 hb2 HGo HWo
          go_wp2
          go_roundw
          case rel => exact ⟨f', L, y2a, y2c, rfl, by omega, by omega, HV2, HFC, hXC, hFC, hRC⟩
          case measure => simp [lenOf]; omega
        · have HVe2 : Hid (E = ftV s.es its) := Lib.hid (by rw [← HVe.out, ← HV.out, cutE_end f E h12])
          have x0 := hX.cell 0 _ rfl
          have x1 := hF.cell 1 _ rfl
          have hrf := hR.free
          have r0 := hR.cell 0 _ rfl
          have r1 := hR.cell 1 _ rfl
          have r2 := hR.cell 2 _ rfl
          have HR := Lib.hid hR
          clear hR hX hF HV
          go_wp2
          have hR2 := ((HR.out.set 0 (.string s.u)).set 1 (.string t)).set 2 (.slice ea E.length ec)
          have hF2 := (HF.out.res 0 (.string s.u)).res 1 (.string t)|>.res 2 (.slice ea E.length ec)
          generalize ((wr.setCell ⟨w.heap.size + 1 + 1, 0, none⟩ (.string s.u)).setCell ⟨w.heap.size + 1 + 1, 1, none⟩ (.string t)).setCell ⟨w.heap.size + 1 + 1, 2, none⟩ (.slice ea E.length ec) = W2 at hR2 hF2 ⊢
          have q0 := hR2.cell 0 _ rfl
          have q1 := hR2.cell 1 _ rfl
          have q2 := hR2.cell 2 _ rfl
          exact bodyPost_ret (v := sbV s.u t (.slice ea E.length ec)) (by simp [results, Try.results107, go_sem, q0, q1, q2]) rfl ⟨_, rfl, by rw [← HVe2.out]; exact hF2⟩
end Go.Proofs.Ytffkakpbelknaaa
