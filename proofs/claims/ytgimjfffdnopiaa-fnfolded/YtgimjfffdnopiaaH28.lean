/- Joined: W9zc, W9zd. -/
import Derived.Test.YtgimjfffdnopiaaH27
/- W9zc -/
namespace Go.Proofs.Ytgimjfffdnopiaa
open Go.ChangeShapes Go.WideShapes Go.ChangeAt Go.RowKit
set_option linter.unusedVariables false

def pgL (es : List En) (d : Int) : List En := es.filter (fun x => !pgB x d)
/-- Half way: i are kept of the first j; what lies behind is as it was. -/
structure DelL (es : List En) (d : Int) (i j : Nat) (L : List En) : Prop where
  len : L.length = es.length
  kept : L.take i = pgL (es.take j) d
  rest : L.drop j = es.drop j
theorem ixP_parts {es : List En} {d : Int} {p : Nat} (h : ixP es d = some p) : p < es.length ∧ DelL es d p (p + 1) es := by
  unfold ixP at h
  obtain ⟨hp, h1, h2⟩ := List.findIdx?_eq_some_iff_getElem.1 h
  refine ⟨hp, rfl, ?_, rfl⟩
  unfold pgL
  rw [List.take_succ_eq_append_getElem hp, List.filter_append]
  have e1 : (es.take p).filter (fun x => !pgB x d) = es.take p := by
    rw [List.filter_eq_self]
    intro x hx
    obtain ⟨j, hj, rfl⟩ := List.getElem_of_mem hx
    have hj' : j < p := by rw [List.length_take] at hj; omega
    rw [List.getElem_take]
    have := h2 j hj'
    simpa using this
  rw [e1]
  simp [h1]
theorem ixP_no {es : List En} {d : Int} (h : ixP es d = none) : pgL es d = es := by
  unfold ixP at h
  unfold pgL
  rw [List.filter_eq_self]
  intro x hx
  have := List.findIdx?_eq_none_iff.1 h x hx
  simp [this]
theorem DelL.at {es L : List En} {d : Int} {i j : Nat} (h : DelL es d i j L) (hj : j < es.length) (hj2 : j < L.length) : L[j] = es[j] := by
  have := congrArg (fun l => l[0]?) h.rest
  simp only [List.getElem?_drop, Nat.add_zero] at this
  rw [List.getElem?_eq_getElem hj2, List.getElem?_eq_getElem hj] at this
  exact Option.some.inj this
theorem DelL.goes {es L : List En} {d : Int} {i j : Nat} (h : DelL es d i j L) (hj : j < es.length) (hg : pgB es[j] d = true) : DelL es d i (j + 1) L := by
  refine ⟨h.len, ?_, ?_⟩
  · rw [h.kept]; unfold pgL; rw [List.take_succ_eq_append_getElem hj, List.filter_append]; simp [hg]
  · rw [← List.drop_drop, ← List.drop_drop, h.rest]
theorem DelL.stays {es L : List En} {d : Int} {i j : Nat} (h : DelL es d i j L) (hij : i < j) (hj : j < es.length) (hg : pgB es[j] d = false) : DelL es d (i + 1) (j + 1) (L.set i es[j]) := by
  have hL := h.len
  refine ⟨by rw [List.length_set]; exact hL, ?_, ?_⟩
  · have e : pgL (es.take (j + 1)) d = pgL (es.take j) d ++ [es[j]] := by
      unfold pgL; rw [List.take_succ_eq_append_getElem hj, List.filter_append]; simp [hg]
    rw [e, ← h.kept, List.take_succ_eq_append_getElem (by rw [List.length_set]; omega), List.getElem_set_self, List.take_set_of_le (Nat.le_refl _)]
  · rw [List.drop_set_of_lt (by omega), ← List.drop_drop, ← List.drop_drop, h.rest]
theorem DelL.over {es L : List En} {d : Int} {i j : Nat} (h : DelL es d i j L) (hj : ¬ j < es.length) : L.take i = pgL es d := by
  rw [h.kept, List.take_of_length_le (by omega)]

theorem gb_put {w : World} {g : Nat} (us : List Value) : ∀ (o : Nat) (w' : World), w.grownBy w' (some g) → w.grownBy (putRow g o us w') (some g) := by
  induction us with
  | nil => intro o w' h; exact h
  | cons u us ih => intro o w' h; exact ih _ _ (gb_set h _ _ (.inr rfl))

theorem gb_trans {a b c : World} {row : Option Nat} (h : a.grownBy b row) (k : b.grownBy c row) : a.grownBy c row :=
  ⟨k.os.trans h.os, k.tape.trans h.tape, k.output.trans h.output, Nat.le_trans h.size k.size, fun i hi hne => (k.block i (Nat.lt_of_lt_of_le hi h.size) hne).trans (h.block i hi hne)⟩

def OutDF (es : List En) (x : Value) (B : Nat) (d : Int) (w : World) (e : Ending) (w' : World) : Prop := ∃ y, e = .returned y ∧ OwnR 103 5 enC w' B y (pgL es d) ∧ y.ownBlock = x.ownBlock ∧ w.grownBy w' x.ownBlock

set_option maxRecDepth 100000 in
set_option maxHeartbeats 1600000 in
theorem deleteFunc_any (x : Value) (es : List En) (B D : Nat) (d : Int) (w : World) (h : OwnR 103 5 enC w B x es) (hz : ∀ y ∈ es, EnSz y) (hn : es.length ≤ 1000) (hD : Box w D #[.int .i64 d] 2) (hDx : x.ownBlock ≠ some D) :
    Calls Try.prog 126 #[x, pgF D] w (OutDF es x B d w) := by
  have HF := Lib.hid (indexFunc_any x es D d w (EnAt.of_own h hz) hD)
  have HB : Hid (∀ g, x.ownBlock = some g → g < w.heap.size) := Lib.hid (fun g hg => (World.ownsRow.lt h g hg).2)
  cases hix : ixP es d with
  | none =>
    have HV : Hid (ixV es d = -1) := Lib.hid (by unfold ixV; rw [hix])
    have HP := Lib.hid (ixP_no hix)
    rw [HV.out] at HF
    have HI := Lib.hid h
    obtain ⟨a, cap, rfl, hle⟩ := h.len
    clear h hix HV hz hD hDx
    go_enter Try.func126, Try.ntmps126
    go_wp2_with fail
    refine HF.out.mono ?_
    rintro e w1 ⟨rfl, hb1⟩
    go_wp2
    go_ret
    refine ⟨_, rfl, ?_, rfl, gb_below (World.grownBy.refl w _) hb1 (Nat.le_refl _)⟩
    rw [HP.out]
    exact HI.out.keep hb1 (Nat.le_refl _)
  | some p =>
    have HV : Hid (ixV es d = (p : Int)) := Lib.hid (by unfold ixV; rw [hix])
    obtain ⟨hp, HDL⟩ := ixP_parts hix
    have HS := Lib.hid HDL
    rw [HV.out] at HF
    have HI := Lib.hid h
    obtain ⟨a, cap, rfl, hle⟩ := h.len
    have hcm : cap ≤ 9223372036854775807 := by
      rcases h.2 with ⟨h1, _⟩ | ⟨g, c, cur, h1, _, _, _, h2, _⟩
      · obtain ⟨_, _, h3⟩ : a = none ∧ es.length = 0 ∧ cap = 0 := by simpa using h1
        omega
      · obtain ⟨_, h3⟩ : a = some ⟨g, 0, none⟩ ∧ cap = c := by simpa using h1
        unfold maxLen at h2
        omega
    obtain ⟨g, rfl, hgw⟩ : ∃ g, a = some ⟨g, 0, none⟩ ∧ g < w.heap.size := by
      rcases h.2 with ⟨h1, _⟩ | ⟨g, c, cur, h1, _⟩
      · obtain ⟨_, h3, _⟩ : a = none ∧ es.length = 0 ∧ cap = 0 := by simpa using h1
        omega
      · obtain ⟨h4, _⟩ : a = some ⟨g, 0, none⟩ ∧ cap = c := by simpa using h1
        exact ⟨g, h4, HB.out g (by rw [h4]; rfl)⟩
    have hDg : D ≠ g := fun e => hDx (by rw [e]; rfl)
    have hDl := hD.lt
    have HDb := Lib.hid hD
    obtain ⟨n, hnn⟩ : ∃ n, n = es.length := ⟨_, rfl⟩
    have HN := Lib.hid hnn
    rw [← hnn] at HI hn hle hp HF ⊢
    have hp1 : ((p : Int) == -1) = false := by rw [beq_eq_false_iff_ne]; omega
    clear h hix HV hz hD hDx HDL HB hnn
    go_enter Try.func126, Try.ntmps126
    go_wp2_with fail
    refine HF.out.mono ?_
    rintro e w1 ⟨rfl, hb1⟩
    have hg1 := gb_below (World.grownBy.refl w (some g)) hb1 (Nat.le_refl _)
    have ho1 := HI.out.keep hb1 (Nat.le_refl _)
    clear HF HI hb1
    go_wp2
    go_loopw [5, 6] (fun p5 p6 wr => ∃ (i j : Nat) (L : List En), i < j ∧ j ≤ n ∧ p5 = .int .i64 (i : Int) ∧ p6 = .int .i64 (j : Int) ∧ Hid (DelL es d i j L) ∧ OwnR 103 5 enC wr B (.slice (some ⟨g, 0, none⟩) n cap) L ∧ w.grownBy wr (some g)) (fun _ p6 _ => n - (intOf p6).toNat)
    case atStart => exact ⟨p, p + 1, es, by omega, by omega, rfl, by go_num, HS, ho1, hg1⟩
    case round =>
      clear ho1 hg1 HS hp1 hp
      obtain ⟨i, j, L, hij, hj, rfl, rfl, HS, hown, hgr⟩ := hrel
      have hLn : n = L.length := by rw [HS.out.len]; exact HN.out
      by_cases hlt : j < n
      · have hje : j < es.length := by have := HN.out; omega
        have hjL : j < L.length := by omega
        have c0 : wr.cell? ⟨g, j * 5, none⟩ = some (.string L[j].it.id) := hown.val enC_len hLn j 0 _ hjL rfl
        have c1 : wr.cell? ⟨g, j * 5 + 1, none⟩ = some (.string L[j].it.ti) := hown.val enC_len hLn j 1 _ hjL rfl
        have c2 : wr.cell? ⟨g, j * 5 + 2, none⟩ = some (.int .i64 L[j].it.da) := hown.val enC_len hLn j 2 _ hjL rfl
        have c3 : wr.cell? ⟨g, j * 5 + 3, none⟩ = some (.bool L[j].rd) := hown.val enC_len hLn j 3 _ hjL rfl
        have c4 : wr.cell? ⟨g, j * 5 + 4, none⟩ = some (.bool L[j].st) := hown.val enC_len hLn j 4 _ hjL rfl
        have HE : Hid (L[j] = es[j]) := Lib.hid (HS.out.at hje hjL)
        have HC := Lib.hid (fun w hD => purged1_any L[j] D d w hD)
        have HG : Hid (pgB L[j] d = true → DelL es d i (j + 1) L) := Lib.hid (fun h => HS.out.goes hje (by rw [← HE.out]; exact h))
        have HT : Hid (pgB L[j] d = false → DelL es d (i + 1) (j + 1) (L.set i L[j])) := Lib.hid (fun h => by rw [HE.out]; exact HS.out.stays hij hje (by rw [← HE.out]; exact h))
        have HP : Hid (∀ w', OwnR 103 5 enC w' B (.slice (some ⟨g, 0, none⟩) n cap) L → OwnR 103 5 enC (putRow g (i * 5) (enC L[j]) w') B (.slice (some ⟨g, 0, none⟩) n cap) (L.set i L[j])) := Lib.hid (fun w' h => h.put enC_len hLn i L[j] (by omega))
        have HQ : Hid (∀ w', w.grownBy w' (some g) → w.grownBy (putRow g (i * 5) (enC L[j]) w') (some g)) := Lib.hid (fun w' h => gb_put (enC L[j]) _ _ h)
        unfold enC at HP HQ
        simp only [putRow] at HP HQ
        generalize pgB L[j] d = q at HC HG HT
        obtain ⟨L2, hL2⟩ : ∃ L2, L2 = L.set i L[j] := ⟨_, rfl⟩
        rw [← hL2] at HT HP
        obtain ⟨S0, hS0⟩ : ∃ x, x = L[j].it.id := ⟨_, rfl⟩
        rw [← hS0] at c0 HC HP HQ
        obtain ⟨S1, hS1⟩ : ∃ x, x = L[j].it.ti := ⟨_, rfl⟩
        rw [← hS1] at c1 HC HP HQ
        obtain ⟨S2, hS2⟩ : ∃ x, x = L[j].it.da := ⟨_, rfl⟩
        rw [← hS2] at c2 HC HP HQ
        obtain ⟨S3, hS3⟩ : ∃ x, x = L[j].rd := ⟨_, rfl⟩
        rw [← hS3] at c3 HC HP HQ
        obtain ⟨S4, hS4⟩ : ∃ x, x = L[j].st := ⟨_, rfl⟩
        rw [← hS4] at c4 HC HP HQ
        have hDr : Box wr D #[.int .i64 d] 2 := (hgr.block D hDl (fun e => hDg (Option.some.inj e))).trans HDb.out
        have hD2 := hDr.alloc (.cells #[.string S0, .string S1, .int .i64 S2, .bool S3, .bool S4] 103)
        have hX2 := Box.new wr #[.string S0, .string S1, .int .i64 S2, .bool S3, .bool S4] 103
        have ho2 := hown.alloc (.cells #[.string S0, .string S1, .int .i64 S2, .bool S3, .bool S4] 103)
        have hg2 := gb_alloc hgr (.cells #[.string S0, .string S1, .int .i64 S2, .bool S3, .bool S4] 103)
        have HO := Lib.hid ho2
        have HLn := Lib.hid hLn
        clear hS0 hS1 hS2 hS3 hS4 hown hgr hDr HE ho2 hL2 hLn
        have hin : i < n := by omega
        go_wp2_with fail
        refine (HC.out _ hD2).mono ?_
        rintro e w2 ⟨rfl, hb2⟩
        have ho3 := HO.out.keep hb2 (Nat.le_refl _)
        have hg3 := gb_below hg2 hb2 hg2.size
        have hX3 := hX2.keep hb2 hX2.lt
        clear hb2 hg2 hX2 HO hD2 c0 c1 c2 c3 c4
        cases q with
        | true =>
          have HS' := Lib.hid (HG.out rfl)
          have HO3 := Lib.hid ho3
          clear HG HT HP HQ HC ho3 HS
          go_wp2
          go_roundw
          case rel => exact ⟨i, j + 1, L, by omega, by omega, rfl, by go_num, HS', HO3.out, hg3⟩
          case measure => simp [intOf]; omega
        | false =>
          have HS' := Lib.hid (HT.out rfl)
          have f0 := hX3.cell 0 _ rfl
          have f1 := hX3.cell 1 _ rfl
          have f2 := hX3.cell 2 _ rfl
          have f3 := hX3.cell 3 _ rfl
          have f4 := hX3.cell 4 _ rfl
          have hfr : ∀ j, w2.frozen? ⟨g, j, none⟩ = false := fun j => ho3.free HLn.out j
          obtain ⟨x0, d0⟩ := ho3.cell enC_len HLn.out i 0 hin (by decide)
          obtain ⟨x1, d1⟩ := ho3.cell enC_len HLn.out i 1 hin (by decide)
          obtain ⟨x2, d2⟩ := ho3.cell enC_len HLn.out i 2 hin (by decide)
          obtain ⟨x3, d3⟩ := ho3.cell enC_len HLn.out i 3 hin (by decide)
          obtain ⟨x4, d4⟩ := ho3.cell enC_len HLn.out i 4 hin (by decide)
          rw [Nat.add_zero] at d0
          have HO3 := Lib.hid ho3
          clear HG HT HC ho3 HS hX3
          go_wp2
          go_roundw
          case rel => exact ⟨i + 1, j + 1, L2, by omega, by omega, by go_num, by go_num, HS', HP.out _ HO3.out, HQ.out _ hg3⟩
          case measure => simp [intOf]; omega
      · have HZ := Lib.hid (HS.out.over (by have := HN.out; omega))
        obtain ⟨w3, hr, ho3, hg3⟩ := clear_own wr B g n cap i L 0 hown hLn (by omega)
        have HO3 := Lib.hid ho3
        have hg4 := gb_trans hgr hg3
        clear ho3 hown hgr hg3 HS hLn
        have hci : ¬ cap = i := by omega
        have hci2 : ¬ cap < i := by omega
        have hni : ¬ n < i := by omega
        go_wp2
        go_ret
        refine ⟨_, rfl, ?_, rfl, hg4⟩
        rw [← HZ.out]
        exact HO3.out
end Go.Proofs.Ytgimjfffdnopiaa

/- W9zd -/
namespace Go.Proofs.Ytgimjfffdnopiaa
open Go.ChangeShapes Go.WideShapes Go.ChangeAt Go.RowKit
set_option linter.unusedVariables false

/-- Feeds whose entries went. -/
def pg1 (d : Int) (s : Sb) : Sb := { s with es := pgL s.es d }
def pgS (ss : List Sb) (d : Int) : List Sb := ss.map (pg1 d)
theorem gb_Below {w w' : World} {row : Option Nat} {B : Nat} (h : w.grownBy w' row) (hB : B ≤ w.heap.size) (hr : ∀ b, row = some b → B ≤ b) : Below B w w' :=
  ⟨h.os, h.tape, h.output, h.size, fun k hk => h.block k (by omega) (fun e => by have := hr k e.symm; omega)⟩
theorem apart_head {b : Option Nat} {bs : List (Option Nat)} (h : ApartD (b :: bs)) {c : Option Nat} (hc : c ∈ bs) : b = none ∨ b ≠ c := List.rel_of_pairwise_cons h hc
theorem apart_two {bs : List (Option Nat)} (h : ApartD bs) (i j : Nat) (hi : i < bs.length) (hj : j < bs.length) (hij : i ≠ j) : bs[i] = none ∨ bs[i] ≠ bs[j] := by
  rcases Nat.lt_or_gt_of_ne hij with h1 | h1
  · exact List.pairwise_iff_getElem.1 h i j hi hj h1
  · rcases List.pairwise_iff_getElem.1 h j i hj hi h1 with h2 | h2
    · by_cases e : bs[i] = none
      · exact .inl e
      · exact .inr (by rw [h2]; exact e)
    · exact .inr (fun e => h2 e.symm)

structure PgH (w wr : World) (B : Nat) (v : Value) (ss : List Sb) (d : Int) (k : Nat) (qs : List (Sb × Value)) : Prop where
  fst : qs.map Prod.fst = pgS (ss.take k) d ++ ss.drop k
  own : OwnD wr B v qs
  lt : ∀ q ∈ qs, ∀ b, q.2.ownBlock = some b → b < w.heap.size
  box : Box wr w.heap.size #[.int .i64 d] 2
  bel : Below B w wr
theorem PgH.len {w wr : World} {B : Nat} {v : Value} {ss : List Sb} {d : Int} {k : Nat} {qs : List (Sb × Value)} (h : PgH w wr B v ss d k qs) : qs.length = ss.length := by
  have := congrArg List.length h.fst
  simp [pgS] at this
  omega
theorem PgH.at {w wr : World} {B : Nat} {v : Value} {ss : List Sb} {d : Int} {k : Nat} {qs : List (Sb × Value)} (h : PgH w wr B v ss d k qs) (hk : k < qs.length) (hk2 : k < ss.length) : qs[k].1 = ss[k] := by
  have := congrArg (fun l => l[k]?) h.fst
  simp only [List.getElem?_map, List.getElem?_eq_getElem hk, Option.map_some] at this
  rw [List.getElem?_append_right (by simp [pgS]; omega)] at this
  have e : k - (pgS (ss.take k) d).length = 0 := by simp [pgS]; omega
  rw [e, List.getElem?_drop, Nat.add_zero, List.getElem?_eq_getElem hk2] at this
  exact Option.some.inj this
theorem pgS_set (ss : List Sb) (d : Int) (k : Nat) (hk : k < ss.length) : (pgS (ss.take k) d ++ ss.drop k).set k (pg1 d ss[k]) = pgS (ss.take (k + 1)) d ++ ss.drop (k + 1) := by
  have hl : (pgS (ss.take k) d).length = k := by simp [pgS]; omega
  rw [List.set_append_right _ _ (by omega), hl, Nat.sub_self, List.take_succ_eq_append_getElem hk, List.drop_eq_getElem_cons hk, List.set_cons_zero]
  unfold pgS
  rw [List.map_append]
  simp

theorem PgH.step {w wr w2 : World} {B g n cap k : Nat} {ss : List Sb} {d : Int} {qs : List (Sb × Value)} {y : Value} (hH : PgH w wr B (.slice (some ⟨g, 0, none⟩) n cap) ss d k qs) (hB : B ≤ w.heap.size) (hgw : g < w.heap.size) (hn : n = qs.length) (hk : k < qs.length) (hk2 : k < ss.length)
    (hy : OwnR 103 5 enC w2 B y (pgL qs[k].1.es d)) (hyb : y.ownBlock = qs[k].2.ownBlock) (hgr : wr.grownBy w2 qs[k].2.ownBlock) :
    PgH w (w2.setCell ⟨g, k * 3 + 2, none⟩ y) B (.slice (some ⟨g, 0, none⟩) n cap) ss d (k + 1) (qs.set k (pg1 d qs[k].1, y)) := by
  have hap := hH.own.2.2
  have hgk : (some g : Option Nat) ≠ qs[k].2.ownBlock := by
    rcases apart_head hap (c := qs[k].2.ownBlock) (List.mem_map.2 ⟨_, List.getElem_mem hk, rfl⟩) with h | h
    · cases h
    · exact h
  have hBg : B ≤ g := (World.ownsRow.lt hH.own.1 g rfl).1
  have hrow : ∀ b, qs[k].2.ownBlock = some b → B ≤ b := fun b hb => (World.ownsRow.lt (hH.own.2.1 _ (List.getElem_mem hk)) b hb).1
  have hb2 : Below B wr w2 := gb_Below hgr (Nat.le_trans hB hH.bel.size) hrow
  refine ⟨?_, ⟨?_, ?_, ?_⟩, ?_, ?_, ?_⟩
  · rw [List.map_set, hH.fst, hH.at hk hk2]
    exact pgS_set ss d k hk2
  · have h1 : OwnR 99 3 sbC w2 B (.slice (some ⟨g, 0, none⟩) n cap) qs := World.ownsRow.kept hH.own.1 hgr (.inr hgk)
    exact h1.setF sbC_len hn k 2 (pg1 d qs[k].1, y) y hk (by decide) rfl
  · intro p hp
    obtain ⟨i, hi, rfl⟩ := List.getElem_of_mem hp
    rw [List.length_set] at hi
    by_cases e : i = k
    · subst e
      simp only [List.getElem_set_self]
      exact hy.off _ _ (by rw [hyb]; exact fun h => hgk h.symm)
    · rw [List.getElem_set_ne (fun h => e h.symm)]
      have h2 := apart_two (List.pairwise_cons.1 hap).2 i k (by rw [List.length_map]; exact hi) (by rw [List.length_map]; exact hk) e
      simp only [List.getElem_map] at h2
      have h1 : OwnR 103 5 enC w2 B qs[i].2 qs[i].1.es := World.ownsRow.kept (hH.own.2.1 _ (List.getElem_mem hi)) hgr h2
      refine h1.off _ _ ?_
      rcases apart_head hap (c := qs[i].2.ownBlock) (List.mem_map.2 ⟨_, List.getElem_mem hi, rfl⟩) with h | h
      · cases h
      · exact fun h3 => h h3.symm
  · have e : (qs.set k (pg1 d qs[k].1, y)).map (fun p => p.2.ownBlock) = qs.map (fun p => p.2.ownBlock) := by
      rw [List.map_set, hyb]
      apply List.ext_getElem?
      intro j
      rw [List.getElem?_set]
      by_cases e : k = j
      · subst e; simp [hk]
      · rw [if_neg e]
    rw [e]
    exact hap
  · intro q hq b hb
    obtain ⟨i, hi, rfl⟩ := List.getElem_of_mem hq
    rw [List.length_set] at hi
    by_cases e : i = k
    · subst e
      simp only [List.getElem_set_self] at hb
      exact hH.lt _ (List.getElem_mem hk) b (by rw [← hyb]; exact hb)
    · rw [List.getElem_set_ne (fun h => e h.symm)] at hb
      exact hH.lt _ (List.getElem_mem hi) b hb
  · have h1 : Box w2 w.heap.size #[.int .i64 d] 2 := (hgr.block _ hH.box.lt (fun h => by
      have := hH.lt _ (List.getElem_mem hk) _ h.symm
      omega)).trans hH.box
    exact h1.other _ _ (by show w.heap.size ≠ g; omega)
  · exact (hH.bel.trans hb2).setCell (p := ⟨g, k * 3 + 2, none⟩) hBg y
theorem PgH.over {w wr : World} {B : Nat} {v : Value} {ss : List Sb} {d : Int} {k : Nat} {qs : List (Sb × Value)} (h : PgH w wr B v ss d k qs) (hk : ¬ k < ss.length) : qs.map Prod.fst = pgS ss d := by
  rw [h.fst, List.take_of_length_le (by omega), List.drop_eq_nil_of_le (by omega), List.append_nil]

def OutPg (ss : List Sb) (d : Int) (v : Value) (B : Nat) (w : World) (e : Ending) (w' : World) : Prop := ∃ qs, e = .returned v ∧ qs.map Prod.fst = pgS ss d ∧ OwnD w' B v qs ∧ Below B w w'

set_option maxRecDepth 100000 in
set_option maxHeartbeats 1600000 in
theorem purged_any (v : Value) (ps : List (Sb × Value)) (ss : List Sb) (B : Nat) (d : Int) (w : World) (h : OwnD w B v ps) (hps : ps.map Prod.fst = ss) (hB : B ≤ w.heap.size) (hn : ss.length ≤ 1000) (hz : ∀ s ∈ ss, s.es.length ≤ 1000 ∧ ∀ y ∈ s.es, EnSz y) :
    Calls Try.prog 62 #[v, .int .i64 d] w (OutPg ss d v B w) := by
  have hlen : ps.length = ss.length := by rw [← hps, List.length_map]
  have HH : Hid (PgH w (w.alloc (.cells #[.int .i64 d] 2)) B v ss d 0 ps) := Lib.hid ⟨by rw [hps]; simp [pgS], h.keep ((Below.refl w.heap.size w).alloc (Nat.le_refl _) _) (Nat.le_refl _), fun q hq b hb => (World.ownsRow.lt (h.2.1 q hq) b hb).2, Box.new w _ _, (Below.refl B w).alloc hB _⟩
  have HZ := Lib.hid hz
  have HB : Hid (∀ g, v.ownBlock = some g → g < w.heap.size) := Lib.hid (fun g hg => (World.ownsRow.lt h.1 g hg).2)
  obtain ⟨n, hnn⟩ : ∃ n, n = ss.length := ⟨_, rfl⟩
  have HN := Lib.hid hnn
  rw [← hnn] at hn hlen
  rcases h.1.2 with ⟨rfl, hnil⟩ | ⟨g, cap, cur, rfl, hgb, hgw, hnc, hcm, _⟩
  · have HE : Hid (∀ w', PgH w w' B (.slice none 0 0) ss d 0 ps → OutPg ss d (.slice none 0 0) B w (.returned (.slice none 0 0)) w') := Lib.hid (fun w' hw => ⟨ps, rfl, hw.over (by omega), hw.own, hw.bel⟩)
    clear h hps hz hnil hnn hlen
    go_enter Try.func62, Try.ntmps62
    go_wp2
    generalize w.alloc (.cells #[.int .i64 d] 2) = W at HH ⊢
    go_loop [8] (fun i => i = .int .i64 0) (fun _ => 0)
    case atStart => exact rfl
    case round =>
      obtain rfl := hrel
      go_wp2
      go_ret
      exact HE.out _ HH.out
  · rw [hlen] at HH HB hnc ⊢
    unfold maxLen at hcm
    have hgl : g < w.heap.size := HB.out g rfl
    clear h hps hz hnn hgw HB hlen
    go_enter Try.func62, Try.ntmps62
    go_wp2
    generalize w.alloc (.cells #[.int .i64 d] 2) = W at HH ⊢
    go_loopw [8] (fun i wr => ∃ (k : Nat) (qs : List (Sb × Value)), k ≤ n ∧ i = .int .i64 (k : Int) ∧ Hid (PgH w wr B (.slice (some ⟨g, 0, none⟩) n cap) ss d k qs)) (fun i _ => n - (intOf i).toNat)
    case atStart => exact ⟨0, ps, Nat.zero_le _, rfl, HH⟩
    case round =>
      clear HH
      obtain ⟨k, qs, hk, rfl, HF⟩ := hrel
      have HL : Hid (n = qs.length) := Lib.hid (by rw [HF.out.len]; exact HN.out)
      by_cases hlt : k < n
      · have hkq : k < qs.length := by have := HL.out; omega
        have hks : k < ss.length := by have := HN.out; omega
        have c2 := HF.out.own.1.val sbC_len HL.out k 2 _ hkq rfl
        have hzk := HZ.out _ (List.getElem_mem hks)
        rw [← HF.out.at hkq hks] at hzk
        have hbD : qs[k].2.ownBlock ≠ some w.heap.size := fun h => by
          have := HF.out.lt _ (List.getElem_mem hkq) _ h
          omega
        have HDl := Lib.hid (deleteFunc_any qs[k].2 qs[k].1.es B w.heap.size d wr (HF.out.own.2.1 _ (List.getElem_mem hkq)) hzk.2 hzk.1 HF.out.box hbD)
        have HSt := Lib.hid (fun w2 y hy hyb hg => HF.out.step (y := y) (w2 := w2) hB hgl HL.out hkq hks hy hyb hg)
        have HFs : Hid (∀ w2, wr.grownBy w2 qs[k].2.ownBlock → (∀ j, w2.frozen? ⟨g, j, none⟩ = false) ∧ w2.cell? ⟨g, k * 3 + 2, none⟩ = some qs[k].2) := Lib.hid (fun w2 hg => by
          have hgk : (some g : Option Nat) ≠ qs[k].2.ownBlock := by
            rcases apart_head HF.out.own.2.2 (c := qs[k].2.ownBlock) (List.mem_map.2 ⟨_, List.getElem_mem hkq, rfl⟩) with h | h
            · cases h
            · exact h
          have h1 : OwnR 99 3 sbC w2 B (.slice (some ⟨g, 0, none⟩) n cap) qs := World.ownsRow.kept HF.out.own.1 hg (.inr hgk)
          exact ⟨fun j => h1.free HL.out j, h1.val sbC_len HL.out k 2 _ hkq rfl⟩)
        obtain ⟨xa, xc, hxe⟩ := (HF.out.own.2.1 _ (List.getElem_mem hkq)).slice
        obtain ⟨X, hX⟩ : ∃ X, X = qs[k].2 := ⟨_, rfl⟩
        obtain ⟨m, hm⟩ : ∃ m, m = qs[k].1.es.length := ⟨_, rfl⟩
        rw [← hX] at c2 HDl HSt HFs hxe
        rw [← hm] at hxe
        subst hxe
        obtain ⟨E, hE⟩ : ∃ E, E = qs[k].1.es := ⟨_, rfl⟩
        rw [← hE] at HDl HSt
        obtain ⟨Q, hQ⟩ : ∃ Q, Q = pg1 d qs[k].1 := ⟨_, rfl⟩
        rw [← hQ] at HSt
        clear hX hm hzk hbD hE hQ
        go_wp2_with fail
        refine HDl.out.mono ?_
        rintro e w2 ⟨y, rfl, hy, hyb, hg2⟩
        obtain ⟨hfr, d2⟩ := HFs.out w2 hg2
        have HS2 := Lib.hid (HSt.out w2 y hy hyb hg2)
        obtain ⟨ya, yc, rfl⟩ := hy.slice
        obtain ⟨m2, hm2⟩ : ∃ m2, m2 = (pgL E d).length := ⟨_, rfl⟩
        rw [← hm2] at HS2 ⊢
        clear hm2 hy hyb hg2 c2 HF HSt HDl HFs HL
        go_wp2
        go_roundw
        case rel => exact ⟨k + 1, _, by omega, by go_num, HS2⟩
        case measure => simp [intOf]; omega
      · have HE : Hid (OutPg ss d (.slice (some ⟨g, 0, none⟩) n cap) B w (.returned (.slice (some ⟨g, 0, none⟩) n cap)) wr) := Lib.hid ⟨qs, rfl, HF.out.over (by have := HN.out; omega), HF.out.own, HF.out.bel⟩
        clear HF HL
        go_wp2
        go_ret
        exact HE.out
end Go.Proofs.Ytgimjfffdnopiaa
