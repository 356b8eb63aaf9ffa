/- Joined: Y9f, M9f, Y9k. -/
import Derived.Test.YtgimjfffdnopiaaH32
import Derived.Test.YtgimjfffdnopiaaH44
import Derived.Test.YtgimjfffdnopiaaH49
/- Y9f -/
namespace Go.Proofs.Ytgimjfffdnopiaa
open Go.ChangeShapes Go.WideShapes Go.ChangeAt Go.RowKit
set_option linter.unusedVariables false

/-- What is left of a reader behind operations up to the first that can not be, and how many were done. -/
def fdG : List Sb → List OpD → List Sb × Nat
  | r, [] => (r, 0)
  | r, o :: os => match doV r o with
    | none => (r, 0)
    | some r2 => ((fdG r2 os).1, (fdG r2 os).2 + 1)
def fdV (os : List OpD) : List Sb × Nat := fdG [] (os.take 500)
theorem fdG_none {r : List Sb} {o : OpD} {os : List OpD} (h : doV r o = none) : fdG r (o :: os) = (r, 0) := by
  show (match doV r o with | none => (r, 0) | some r2 => ((fdG r2 os).1, (fdG r2 os).2 + 1)) = _
  rw [h]
theorem fdG_some {r r2 : List Sb} {o : OpD} {os : List OpD} (h : doV r o = some r2) : fdG r (o :: os) = ((fdG r2 os).1, (fdG r2 os).2 + 1) := by
  show (match doV r o with | none => (r, 0) | some r2 => ((fdG r2 os).1, (fdG r2 os).2 + 1)) = _
  rw [h]
/-- Half way: k are done, r is left. -/
structure FdH (os : List OpD) (k : Nat) (r : List Sb) : Prop where
  le : k ≤ os.length ∧ k ≤ 500
  rd : rdB r = true
  fst : (fdV os).1 = (fdG r ((os.take 500).drop k)).1
  snd : (fdV os).2 = (fdG r ((os.take 500).drop k)).2 + k
theorem rdB_nil : rdB [] = true := rfl
theorem FdH.zero (os : List OpD) : FdH os 0 [] := ⟨⟨Nat.zero_le _, Nat.zero_le _⟩, rdB_nil, rfl, rfl⟩
theorem drop_take9 (os : List OpD) (k : Nat) (hk : k < os.length) (hk5 : k < 500) : (os.take 500).drop k = os[k] :: (os.take 500).drop (k + 1) := by
  have h : k < (os.take 500).length := by rw [List.length_take]; omega
  rw [List.drop_eq_getElem_cons h, List.getElem_take]
theorem FdH.stop {os : List OpD} {k : Nat} {r : List Sb} (h : FdH os k r) (hk : k < os.length) (hk5 : k < 500) (hd : doV r os[k] = none) : (fdV os).1 = r ∧ (fdV os).2 = k := by
  have h1 := h.fst
  have h2 := h.snd
  rw [drop_take9 os k hk hk5, fdG_none hd] at h1 h2
  exact ⟨h1, by rw [h2]; exact Nat.zero_add _⟩
theorem FdH.next {os : List OpD} {k : Nat} {r r2 : List Sb} (h : FdH os k r) (hk : k < os.length) (hk5 : k < 500) (hd : doV r os[k] = some r2) : FdH os (k + 1) r2 := by
  have h1 := h.fst
  have h2 := h.snd
  rw [drop_take9 os k hk hk5, fdG_some hd] at h1 h2
  exact ⟨⟨by omega, by omega⟩, doV_rd hd, h1, by omega⟩
theorem FdH.over {os : List OpD} {k : Nat} {r : List Sb} (h : FdH os k r) (hk : ¬ (k < os.length ∧ k < 500)) : (fdV os).1 = r ∧ (fdV os).2 = k := by
  have h1 := h.fst
  have h2 := h.snd
  have e : (os.take 500).drop k = [] := List.drop_of_length_le (by have := h.le; rw [List.length_take]; omega)
  rw [e] at h1 h2
  have e2 : fdG r [] = (r, 0) := rfl
  rw [e2] at h1 h2
  exact ⟨h1, by rw [h2]; exact Nat.zero_add _⟩
theorem FdH.all {os : List OpD} {k : Nat} {r : List Sb} (h : FdH os k r) (hk : ¬ (k < os.length ∧ k < 500)) : (k : Int) = (if (os.length : Int) < 500 then (os.length : Int) else 500) := by
  have := h.le
  split <;> omega
end Go.Proofs.Ytgimjfffdnopiaa

/- M9f -/
namespace Go.Proofs.Ytgimjfffdnopiaa
open Go.ChangeShapes Go.WideShapes Go.ChangeAt Go.RowKit
set_option linter.unusedVariables false

/-- What Done leaves, refused or not. -/
def OutDu (rs : List Sb) (b : Bool) (w : World) (e : Ending) (w' : World) : Prop := ∃ V qs, e = .returned (.tuple #[.agg #[V], .bool b]) ∧ qs.map Prod.fst = rs ∧ OwnD w' w.heap.size V qs ∧ Below w.heap.size w w'
theorem OwnD.none (w : World) (B : Nat) : OwnD w B (.slice Option.none 0 0) [] := ⟨OwnR.nil _ _ _, (fun p hp => by cases hp), by unfold ApartD; simp⟩
theorem OutDn.uni {R : Option (List Sb)} {w w' : World} {e : Ending} (h : OutDn R w e w') : OutDu (R.getD []) R.isSome w e w' := by
  cases R with
  | none =>
    obtain ⟨h1, h2⟩ := h
    exact ⟨_, [], h1, rfl, OwnD.none _ _, h2⟩
  | some rs => exact h
theorem specDone_uni (v x : Value) (ss : List Sb) (o : OpD) (w : World) (h : SbAt w w.heap.size v ss) (hx : ItAt w w.heap.size x o.its) (hz : OpSz o) :
    Calls Try.prog 57 #[.agg #[v], opV o x] w (OutDu ((doV ss o).getD []) (doV ss o).isSome w) := (specDone_any v x ss o w h hx hz).mono (fun e w' h => h.uni)
theorem implDone_uni (v x : Value) (ss : List Sb) (o : OpD) (w : World) (h : SbAt w w.heap.size v ss) (hx : ItAt w w.heap.size x o.its) (hz : OpSz o) :
    Calls Try.prog 19 #[.agg #[v], opV o x] w (OutDu ((doV ss o).getD []) (doV ss o).isSome w) := (implDone_any v x ss o w h hx hz).mono (fun e w' h => h.uni)
theorem doU_rd (ss : List Sb) (o : OpD) : rdB ((doV ss o).getD []) = true := by
  cases h : doV ss o with
  | none => rfl
  | some rs => exact doV_rd h
theorem rd_lens {ss : List Sb} (h : rdB ss = true) : ss.length ≤ 1048576 ∧ ∀ s ∈ ss, s.es.length ≤ 1048576 := ⟨by have := rd_len h; omega, fun s hs => by have := sb_len (rd_sub h s hs); omega⟩
theorem OwnD.at {w : World} {B : Nat} {v : Value} {qs : List (Sb × Value)} {ss : List Sb} (h : OwnD w B v qs) (hq : qs.map Prod.fst = ss) (hs : ∀ s ∈ ss, SbSz s ∧ ∀ x ∈ s.es, EnSz x) : SbAt w w.heap.size v ss := OwnS.at (show OwnS w B v ss from ⟨qs, hq, h.1, h.2.1⟩) hs
theorem OwnD.lt {w : World} {B : Nat} {v : Value} {qs : List (Sb × Value)} (h : OwnD w B v qs) : (∀ b, v.ownBlock = Option.some b → b < w.heap.size) ∧ ∀ p ∈ qs, ∀ b, p.2.ownBlock = Option.some b → b < w.heap.size := ⟨fun b hb => (World.ownsRow.lt h.1 b hb).2, fun p hp b hb => (World.ownsRow.lt (h.2.1 p hp) b hb).2⟩
theorem wpAnyT_pair {P : Program} {md : Region.Mode} {Q : Exit → Act → World → Prop} {A B : World → Prop} {t : Nat} {l : List Oper} {L : Array Bool} {a : Act} {w : World} (i j g : Nat) {oi oj : Oper} (hr : Region.ready md l.toArray L = [i, j])
    (hoi : l[i]? = some oi) (hoj : l[j]? = some oj) (hwi : Region.wanted oi (yielded l.toArray a.tmps) = true) (hwj : Region.wanted oj (yielded l.toArray a.tmps) = true)
    (hi : ∀ K : Act → World → Prop, (∀ a w, Sx A B t (L.setIfInBounds i true) w → (Sx A B t (L.setIfInBounds i true) w → wpAnyT P md l.toArray Q A B t g (L.setIfInBounds i true) a w) → K a w) → oi.wp P a w K Q)
    (hj : ∀ K : Act → World → Prop, (∀ a w, Sx A B t (L.setIfInBounds j true) w → (Sx A B t (L.setIfInBounds j true) w → wpAnyT P md l.toArray Q A B t g (L.setIfInBounds j true) a w) → K a w) → oj.wp P a w K Q) : wpAnyT P md l.toArray Q A B t (g + 1) L a w := by
  refine ⟨fun h0 => (by rw [hr] at h0; cases h0), fun k hk => ?_⟩
  rw [hr] at hk
  have hk' : k = i ∨ k = j := by simpa using hk
  rcases hk' with rfl | rfl
  · unfold wpOp
    have ho' : l.toArray[k]? = some oi := by simpa using hoi
    simp only [ho']
    rw [if_pos hwi]
    exact .inl (hi _ (fun _ _ h1 h2 => ⟨h1, h2 h1⟩))
  · unfold wpOp
    have ho' : l.toArray[k]? = some oj := by simpa using hoj
    simp only [ho']
    rw [if_pos hwj]
    exact .inl (hj _ (fun _ _ h1 h2 => ⟨h1, h2 h1⟩))
theorem box_row {α : Type} {k : Nat} {C : α → List Value} {e t : TypeId} {w : World} {B g : Nat} {cs : Array Value} {v : Value} {l : List α} (hZ : Box w g cs t) (h : OwnR e k C w B v l) (he : e ≠ t) : v.ownBlock ≠ Option.some g := by
  intro hb
  rcases h.2 with ⟨rfl, _⟩ | ⟨g', cap, cur, rfl, _, hg, _⟩
  · cases hb
  · have h2 : g' = g := by simpa [Value.ownBlock] using hb
    subst h2
    unfold Box at hZ
    rw [hZ] at hg
    have h3 := Option.some.inj hg
    injection h3 with _ h4
    exact he h4.symm
theorem OwnD.offBox {w : World} {B g : Nat} {cs : Array Value} {v : Value} {qs : List (Sb × Value)} (h : OwnD w B v qs) (hZ : Box w g cs 28) (z : Value) : OwnD (w.setCell ⟨g, 0, Option.none⟩ z) B v qs := h.off ⟨g, 0, Option.none⟩ z (box_row hZ h.1 (by decide)) (fun q hq => box_row hZ (h.2.1 q hq) (by decide))
theorem SbAt.mid {w w' : World} {B B' S : Nat} {v : Value} {ss : List Sb} (h : SbAt w B v ss) (hm : Mid B' S w w') (hB : B ≤ B') : SbAt w' B v ss := h.below (hm.1.mono hB)
end Go.Proofs.Ytgimjfffdnopiaa

/- Y9k -/
namespace Go.Proofs.Ytgimjfffdnopiaa
open Go.ChangeShapes Go.WideShapes Go.ChangeAt Go.RowKit
set_option linter.unusedVariables false

/-- What Folded leaves. -/
def OutFo (os : List OpD) (w : World) (e : Ending) (w' : World) : Prop := ∃ V qs, e = .returned (.tuple #[.agg #[V], .int .i64 ((fdV os).2 : Int)]) ∧ qs.map Prod.fst = (fdV os).1 ∧ OwnD w' w.heap.size V qs ∧ Below w.heap.size w w'

set_option maxRecDepth 100000 in
set_option maxHeartbeats 3000000 in
theorem implFolded_any (v : Value) (os : List OpD) (w : World) (h : OpsAt w w.heap.size v os) :
    Calls Try.prog 16 #[v] w (OutFo os w) := by
  have HI := Lib.hid h
  obtain ⟨a, cap, rfl, hl, hm, hc⟩ := h.raw
  unfold maxLen at hm
  clear hc h
  have hb0 : Below w.heap.size w ((w.alloc (.cells #[.slice none 0 0] 28)).alloc (.cells #[.slice none 0 0] 28)) := ((Below.refl _ _).alloc (Nat.le_refl _) _).alloc (by simp) _
  have hZ0 : Box ((w.alloc (.cells #[.slice none 0 0] 28)).alloc (.cells #[.slice none 0 0] 28)) w.heap.size #[.slice none 0 0] 28 := (Box.new w #[.slice none 0 0] 28).alloc _
  have hR0 : Box ((w.alloc (.cells #[.slice none 0 0] 28)).alloc (.cells #[.slice none 0 0] 28)) (w.heap.size + 1) #[.slice none 0 0] 28 := by
    have := Box.new (w.alloc (.cells #[.slice none 0 0] 28)) #[.slice none 0 0] 28
    simpa using this
  have hs0 : ((w.alloc (.cells #[.slice none 0 0] 28)).alloc (.cells #[.slice none 0 0] 28)).heap.size = w.heap.size + 2 := by simp
  have HD0 : Hid (OwnD ((w.alloc (.cells #[.slice none 0 0] 28)).alloc (.cells #[.slice none 0 0] 28)) (w.heap.size + 2) (.slice none 0 0) []) := Lib.hid (OwnD.none _ _)
  go_enter Try.func16, Try.ntmps16
  rcases Nat.lt_or_ge 500 os.length with hN | hN
  · have hm1 : ¬ (os.length : Int) ≤ 500 := by omega
    have hm2 : (500 : Int) ≤ (os.length : Int) := by omega
    go_wp2
    all_goals try (exfalso; omega)
    try rw [show (max (500 : Int) 0) = 500 from rfl]
    generalize ((w.alloc (.cells #[.slice none 0 0] 28)).alloc (.cells #[.slice none 0 0] 28)) = Wq at hb0 hZ0 hR0 hs0 HD0 ⊢
    go_loopw [5, 16] (fun c i wr => ∃ (k : Nat) (r : List Sb) (va : Option Addr) (vn vc : Nat) (qs : List (Sb × Value)), k ≤ 500 ∧ c = .int .i64 (k : Int) ∧ i = .int .i64 (k : Int) ∧ Hid (FdH os k r) ∧ Hid (qs.map Prod.fst = r) ∧ Hid (OwnD wr (w.heap.size + 2) (.slice va vn vc) qs) ∧ Box wr (w.heap.size + 1) #[.slice va vn vc] 28 ∧ Box wr w.heap.size #[.slice none 0 0] 28 ∧ Below w.heap.size w wr ∧ w.heap.size + 2 ≤ wr.heap.size) (fun _ i _ => 500 - (intOf i).toNat)
    case atStart => exact ⟨0, [], none, 0, 0, [], Nat.zero_le _, rfl, rfl, Lib.hid (FdH.zero os), Lib.hid rfl, HD0, hR0, hZ0, hb0, by omega⟩
    case round =>
      obtain ⟨k, r, va, vn, vc, qs, hk, rfl, rfl, HF, HQ, HD, hR, hZ, hB, hsr⟩ := hrel
      clear hb0 hR0 hZ0 hs0 HD0
      by_cases hlt : k < 500
      · have hlo : k < os.length := by omega
        have hl5 : k < 500 := by omega
        obtain ⟨a', cap', hv, q1, q2, hc⟩ := (HI.out.below hB).raw
        cases hv
        clear q1 q2
        obtain ⟨b, off, rfl, hbb, hr⟩ := hc k hlo
        obtain ⟨y, c0, c1, c2, c3, c4, c5, c6, hy, hz⟩ := hr k hlo
        have HNx := Lib.hid (fun r2 h => HF.out.next (r2 := r2) hlo hl5 h)
        have HSt := Lib.hid (fun h => HF.out.stop hlo hl5 h)
        obtain ⟨o, ho⟩ : ∃ o, o = os[k] := ⟨_, rfl⟩
        rw [← ho] at c0 c1 c2 c3 c4 c5 hy hz HNx HSt
        obtain ⟨xa, xc, rfl⟩ := hy.1.slice
        have hba : Below wr.heap.size wr (wr.alloc (.cells #[.int .i64 o.k, .string o.u, .string o.i, .int .i64 o.d, .string o.fu, .string o.ft, .slice xa o.its.length xc] 38)) := (Below.refl _ _).alloc (Nat.le_refl _) _
        have hO1 := Box.new wr #[.int .i64 o.k, .string o.u, .string o.i, .int .i64 o.d, .string o.fu, .string o.ft, .slice xa o.its.length xc] 38
        have hR1 := hR.keep hba hR.lt
        have hZ1 := hZ.keep hba hZ.lt
        have hB1 := hB.trans (hba.mono hB.size)
        have HD1 := Lib.hid (HD.out.keep hba (Nat.le_refl _))
        have HY1 := Lib.hid ((hy.mono hB.size).below hba)
        have hs1 : wr.heap.size < (wr.alloc (.cells #[.int .i64 o.k, .string o.u, .string o.i, .int .i64 o.d, .string o.fu, .string o.ft, .slice xa o.its.length xc] 38)).heap.size := hO1.lt
        have HOz := Lib.hid hz
        clear hr hc ho hy hz hba hR hZ hB HD
        have e0 : (wr.alloc (.cells #[.int .i64 o.k, .string o.u, .string o.i, .int .i64 o.d, .string o.fu, .string o.ft, .slice xa o.its.length xc] 38)).cell? ⟨wr.heap.size, 0, none⟩ = some (.int .i64 o.k) := hO1.cell 0 _ rfl
        have e1 : (wr.alloc (.cells #[.int .i64 o.k, .string o.u, .string o.i, .int .i64 o.d, .string o.fu, .string o.ft, .slice xa o.its.length xc] 38)).cell? ⟨wr.heap.size, 1, none⟩ = some (.string o.u) := hO1.cell 1 _ rfl
        have e2 : (wr.alloc (.cells #[.int .i64 o.k, .string o.u, .string o.i, .int .i64 o.d, .string o.fu, .string o.ft, .slice xa o.its.length xc] 38)).cell? ⟨wr.heap.size, 2, none⟩ = some (.string o.i) := hO1.cell 2 _ rfl
        have e3 : (wr.alloc (.cells #[.int .i64 o.k, .string o.u, .string o.i, .int .i64 o.d, .string o.fu, .string o.ft, .slice xa o.its.length xc] 38)).cell? ⟨wr.heap.size, 3, none⟩ = some (.int .i64 o.d) := hO1.cell 3 _ rfl
        have e4 : (wr.alloc (.cells #[.int .i64 o.k, .string o.u, .string o.i, .int .i64 o.d, .string o.fu, .string o.ft, .slice xa o.its.length xc] 38)).cell? ⟨wr.heap.size, 4, none⟩ = some (.string o.fu) := hO1.cell 4 _ rfl
        have e5 : (wr.alloc (.cells #[.int .i64 o.k, .string o.u, .string o.i, .int .i64 o.d, .string o.fu, .string o.ft, .slice xa o.its.length xc] 38)).cell? ⟨wr.heap.size, 5, none⟩ = some (.string o.ft) := hO1.cell 5 _ rfl
        have e6 : (wr.alloc (.cells #[.int .i64 o.k, .string o.u, .string o.i, .int .i64 o.d, .string o.fu, .string o.ft, .slice xa o.its.length xc] 38)).cell? ⟨wr.heap.size, 6, none⟩ = some (.slice xa o.its.length xc) := hO1.cell 6 _ rfl
        have e7 : (wr.alloc (.cells #[.int .i64 o.k, .string o.u, .string o.i, .int .i64 o.d, .string o.fu, .string o.ft, .slice xa o.its.length xc] 38)).cell? ⟨w.heap.size + 1, 0, none⟩ = some (.slice va vn vc) := hR1.cell 0 _ rfl
        go_wp2_with fail
        clear e0 e1 e2 e3 e4 e5 e6 e7 c0 c1 c2 c3 c4 c5 c6 hO1
        generalize wr.alloc (.cells #[.int .i64 o.k, .string o.u, .string o.i, .int .i64 o.d, .string o.fu, .string o.ft, .slice xa o.its.length xc] 38) = W1 at hR1 hZ1 hB1 HD1 HY1 hs1 ⊢
        have HL := Lib.hid (implDone_any (.slice va vn vc) (.slice xa o.its.length xc) r o W1 (HD1.out.at HQ.out (rd_sz HF.out.rd)) (HY1.out.mono (by omega)) HOz.out)
        cases hdv : doV r o with
        | none =>
          rw [hdv] at HL
          unfold OutDn at HL
          have HZ := Lib.hid (HSt.out hdv)
          clear hdv HNx HSt
          refine HL.out.mono ?_
          rintro e w2 ⟨rfl, hb2⟩
          have hba2 : Below w2.heap.size w2 (w2.alloc (.cells #[.slice none 0 0] 28)) := (Below.refl _ _).alloc (Nat.le_refl _) _
          have hb3 : Below W1.heap.size W1 (w2.alloc (.cells #[.slice none 0 0] 28)) := hb2.trans (hba2.mono hb2.size)
          have hR := hR1.keep hb3 hR1.lt
          have hZ := hZ1.keep hb3 hZ1.lt
          have hB := hB1.trans (hb3.mono hB1.size)
          have HD := Lib.hid (HD1.out.keep hb3 (Nat.le_refl _))
          clear hb2 hba2 hb3 hR1 hZ1 hB1 HD1 HL HY1
          have x0 : (w2.alloc (.cells #[.slice none 0 0] 28)).cell? ⟨w.heap.size + 1, 0, none⟩ = some (.slice va vn vc) := hR.cell 0 _ rfl
          have z0 : (w2.alloc (.cells #[.slice none 0 0] 28)).cell? ⟨w.heap.size, 0, none⟩ = some (.slice none 0 0) := hZ.cell 0 _ rfl
          have zf := hZ.free
          go_wp2
          have hZe := hZ.set 0 (.slice va vn vc)
          have hBe := hB.setCell (p := ⟨w.heap.size, 0, none⟩) (Nat.le_refl _) (.slice va vn vc)
          have hDe := (HD.out.aside ⟨w.heap.size, 0, none⟩ (.slice va vn vc) (show w.heap.size < w.heap.size + 2 by omega)).lower (show w.heap.size ≤ w.heap.size + 2 by omega)
          generalize (w2.alloc (.cells #[.slice none 0 0] 28)).setCell ⟨w.heap.size, 0, none⟩ (.slice va vn vc) = We at hZe hBe hDe ⊢
          have p0 : We.cell? ⟨w.heap.size, 0, none⟩ = some (.slice va vn vc) := hZe.cell 0 _ rfl
          exact bodyPost_ret (v := .tuple #[.agg #[.slice va vn vc], .int .i64 ((fdV os).2 : Int)]) (by rw [HZ.out.2]; simp [results, Try.results16, go_sem, p0]) rfl ⟨_, qs, rfl, by rw [HZ.out.1]; exact HQ.out, hDe, hBe⟩
        | some r2 =>
          rw [hdv] at HL
          unfold OutDn at HL
          have HFn := Lib.hid (HNx.out r2 hdv)
          clear hdv HNx HSt
          refine HL.out.mono ?_
          rintro e w2 ⟨v2, qs2, rfl, hq2, hD2, hb2⟩
          obtain ⟨va2, vc2, hv2⟩ := hD2.1.slice
          obtain ⟨vn2, hvn⟩ : ∃ n, n = qs2.length := ⟨_, rfl⟩
          rw [← hvn] at hv2
          clear hvn
          subst hv2
          have HQ2 := Lib.hid hq2
          have hba2 : Below w2.heap.size w2 (w2.alloc (.cells #[.slice va2 vn2 vc2] 28)) := (Below.refl _ _).alloc (Nat.le_refl _) _
          have hb3 : Below W1.heap.size W1 (w2.alloc (.cells #[.slice va2 vn2 vc2] 28)) := hb2.trans (hba2.mono hb2.size)
          have hT := Box.new w2 #[.slice va2 vn2 vc2] 28
          have hR := hR1.keep hb3 hR1.lt
          have hZ := hZ1.keep hb3 hZ1.lt
          have hB := hB1.trans (hb3.mono hB1.size)
          have HD := Lib.hid ((hD2.keep hba2 (Nat.le_refl _)).lower (show w.heap.size + 2 ≤ W1.heap.size by omega))
          have hs3 := hb3.size
          clear hb2 hba2 hb3 hR1 hZ1 hB1 HD1 HL HY1 hq2 hD2
          have t0 : (w2.alloc (.cells #[.slice va2 vn2 vc2] 28)).cell? ⟨w2.heap.size, 0, none⟩ = some (.slice va2 vn2 vc2) := hT.cell 0 _ rfl
          have x0 : (w2.alloc (.cells #[.slice va2 vn2 vc2] 28)).cell? ⟨w.heap.size + 1, 0, none⟩ = some (.slice va vn vc) := hR.cell 0 _ rfl
          have xf := hR.free
          have hRn := Lib.hid (hR.set 0 (.slice va2 vn2 vc2))
          have hZn := Lib.hid (hZ.other ⟨w.heap.size + 1, 0, none⟩ (.slice va2 vn2 vc2) (show w.heap.size ≠ w.heap.size + 1 by omega))
          have hBn := Lib.hid (hB.setCell (p := ⟨w.heap.size + 1, 0, none⟩) (show w.heap.size ≤ w.heap.size + 1 by omega) (.slice va2 vn2 vc2))
          have HDn := Lib.hid (HD.out.aside ⟨w.heap.size + 1, 0, none⟩ (.slice va2 vn2 vc2) (show w.heap.size + 1 < w.heap.size + 2 by omega))
          have hsn : w.heap.size + 2 ≤ ((w2.alloc (.cells #[.slice va2 vn2 vc2] 28)).setCell ⟨w.heap.size + 1, 0, none⟩ (.slice va2 vn2 vc2)).heap.size := by have e9 : ((w2.alloc (.cells #[.slice va2 vn2 vc2] 28)).setCell ⟨w.heap.size + 1, 0, none⟩ (.slice va2 vn2 vc2)).heap.size = (w2.alloc (.cells #[.slice va2 vn2 vc2] 28)).heap.size := (by simp [World.setCell]); omega
          clear hR hZ hB HD hT
          go_wp2
          go_roundw
          case rel => exact ⟨k + 1, r2, va2, vn2, vc2, qs2, by omega, by go_num, by go_num, HFn, HQ2, HDn, hRn.out, hZn.out, hBn.out, hsn⟩
          case measure => simp [intOf]; omega
      · have HZ := Lib.hid (HF.out.over (by omega))
        have x0 : wr.cell? ⟨w.heap.size + 1, 0, none⟩ = some (.slice va vn vc) := hR.cell 0 _ rfl
        have z0 : wr.cell? ⟨w.heap.size, 0, none⟩ = some (.slice none 0 0) := hZ.cell 0 _ rfl
        have zf := hZ.free
        go_wp2
        have hZe := hZ.set 0 (.slice va vn vc)
        have hBe := hB.setCell (p := ⟨w.heap.size, 0, none⟩) (Nat.le_refl _) (.slice va vn vc)
        have hDe := (HD.out.aside ⟨w.heap.size, 0, none⟩ (.slice va vn vc) (show w.heap.size < w.heap.size + 2 by omega)).lower (show w.heap.size ≤ w.heap.size + 2 by omega)
        generalize wr.setCell ⟨w.heap.size, 0, none⟩ (.slice va vn vc) = We at hZe hBe hDe ⊢
        have p0 : We.cell? ⟨w.heap.size, 0, none⟩ = some (.slice va vn vc) := hZe.cell 0 _ rfl
        exact bodyPost_ret (v := .tuple #[.agg #[.slice va vn vc], .int .i64 ((fdV os).2 : Int)]) (by rw [HZ.out.2]; simp [results, Try.results16, go_sem, p0]) rfl ⟨_, qs, rfl, by rw [HZ.out.1]; exact HQ.out, hDe, hBe⟩
  · have hm1 : (os.length : Int) ≤ 500 := by omega
    go_wp2
    all_goals try (exfalso; omega)
    generalize ((w.alloc (.cells #[.slice none 0 0] 28)).alloc (.cells #[.slice none 0 0] 28)) = Wq at hb0 hZ0 hR0 hs0 HD0 ⊢
    go_loopw [5, 16] (fun c i wr => ∃ (k : Nat) (r : List Sb) (va : Option Addr) (vn vc : Nat) (qs : List (Sb × Value)), k ≤ os.length ∧ c = .int .i64 (k : Int) ∧ i = .int .i64 (k : Int) ∧ Hid (FdH os k r) ∧ Hid (qs.map Prod.fst = r) ∧ Hid (OwnD wr (w.heap.size + 2) (.slice va vn vc) qs) ∧ Box wr (w.heap.size + 1) #[.slice va vn vc] 28 ∧ Box wr w.heap.size #[.slice none 0 0] 28 ∧ Below w.heap.size w wr ∧ w.heap.size + 2 ≤ wr.heap.size) (fun _ i _ => os.length - (intOf i).toNat)
    case atStart => exact ⟨0, [], none, 0, 0, [], Nat.zero_le _, rfl, rfl, Lib.hid (FdH.zero os), Lib.hid rfl, HD0, hR0, hZ0, hb0, by omega⟩
    case round =>
      obtain ⟨k, r, va, vn, vc, qs, hk, rfl, rfl, HF, HQ, HD, hR, hZ, hB, hsr⟩ := hrel
      clear hb0 hR0 hZ0 hs0 HD0
      by_cases hlt : k < os.length
      · have hlo : k < os.length := by omega
        have hl5 : k < 500 := by omega
        obtain ⟨a', cap', hv, q1, q2, hc⟩ := (HI.out.below hB).raw
        cases hv
        clear q1 q2
        obtain ⟨b, off, rfl, hbb, hr⟩ := hc k hlo
        obtain ⟨y, c0, c1, c2, c3, c4, c5, c6, hy, hz⟩ := hr k hlo
        have HNx := Lib.hid (fun r2 h => HF.out.next (r2 := r2) hlo hl5 h)
        have HSt := Lib.hid (fun h => HF.out.stop hlo hl5 h)
        obtain ⟨o, ho⟩ : ∃ o, o = os[k] := ⟨_, rfl⟩
        rw [← ho] at c0 c1 c2 c3 c4 c5 hy hz HNx HSt
        obtain ⟨xa, xc, rfl⟩ := hy.1.slice
        have hba : Below wr.heap.size wr (wr.alloc (.cells #[.int .i64 o.k, .string o.u, .string o.i, .int .i64 o.d, .string o.fu, .string o.ft, .slice xa o.its.length xc] 38)) := (Below.refl _ _).alloc (Nat.le_refl _) _
        have hO1 := Box.new wr #[.int .i64 o.k, .string o.u, .string o.i, .int .i64 o.d, .string o.fu, .string o.ft, .slice xa o.its.length xc] 38
        have hR1 := hR.keep hba hR.lt
        have hZ1 := hZ.keep hba hZ.lt
        have hB1 := hB.trans (hba.mono hB.size)
        have HD1 := Lib.hid (HD.out.keep hba (Nat.le_refl _))
        have HY1 := Lib.hid ((hy.mono hB.size).below hba)
        have hs1 : wr.heap.size < (wr.alloc (.cells #[.int .i64 o.k, .string o.u, .string o.i, .int .i64 o.d, .string o.fu, .string o.ft, .slice xa o.its.length xc] 38)).heap.size := hO1.lt
        have HOz := Lib.hid hz
        clear hr hc ho hy hz hba hR hZ hB HD
        have e0 : (wr.alloc (.cells #[.int .i64 o.k, .string o.u, .string o.i, .int .i64 o.d, .string o.fu, .string o.ft, .slice xa o.its.length xc] 38)).cell? ⟨wr.heap.size, 0, none⟩ = some (.int .i64 o.k) := hO1.cell 0 _ rfl
        have e1 : (wr.alloc (.cells #[.int .i64 o.k, .string o.u, .string o.i, .int .i64 o.d, .string o.fu, .string o.ft, .slice xa o.its.length xc] 38)).cell? ⟨wr.heap.size, 1, none⟩ = some (.string o.u) := hO1.cell 1 _ rfl
        have e2 : (wr.alloc (.cells #[.int .i64 o.k, .string o.u, .string o.i, .int .i64 o.d, .string o.fu, .string o.ft, .slice xa o.its.length xc] 38)).cell? ⟨wr.heap.size, 2, none⟩ = some (.string o.i) := hO1.cell 2 _ rfl
        have e3 : (wr.alloc (.cells #[.int .i64 o.k, .string o.u, .string o.i, .int .i64 o.d, .string o.fu, .string o.ft, .slice xa o.its.length xc] 38)).cell? ⟨wr.heap.size, 3, none⟩ = some (.int .i64 o.d) := hO1.cell 3 _ rfl
        have e4 : (wr.alloc (.cells #[.int .i64 o.k, .string o.u, .string o.i, .int .i64 o.d, .string o.fu, .string o.ft, .slice xa o.its.length xc] 38)).cell? ⟨wr.heap.size, 4, none⟩ = some (.string o.fu) := hO1.cell 4 _ rfl
        have e5 : (wr.alloc (.cells #[.int .i64 o.k, .string o.u, .string o.i, .int .i64 o.d, .string o.fu, .string o.ft, .slice xa o.its.length xc] 38)).cell? ⟨wr.heap.size, 5, none⟩ = some (.string o.ft) := hO1.cell 5 _ rfl
        have e6 : (wr.alloc (.cells #[.int .i64 o.k, .string o.u, .string o.i, .int .i64 o.d, .string o.fu, .string o.ft, .slice xa o.its.length xc] 38)).cell? ⟨wr.heap.size, 6, none⟩ = some (.slice xa o.its.length xc) := hO1.cell 6 _ rfl
        have e7 : (wr.alloc (.cells #[.int .i64 o.k, .string o.u, .string o.i, .int .i64 o.d, .string o.fu, .string o.ft, .slice xa o.its.length xc] 38)).cell? ⟨w.heap.size + 1, 0, none⟩ = some (.slice va vn vc) := hR1.cell 0 _ rfl
        go_wp2_with fail
        clear e0 e1 e2 e3 e4 e5 e6 e7 c0 c1 c2 c3 c4 c5 c6 hO1
        generalize wr.alloc (.cells #[.int .i64 o.k, .string o.u, .string o.i, .int .i64 o.d, .string o.fu, .string o.ft, .slice xa o.its.length xc] 38) = W1 at hR1 hZ1 hB1 HD1 HY1 hs1 ⊢
        have HL := Lib.hid (implDone_any (.slice va vn vc) (.slice xa o.its.length xc) r o W1 (HD1.out.at HQ.out (rd_sz HF.out.rd)) (HY1.out.mono (by omega)) HOz.out)
        cases hdv : doV r o with
        | none =>
          rw [hdv] at HL
          unfold OutDn at HL
          have HZ := Lib.hid (HSt.out hdv)
          clear hdv HNx HSt
          refine HL.out.mono ?_
          rintro e w2 ⟨rfl, hb2⟩
          have hba2 : Below w2.heap.size w2 (w2.alloc (.cells #[.slice none 0 0] 28)) := (Below.refl _ _).alloc (Nat.le_refl _) _
          have hb3 : Below W1.heap.size W1 (w2.alloc (.cells #[.slice none 0 0] 28)) := hb2.trans (hba2.mono hb2.size)
          have hR := hR1.keep hb3 hR1.lt
          have hZ := hZ1.keep hb3 hZ1.lt
          have hB := hB1.trans (hb3.mono hB1.size)
          have HD := Lib.hid (HD1.out.keep hb3 (Nat.le_refl _))
          clear hb2 hba2 hb3 hR1 hZ1 hB1 HD1 HL HY1
          have x0 : (w2.alloc (.cells #[.slice none 0 0] 28)).cell? ⟨w.heap.size + 1, 0, none⟩ = some (.slice va vn vc) := hR.cell 0 _ rfl
          have z0 : (w2.alloc (.cells #[.slice none 0 0] 28)).cell? ⟨w.heap.size, 0, none⟩ = some (.slice none 0 0) := hZ.cell 0 _ rfl
          have zf := hZ.free
          go_wp2
          have hZe := hZ.set 0 (.slice va vn vc)
          have hBe := hB.setCell (p := ⟨w.heap.size, 0, none⟩) (Nat.le_refl _) (.slice va vn vc)
          have hDe := (HD.out.aside ⟨w.heap.size, 0, none⟩ (.slice va vn vc) (show w.heap.size < w.heap.size + 2 by omega)).lower (show w.heap.size ≤ w.heap.size + 2 by omega)
          generalize (w2.alloc (.cells #[.slice none 0 0] 28)).setCell ⟨w.heap.size, 0, none⟩ (.slice va vn vc) = We at hZe hBe hDe ⊢
          have p0 : We.cell? ⟨w.heap.size, 0, none⟩ = some (.slice va vn vc) := hZe.cell 0 _ rfl
          exact bodyPost_ret (v := .tuple #[.agg #[.slice va vn vc], .int .i64 ((fdV os).2 : Int)]) (by rw [HZ.out.2]; simp [results, Try.results16, go_sem, p0]) rfl ⟨_, qs, rfl, by rw [HZ.out.1]; exact HQ.out, hDe, hBe⟩
        | some r2 =>
          rw [hdv] at HL
          unfold OutDn at HL
          have HFn := Lib.hid (HNx.out r2 hdv)
          clear hdv HNx HSt
          refine HL.out.mono ?_
          rintro e w2 ⟨v2, qs2, rfl, hq2, hD2, hb2⟩
          obtain ⟨va2, vc2, hv2⟩ := hD2.1.slice
          obtain ⟨vn2, hvn⟩ : ∃ n, n = qs2.length := ⟨_, rfl⟩
          rw [← hvn] at hv2
          clear hvn
          subst hv2
          have HQ2 := Lib.hid hq2
          have hba2 : Below w2.heap.size w2 (w2.alloc (.cells #[.slice va2 vn2 vc2] 28)) := (Below.refl _ _).alloc (Nat.le_refl _) _
          have hb3 : Below W1.heap.size W1 (w2.alloc (.cells #[.slice va2 vn2 vc2] 28)) := hb2.trans (hba2.mono hb2.size)
          have hT := Box.new w2 #[.slice va2 vn2 vc2] 28
          have hR := hR1.keep hb3 hR1.lt
          have hZ := hZ1.keep hb3 hZ1.lt
          have hB := hB1.trans (hb3.mono hB1.size)
          have HD := Lib.hid ((hD2.keep hba2 (Nat.le_refl _)).lower (show w.heap.size + 2 ≤ W1.heap.size by omega))
          have hs3 := hb3.size
          clear hb2 hba2 hb3 hR1 hZ1 hB1 HD1 HL HY1 hq2 hD2
          have t0 : (w2.alloc (.cells #[.slice va2 vn2 vc2] 28)).cell? ⟨w2.heap.size, 0, none⟩ = some (.slice va2 vn2 vc2) := hT.cell 0 _ rfl
          have x0 : (w2.alloc (.cells #[.slice va2 vn2 vc2] 28)).cell? ⟨w.heap.size + 1, 0, none⟩ = some (.slice va vn vc) := hR.cell 0 _ rfl
          have xf := hR.free
          have hRn := Lib.hid (hR.set 0 (.slice va2 vn2 vc2))
          have hZn := Lib.hid (hZ.other ⟨w.heap.size + 1, 0, none⟩ (.slice va2 vn2 vc2) (show w.heap.size ≠ w.heap.size + 1 by omega))
          have hBn := Lib.hid (hB.setCell (p := ⟨w.heap.size + 1, 0, none⟩) (show w.heap.size ≤ w.heap.size + 1 by omega) (.slice va2 vn2 vc2))
          have HDn := Lib.hid (HD.out.aside ⟨w.heap.size + 1, 0, none⟩ (.slice va2 vn2 vc2) (show w.heap.size + 1 < w.heap.size + 2 by omega))
          have hsn : w.heap.size + 2 ≤ ((w2.alloc (.cells #[.slice va2 vn2 vc2] 28)).setCell ⟨w.heap.size + 1, 0, none⟩ (.slice va2 vn2 vc2)).heap.size := by have e9 : ((w2.alloc (.cells #[.slice va2 vn2 vc2] 28)).setCell ⟨w.heap.size + 1, 0, none⟩ (.slice va2 vn2 vc2)).heap.size = (w2.alloc (.cells #[.slice va2 vn2 vc2] 28)).heap.size := (by simp [World.setCell]); omega
          clear hR hZ hB HD hT
          go_wp2
          go_roundw
          case rel => exact ⟨k + 1, r2, va2, vn2, vc2, qs2, by omega, by go_num, by go_num, HFn, HQ2, HDn, hRn.out, hZn.out, hBn.out, hsn⟩
          case measure => simp [intOf]; omega
      · have HZ := Lib.hid (HF.out.over (by omega))
        have x0 : wr.cell? ⟨w.heap.size + 1, 0, none⟩ = some (.slice va vn vc) := hR.cell 0 _ rfl
        have z0 : wr.cell? ⟨w.heap.size, 0, none⟩ = some (.slice none 0 0) := hZ.cell 0 _ rfl
        have zf := hZ.free
        go_wp2
        have hZe := hZ.set 0 (.slice va vn vc)
        have hBe := hB.setCell (p := ⟨w.heap.size, 0, none⟩) (Nat.le_refl _) (.slice va vn vc)
        have hDe := (HD.out.aside ⟨w.heap.size, 0, none⟩ (.slice va vn vc) (show w.heap.size < w.heap.size + 2 by omega)).lower (show w.heap.size ≤ w.heap.size + 2 by omega)
        generalize wr.setCell ⟨w.heap.size, 0, none⟩ (.slice va vn vc) = We at hZe hBe hDe ⊢
        have p0 : We.cell? ⟨w.heap.size, 0, none⟩ = some (.slice va vn vc) := hZe.cell 0 _ rfl
        exact bodyPost_ret (v := .tuple #[.agg #[.slice va vn vc], .int .i64 ((fdV os).2 : Int)]) (by rw [HZ.out.2]; simp [results, Try.results16, go_sem, p0]) rfl ⟨_, qs, rfl, by rw [HZ.out.1]; exact HQ.out, hDe, hBe⟩
end Go.Proofs.Ytgimjfffdnopiaa
