/- Joined: W9h, W9i. -/
import Derived.Test.YtfgdbpjmjeaolaaGreatH18
/- W9h -/
namespace Go.Proofs.YtfgdbpjmjeaolaaGreat
open Go.ChangeShapes Go.WideShapes Go.ChangeAt Go.RowKit
set_option linter.unusedVariables false

theorem Tryz.infoSub : (Tryz.prog.info? 72).map (fun i => (i.zero, i.size, i.bytes)) = some (some (.agg #[.string ByteArray.empty, .string ByteArray.empty, .slice none 0 0]), 3, 56) := by kernel_rfl

/-- What szSub answers. -/
def SzS (P : Int → Prop) (n : Int) (w : World) (e : Ending) (w' : World) : Prop := ∃ r : Int, e = .returned (.int .i64 r) ∧ -1 ≤ r ∧ r ≤ n ∧ (0 ≤ r → P n) ∧ Below w.heap.size w w'

set_option maxRecDepth 100000 in
set_option maxHeartbeats 1600000 in
theorem szSub_any (s : Sb) (x : Value) (n : Int) (w : World) (hx : EnAt w w.heap.size x s.es) (hz : SbSz s) (h0 : 0 ≤ n) (h1 : n ≤ 1048576) :
    Calls Tryz.prog 33 #[sbV s.u s.t x, .int .i64 n] w (SzS (fun n => (s.es.length : Int) ≤ n) n w) := by
  have HI := Lib.hid hx
  obtain ⟨hu, ht⟩ := hz
  clear hx
  have hb0 : Below w.heap.size w (w.alloc (.cells #[.string s.u, .string s.t, x] 68)) := (Below.refl _ _).alloc (Nat.le_refl _) _
  unfold maxLen at hu ht
  by_cases h2 : n - s.u.size < 0
  · go_enter Tryz.func33, Tryz.ntmps33
    go_wp2
    go_ret
    exact ⟨-1, rfl, by omega, by omega, by omega, hb0⟩
  · by_cases h3 : n - s.u.size - s.t.size < 0
    · go_enter Tryz.func33, Tryz.ntmps33
      go_wp2
      go_ret
      exact ⟨-1, rfl, by omega, by omega, by omega, hb0⟩
    · have HC := Lib.hid (fun w h => szEntryS_any x s.es (n - s.u.size - s.t.size) w h (by omega) (by omega))
      go_enter Tryz.func33, Tryz.ntmps33
      go_wp2_with fail
      refine (HC.out _ ((HI.out.below hb0).mono hb0.size)).mono ?_
      rintro e w1 ⟨r, rfl, hr0, hr1, hr2, hb1⟩
      have hb2 := hb0.trans (hb1.mono hb0.size)
      clear hb1 hb0
      by_cases h4 : r < 0
      · go_wp2
        go_ret
        exact ⟨-1, rfl, by omega, by omega, by omega, hb2⟩
      · go_wp2
        go_ret
        exact ⟨r, rfl, by omega, by omega, fun h => by have := hr2 h; omega, hb2⟩

set_option maxRecDepth 100000 in
set_option maxHeartbeats 1600000 in
theorem szSubS_any (v : Value) (ss : List Sb) (n : Int) (w : World) (h : SbAt w w.heap.size v ss) (h0 : 0 ≤ n) (h1 : n ≤ 1048576) :
    Calls Tryz.prog 15 #[v, .int .i64 n] w (SzS (fun n => (ss.length : Int) ≤ n ∧ ∀ s ∈ ss, (s.es.length : Int) ≤ n) n w) := by
  have HI := Lib.hid h
  obtain ⟨a, cap, rfl, hl, hm, hc⟩ := h.raw
  unfold maxLen at hm
  clear hc h
  by_cases h2 : n - ss.length < 0
  · go_enter Tryz.func15, Tryz.ntmps15
    go_wp2
    go_ret
    exact ⟨-1, rfl, by omega, by omega, by omega, Below.refl _ _⟩
  · go_enter Tryz.func15, Tryz.ntmps15
    go_wp2
    go_loopw [1, 5] (fun r i wr => ∃ (k : Nat) (x : Int), k ≤ ss.length ∧ i = .int .i64 (k : Int) ∧ r = .int .i64 x ∧ 0 ≤ x ∧ x ≤ n ∧ Below w.heap.size w wr ∧ Hid (∀ j (hj : j < ss.length), j < k → (ss[j].es.length : Int) ≤ n)) (fun _ i _ => ss.length - (intOf i).toNat)
    case atStart => exact ⟨0, n - ss.length, Nat.zero_le _, rfl, rfl, by omega, by omega, Below.refl _ _, Lib.hid (fun j hj h => by omega)⟩
    case round =>
      obtain ⟨k, x, hk, rfl, rfl, hx0, hx1, hB, HO⟩ := hrel
      by_cases hlt : k < ss.length
      · obtain ⟨a', cap', hv, _, _, hc⟩ := (HI.out.below hB).raw
        cases hv
        obtain ⟨b, off, rfl, hb, hr⟩ := hc k hlt
        obtain ⟨y, c0, c1, c2, hy, s0, s1⟩ := hr k hlt
        have hy1 := Lib.hid (hy.mono hB.size)
        have HC := Lib.hid (fun w (hy : EnAt w w.heap.size y ss[k].es) => szSub_any ss[k] y x w hy ⟨s0, s1⟩ hx0 (by omega))
        obtain ⟨S0, hS0⟩ : ∃ x, x = ss[k].u := ⟨_, rfl⟩
        obtain ⟨S1, hS1⟩ : ∃ x, x = ss[k].t := ⟨_, rfl⟩
        rw [← hS0] at c0 HC
        rw [← hS1] at c1 HC
        clear hr hc hS0 hS1 s0 s1 hy
        go_wp2_with fail
        refine (HC.out _ hy1.out).mono ?_
        rintro e w1 ⟨r, rfl, hr0, hr1, hr2, hb1⟩
        have hB1 := hB.trans (hb1.mono hB.size)
        clear hb1 hB HC c0 c1 c2 hy1
        by_cases hy : r < 0
        · clear hr2
          go_wp2
          go_ret
          exact ⟨-1, rfl, by omega, by omega, by omega, hB1⟩
        · have HO' : Hid (∀ j (hj : j < ss.length), j < k + 1 → (ss[j].es.length : Int) ≤ n) := Lib.hid (fun j hj h => by
            by_cases hjk : j = k
            · subst hjk; have := hr2 (by omega); omega
            · exact HO.out j hj (by omega))
          clear hr2
          go_wp2
          go_roundw
          case rel => exact ⟨k + 1, r, by omega, by go_num, rfl, by omega, by omega, hB1, HO'⟩
          case measure => simp [intOf]; omega
      · go_wp2
        go_ret
        exact ⟨x, rfl, by omega, hx1, fun _ => ⟨by omega, fun s hs => by
          obtain ⟨j, hj, rfl⟩ := List.getElem_of_mem hs
          exact HO.out j hj (by omega)⟩, hB⟩

set_option maxRecDepth 100000 in
set_option maxHeartbeats 1600000 in
theorem szReader_any (v : Value) (ss : List Sb) (n : Int) (w : World) (h : SbAt w w.heap.size v ss) (h0 : 0 ≤ n) (h1 : n ≤ 1048576) :
    Calls Tryz.prog 4 #[.agg #[v], .int .i64 n] w (SzS (fun n => (ss.length : Int) ≤ n ∧ ∀ s ∈ ss, (s.es.length : Int) ≤ n) n w) := by
  have HI := Lib.hid h
  clear h
  have hb0 : Below w.heap.size w (w.alloc (.cells #[v] 24)) := (Below.refl _ _).alloc (Nat.le_refl _) _
  have HC := Lib.hid (fun w h => szSubS_any v ss n w h h0 h1)
  go_enter Tryz.func4, Tryz.ntmps4
  go_wp2_with fail
  refine (HC.out _ ((HI.out.below hb0).mono hb0.size)).mono ?_
  rintro e w1 ⟨r, rfl, hr0, hr1, hr2, hb1⟩
  have hb2 := hb0.trans (hb1.mono hb0.size)
  have HR2 := Lib.hid hr2
  clear hb1 hb0 hr2
  by_cases h4 : r < 0
  · go_wp2
    go_ret
    exact ⟨-1, rfl, by omega, by omega, by omega, hb2⟩
  · go_wp2
    go_ret
    exact ⟨r, rfl, by omega, by omega, HR2.out, hb2⟩

/-- What toSub answers. -/
def OutSb (s : Sb) (w : World) (e : Ending) (w' : World) : Prop := ∃ y, e = .returned (sbV s.u s.t y) ∧ OwnR 85 5 enC w' w.heap.size y s.es ∧ Below w.heap.size w w'

set_option maxRecDepth 100000 in
set_option maxHeartbeats 1600000 in
theorem toSub_any (s : Sb) (x : Value) (w : World) (hx : EnAt w w.heap.size x s.es) (hn : s.es.length ≤ 1048576) :
    Calls Tryz.prog 47 #[sbV s.u s.t x] w (OutSb s w) := by
  have HI := Lib.hid hx
  clear hx
  have HC := Lib.hid (fun w h => toEntryS_any x s.es w h hn)
  have hb0 : Below w.heap.size w (((w.alloc (.cells #[.string s.u, .string s.t, x] 68)).alloc (.cells #[.string ⟨#[]⟩, .string ⟨#[]⟩, .slice none 0 0] 72)).alloc (.cells #[.string s.u, .string s.t, .slice none 0 0] 72)) := (((Below.refl _ _).alloc (Nat.le_refl _) _).alloc (by simp) _).alloc (by simp; omega) _
  have hR0 : Box (((w.alloc (.cells #[.string s.u, .string s.t, x] 68)).alloc (.cells #[.string ⟨#[]⟩, .string ⟨#[]⟩, .slice none 0 0] 72)).alloc (.cells #[.string s.u, .string s.t, .slice none 0 0] 72)) (w.heap.size + 1) #[.string ⟨#[]⟩, .string ⟨#[]⟩, .slice none 0 0] 72 := by
    have := (Box.new (w.alloc (.cells #[.string s.u, .string s.t, x] 68)) #[.string ⟨#[]⟩, .string ⟨#[]⟩, .slice none 0 0] 72).alloc (.cells #[.string s.u, .string s.t, .slice none 0 0] 72)
    simpa using this
  have hO0 : Box (((w.alloc (.cells #[.string s.u, .string s.t, x] 68)).alloc (.cells #[.string ⟨#[]⟩, .string ⟨#[]⟩, .slice none 0 0] 72)).alloc (.cells #[.string s.u, .string s.t, .slice none 0 0] 72)) (w.heap.size + 1 + 1) #[.string s.u, .string s.t, .slice none 0 0] 72 := by
    have := Box.new ((w.alloc (.cells #[.string s.u, .string s.t, x] 68)).alloc (.cells #[.string ⟨#[]⟩, .string ⟨#[]⟩, .slice none 0 0] 72)) #[.string s.u, .string s.t, .slice none 0 0] 72
    simpa using this
  go_enter Tryz.func47, Tryz.ntmps47
  go_wp2_with fail
  generalize (((w.alloc (.cells #[.string s.u, .string s.t, x] 68)).alloc (.cells #[.string ⟨#[]⟩, .string ⟨#[]⟩, .slice none 0 0] 72)).alloc (.cells #[.string s.u, .string s.t, .slice none 0 0] 72)) = W at hb0 hR0 hO0 ⊢
  refine (HC.out _ ((HI.out.below hb0).mono hb0.size)).mono ?_
  rintro e w1 ⟨y, rfl, hown, hb1⟩
  have hR1 := hR0.keep hb1 hR0.lt
  have hO1 := hO0.keep hb1 hO0.lt
  have o0 := hO1.cell 0 _ rfl
  have o1 := hO1.cell 1 _ rfl
  have o2 := hO1.cell 2 _ rfl
  have of := hO1.free
  have r0 := hR1.cell 0 _ rfl
  have r1 := hR1.cell 1 _ rfl
  have r2 := hR1.cell 2 _ rfl
  have rf := hR1.free
  obtain ⟨ya, yc, rfl⟩ := hown.slice
  have hgs : w.heap.size + 1 + 1 < W.heap.size := hO0.lt
  have HOw := Lib.hid hown
  have HB := Lib.hid (hb0.trans (hb1.mono hb0.size))
  have HR1 := Lib.hid hR1
  clear hown hb1 hb0 hR0 hO0 hR1 hO1
  go_wp2
  have hR2 := (((HR1.out.other ⟨w.heap.size + 1 + 1, 2, none⟩ (.slice ya s.es.length yc) (by simp)).set 0 (.string s.u)).set 1 (.string s.t)).set 2 (.slice ya s.es.length yc)
  have hO := ((((HOw.out.other ⟨w.heap.size + 1 + 1, 2, none⟩ (.slice ya s.es.length yc) (by simp; omega)).other ⟨w.heap.size + 1, 0, none⟩ (.string s.u) (by simp; omega)).other ⟨w.heap.size + 1, 1, none⟩ (.string s.t) (by simp; omega)).other ⟨w.heap.size + 1, 2, none⟩ (.slice ya s.es.length yc) (by simp; omega)).base_mono (show w.heap.size ≤ W.heap.size by omega)
  have hB := (((HB.out.setCell (p := ⟨w.heap.size + 1 + 1, 2, none⟩) (by simp; omega) (.slice ya s.es.length yc)).setCell (p := ⟨w.heap.size + 1, 0, none⟩) (by simp) (.string s.u)).setCell (p := ⟨w.heap.size + 1, 1, none⟩) (by simp) (.string s.t)).setCell (p := ⟨w.heap.size + 1, 2, none⟩) (by simp) (.slice ya s.es.length yc)
  generalize ((((w1.setCell ⟨w.heap.size + 1 + 1, 2, none⟩ (.slice ya s.es.length yc)).setCell ⟨w.heap.size + 1, 0, none⟩ (.string s.u)).setCell ⟨w.heap.size + 1, 1, none⟩ (.string s.t)).setCell ⟨w.heap.size + 1, 2, none⟩ (.slice ya s.es.length yc)) = W2 at hR2 hO hB ⊢
  have q0 := hR2.cell 0 _ rfl
  have q1 := hR2.cell 1 _ rfl
  have q2 := hR2.cell 2 _ rfl
  exact bodyPost_ret (v := sbV s.u s.t (.slice ya s.es.length yc)) (by simp [results, Tryz.results47, go_sem, q0, q1, q2]) rfl ⟨_, rfl, hO, hB⟩

theorem putRow_own {α : Type} {k : Nat} {C : α → List Value} {e : TypeId} {base g : Nat} {v : Value} {l : List α} (hg : g < base) (us : List Value) : ∀ (o : Nat) (w : World), OwnR e k C w base v l → OwnR e k C (putRow g o us w) base v l := by
  induction us with
  | nil => intro o w h; exact h
  | cons u us ih => intro o w h; exact ih (o + 1) _ (h.other ⟨g, o, none⟩ u hg)
abbrev sb0 : Sb × Value := (⟨ByteArray.empty, ByteArray.empty, []⟩, .slice none 0 0)
/-- Feeds of a reader that a call has made. -/
def OwnS (w : World) (B : Nat) (v : Value) (ss : List Sb) : Prop := ∃ ps : List (Sb × Value), ps.map Prod.fst = ss ∧ OwnR 72 3 sbC w B v ps ∧ ∀ p ∈ ps, OwnR 85 5 enC w B p.2 p.1.es
theorem OwnR.lift {α : Type} {k : Nat} {C : α → List Value} {e : TypeId} {w : World} {B : Nat} {v : Value} {l : List α} (hk : ∀ x, (C x).length = k) (h : OwnR e k C w B v l) : RecAt k C w w.heap.size v l := h.at hk
theorem OwnS.at {w : World} {B : Nat} {v : Value} {ss : List Sb} (h : OwnS w B v ss) (hs : ∀ s ∈ ss, SbSz s ∧ ∀ x ∈ s.es, EnSz x) : SbAt w w.heap.size v ss := by
  obtain ⟨ps, rfl, h2, h3⟩ := h
  refine ⟨ps, rfl, h2.at sbC_len, fun p hp => ?_⟩
  have hm := hs p.1 (List.mem_map.2 ⟨p, hp, rfl⟩)
  exact ⟨⟨(h3 p hp).at enC_len, hm.2⟩, hm.1⟩
/-- What toSubS answers. -/
def OutS (ss : List Sb) (w : World) (e : Ending) (w' : World) : Prop := ∃ v, e = .returned v ∧ OwnS w' w.heap.size v ss ∧ Below w.heap.size w w'

set_option maxRecDepth 100000 in
set_option maxHeartbeats 1600000 in
theorem toSubS_any (v : Value) (ss : List Sb) (w : World) (h : SbAt w w.heap.size v ss) (hn : ss.length ≤ 1048576) (hns : ∀ s ∈ ss, s.es.length ≤ 1048576) :
    Calls Tryz.prog 20 #[v] w (OutS ss w) := by
  have HI := Lib.hid h
  have HNS := Lib.hid hns
  obtain ⟨a, cap, rfl, hl, hm, hc⟩ := h.raw
  unfold maxLen at hm
  clear hc h hns
  go_enter Tryz.func20, Tryz.ntmps20
  go_wp2_with (at_make; refine wpList_fullR (z := sb0) sbC_len (by decide) Tryz.underlying32 Tryz.infoSub rfl (by decide) rfl _ _ rfl w.heap.size .i64 .i64 ss.length rfl rfl (by omega) (Nat.le_refl _) ?_; intro w0 hown0 hb0)
  have hg0 : w.heap.size < w0.heap.size := (World.ownsRow.lt hown0 _ rfl).2
  go_loopw [4] (fun i wr => ∃ (k : Nat) (qs : List (Sb × Value)), k ≤ ss.length ∧ i = .int .i64 k ∧ Hid (qs.map Prod.fst = ss.take k) ∧ OwnR 72 3 sbC wr w.heap.size (.slice (some ⟨w.heap.size, 0, none⟩) ss.length ss.length) (qs ++ List.replicate (ss.length - k) sb0) ∧ Hid (∀ p ∈ qs, OwnR 85 5 enC wr (w.heap.size + 1) p.2 p.1.es) ∧ Below w.heap.size w wr ∧ w.heap.size < wr.heap.size)
    (fun i _ => ss.length - (intOf i).toNat)
  case atStart => exact ⟨0, [], Nat.zero_le _, rfl, Lib.hid rfl, by simpa using hown0, Lib.hid (by simp), hb0, hg0⟩
  case round =>
    obtain ⟨k, qs, hk, rfl, HM, hown, HE, hbel, hgr⟩ := hrel
    clear hown0 hb0 hg0
    have hql : qs.length = k := by have := congrArg List.length HM.out; simpa [hk] using this
    by_cases hlt : k < ss.length
    · obtain ⟨a', cap', hv, _, _, hc⟩ := (HI.out.below hbel).raw
      cases hv
      obtain ⟨b, off, rfl, hb, hr⟩ := hc k hlt
      obtain ⟨y, c0, c1, c2, hy, s0, s1⟩ := hr k hlt
      have hy1 := Lib.hid (hy.mono hbel.size)
      have HC := Lib.hid (fun w (hy : EnAt w w.heap.size y ss[k].es) => toSub_any ss[k] y w hy (HNS.out _ (List.getElem_mem hlt)))
      have HP : Hid (∀ w' z, OwnR 72 3 sbC w' w.heap.size (.slice (some ⟨w.heap.size, 0, none⟩) ss.length ss.length) (qs ++ List.replicate (ss.length - k) sb0) → OwnR 72 3 sbC (putRow w.heap.size (k * 3) [.string ss[k].u, .string ss[k].t, z] w') w.heap.size (.slice (some ⟨w.heap.size, 0, none⟩) ss.length ss.length) ((qs ++ [(ss[k], z)]) ++ List.replicate (ss.length - (k + 1)) sb0)) := Lib.hid (fun w' z h => by
        have h2 := h.put sbC_len (by simp; omega) k (ss[k], z) (by simp; omega)
        have e1 : (qs ++ List.replicate (ss.length - k) sb0).set k (ss[k], z) = (qs ++ [(ss[k], z)]) ++ List.replicate (ss.length - (k + 1)) sb0 := by
          have e2 : ss.length - k = (ss.length - (k + 1)) + 1 := by omega
          rw [e2, List.replicate_succ, List.set_append_right _ _ (by omega), hql, Nat.sub_self, List.set_cons_zero, List.append_assoc]
          rfl
        rw [e1] at h2
        exact h2)
      have HQ : Hid (∀ w' z, Below w.heap.size w w' → Below w.heap.size w (putRow w.heap.size (k * 3) [.string ss[k].u, .string ss[k].t, z] w')) := Lib.hid (fun w' z h => putRow_below (Nat.le_refl _) _ _ _ _ h)
      have HEn : Hid (∀ w' z, (∀ p ∈ qs ++ [(ss[k], z)], OwnR 85 5 enC w' (w.heap.size + 1) p.2 p.1.es) → ∀ p ∈ qs ++ [(ss[k], z)], OwnR 85 5 enC (putRow w.heap.size (k * 3) [.string ss[k].u, .string ss[k].t, z] w') (w.heap.size + 1) p.2 p.1.es) := Lib.hid (fun w' z h p hp => putRow_own (Nat.lt_succ_self _) _ _ _ (h p hp))
      have HSz : Hid (∀ (w' : World) z, (putRow w.heap.size (k * 3) [.string ss[k].u, .string ss[k].t, z] w').heap.size = w'.heap.size) := Lib.hid (fun w' z => by simp [putRow, World.setCell])
      have HM' : Hid (∀ z, (qs ++ [(ss[k], z)]).map Prod.fst = ss.take (k + 1)) := Lib.hid (fun z => by rw [List.map_append, HM.out, List.take_succ_eq_append_getElem hlt]; rfl)
      have HJ : Hid (∀ w' z, (∀ p ∈ qs, OwnR 85 5 enC w' (w.heap.size + 1) p.2 p.1.es) → OwnR 85 5 enC w' (w.heap.size + 1) z ss[k].es → ∀ p ∈ qs ++ [(ss[k], z)], OwnR 85 5 enC w' (w.heap.size + 1) p.2 p.1.es) := Lib.hid (fun w' z h1 h2 p hp => by
        rcases List.mem_append.1 hp with h | h
        · exact h1 p h
        · obtain rfl : p = (ss[k], z) := by simpa using h
          exact h2)
      simp only [putRow, Nat.add_assoc, Nat.reduceAdd] at HP HQ HEn HSz
      have HOw := Lib.hid hown
      have HBl := Lib.hid hbel
      have hU : ∃ U, U = ss[k].u := ⟨_, rfl⟩
      obtain ⟨U, hU⟩ := hU
      obtain ⟨T, hT⟩ : ∃ T, T = ss[k].t := ⟨_, rfl⟩
      unfold OutSb at HC
      rw [← hU] at c0 HC HP HQ HEn HSz
      rw [← hT] at c1 HC HP HQ HEn HSz
      obtain ⟨P, hP⟩ : ∃ P, P = ss[k] := ⟨_, rfl⟩
      rw [← hP] at hy1 HC HP HEn HM' HJ
      clear hr hc hU hT hP s0 s1 hown hbel hy
      go_wp2_with fail
      refine (HC.out _ hy1.out).mono ?_
      rintro e w1 ⟨z, rfl, hz, hb1⟩
      obtain ⟨za, zc, rfl⟩ := hz.slice
      have hown1 := HOw.out.keep hb1 (Nat.le_refl _)
      have HE1 : Hid (∀ p ∈ qs, OwnR 85 5 enC w1 (w.heap.size + 1) p.2 p.1.es) := Lib.hid (fun p hp => (HE.out p hp).keep hb1 (Nat.le_refl _))
      have HZ := Lib.hid (HJ.out w1 _ HE1.out (hz.base_mono (by omega)))
      have hbel1 := HBl.out.trans (hb1.mono HBl.out.size)
      have hgr1 : w.heap.size < w1.heap.size := by have := hb1.size; omega
      have hfr : ∀ j, w1.frozen? ⟨w.heap.size, j, none⟩ = false := fun j => hown1.free (by simp; omega) j
      obtain ⟨x0, d0⟩ := hown1.cell sbC_len (by simp; omega) k 0 hlt (by decide)
      obtain ⟨x1, d1⟩ := hown1.cell sbC_len (by simp; omega) k 1 hlt (by decide)
      obtain ⟨x2, d2⟩ := hown1.cell sbC_len (by simp; omega) k 2 hlt (by decide)
      rw [Nat.add_zero] at d0
      have HO1 := Lib.hid hown1
      clear hown1 HOw hb1 HBl c0 c1 c2 hz HE HE1 hql
      go_wp2
      have n1 := HM'.out (.slice za P.es.length zc)
      have n2 := HP.out w1 (.slice za P.es.length zc) HO1.out
      have n3 := HEn.out w1 (.slice za P.es.length zc) HZ.out
      have n4 := HQ.out w1 (.slice za P.es.length zc) hbel1
      have n5 := Nat.lt_of_lt_of_eq hgr1 (HSz.out w1 (.slice za P.es.length zc)).symm
      refine ⟨⟨k + 1, qs ++ [(P, .slice za P.es.length zc)], by omega, by simp, Lib.hid n1, n2, Lib.hid n3, n4, n5⟩, ?_⟩
      simp [intOf]; omega
    · go_wp2
      go_ret
      have : k = ss.length := by omega
      subst this
      simp only [Nat.sub_self, List.replicate_zero, List.append_nil] at hown
      have hM := HM.out
      rw [List.take_length] at hM
      exact ⟨_, rfl, ⟨qs, hM, hown, fun p hp => (HE.out p hp).base_mono (by omega)⟩, hbel⟩
end Go.Proofs.YtfgdbpjmjeaolaaGreat

/- W9i -/
namespace Go.Proofs.YtfgdbpjmjeaolaaGreat
open Go.ChangeShapes Go.WideShapes Go.ChangeAt Go.RowKit
set_option linter.unusedVariables false

theorem OwnS.other {w : World} {B : Nat} {v : Value} {ss : List Sb} (h : OwnS w B v ss) (p : Addr) (x : Value) (hp : p.block < B) : OwnS (w.setCell p x) B v ss := by
  obtain ⟨ps, h1, h2, h3⟩ := h
  exact ⟨ps, h1, h2.other p x hp, fun q hq => (h3 q hq).other p x hp⟩
theorem OwnS.base_mono {w : World} {B B' : Nat} {v : Value} {ss : List Sb} (h : OwnS w B v ss) (hb : B' ≤ B) : OwnS w B' v ss := by
  obtain ⟨ps, h1, h2, h3⟩ := h
  exact ⟨ps, h1, h2.base_mono hb, fun q hq => (h3 q hq).base_mono hb⟩
theorem OwnS.slice {w : World} {B : Nat} {v : Value} {ss : List Sb} (h : OwnS w B v ss) : ∃ a cap, v = .slice a ss.length cap := by
  obtain ⟨ps, rfl, h2, h3⟩ := h
  rw [List.length_map]
  exact OwnR.slice h2
/-- What toReader answers. -/
def OutRd (ss : List Sb) (w : World) (e : Ending) (w' : World) : Prop := ∃ v, e = .returned (.agg #[v]) ∧ OwnS w' w.heap.size v ss ∧ Below w.heap.size w w'

set_option maxRecDepth 100000 in
set_option maxHeartbeats 1600000 in
theorem toReader_any (v : Value) (ss : List Sb) (w : World) (h : SbAt w w.heap.size v ss) (hn : ss.length ≤ 1048576) (hns : ∀ s ∈ ss, s.es.length ≤ 1048576) :
    Calls Tryz.prog 7 #[.agg #[v]] w (OutRd ss w) := by
  have HI := Lib.hid h
  clear h
  have HC := Lib.hid (fun w h => toSubS_any v ss w h hn hns)
  clear hns
  have hb0 : Below w.heap.size w (((w.alloc (.cells #[v] 24)).alloc (.cells #[.slice none 0 0] 34)).alloc (.cells #[.slice none 0 0] 34)) := (((Below.refl _ _).alloc (Nat.le_refl _) _).alloc (by simp) _).alloc (by simp; omega) _
  have hR0 : Box (((w.alloc (.cells #[v] 24)).alloc (.cells #[.slice none 0 0] 34)).alloc (.cells #[.slice none 0 0] 34)) (w.heap.size + 1) #[.slice none 0 0] 34 := by
    have := (Box.new (w.alloc (.cells #[v] 24)) #[.slice none 0 0] 34).alloc (.cells #[.slice none 0 0] 34)
    simpa using this
  have hO0 : Box (((w.alloc (.cells #[v] 24)).alloc (.cells #[.slice none 0 0] 34)).alloc (.cells #[.slice none 0 0] 34)) (w.heap.size + 1 + 1) #[.slice none 0 0] 34 := by
    have := Box.new ((w.alloc (.cells #[v] 24)).alloc (.cells #[.slice none 0 0] 34)) #[.slice none 0 0] 34
    simpa using this
  go_enter Tryz.func7, Tryz.ntmps7
  go_wp2_with fail
  generalize (((w.alloc (.cells #[v] 24)).alloc (.cells #[.slice none 0 0] 34)).alloc (.cells #[.slice none 0 0] 34)) = W at hb0 hR0 hO0 ⊢
  refine (HC.out _ ((HI.out.below hb0).mono hb0.size)).mono ?_
  rintro e w1 ⟨y, rfl, hown, hb1⟩
  have hR1 := hR0.keep hb1 hR0.lt
  have hO1 := hO0.keep hb1 hO0.lt
  have o0 := hO1.cell 0 _ rfl
  have of := hO1.free
  have r0 := hR1.cell 0 _ rfl
  have rf := hR1.free
  obtain ⟨ya, yc, rfl⟩ := hown.slice
  have hgs : w.heap.size + 1 + 1 < W.heap.size := hO0.lt
  have HOw := Lib.hid hown
  have HB := Lib.hid (hb0.trans (hb1.mono hb0.size))
  have HR1 := Lib.hid hR1
  clear hown hb1 hb0 hR0 hO0 hR1 hO1
  go_wp2
  have hR2 := (HR1.out.other ⟨w.heap.size + 1 + 1, 0, none⟩ (.slice ya ss.length yc) (by simp)).set 0 (.slice ya ss.length yc)
  have hO := ((HOw.out.other ⟨w.heap.size + 1 + 1, 0, none⟩ (.slice ya ss.length yc) (by simp; omega)).other ⟨w.heap.size + 1, 0, none⟩ (.slice ya ss.length yc) (by simp; omega)).base_mono (show w.heap.size ≤ W.heap.size by omega)
  have hB := (HB.out.setCell (p := ⟨w.heap.size + 1 + 1, 0, none⟩) (by simp; omega) (.slice ya ss.length yc)).setCell (p := ⟨w.heap.size + 1, 0, none⟩) (by simp) (.slice ya ss.length yc)
  generalize (w1.setCell ⟨w.heap.size + 1 + 1, 0, none⟩ (.slice ya ss.length yc)).setCell ⟨w.heap.size + 1, 0, none⟩ (.slice ya ss.length yc) = W2 at hR2 hO hB ⊢
  have q0 := hR2.cell 0 _ rfl
  exact bodyPost_ret (v := .agg #[.slice ya ss.length yc]) (by simp [results, Tryz.results7, go_sem, q0]) rfl ⟨_, rfl, hO, hB⟩

set_option maxRecDepth 100000 in
set_option maxHeartbeats 1600000 in
theorem eqSub_same (s : Sb) (x x' : Value) (w : World) (h : EnAt w w.heap.size x s.es) (h' : EnAt w w.heap.size x' s.es) :
    Calls Tryz.prog 65 #[sbV s.u s.t x, sbV s.u s.t x'] w fun e w' => e = .returned (.bool true) ∧ Below w.heap.size w w' := by
  have HI := Lib.hid h
  have HI' := Lib.hid h'
  have HC := Lib.hid (fun w h h' => eqEntryS_same x x' s.es w h h')
  clear h h'
  have hb0 : Below w.heap.size w ((w.alloc (.cells #[.string s.u, .string s.t, x] 72)).alloc (.cells #[.string s.u, .string s.t, x'] 72)) := ((Below.refl _ _).alloc (Nat.le_refl _) _).alloc (by simp) _
  go_enter Tryz.func65, Tryz.ntmps65
  go_wp2_with fail
  refine (HC.out _ ((HI.out.below hb0).mono hb0.size) ((HI'.out.below hb0).mono hb0.size)).mono ?_
  rintro e w1 ⟨rfl, hb1⟩
  have hb2 := hb0.trans (hb1.mono hb0.size)
  clear hb1 hb0
  go_wp2
  go_ret
  exact ⟨rfl, hb2⟩

set_option maxRecDepth 100000 in
set_option maxHeartbeats 1600000 in
theorem eqSubS_same (v v' : Value) (ss : List Sb) (w : World) (h : SbAt w w.heap.size v ss) (h' : SbAt w w.heap.size v' ss) :
    Calls Tryz.prog 28 #[v, v'] w fun e w' => e = .returned (.bool true) ∧ Below w.heap.size w w' := by
  have HI := Lib.hid h
  have HJ := Lib.hid h'
  obtain ⟨a, cap, rfl, hl, hm, hc⟩ := h.raw
  obtain ⟨a2, cap2, rfl, hl2, hm2, hc2⟩ := h'.raw
  unfold maxLen at hm hm2
  clear hc h hc2 h'
  go_enter Tryz.func28, Tryz.ntmps28
  go_wp2
  go_loopw [5] (fun i wr => ∃ k : Nat, k ≤ ss.length ∧ i = .int .i64 k ∧ Below w.heap.size w wr) (fun i _ => ss.length - (intOf i).toNat)
  case atStart => exact ⟨0, Nat.zero_le _, rfl, Below.refl _ _⟩
  case round =>
    obtain ⟨k, hk, rfl, hbel⟩ := hrel
    by_cases hlt : k < ss.length
    · obtain ⟨a', cap', hv, _, _, hc⟩ := (HI.out.below hbel).raw
      cases hv
      obtain ⟨b, off, rfl, hb, hr⟩ := hc k hlt
      obtain ⟨x, c0, c1, c2, hx, _, _⟩ := hr k hlt
      obtain ⟨a'2, cap'2, hv2, _, _, hc2⟩ := (HJ.out.below hbel).raw
      cases hv2
      obtain ⟨b2, off2, rfl, hb2, hr2⟩ := hc2 k hlt
      obtain ⟨y, g0, g1, g2, hy, _, _⟩ := hr2 k hlt
      obtain ⟨xa, xc, rfl⟩ := hx.1.slice
      obtain ⟨xa2, xc2, rfl⟩ := hy.1.slice
      have hx1 := Lib.hid (hx.mono hbel.size)
      have hy1 := Lib.hid (hy.mono hbel.size)
      obtain ⟨P, hP⟩ : ∃ P, P = ss[k] := ⟨_, rfl⟩
      rw [← hP] at c0 c1 c2 g0 g1 g2 hx1 hy1
      have HC := Lib.hid (fun w h h' => eqSub_same P (.slice xa P.es.length xc) (.slice xa2 P.es.length xc2) w h h')
      obtain ⟨S0, hS0⟩ : ∃ x, x = P.u := ⟨_, rfl⟩
      obtain ⟨S1, hS1⟩ : ∃ x, x = P.t := ⟨_, rfl⟩
      rw [← hS0] at c0 g0 HC
      rw [← hS1] at c1 g1 HC
      obtain ⟨n, hn⟩ : ∃ n, n = P.es.length := ⟨_, rfl⟩
      rw [← hn] at c2 g2 hx1 hy1 HC
      clear hr hc hr2 hc2 hS0 hS1 hP hn hx hy
      go_wp2
      refine wp_region_T (fun w' => (w'.cell? ⟨b, off + k * 3, none⟩ = some (.string S0) ∧ w'.cell? ⟨b, off + k * 3 + 1, none⟩ = some (.string S1) ∧ w'.cell? ⟨b, off + k * 3 + 2, none⟩ = some (.slice xa n xc)) ∧ (w'.cell? ⟨b2, off2 + k * 3, none⟩ = some (.string S0) ∧ w'.cell? ⟨b2, off2 + k * 3 + 1, none⟩ = some (.string S1) ∧ w'.cell? ⟨b2, off2 + k * 3 + 2, none⟩ = some (.slice xa2 n xc2))) (fun _ => True) 9 (by kernel_rfl) 10 rfl ?_
      refine wpAnyT_takesA (md := .any) 2 (by kernel_rfl) (by intro d v c a w h; cases d <;> exact h) [0, 1, 2, 3, 4, 5, 6, 7] _ _ _ (by decide) (by kernel_rfl) ⟨⟨⟨c0, c1, c2⟩, g0, g1, g2⟩, fun _ => trivial⟩ ?_
      simp only [pick, List.filterMap_cons, List.filterMap_nil, List.getElem?_cons_zero, List.getElem?_cons_succ]
      refine wpIf_step (.slice (some ⟨b, off, none⟩) ss.length cap) (by kernel_rfl) (fun w hw => by go_simp) ?_
      refine wpIf_step (.int .i64 (k : Int)) (by kernel_rfl) (fun w hw => by go_simp) ?_
      refine wpIf_step (.pointer (some ⟨b, off + k * 3, none⟩)) (by kernel_rfl) (fun w hw => by go_simp) ?_
      refine wpIf_step (sbV S0 S1 (.slice xa n xc)) (by kernel_rfl) (fun w hw => by obtain ⟨⟨e0, e1, e2⟩, _⟩ := hw; go_simp) ?_
      refine wpIf_step (.slice (some ⟨b2, off2, none⟩) ss.length cap2) (by kernel_rfl) (fun w hw => by go_simp) ?_
      refine wpIf_step (.int .i64 (k : Int)) (by kernel_rfl) (fun w hw => by go_simp) ?_
      refine wpIf_step (.pointer (some ⟨b2, off2 + k * 3, none⟩)) (by kernel_rfl) (fun w hw => by go_simp) ?_
      refine wpIf_step (sbV S0 S1 (.slice xa2 n xc2)) (by kernel_rfl) (fun w hw => by obtain ⟨_, e0, e1, e2⟩ := hw; go_simp) ?_
      refine wpIf_nil (fun hS => ?_)
      clear hS
      refine wpAnyT_one 8 1 (by kernel_rfl) rfl (by kernel_rfl) (fun K hK => ?_)
      go_simp
      refine (HC.out wr.drew hx1.out.drew hy1.out.drew).mono ?_
      rintro e w1 ⟨rfl, hb1⟩
      have hbel1 := hbel.drew.trans (hb1.mono hbel.size)
      have hbl : b < wr.drew.heap.size := by have := hbel.size; show b < wr.heap.size; omega
      have hbl2 : b2 < wr.drew.heap.size := by have := hbel.size; show b2 < wr.heap.size; omega
      have hkc : ∀ b o x, b < wr.drew.heap.size → wr.drew.cell? ⟨b, o, none⟩ = some x → w1.cell? ⟨b, o, none⟩ = some x := fun b o x hb hx => by rw [hb1.cell (p := ⟨b, o, none⟩) hb]; exact hx
      have hA3 : (fun w' => (w'.cell? ⟨b, off + k * 3, none⟩ = some (.string S0) ∧ w'.cell? ⟨b, off + k * 3 + 1, none⟩ = some (.string S1) ∧ w'.cell? ⟨b, off + k * 3 + 2, none⟩ = some (.slice xa n xc)) ∧ (w'.cell? ⟨b2, off2 + k * 3, none⟩ = some (.string S0) ∧ w'.cell? ⟨b2, off2 + k * 3 + 1, none⟩ = some (.string S1) ∧ w'.cell? ⟨b2, off2 + k * 3 + 2, none⟩ = some (.slice xa2 n xc2))) w1 := ⟨⟨hkc _ _ _ hbl c0, hkc _ _ _ hbl c1, hkc _ _ _ hbl c2⟩, hkc _ _ _ hbl2 g0, hkc _ _ _ hbl2 g1, hkc _ _ _ hbl2 g2⟩
      clear hb1 hbel c0 c1 c2 g0 g1 g2 hkc hbl hbl2 hx1 hy1
      refine hK _ _ ⟨hA3, fun _ => trivial⟩ (fun hS => ?_)
      clear hK K hS
      refine wpAnyT_one 9 0 (by kernel_rfl) rfl (by kernel_rfl) (fun K hK => ?_)
      go_simp
      refine hK _ _ ⟨hA3, fun _ => trivial⟩ (fun hS => ?_)
      clear hK K hS
      refine wpAnyT_over (by kernel_rfl) ?_
      go_wp2
      go_roundw
      case rel => exact ⟨k + 1, by omega, by go_num, hbel1⟩
      case measure => simp [intOf]; omega
    · go_wp2
      go_ret
      exact ⟨rfl, hbel⟩

set_option maxRecDepth 100000 in
set_option maxHeartbeats 1600000 in
theorem eqReader_same (v v' : Value) (ss : List Sb) (w : World) (h : SbAt w w.heap.size v ss) (h' : SbAt w w.heap.size v' ss) :
    Calls Tryz.prog 10 #[.agg #[v], .agg #[v']] w fun e w' => e = .returned (.bool true) ∧ Below w.heap.size w w' := by
  have HI := Lib.hid h
  have HI' := Lib.hid h'
  have HC := Lib.hid (fun w h h' => eqSubS_same v v' ss w h h')
  clear h h'
  have hb0 : Below w.heap.size w ((w.alloc (.cells #[v] 34)).alloc (.cells #[v'] 34)) := ((Below.refl _ _).alloc (Nat.le_refl _) _).alloc (by simp) _
  go_enter Tryz.func10, Tryz.ntmps10
  go_wp2_with fail
  refine (HC.out _ ((HI.out.below hb0).mono hb0.size) ((HI'.out.below hb0).mono hb0.size)).mono ?_
  rintro e w1 ⟨rfl, hb1⟩
  have hb2 := hb0.trans (hb1.mono hb0.size)
  clear hb1 hb0
  go_wp2
  go_ret
  exact ⟨rfl, hb2⟩
end Go.Proofs.YtfgdbpjmjeaolaaGreat
