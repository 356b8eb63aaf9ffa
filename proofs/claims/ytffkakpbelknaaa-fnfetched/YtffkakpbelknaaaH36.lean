/- Joined: W9zv. -/
import Derived.Test.YtffkakpbelknaaaH19
import Derived.Test.YtffkakpbelknaaaH35
/- W9zv -/
namespace Go.Proofs.Ytffkakpbelknaaa
open Go.ChangeShapes Go.WideShapes Go.ChangeAt Go.RowKit
set_option linter.unusedVariables false

theorem OwnD.lower {w : World} {B B' : Nat} {v : Value} {ps : List (Sb × Value)} (h : OwnD w B v ps) (hB : B' ≤ B) : OwnD w B' v ps := ⟨h.1.base_mono hB, fun p hp => (h.2.1 p hp).base_mono hB, h.2.2⟩
theorem OwnD.aside {w : World} {B : Nat} {v : Value} {ps : List (Sb × Value)} (h : OwnD w B v ps) (p : Addr) (x : Value) (hp : p.block < B) : OwnD (w.setCell p x) B v ps := ⟨h.1.other p x hp, fun q hq => (h.2.1 q hq).other p x hp, h.2.2⟩
/-- A feed without entries put in. -/
theorem OwnD.putNil {w w' : World} {B : Nat} {v v' : Value} {ps : List (Sb × Value)} (h : OwnD w B v ps) (hB : B ≤ w.heap.size) (hb : Below w.heap.size w w') (P : Nat) (u t : ByteArray) (ho : OwnR 43 3 sbC w' w.heap.size v' (putP ps P false (⟨u, t, []⟩, .slice none 0 0))) : OwnD w' B v' (putP ps P false (⟨u, t, []⟩, .slice none 0 0)) := by
  have hm : ∀ p ∈ putP ps P false ((⟨u, t, []⟩, .slice none 0 0) : Sb × Value), p ∈ ps ∨ p = (⟨u, t, []⟩, .slice none 0 0) := fun p hp => by
    unfold putP at hp
    rcases List.mem_append.1 hp with h1 | h1
    · exact .inl (List.mem_of_mem_take h1)
    · rcases List.mem_cons.1 h1 with h2 | h2
      · exact .inr h2
      · exact .inl (List.mem_of_mem_drop h2)
  have hap := (List.pairwise_cons.1 h.2.2).2
  refine ⟨ho.base_mono hB, fun p hp => ?_, ?_⟩
  · rcases hm p hp with h1 | rfl
    · exact (h.2.1 p h1).keep hb (Nat.le_refl _)
    · exact OwnR.nil _ _ _
  · unfold ApartD
    rw [List.pairwise_cons]
    refine ⟨fun c hc => ?_, ?_⟩
    · obtain ⟨p, hp, rfl⟩ := List.mem_map.1 hc
      rcases ho.blk with h1 | ⟨g, h1, h2, _⟩
      · exact .inl h1
      · right
        rw [h1]
        intro h3
        rcases hm p hp with h4 | rfl
        · have := (World.ownsRow.lt (h.2.1 p h4) g h3.symm).2
          omega
        · cases h3
    · unfold putP
      rw [List.map_append, List.map_cons, List.map_take, List.map_drop, List.pairwise_append]
      refine ⟨hap.sublist (List.take_sublist _ _), ?_, fun a ha b hb2 => ?_⟩
      · rw [List.pairwise_cons]
        exact ⟨fun b _ => .inl rfl, hap.sublist (List.drop_sublist _ _)⟩
      · rcases List.mem_cons.1 hb2 with rfl | hb3
        · cases a with
          | none => exact .inl rfl
          | some x => exact .inr (fun h5 => by cases h5)
        · have hs : (List.map (fun p : Sb × Value => p.2.ownBlock) ps) = List.take P (List.map (fun p : Sb × Value => p.2.ownBlock) ps) ++ List.drop P (List.map (fun p : Sb × Value => p.2.ownBlock) ps) := (List.take_append_drop _ _).symm
          rw [hs, List.pairwise_append] at hap
          exact hap.2.2 a ha b hb3

/-- What Done leaves. -/
def OutDn (r : Option (List Sb)) (w : World) (e : Ending) (w' : World) : Prop := match r with
  | none => e = .returned (.tuple #[.agg #[.slice none 0 0], .bool false]) ∧ Below w.heap.size w w'
  | some ss => ∃ v qs, e = .returned (.tuple #[.agg #[v], .bool true]) ∧ qs.map Prod.fst = ss ∧ OwnD w' w.heap.size v qs ∧ Below w.heap.size w w'

theorem OutDn.none11 {r : Option (List Sb)} {w w' : World} {e : Ending} (h : r = none) (h1 : e = .returned (.tuple #[.agg #[.slice none 0 0], .bool false])) (h2 : Below w.heap.size w w') : OutDn r w e w' := by
  subst h
  exact ⟨h1, h2⟩
theorem OutDn.some11 {r : Option (List Sb)} {ss : List Sb} {w w' : World} {e : Ending} (h : r = some ss) (h1 : ∃ v qs, e = .returned (.tuple #[.agg #[v], .bool true]) ∧ qs.map Prod.fst = ss ∧ OwnD w' w.heap.size v qs ∧ Below w.heap.size w w') : OutDn r w e w' := by
  subst h
  exact h1

set_option maxRecDepth 100000 in
set_option maxHeartbeats 3000000 in
theorem implDone_any (v x : Value) (ss : List Sb) (o : OpD) (w : World) (h : SbAt w w.heap.size v ss) (hx : ItAt w w.heap.size x o.its) (hz : OpSz o) :
    Calls Try.prog 16 #[.agg #[v], opV o x] w (OutDn (doV ss o) w) := by
  have HI := Lib.hid h
  have HX := Lib.hid hx
  have HSz := Lib.hid h.size
  have HCr := Lib.hid (fun w h => implReaderOk_any v ss w h)
  have HCo := Lib.hid (fun w h => implOpOk_any o x w h hz)
  obtain ⟨a, cap, rfl, hl, hm, hc⟩ := h.raw
  obtain ⟨xa, xc, rfl⟩ := hx.1.slice
  clear hc h hx
  have hb0 : Below w.heap.size w (((w.alloc (.cells #[.slice a ss.length cap] 26)).alloc (.cells #[.int .i64 o.k, .string o.u, .string o.i, .int .i64 o.d, .string o.fu, .string o.ft, .slice xa o.its.length xc] 31)).alloc (.cells #[.slice none 0 0] 26)) := (((Below.refl _ _).alloc (Nat.le_refl _) _).alloc (by simp) _).alloc (by simp; omega) _
  have hR0 := ((Box.new w #[.slice a ss.length cap] 26).alloc (.cells #[.int .i64 o.k, .string o.u, .string o.i, .int .i64 o.d, .string o.fu, .string o.ft, .slice xa o.its.length xc] 31)).alloc (.cells #[.slice none 0 0] 26)
  have hO0 : Box (((w.alloc (.cells #[.slice a ss.length cap] 26)).alloc (.cells #[.int .i64 o.k, .string o.u, .string o.i, .int .i64 o.d, .string o.fu, .string o.ft, .slice xa o.its.length xc] 31)).alloc (.cells #[.slice none 0 0] 26)) (w.heap.size + 1) #[.int .i64 o.k, .string o.u, .string o.i, .int .i64 o.d, .string o.fu, .string o.ft, .slice xa o.its.length xc] 31 := by
    have := (Box.new (w.alloc (.cells #[.slice a ss.length cap] 26)) #[.int .i64 o.k, .string o.u, .string o.i, .int .i64 o.d, .string o.fu, .string o.ft, .slice xa o.its.length xc] 31).alloc (.cells #[.slice none 0 0] 26)
    simpa using this
  have hZ0 : Box (((w.alloc (.cells #[.slice a ss.length cap] 26)).alloc (.cells #[.int .i64 o.k, .string o.u, .string o.i, .int .i64 o.d, .string o.fu, .string o.ft, .slice xa o.its.length xc] 31)).alloc (.cells #[.slice none 0 0] 26)) (w.heap.size + 1 + 1) #[.slice none 0 0] 26 := by
    have := Box.new ((w.alloc (.cells #[.slice a ss.length cap] 26)).alloc (.cells #[.int .i64 o.k, .string o.u, .string o.i, .int .i64 o.d, .string o.fu, .string o.ft, .slice xa o.its.length xc] 31)) #[.slice none 0 0] 26
    simpa using this
  have hsz0 : (((w.alloc (.cells #[.slice a ss.length cap] 26)).alloc (.cells #[.int .i64 o.k, .string o.u, .string o.i, .int .i64 o.d, .string o.fu, .string o.ft, .slice xa o.its.length xc] 31)).alloc (.cells #[.slice none 0 0] 26)).heap.size = w.heap.size + 3 := by simp
  cases hrd : rdB ss with
  | false =>
    have HV : Hid (doV ss o = none) := Lib.hid (by unfold doV; rw [if_neg (fun h => by rw [hrd] at h; cases h.1)])
    rw [HV.out]
    rw [hrd] at HCr
    clear hrd HV
    go_enter Try.func16, Try.ntmps16
    go_wp2_with fail
    generalize ((w.alloc (.cells #[.slice a ss.length cap] 26)).alloc (.cells #[.int .i64 o.k, .string o.u, .string o.i, .int .i64 o.d, .string o.fu, .string o.ft, .slice xa o.its.length xc] 31)).alloc (.cells #[.slice none 0 0] 26) = W0 at hb0 hR0 hO0 hZ0 hsz0 ⊢
    refine (HCr.out _ ((HI.out.below hb0).mono hb0.size)).mono ?_
    rintro e w1 ⟨rfl, hb1⟩
    have hB1 := hb0.trans (hb1.mono hb0.size)
    have hZ1 := hZ0.keep hb1 hZ0.lt
    have q0 : w1.cell? ⟨w.heap.size + 1 + 1, 0, none⟩ = some (.slice none 0 0) := hZ1.cell 0 _ rfl
    have qf := hZ1.free
    clear hb1 hb0 hR0 hO0 hZ0
    go_wp2
    have hZ2 := hZ1.set 0 (.slice none 0 0)
    have hB2 := hB1.setCell (p := ⟨w.heap.size + 1 + 1, 0, none⟩) (by simp; omega) (.slice none 0 0)
    generalize w1.setCell ⟨w.heap.size + 1 + 1, 0, none⟩ (.slice none 0 0) = W2 at hZ2 hB2 ⊢
    have p0 : W2.cell? ⟨w.heap.size + 1 + 1, 0, none⟩ = some (.slice none 0 0) := hZ2.cell 0 _ rfl
    exact bodyPost_ret (v := .tuple #[.agg #[.slice none 0 0], .bool false]) (by simp [results, Try.results16, go_sem, p0]) rfl ⟨rfl, hB2⟩
  | true =>
    cases hop : opB o with
    | false =>
      have HV : Hid (doV ss o = none) := Lib.hid (by unfold doV; rw [if_neg (fun h => by rw [hop] at h; cases h.2)])
      rw [HV.out]
      rw [hrd] at HCr
      rw [hop] at HCo
      clear hrd hop HV
      go_enter Try.func16, Try.ntmps16
      go_wp2_with fail
      generalize ((w.alloc (.cells #[.slice a ss.length cap] 26)).alloc (.cells #[.int .i64 o.k, .string o.u, .string o.i, .int .i64 o.d, .string o.fu, .string o.ft, .slice xa o.its.length xc] 31)).alloc (.cells #[.slice none 0 0] 26) = W0 at hb0 hR0 hO0 hZ0 hsz0 ⊢
      refine (HCr.out _ ((HI.out.below hb0).mono hb0.size)).mono ?_
      rintro e w1 ⟨rfl, hb1⟩
      have hB1 := hb0.trans (hb1.mono hb0.size)
      have hZ1 := hZ0.keep hb1 hZ0.lt
      have hO1 := hO0.keep hb1 hO0.lt
      have hR1 := hR0.keep hb1 hR0.lt
      have f0 : w1.cell? ⟨w.heap.size + 1, 0, none⟩ = some (.int .i64 o.k) := hO1.cell 0 _ rfl
      have f1 : w1.cell? ⟨w.heap.size + 1, 1, none⟩ = some (.string o.u) := hO1.cell 1 _ rfl
      have f2 : w1.cell? ⟨w.heap.size + 1, 2, none⟩ = some (.string o.i) := hO1.cell 2 _ rfl
      have f3 : w1.cell? ⟨w.heap.size + 1, 3, none⟩ = some (.int .i64 o.d) := hO1.cell 3 _ rfl
      have f4 : w1.cell? ⟨w.heap.size + 1, 4, none⟩ = some (.string o.fu) := hO1.cell 4 _ rfl
      have f5 : w1.cell? ⟨w.heap.size + 1, 5, none⟩ = some (.string o.ft) := hO1.cell 5 _ rfl
      have f6 : w1.cell? ⟨w.heap.size + 1, 6, none⟩ = some (.slice xa o.its.length xc) := hO1.cell 6 _ rfl
      have hs1 : w.heap.size + 3 ≤ w1.heap.size := by have := hb1.size; omega
      clear hb1 hb0 hR0 hO0 hZ0 hsz0
      go_wp2_with fail
      refine (HCo.out _ ((HX.out.below hB1).mono hB1.size)).mono ?_
      rintro e w2 ⟨rfl, hb2⟩
      have hB2 := hB1.trans (hb2.mono hB1.size)
      have hZ2 := hZ1.keep hb2 hZ1.lt
      have hO2 := hO1.keep hb2 hO1.lt
      have hR2 := hR1.keep hb2 hR1.lt
      have hs2 : w.heap.size + 3 ≤ w2.heap.size := by have := hb2.size; omega
      clear hb2 hB1 hZ1 hO1 hR1 f0 f1 f2 f3 f4 f5 f6
      have q0 : w2.cell? ⟨w.heap.size + 1 + 1, 0, none⟩ = some (.slice none 0 0) := hZ2.cell 0 _ rfl
      have qf := hZ2.free
      go_wp2
      have hZe := hZ2.set 0 (.slice none 0 0)
      have hBe := hB2.setCell (p := ⟨w.heap.size + 1 + 1, 0, none⟩) (by simp; omega) (.slice none 0 0)
      generalize w2.setCell ⟨w.heap.size + 1 + 1, 0, none⟩ (.slice none 0 0) = We at hZe hBe ⊢
      have p0 : We.cell? ⟨w.heap.size + 1 + 1, 0, none⟩ = some (.slice none 0 0) := hZe.cell 0 _ rfl
      exact bodyPost_ret (v := .tuple #[.agg #[.slice none 0 0], .bool false]) (by simp [results, Try.results16, go_sem, p0]) rfl ⟨rfl, hBe⟩
    | true =>
      have HV : Hid (doV ss o = doI ss o) := Lib.hid (by unfold doV; rw [if_pos ⟨hrd, hop⟩])
      rw [HV.out]
      have h6 := rd_len hrd
      have HRd := Lib.hid hrd
      have HOp := Lib.hid hop
      have HCp := Lib.hid (fun w h => copiedSubs_any (.slice a ss.length cap) ss w h (by omega) (fun s hs => by have := sb_len (rd_sub hrd s hs); omega))
      rw [hrd] at HCr
      rw [hop] at HCo
      clear hrd hop HV
      go_enter Try.func16, Try.ntmps16
      go_wp2_with fail
      generalize ((w.alloc (.cells #[.slice a ss.length cap] 26)).alloc (.cells #[.int .i64 o.k, .string o.u, .string o.i, .int .i64 o.d, .string o.fu, .string o.ft, .slice xa o.its.length xc] 31)).alloc (.cells #[.slice none 0 0] 26) = W0 at hb0 hR0 hO0 hZ0 hsz0 ⊢
      refine (HCr.out _ ((HI.out.below hb0).mono hb0.size)).mono ?_
      rintro e w1 ⟨rfl, hb1⟩
      have hB1 := hb0.trans (hb1.mono hb0.size)
      have hZ1 := hZ0.keep hb1 hZ0.lt
      have hO1 := hO0.keep hb1 hO0.lt
      have hR1 := hR0.keep hb1 hR0.lt
      have f0 : w1.cell? ⟨w.heap.size + 1, 0, none⟩ = some (.int .i64 o.k) := hO1.cell 0 _ rfl
      have f1 : w1.cell? ⟨w.heap.size + 1, 1, none⟩ = some (.string o.u) := hO1.cell 1 _ rfl
      have f2 : w1.cell? ⟨w.heap.size + 1, 2, none⟩ = some (.string o.i) := hO1.cell 2 _ rfl
      have f3 : w1.cell? ⟨w.heap.size + 1, 3, none⟩ = some (.int .i64 o.d) := hO1.cell 3 _ rfl
      have f4 : w1.cell? ⟨w.heap.size + 1, 4, none⟩ = some (.string o.fu) := hO1.cell 4 _ rfl
      have f5 : w1.cell? ⟨w.heap.size + 1, 5, none⟩ = some (.string o.ft) := hO1.cell 5 _ rfl
      have f6 : w1.cell? ⟨w.heap.size + 1, 6, none⟩ = some (.slice xa o.its.length xc) := hO1.cell 6 _ rfl
      have hs1 : w.heap.size + 3 ≤ w1.heap.size := by have := hb1.size; omega
      clear hb1 hb0 hR0 hO0 hZ0 hsz0
      go_wp2_with fail
      refine (HCo.out _ ((HX.out.below hB1).mono hB1.size)).mono ?_
      rintro e w2 ⟨rfl, hb2⟩
      have hB2 := hB1.trans (hb2.mono hB1.size)
      have hZ2 := hZ1.keep hb2 hZ1.lt
      have hO2 := hO1.keep hb2 hO1.lt
      have hR2 := hR1.keep hb2 hR1.lt
      have hs2 : w.heap.size + 3 ≤ w2.heap.size := by have := hb2.size; omega
      have r0 : w2.cell? ⟨w.heap.size, 0, none⟩ = some (.slice a ss.length cap) := hR2.cell 0 _ rfl
      clear hb2 hB1 hZ1 hO1 hR1 f0 f1 f2 f3 f4 f5 f6 hR2 HCr HCo
      have HK : Hid (∀ w3 v3 ps, ps.map Prod.fst = ss → OwnD w3 w2.heap.size v3 ps → Below w2.heap.size w2 w3 → True) := Lib.hid (fun _ _ _ _ _ _ => trivial)
      go_wp2_with fail
      refine (HCp.out _ ((HI.out.below hB2).mono hB2.size)).mono ?_
      rintro e w3 ⟨v3, ps, rfl, hps, hD3, hb3⟩
      have hB3 := hB2.trans (hb3.mono hB2.size)
      have hZ3 := hZ2.keep hb3 hZ2.lt
      have hO3 := hO2.keep hb3 hO2.lt
      have hs3 : w2.heap.size ≤ w3.heap.size := hb3.size
      have HPs := Lib.hid hps
      have HPl : Hid (ps.length = ss.length) := Lib.hid (by rw [← hps, List.length_map])
      have HD3 := Lib.hid hD3
      have HI3 := Lib.hid ((HX.out.below hB3).mono hB3.size)
      have HZs : Hid (∀ s ∈ ps.map Prod.fst, SbSz s ∧ ∀ x ∈ s.es, EnSz x) := Lib.hid (by rw [hps]; exact HSz.out)
      have g0 : w3.cell? ⟨w.heap.size + 1, 0, none⟩ = some (.int .i64 o.k) := hO3.cell 0 _ rfl
      have g1 : w3.cell? ⟨w.heap.size + 1, 1, none⟩ = some (.string o.u) := hO3.cell 1 _ rfl
      have g2 : w3.cell? ⟨w.heap.size + 1, 2, none⟩ = some (.string o.i) := hO3.cell 2 _ rfl
      have g3 : w3.cell? ⟨w.heap.size + 1, 3, none⟩ = some (.int .i64 o.d) := hO3.cell 3 _ rfl
      have g4 : w3.cell? ⟨w.heap.size + 1, 4, none⟩ = some (.string o.fu) := hO3.cell 4 _ rfl
      have g5 : w3.cell? ⟨w.heap.size + 1, 5, none⟩ = some (.string o.ft) := hO3.cell 5 _ rfl
      have g6 : w3.cell? ⟨w.heap.size + 1, 6, none⟩ = some (.slice xa o.its.length xc) := hO3.cell 6 _ rfl
      clear hb3 hB2 hZ2 hO2 hO3 r0 HCp HK hps hD3
      by_cases hk1 : o.k = 1
      · have HWF := Lib.hid (withFeed_any v3 ps o.u w3 (HD3.out.1.at sbC_len) (OwnS.at HD3.out.ownS HZs.out) HD3.out.one (by rw [HPs.out]; exact rd_ris HRd.out) (by have := HPl.out; omega))
        have HDi : Hid (doI ss o = if fnB (sbKs ss) o.u = true ∨ ss.length = 6 then none else some (putP ss (plK (sbKs ss) o.u) false ⟨o.u, ⟨#[]⟩, []⟩)) := Lib.hid (by unfold doI; rw [if_pos hk1])
        have hkk : (o.k == 1) = true := beq_iff_eq.2 hk1
        by_cases hno : fnB (sbKs ss) o.u = true ∨ ss.length = 6
        · have HW2 : Hid (Calls Try.prog 50 #[v3, .string o.u] w3 fun e w' => e = .returned (.tuple #[.slice none 0 0, .bool false]) ∧ Below w3.heap.size w3 w') := Lib.hid (by
            refine HWF.out.mono ?_
            intro e w' h
            unfold OutWF at h
            rw [if_pos (by rw [HPs.out, HPl.out]; exact hno)] at h
            exact h)
          have HDn : Hid (doI ss o = none) := Lib.hid (by rw [HDi.out, if_pos hno])
          clear hno HDi HWF hk1
          go_wp2_with fail
          refine HW2.out.mono ?_
          rintro e w4 ⟨rfl, hb4⟩
          have hB4 := hB3.trans (hb4.mono hB3.size)
          have hZ4 := hZ3.keep hb4 hZ3.lt
          clear hb4 hB3 hZ3 g0 g1 g2 g3 g4 g5 g6 HW2
          have q0 : w4.cell? ⟨w.heap.size + 1 + 1, 0, none⟩ = some (.slice none 0 0) := hZ4.cell 0 _ rfl
          have qf := hZ4.free
          go_wp2
          have hZe := hZ4.set 0 (.slice none 0 0)
          have hBe := hB4.setCell (p := ⟨w.heap.size + 1 + 1, 0, none⟩) (by simp; omega) (.slice none 0 0)
          generalize w4.setCell ⟨w.heap.size + 1 + 1, 0, none⟩ (.slice none 0 0) = We at hZe hBe ⊢
          have p0 : We.cell? ⟨w.heap.size + 1 + 1, 0, none⟩ = some (.slice none 0 0) := hZe.cell 0 _ rfl
          exact bodyPost_ret (v := .tuple #[.agg #[.slice none 0 0], .bool false]) (by simp [results, Try.results16, go_sem, p0]) rfl (OutDn.none11 HDn.out rfl hBe)
        · have HW2 : Hid (Calls Try.prog 50 #[v3, .string o.u] w3 fun e w' => ∃ v4 qs, e = .returned (.tuple #[v4, .bool true]) ∧ qs.map Prod.fst = putP ss (plK (sbKs ss) o.u) false ⟨o.u, ⟨#[]⟩, []⟩ ∧ OwnD w' w2.heap.size v4 qs ∧ Below w3.heap.size w3 w') := Lib.hid (by
            refine HWF.out.mono ?_
            intro e w' h
            unfold OutWF at h
            rw [if_neg (by rw [HPs.out, HPl.out]; exact hno)] at h
            obtain ⟨v4, rfl, ho, hb⟩ := h
            refine ⟨v4, _, rfl, ?_, HD3.out.putNil hs3 hb _ _ _ ho, hb⟩
            rw [HPs.out]
            unfold putP
            rw [List.map_append, List.map_take, List.map_cons, List.map_drop, HPs.out])
          have HDs : Hid (doI ss o = some (putP ss (plK (sbKs ss) o.u) false ⟨o.u, ⟨#[]⟩, []⟩)) := Lib.hid (by rw [HDi.out, if_neg hno])
          clear hno HDi HWF hk1
          go_wp2_with fail
          refine HW2.out.mono ?_
          rintro e w4 ⟨v4, qs, rfl, hq, hD4, hb4⟩
          have hB4 := hB3.trans (hb4.mono hB3.size)
          have hZ4 := hZ3.keep hb4 hZ3.lt
          have HD4 := Lib.hid hD4
          have HQ := Lib.hid hq
          clear hb4 hB3 hZ3 g0 g1 g2 g3 g4 g5 g6 HW2 hq hD4
          obtain ⟨va, vc, rfl⟩ := HD4.out.1.slice
          have q0 : w4.cell? ⟨w.heap.size + 1 + 1, 0, none⟩ = some (.slice none 0 0) := hZ4.cell 0 _ rfl
          have qf := hZ4.free
          go_wp2
          have hZe := hZ4.set 0 (.slice va qs.length vc)
          have hBe := hB4.setCell (p := ⟨w.heap.size + 1 + 1, 0, none⟩) (by simp; omega) (.slice va qs.length vc)
          have hDe := (HD4.out.aside ⟨w.heap.size + 1 + 1, 0, none⟩ (.slice va qs.length vc) (by simp; omega)).lower (show w.heap.size ≤ w2.heap.size by omega)
          generalize w4.setCell ⟨w.heap.size + 1 + 1, 0, none⟩ (.slice va qs.length vc) = We at hZe hBe hDe ⊢
          have p0 : We.cell? ⟨w.heap.size + 1 + 1, 0, none⟩ = some (.slice va qs.length vc) := hZe.cell 0 _ rfl
          exact bodyPost_ret (v := .tuple #[.agg #[.slice va qs.length vc], .bool true]) (by simp [results, Try.results16, go_sem, p0]) rfl (OutDn.some11 HDs.out ⟨_, qs, rfl, HQ.out, hDe, hBe⟩)
      · have hkk : (o.k == 1) = false := beq_eq_false_iff_ne.2 hk1
        by_cases hk9 : o.k = 9
        · have hk99 : (o.k == 9) = true := beq_iff_eq.2 hk9
          have HDs : Hid (doI ss o = some (pgS ss o.d)) := Lib.hid (by unfold doI; rw [if_neg hk1, if_pos hk9])
          have HPg := Lib.hid (purged_any v3 ps ss w2.heap.size o.d w3 HD3.out HPs.out hs3 (by omega) (fun s hs => ⟨by have := sb_len (rd_sub HRd.out s hs); omega, (HSz.out s hs).2⟩))
          unfold OutPg at HPg
          clear hk1 hk9
          go_wp2_with fail
          refine HPg.out.mono ?_
          rintro e w4 ⟨qs, rfl, hq, hD4, hb4⟩
          have hB4 := hB3.trans (hb4.mono (by omega))
          have hZ4 := hZ3.keep hb4 (by omega)
          have HD4 := Lib.hid hD4
          have HQ := Lib.hid hq
          clear hb4 hB3 hZ3 g0 g1 g2 g3 g4 g5 g6 HPg hq hD4 HD3 HI3
          obtain ⟨va, vc, rfl⟩ := HD4.out.1.slice
          have q0 : w4.cell? ⟨w.heap.size + 1 + 1, 0, none⟩ = some (.slice none 0 0) := hZ4.cell 0 _ rfl
          have qf := hZ4.free
          go_wp2
          have hZe := hZ4.set 0 (.slice va qs.length vc)
          have hBe := hB4.setCell (p := ⟨w.heap.size + 1 + 1, 0, none⟩) (by simp; omega) (.slice va qs.length vc)
          have hDe := (HD4.out.aside ⟨w.heap.size + 1 + 1, 0, none⟩ (.slice va qs.length vc) (by simp; omega)).lower (show w.heap.size ≤ w2.heap.size by omega)
          generalize w4.setCell ⟨w.heap.size + 1 + 1, 0, none⟩ (.slice va qs.length vc) = We at hZe hBe hDe ⊢
          have p0 : We.cell? ⟨w.heap.size + 1 + 1, 0, none⟩ = some (.slice va qs.length vc) := hZe.cell 0 _ rfl
          exact bodyPost_ret (v := .tuple #[.agg #[.slice va qs.length vc], .bool true]) (by simp [results, Try.results16, go_sem, p0]) rfl (OutDn.some11 HDs.out ⟨_, qs, rfl, HQ.out, hDe, hBe⟩)
        · have hk99 : (o.k == 9) = false := beq_eq_false_iff_ne.2 hk9
          have HDi : Hid (doI ss o = chV ss o) := Lib.hid (by unfold doI; rw [if_neg hk1, if_neg hk9])
          have HCh := Lib.hid (withChange_any v3 (.slice xa o.its.length xc) ps o w2.heap.size w3 HD3.out hs3 HZs.out (by rw [HPs.out]; exact HRd.out) HOp.out hk1 hk9 HI3.out)
          rw [HPs.out] at HCh
          clear hk1 hk9
          cases hcv : chV ss o with
          | none =>
            have HDn : Hid (doI ss o = none) := Lib.hid (by rw [HDi.out, hcv])
            rw [hcv] at HCh
            unfold OutX OutNo at HCh
            go_wp2_with fail
            refine HCh.out.mono ?_
            rintro e w4 ⟨rfl, hb4⟩
            have hB4 := hB3.trans (hb4.mono hB3.size)
            have hZ4 := hZ3.keep hb4 hZ3.lt
            clear hb4 hB3 hZ3 g0 g1 g2 g3 g4 g5 g6 HCh hcv
            have q0 : w4.cell? ⟨w.heap.size + 1 + 1, 0, none⟩ = some (.slice none 0 0) := hZ4.cell 0 _ rfl
            have qf := hZ4.free
            go_wp2
            have hZe := hZ4.set 0 (.slice none 0 0)
            have hBe := hB4.setCell (p := ⟨w.heap.size + 1 + 1, 0, none⟩) (by simp; omega) (.slice none 0 0)
            generalize w4.setCell ⟨w.heap.size + 1 + 1, 0, none⟩ (.slice none 0 0) = We at hZe hBe ⊢
            have p0 : We.cell? ⟨w.heap.size + 1 + 1, 0, none⟩ = some (.slice none 0 0) := hZe.cell 0 _ rfl
            exact bodyPost_ret (v := .tuple #[.agg #[.slice none 0 0], .bool false]) (by simp [results, Try.results16, go_sem, p0]) rfl (OutDn.none11 HDn.out rfl hBe)
          | some rs =>
            have HDs : Hid (doI ss o = some rs) := Lib.hid (by rw [HDi.out, hcv])
            rw [hcv] at HCh
            unfold OutX OutCh at HCh
            go_wp2_with fail
            refine HCh.out.mono ?_
            rintro e w4 ⟨v4, qs, rfl, hq, hD4, hb4⟩
            have hB4 := hB3.trans (hb4.mono (by omega))
            have hZ4 := hZ3.keep hb4 (by omega)
            have HD4 := Lib.hid hD4
            have HQ := Lib.hid hq
            clear hb4 hB3 hZ3 g0 g1 g2 g3 g4 g5 g6 HCh hcv hq hD4 HD3 HI3
            obtain ⟨va, vc, rfl⟩ := HD4.out.1.slice
            have q0 : w4.cell? ⟨w.heap.size + 1 + 1, 0, none⟩ = some (.slice none 0 0) := hZ4.cell 0 _ rfl
            have qf := hZ4.free
            go_wp2
            have hZe := hZ4.set 0 (.slice va qs.length vc)
            have hBe := hB4.setCell (p := ⟨w.heap.size + 1 + 1, 0, none⟩) (by simp; omega) (.slice va qs.length vc)
            have hDe := (HD4.out.aside ⟨w.heap.size + 1 + 1, 0, none⟩ (.slice va qs.length vc) (by simp; omega)).lower (show w.heap.size ≤ w2.heap.size by omega)
            generalize w4.setCell ⟨w.heap.size + 1 + 1, 0, none⟩ (.slice va qs.length vc) = We at hZe hBe hDe ⊢
            have p0 : We.cell? ⟨w.heap.size + 1 + 1, 0, none⟩ = some (.slice va qs.length vc) := hZe.cell 0 _ rfl
            exact bodyPost_ret (v := .tuple #[.agg #[.slice va qs.length vc], .bool true]) (by simp [results, Try.results16, go_sem, p0]) rfl (OutDn.some11 HDs.out ⟨_, qs, rfl, HQ.out, hDe, hBe⟩)
end Go.Proofs.Ytffkakpbelknaaa
