/- Joined: W9zn, W9zo. -/
import Derived.Test.YtgimjfffdnopiaaH35
/- W9zn -/
namespace Go.Proofs.Ytgimjfffdnopiaa
open Go.ChangeShapes Go.WideShapes Go.ChangeAt Go.RowKit
set_option linter.unusedVariables false

set_option maxRecDepth 100000 in
set_option maxHeartbeats 1600000 in
theorem withChange_noentry (v x : Value) (ps : List (Sb × Value)) (o : OpD) (B P : Nat) (w : World) (h : OwnD w B v ps) (hB : B ≤ w.heap.size) (hsz : ∀ s ∈ ps.map Prod.fst, SbSz s ∧ ∀ x ∈ s.es, EnSz x) (hr : risB (sbKs (ps.map Prod.fst)) = true) (hn : ps.length ≤ 900) (hx : ItAt w w.heap.size x o.its) (hk : o.k = 4 ∨ o.k = 5 ∨ o.k = 6 ∨ o.k = 7) (hf : fnB (sbKs (ps.map Prod.fst)) o.u = true) (hpl : plK (sbKs (ps.map Prod.fst)) o.u = P) (hP : P < ps.length) (hne : ps[P].1.es.length ≤ 1000) (hre : risB (enKs ps[P].1.es) = true) (hfe : fnB (enKs ps[P].1.es) o.i = false) :
    Calls Try.prog 63 #[v, opV o x] w (OutNo w) := by
  have HP := Lib.hid (fun w h => placeOfS_any v (ps.map Prod.fst) o.u w h (by rw [List.length_map]; omega) (ris_mono hr o.u))
  have HI := Lib.hid (OwnS.at h.ownS hsz)
  have HD := Lib.hid h
  rw [hf, hpl] at HP
  have HA := Lib.hid (fun (w : World) (h : OwnR 103 5 enC w B ps[P].2 ps[P].1.es) => marked_any ps[P].1 ps[P].2 B o.i o.k w hk h (hsz _ (List.mem_map.2 ⟨_, List.getElem_mem hP, rfl⟩)).2 hre hne)
  obtain ⟨g, cap, rfl, hg, hBg, hcm, hcl⟩ := h.some (by omega)
  obtain ⟨xa, xc, rfl⟩ := hx.1.slice
  have HCe : Hid (∀ w2, OwnR 99 3 sbC w2 B (.slice (some ⟨g, 0, none⟩) ps.length cap) ps → w2.cell? ⟨g, P * 3, none⟩ = some (.string ps[P].1.u) ∧ w2.cell? ⟨g, P * 3 + 1, none⟩ = some (.string ps[P].1.t) ∧ w2.cell? ⟨g, P * 3 + 2, none⟩ = some ps[P].2) := Lib.hid (fun w2 h => ⟨h.val sbC_len rfl P 0 _ hP rfl, h.val sbC_len rfl P 1 _ hP rfl, h.val sbC_len rfl P 2 _ hP rfl⟩)
  have HEo : Hid (∀ w1, Below w.heap.size w w1 → OwnR 103 5 enC w1 B ps[P].2 ps[P].1.es) := Lib.hid (fun w1 h1 => (HD.out.2.1 _ (List.getElem_mem hP)).keep h1 (Nat.le_refl _))
  obtain ⟨ya, yc, hye⟩ := (h.2.1 _ (List.getElem_mem hP)).slice
  unfold OutMK at HA
  simp only [hfe] at HA
  obtain ⟨k, u, i, d, fu, ft, its⟩ := o
  simp only at hk HP HA hre hfe ⊢
  have hk2 : (k == 2) = false := by rw [beq_eq_false_iff_ne]; omega
  have hk8 : (k == 8) = false := by rw [beq_eq_false_iff_ne]; omega
  have hk3 : (k == 3) = false := by rw [beq_eq_false_iff_ne]; omega
  clear hk hre hfe
  generalize ps[P].1.es = E at HA HEo hye
  generalize ps[P].1.u = S0 at HA HCe
  generalize ps[P].1.t = S1 at HA HCe
  generalize ps[P].2 = X at HA HCe HEo hye
  subst hye
  clear h hsz hr hf hx hpl hne
  have hB0 : Below w.heap.size w (w.alloc (.cells #[.int .i64 k, .string u, .string i, .int .i64 d, .string fu, .string ft, .slice xa its.length xc] 38)) := (Below.refl _ _).alloc (Nat.le_refl _) _
  have hX0 := Box.new w #[.int .i64 k, .string u, .string i, .int .i64 d, .string fu, .string ft, .slice xa its.length xc] 38
  go_enter Try.func63, Try.ntmps63
  go_wp2_with fail
  refine (HP.out _ ((HI.out.below hB0).mono hB0.size)).mono ?_
  rintro e w1 ⟨rfl, hb1⟩
  have hB1 := hB0.trans (hb1.mono hB0.size)
  have hX1 := hX0.keep hb1 hX0.lt
  obtain ⟨c0, c1, c2⟩ := HCe.out _ (HD.out.1.keep hB1 (Nat.le_refl _))
  have f0 := hX1.cell 0 _ rfl
  have f0' : (w1.alloc (.cells #[.string S0, .string S1, .slice ya E.length yc] 99)).cell? ⟨w.heap.size, 0, none⟩ = some (.int .i64 k) := (hX1.alloc _).cell 0 _ rfl
  have f2' : (w1.alloc (.cells #[.string S0, .string S1, .slice ya E.length yc] 99)).cell? ⟨w.heap.size, 2, none⟩ = some (.string i) := (hX1.alloc _).cell 2 _ rfl
  have hB2 : Below w.heap.size w (w1.alloc (.cells #[.string S0, .string S1, .slice ya E.length yc] 99)) := hB1.alloc hB1.size _
  have hS := Box.new w1 #[.string S0, .string S1, .slice ya E.length yc] 99
  have hw1 : w.heap.size ≤ w1.heap.size := hB1.size
  clear hb1 hB0 hB1 hX0
  go_wp2_with fail
  refine (HA.out _ (HEo.out _ hB2)).mono ?_
  intro e w2 hout
  have hout2 : e = .returned (.tuple #[sbV ⟨#[]⟩ ⟨#[]⟩ (.slice none 0 0), .bool false]) ∧ (w1.alloc (.cells #[.string S0, .string S1, .slice ya E.length yc] 99)).grownBy w2 none := by simpa using hout
  obtain ⟨rfl, hg2⟩ := hout2
  have hBe2 : Below w.heap.size w w2 := hB2.trans (gb_Below hg2 hB2.size (fun b hb => by cases hb))
  have hS2 : Box w2 w1.heap.size #[.string S0, .string S1, .slice ya E.length yc] 99 := (hg2.block _ hS.lt (by simp)).trans hS
  have hsf := hS2.free
  have s0 := hS2.cell 0 _ rfl
  have s1 := hS2.cell 1 _ rfl
  have s2 := hS2.cell 2 _ rfl
  have HB2 := Lib.hid hBe2
  clear hBe2 hg2 hout c0 c1 c2 f0 f0' f2' hB2 hS hX1 hS2 HA HCe HEo
  go_wp2
  go_ret2
  exact ⟨rfl, ((HB2.out.setCell (p := ⟨w1.heap.size, 0, none⟩) hw1 _).setCell (p := ⟨w1.heap.size, 1, none⟩) hw1 _).setCell (p := ⟨w1.heap.size, 2, none⟩) hw1 _⟩
end Go.Proofs.Ytgimjfffdnopiaa

/- W9zo -/
namespace Go.Proofs.Ytgimjfffdnopiaa
open Go.ChangeShapes Go.WideShapes Go.ChangeAt Go.RowKit
set_option linter.unusedVariables false

theorem OwnD.repl {w w2 w4 : World} {B : Nat} {v v4 y : Value} {ps : List (Sb × Value)} (h : OwnD w B v ps) (P : Nat) (hP : P < ps.length) (s : Sb) (hB : B ≤ w.heap.size) (hb : Below w.heap.size w w2) (hy : OwnR 103 5 enC w2 B y s.es) (hyb : y = ps[P].2 ∨ OwnR 103 5 enC w2 w.heap.size y s.es) (hb4 : Below w2.heap.size w2 w4) (ho : OwnR 99 3 sbC w4 w2.heap.size v4 (ps.set P (s, y))) : OwnD w4 B v4 (ps.set P (s, y)) := by
  have hent : ∀ p ∈ ps.set P (s, y), OwnR 103 5 enC w2 B p.2 p.1.es := by
    intro p hp
    rcases List.mem_or_eq_of_mem_set hp with h1 | h1
    · exact (h.2.1 p h1).keep hb (Nat.le_refl _)
    · rw [h1]; exact hy
  refine ⟨ho.base_mono (Nat.le_trans hB hb.size), fun p hp => (hent p hp).keep hb4 (Nat.le_refl _), ?_⟩
  unfold ApartD
  rw [List.pairwise_cons]
  refine ⟨fun c hc => ?_, ?_⟩
  · obtain ⟨p, hp, rfl⟩ := List.mem_map.1 hc
    rcases ho.blk with h1 | ⟨g, h1, h2, _⟩
    · exact .inl h1
    · right
      rw [h1]
      intro h3
      have := (World.ownsRow.lt (hent p hp) g h3.symm).2
      omega
  · have hap := (List.pairwise_cons.1 h.2.2).2
    rcases hyb with e | hnew
    · have e2 : (ps.set P (s, y)).map (fun p => p.2.ownBlock) = ps.map (fun p => p.2.ownBlock) := by
        rw [List.map_set, e]
        apply List.ext_getElem?
        intro j
        rw [List.getElem?_set]
        by_cases e : P = j
        · subst e; simp [hP]
        · rw [if_neg e]
      rw [e2]
      exact hap
    · have hold : ∀ i (hi : i < ps.length) b, ps[i].2.ownBlock = Option.some b → b < w.heap.size := fun i hi b hb => (World.ownsRow.lt (h.2.1 _ (List.getElem_mem hi)) b hb).2
      have hyn : ∀ b, y.ownBlock = Option.some b → w.heap.size ≤ b := fun b hb => (World.ownsRow.lt hnew b hb).1
      rw [List.pairwise_iff_getElem] at hap ⊢
      intro i j hi hj hij
      simp only [List.length_map, List.length_set] at hi hj
      simp only [List.getElem_map, List.getElem_set]
      by_cases ei : P = i
      · rw [if_pos ei, if_neg (by omega)]
        show y.ownBlock = none ∨ y.ownBlock ≠ ps[j].2.ownBlock
        cases hy' : y.ownBlock with
        | none => exact .inl rfl
        | some b => exact .inr (fun e => by have h1 := hold j hj b e.symm; have h2 := hyn b hy'; omega)
      · rw [if_neg ei]
        by_cases ej : P = j
        · rw [if_pos ej]
          show ps[i].2.ownBlock = none ∨ ps[i].2.ownBlock ≠ y.ownBlock
          cases hy' : ps[i].2.ownBlock with
          | none => exact .inl rfl
          | some b => exact .inr (fun e => by have h1 := hold i hi b hy'; have h2 := hyn b e.symm; omega)
        · rw [if_neg ej]
          have := hap i j (by rw [List.length_map]; exact hi) (by rw [List.length_map]; exact hj) hij
          simpa only [List.getElem_map] using this
end Go.Proofs.Ytgimjfffdnopiaa
