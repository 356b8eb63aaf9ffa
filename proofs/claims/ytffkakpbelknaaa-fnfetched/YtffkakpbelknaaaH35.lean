/- Joined: W9zm, W9zn, W9zo, W9zp, W9zq. -/
import Derived.Test.YtffkakpbelknaaaH34
/- W9zm -/
namespace Go.Proofs.Ytffkakpbelknaaa
open Go.ChangeShapes Go.WideShapes Go.ChangeAt Go.RowKit
set_option linter.unusedVariables false

def mkS (s : Sb) (id : ByteArray) (k : Int) : Sb := { s with es := mkAt s.es (plK (enKs s.es) id) k }
theorem mkE_it (x : En) (k : Int) : (mkE x k).it = x.it := by
  unfold mkE
  by_cases h4 : k = 4
  · rw [if_pos h4]
  · rw [if_neg h4]
    by_cases h5 : k = 5
    · rw [if_pos h5]
    · rw [if_neg h5]
      by_cases h6 : k = 6
      · rw [if_pos h6]
      · rw [if_neg h6]
theorem mkS_sz {s : Sb} (id : ByteArray) (k : Int) (h : SbSz s ∧ ∀ x ∈ s.es, EnSz x) : SbSz (mkS s id k) ∧ ∀ x ∈ (mkS s id k).es, EnSz x := by
  refine ⟨h.1, fun x hx => ?_⟩
  unfold mkS mkAt at hx
  simp only at hx
  split at hx
  · rename_i y hy
    rcases List.mem_or_eq_of_mem_set hx with h1 | h1
    · exact h.2 x h1
    · rw [h1]
      have := h.2 y (List.mem_of_getElem? hy)
      unfold EnSz at this ⊢
      rw [mkE_it]
      exact this
  · exact h.2 x hx

set_option maxRecDepth 100000 in
set_option maxHeartbeats 1600000 in
theorem withChange_mark (v x : Value) (ps : List (Sb × Value)) (o : OpD) (B P : Nat) (w : World) (h : OwnD w B v ps) (hB : B ≤ w.heap.size) (hsz : ∀ s ∈ ps.map Prod.fst, SbSz s ∧ ∀ x ∈ s.es, EnSz x) (hr : risB (sbKs (ps.map Prod.fst)) = true) (hn : ps.length ≤ 900) (hx : ItAt w w.heap.size x o.its) (hk : o.k = 4 ∨ o.k = 5 ∨ o.k = 6 ∨ o.k = 7) (hf : fnB (sbKs (ps.map Prod.fst)) o.u = true) (hpl : plK (sbKs (ps.map Prod.fst)) o.u = P) (hP : P < ps.length) (hne : ps[P].1.es.length ≤ 1000) (hre : risB (enKs ps[P].1.es) = true) (hfe : fnB (enKs ps[P].1.es) o.i = true) :
    Calls Try.prog 52 #[v, opV o x] w (OutCh ((ps.map Prod.fst).set P (mkS ps[P].1 o.i o.k)) B w) := by
  have HP := Lib.hid (fun w h => placeOfS_any v (ps.map Prod.fst) o.u w h (by rw [List.length_map]; omega) (ris_mono hr o.u))
  have hkey : ps[P].1.u = o.u := by subst hpl; exact found_key hf hP
  have HI := Lib.hid (OwnS.at h.ownS hsz)
  have HD := Lib.hid h
  obtain ⟨qs, hqs⟩ : ∃ qs, qs = ps.set P (mkS ps[P].1 o.i o.k, ps[P].2) := ⟨_, rfl⟩
  have hql : P < qs.length := by rw [hqs, List.length_set]; exact hP
  have hq1 : qs[P] = (mkS ps[P].1 o.i o.k, ps[P].2) := by subst hqs; exact List.getElem_set_self _
  have HKs : Hid (sbKs (qs.map Prod.fst) = sbKs (ps.map Prod.fst)) := Lib.hid (by rw [hqs]; exact keys_same ps P hP _ _ rfl)
  have HW : Hid (∀ w3, B ≤ w3.heap.size → OwnD w3 B v qs → Calls Try.prog 102 #[v, sbV ps[P].1.u ps[P].1.t ps[P].2] w3 fun e w' => ∃ y, e = .returned y ∧ OwnD w' B y qs ∧ Below w3.heap.size w3 w') := Lib.hid (fun w3 hB3 h3 => by
    have := with_back v qs P hql o.u B w3 h3 hB3 (by rw [hqs]; exact sz_set hsz P _ _ (mkS_sz _ _ (hsz _ (List.mem_map.2 ⟨_, List.getElem_mem hP, rfl⟩)))) (by rw [HKs.out]; exact hr) (by rw [hqs, List.length_set]; exact hn) (by rw [HKs.out, hq1]; show plK _ ps[P].1.u = P; rw [hkey]; exact hpl) (by rw [HKs.out, hq1]; show fnB _ ps[P].1.u = true; rw [hkey]; exact hf)
    rw [hq1] at this
    exact this)
  rw [hf, hpl] at HP
  have hXb : ∀ b, ps[P].2.ownBlock = some b → B ≤ b ∧ b < w.heap.size := fun b hb => World.ownsRow.lt (h.2.1 _ (List.getElem_mem hP)) b hb
  have HIn : Hid (∀ w1 w2, Below w.heap.size w w1 → w1.grownBy w2 ps[P].2.ownBlock → OwnR 47 5 enC w2 B ps[P].2 (mkAt ps[P].1.es (plK (enKs ps[P].1.es) o.i) o.k) → OwnD w2 B v qs ∧ Below B w w2) := Lib.hid (fun w1 w2 h1 h2 h3 => by
    refine ⟨?_, (h1.mono hB).trans (gb_Below h2 (Nat.le_trans hB h1.size) (fun b hb => (hXb b hb).1))⟩
    rw [hqs]
    exact (HD.out.keep h1 (Nat.le_refl _)).inplace P hP (mkS ps[P].1 o.i o.k) rfl rfl h2 h3)
  have HOf : Hid (∀ w2 p z, w.heap.size ≤ p.block → OwnD w2 B v qs → OwnD (w2.setCell p z) B v qs) := Lib.hid (fun w2 p z hp h2 => by
    refine h2.off p z (fun e => ?_) (fun q hq e => ?_)
    · have := (World.ownsRow.lt HD.out.1 _ e).2; omega
    · have hq2 : ∃ q' ∈ ps, q'.2 = q.2 := by
        rw [hqs] at hq
        rcases List.mem_or_eq_of_mem_set hq with h | h
        · exact ⟨q, h, rfl⟩
        · exact ⟨_, List.getElem_mem hP, by rw [h]⟩
      obtain ⟨q', hq', e2⟩ := hq2
      have := (World.ownsRow.lt (HD.out.2.1 q' hq') p.block (by rw [e2]; exact e)).2
      omega)
  have HZ : Hid (qs.map Prod.fst = (ps.map Prod.fst).set P (mkS ps[P].1 o.i o.k)) := Lib.hid (by rw [hqs, List.map_set])
  have HA := Lib.hid (fun (w : World) (h : OwnR 47 5 enC w B ps[P].2 ps[P].1.es) => marked_any ps[P].1 ps[P].2 B o.i o.k w hk h (hsz _ (List.mem_map.2 ⟨_, List.getElem_mem hP, rfl⟩)).2 hre hne)
  obtain ⟨g, cap, rfl, hg, hBg, hcm, hcl⟩ := h.some (by omega)
  obtain ⟨xa, xc, rfl⟩ := hx.1.slice
  have HCe : Hid (∀ w2, OwnR 43 3 sbC w2 B (.slice (some ⟨g, 0, none⟩) ps.length cap) ps → w2.cell? ⟨g, P * 3, none⟩ = some (.string ps[P].1.u) ∧ w2.cell? ⟨g, P * 3 + 1, none⟩ = some (.string ps[P].1.t) ∧ w2.cell? ⟨g, P * 3 + 2, none⟩ = some ps[P].2) := Lib.hid (fun w2 h => ⟨h.val sbC_len rfl P 0 _ hP rfl, h.val sbC_len rfl P 1 _ hP rfl, h.val sbC_len rfl P 2 _ hP rfl⟩)
  have HEo : Hid (∀ w1, Below w.heap.size w w1 → OwnR 47 5 enC w1 B ps[P].2 ps[P].1.es) := Lib.hid (fun w1 h1 => (HD.out.2.1 _ (List.getElem_mem hP)).keep h1 (Nat.le_refl _))
  have HXb : Hid (ps[P].2.ownBlock ≠ some w.heap.size ∧ ∀ w1 : World, w.heap.size ≤ w1.heap.size → ps[P].2.ownBlock ≠ some w1.heap.size) := Lib.hid ⟨fun e => by have := (hXb _ e).2; omega, fun w1 h1 e => by have := (hXb _ e).2; omega⟩
  obtain ⟨ya, yc, hye⟩ := (h.2.1 _ (List.getElem_mem hP)).slice
  unfold OutMK at HA
  simp only [hfe, if_true] at HA
  rw [← HZ.out]
  clear HZ
  obtain ⟨k, u, i, d, fu, ft, its⟩ := o
  simp only at hk HP HA HIn hre hfe ⊢
  have hk2 : (k == 2) = false := by rw [beq_eq_false_iff_ne]; omega
  have hk8 : (k == 8) = false := by rw [beq_eq_false_iff_ne]; omega
  have hk3 : (k == 3) = false := by rw [beq_eq_false_iff_ne]; omega
  obtain ⟨M, hM⟩ : ∃ M, M = mkAt ps[P].1.es (plK (enKs ps[P].1.es) i) k := ⟨_, rfl⟩
  rw [← hM] at HA HIn
  clear hk hre hfe hM
  generalize ps[P].1.es = E at HA HEo HIn hye
  generalize ps[P].1.u = S0 at HA HCe HW
  generalize ps[P].1.t = S1 at HA HCe HW
  generalize ps[P].2 = X at HA HCe HW HEo HIn HXb hye
  subst hye
  clear h hsz hr hf hx hpl hkey hqs hql hq1 HKs hXb hne
  have hB0 : Below w.heap.size w (w.alloc (.cells #[.int .i64 k, .string u, .string i, .int .i64 d, .string fu, .string ft, .slice xa its.length xc] 31)) := (Below.refl _ _).alloc (Nat.le_refl _) _
  have hX0 := Box.new w #[.int .i64 k, .string u, .string i, .int .i64 d, .string fu, .string ft, .slice xa its.length xc] 31
  go_enter Try.func52, Try.ntmps52
  go_wp2_with fail
  refine (HP.out _ ((HI.out.below hB0).mono hB0.size)).mono ?_
  rintro e w1 ⟨rfl, hb1⟩
  have hB1 := hB0.trans (hb1.mono hB0.size)
  have hX1 := hX0.keep hb1 hX0.lt
  obtain ⟨c0, c1, c2⟩ := HCe.out _ (HD.out.1.keep hB1 (Nat.le_refl _))
  have f0 := hX1.cell 0 _ rfl
  have f0' : (w1.alloc (.cells #[.string S0, .string S1, .slice ya E.length yc] 43)).cell? ⟨w.heap.size, 0, none⟩ = some (.int .i64 k) := (hX1.alloc _).cell 0 _ rfl
  have f2' : (w1.alloc (.cells #[.string S0, .string S1, .slice ya E.length yc] 43)).cell? ⟨w.heap.size, 2, none⟩ = some (.string i) := (hX1.alloc _).cell 2 _ rfl
  have hB2 : Below w.heap.size w (w1.alloc (.cells #[.string S0, .string S1, .slice ya E.length yc] 43)) := hB1.alloc hB1.size _
  have hS := Box.new w1 #[.string S0, .string S1, .slice ya E.length yc] 43
  have hw1 : w.heap.size ≤ w1.heap.size := hB1.size
  clear hb1 hB0 hB1 hX0
  go_wp2_with fail
  refine (HA.out _ (HEo.out _ hB2)).mono ?_
  rintro e w2 ⟨rfl, ho2, hg2⟩
  obtain ⟨hO2, hBe2⟩ := HIn.out _ w2 hB2 hg2 ho2
  have hS2 : Box w2 w1.heap.size #[.string S0, .string S1, .slice ya E.length yc] 43 := (hg2.block _ hS.lt (fun e => HXb.out.2 w1 hw1 e.symm)).trans hS
  have hsf := hS2.free
  have s0 := hS2.cell 0 _ rfl
  have s1 := hS2.cell 1 _ rfl
  have s2 := hS2.cell 2 _ rfl
  have HO2 := Lib.hid hO2
  have HS2 := Lib.hid hS2
  have HB2 := Lib.hid hBe2
  clear hO2 hBe2 hg2 ho2 c0 c1 c2 f0 f0' f2' hB2 hS hX1 hS2 HA HIn HCe HEo
  go_wp2_with fail
  have hO3 := HOf.out _ ⟨w1.heap.size, 2, none⟩ (.slice ya E.length yc) hw1 (HOf.out _ ⟨w1.heap.size, 1, none⟩ (.string S1) hw1 (HOf.out _ ⟨w1.heap.size, 0, none⟩ (.string S0) hw1 HO2.out))
  have hBe3 : Below B w (((w2.setCell ⟨w1.heap.size, 0, none⟩ (.string S0)).setCell ⟨w1.heap.size, 1, none⟩ (.string S1)).setCell ⟨w1.heap.size, 2, none⟩ (.slice ya E.length yc)) := ((HB2.out.setCell (p := ⟨w1.heap.size, 0, none⟩) (by show B ≤ w1.heap.size; omega) _).setCell (p := ⟨w1.heap.size, 1, none⟩) (by show B ≤ w1.heap.size; omega) _).setCell (p := ⟨w1.heap.size, 2, none⟩) (by show B ≤ w1.heap.size; omega) _
  generalize ((w2.setCell ⟨w1.heap.size, 0, none⟩ (.string S0)).setCell ⟨w1.heap.size, 1, none⟩ (.string S1)).setCell ⟨w1.heap.size, 2, none⟩ (.slice ya E.length yc) = W3 at hO3 hBe3 ⊢
  refine (HW.out W3 (Nat.le_trans hB hBe3.size) hO3).mono ?_
  rintro e w4 ⟨y, rfl, hO4, hb4⟩
  have HE : Hid (OutCh (qs.map Prod.fst) B w (.returned (.tuple #[y, .bool true])) w4) := Lib.hid ⟨y, qs, rfl, rfl, hO4, hBe3.trans (hb4.mono (Nat.le_trans hB hBe3.size))⟩
  clear hO3 hO4 hb4 hBe3 hsf s0 s1 s2
  go_wp2
  go_ret2
  exact HE.out
end Go.Proofs.Ytffkakpbelknaaa

/- W9zn -/
namespace Go.Proofs.Ytffkakpbelknaaa
open Go.ChangeShapes Go.WideShapes Go.ChangeAt Go.RowKit
set_option linter.unusedVariables false

set_option maxRecDepth 100000 in
set_option maxHeartbeats 1600000 in
theorem withChange_noentry (v x : Value) (ps : List (Sb × Value)) (o : OpD) (B P : Nat) (w : World) (h : OwnD w B v ps) (hB : B ≤ w.heap.size) (hsz : ∀ s ∈ ps.map Prod.fst, SbSz s ∧ ∀ x ∈ s.es, EnSz x) (hr : risB (sbKs (ps.map Prod.fst)) = true) (hn : ps.length ≤ 900) (hx : ItAt w w.heap.size x o.its) (hk : o.k = 4 ∨ o.k = 5 ∨ o.k = 6 ∨ o.k = 7) (hf : fnB (sbKs (ps.map Prod.fst)) o.u = true) (hpl : plK (sbKs (ps.map Prod.fst)) o.u = P) (hP : P < ps.length) (hne : ps[P].1.es.length ≤ 1000) (hre : risB (enKs ps[P].1.es) = true) (hfe : fnB (enKs ps[P].1.es) o.i = false) :
    Calls Try.prog 52 #[v, opV o x] w (OutNo w) := by
  have HP := Lib.hid (fun w h => placeOfS_any v (ps.map Prod.fst) o.u w h (by rw [List.length_map]; omega) (ris_mono hr o.u))
  have HI := Lib.hid (OwnS.at h.ownS hsz)
  have HD := Lib.hid h
  rw [hf, hpl] at HP
  have HA := Lib.hid (fun (w : World) (h : OwnR 47 5 enC w B ps[P].2 ps[P].1.es) => marked_any ps[P].1 ps[P].2 B o.i o.k w hk h (hsz _ (List.mem_map.2 ⟨_, List.getElem_mem hP, rfl⟩)).2 hre hne)
  obtain ⟨g, cap, rfl, hg, hBg, hcm, hcl⟩ := h.some (by omega)
  obtain ⟨xa, xc, rfl⟩ := hx.1.slice
  have HCe : Hid (∀ w2, OwnR 43 3 sbC w2 B (.slice (some ⟨g, 0, none⟩) ps.length cap) ps → w2.cell? ⟨g, P * 3, none⟩ = some (.string ps[P].1.u) ∧ w2.cell? ⟨g, P * 3 + 1, none⟩ = some (.string ps[P].1.t) ∧ w2.cell? ⟨g, P * 3 + 2, none⟩ = some ps[P].2) := Lib.hid (fun w2 h => ⟨h.val sbC_len rfl P 0 _ hP rfl, h.val sbC_len rfl P 1 _ hP rfl, h.val sbC_len rfl P 2 _ hP rfl⟩)
  have HEo : Hid (∀ w1, Below w.heap.size w w1 → OwnR 47 5 enC w1 B ps[P].2 ps[P].1.es) := Lib.hid (fun w1 h1 => (HD.out.2.1 _ (List.getElem_mem hP)).keep h1 (Nat.le_refl _))
  obtain ⟨ya, yc, hye⟩ := (h.2.1 _ (List.getElem_mem hP)).slice
  unfold OutMK at HA
  simp only [hfe] at HA
  obtain ⟨k, u, i, d, fu, ft, its⟩ := o
  simp only at hk HP HA hre hfe ⊢
  have hk2 : (k == 2) = false := by rw [beq_eq_false_iff_ne]; omega
  have hk8 : (k == 8) = false := by rw [beq_eq_false_iff_ne]; omega
  have hk3 : (k == 3) = false := by rw [beq_eq_false_iff_ne]; omega
  clear hk hre hfe
  generalize ps[P].1.es = E at HA HEo hye
  generalize ps[P].1.u = S0 at HA HCe
  generalize ps[P].1.t = S1 at HA HCe
  generalize ps[P].2 = X at HA HCe HEo hye
  subst hye
  clear h hsz hr hf hx hpl hne
  have hB0 : Below w.heap.size w (w.alloc (.cells #[.int .i64 k, .string u, .string i, .int .i64 d, .string fu, .string ft, .slice xa its.length xc] 31)) := (Below.refl _ _).alloc (Nat.le_refl _) _
  have hX0 := Box.new w #[.int .i64 k, .string u, .string i, .int .i64 d, .string fu, .string ft, .slice xa its.length xc] 31
  go_enter Try.func52, Try.ntmps52
  go_wp2_with fail
  refine (HP.out _ ((HI.out.below hB0).mono hB0.size)).mono ?_
  rintro e w1 ⟨rfl, hb1⟩
  have hB1 := hB0.trans (hb1.mono hB0.size)
  have hX1 := hX0.keep hb1 hX0.lt
  obtain ⟨c0, c1, c2⟩ := HCe.out _ (HD.out.1.keep hB1 (Nat.le_refl _))
  have f0 := hX1.cell 0 _ rfl
  have f0' : (w1.alloc (.cells #[.string S0, .string S1, .slice ya E.length yc] 43)).cell? ⟨w.heap.size, 0, none⟩ = some (.int .i64 k) := (hX1.alloc _).cell 0 _ rfl
  have f2' : (w1.alloc (.cells #[.string S0, .string S1, .slice ya E.length yc] 43)).cell? ⟨w.heap.size, 2, none⟩ = some (.string i) := (hX1.alloc _).cell 2 _ rfl
  have hB2 : Below w.heap.size w (w1.alloc (.cells #[.string S0, .string S1, .slice ya E.length yc] 43)) := hB1.alloc hB1.size _
  have hS := Box.new w1 #[.string S0, .string S1, .slice ya E.length yc] 43
  have hw1 : w.heap.size ≤ w1.heap.size := hB1.size
  clear hb1 hB0 hB1 hX0
  go_wp2_with fail
  refine (HA.out _ (HEo.out _ hB2)).mono ?_
  intro e w2 hout
  have hout2 : e = .returned (.tuple #[sbV ⟨#[]⟩ ⟨#[]⟩ (.slice none 0 0), .bool false]) ∧ (w1.alloc (.cells #[.string S0, .string S1, .slice ya E.length yc] 43)).grownBy w2 none := by simpa using hout
  obtain ⟨rfl, hg2⟩ := hout2
  have hBe2 : Below w.heap.size w w2 := hB2.trans (gb_Below hg2 hB2.size (fun b hb => by cases hb))
  have hS2 : Box w2 w1.heap.size #[.string S0, .string S1, .slice ya E.length yc] 43 := (hg2.block _ hS.lt (by simp)).trans hS
  have hsf := hS2.free
  have s0 := hS2.cell 0 _ rfl
  have s1 := hS2.cell 1 _ rfl
  have s2 := hS2.cell 2 _ rfl
  have HB2 := Lib.hid hBe2
  clear hBe2 hg2 hout c0 c1 c2 f0 f0' f2' hB2 hS hX1 hS2 HA HCe HEo
  go_wp2
  go_ret2
  exact ⟨rfl, ((HB2.out.setCell (p := ⟨w1.heap.size, 0, none⟩) hw1 _).setCell (p := ⟨w1.heap.size, 1, none⟩) hw1 _).setCell (p := ⟨w1.heap.size, 2, none⟩) hw1 _⟩
end Go.Proofs.Ytffkakpbelknaaa

/- W9zo -/
namespace Go.Proofs.Ytffkakpbelknaaa
open Go.ChangeShapes Go.WideShapes Go.ChangeAt Go.RowKit
set_option linter.unusedVariables false

theorem OwnD.repl {w w2 w4 : World} {B : Nat} {v v4 y : Value} {ps : List (Sb × Value)} (h : OwnD w B v ps) (P : Nat) (hP : P < ps.length) (s : Sb) (hB : B ≤ w.heap.size) (hb : Below w.heap.size w w2) (hy : OwnR 47 5 enC w2 B y s.es) (hyb : y = ps[P].2 ∨ OwnR 47 5 enC w2 w.heap.size y s.es) (hb4 : Below w2.heap.size w2 w4) (ho : OwnR 43 3 sbC w4 w2.heap.size v4 (ps.set P (s, y))) : OwnD w4 B v4 (ps.set P (s, y)) := by
  have hent : ∀ p ∈ ps.set P (s, y), OwnR 47 5 enC w2 B p.2 p.1.es := by
    intro p hp
    rcases List.mem_or_eq_of_mem_set hp with h1 | h1
    · exact (h.2.1 p h1).keep hb (Nat.le_refl _)
    · rw [h1]; exact hy
  refine ⟨ho.base_mono (Nat.le_trans hB hb.size), fun p hp => (hent p hp).keep hb4 (Nat.le_refl _), ?_⟩
  unfold ApartD
  rw [List.pairwise_cons]
  refine ⟨fun c hc => ?_, ?_⟩
  · obtain ⟨p, hp, rfl⟩ := List.mem_map.1 hc
    rcases ho.blk with h1 | ⟨g, h1, h2, _⟩
    · exact .inl h1
    · right
      rw [h1]
      intro h3
      have := (World.ownsRow.lt (hent p hp) g h3.symm).2
      omega
  · have hap := (List.pairwise_cons.1 h.2.2).2
    rcases hyb with e | hnew
    · have e2 : (ps.set P (s, y)).map (fun p => p.2.ownBlock) = ps.map (fun p => p.2.ownBlock) := by
        rw [List.map_set, e]
        apply List.ext_getElem?
        intro j
        rw [List.getElem?_set]
        by_cases e : P = j
        · subst e; simp [hP]
        · rw [if_neg e]
      rw [e2]
      exact hap
    · have hold : ∀ i (hi : i < ps.length) b, ps[i].2.ownBlock = Option.some b → b < w.heap.size := fun i hi b hb => (World.ownsRow.lt (h.2.1 _ (List.getElem_mem hi)) b hb).2
      have hyn : ∀ b, y.ownBlock = Option.some b → w.heap.size ≤ b := fun b hb => (World.ownsRow.lt hnew b hb).1
      rw [List.pairwise_iff_getElem] at hap ⊢
      intro i j hi hj hij
      simp only [List.length_map, List.length_set] at hi hj
      simp only [List.getElem_map, List.getElem_set]
      by_cases ei : P = i
      · rw [if_pos ei, if_neg (by omega)]
        show y.ownBlock = none ∨ y.ownBlock ≠ ps[j].2.ownBlock
        cases hy' : y.ownBlock with
        | none => exact .inl rfl
        | some b => exact .inr (fun e => by have h1 := hold j hj b e.symm; have h2 := hyn b hy'; omega)
      · rw [if_neg ei]
        by_cases ej : P = j
        · rw [if_pos ej]
          show ps[i].2.ownBlock = none ∨ ps[i].2.ownBlock ≠ y.ownBlock
          cases hy' : ps[i].2.ownBlock with
          | none => exact .inl rfl
          | some b => exact .inr (fun e => by have h1 := hold i hi b hy'; have h2 := hyn b e.symm; omega)
        · rw [if_neg ej]
          have := hap i j (by rw [List.length_map]; exact hi) (by rw [List.length_map]; exact hj) hij
          simpa only [List.getElem_map] using this
end Go.Proofs.Ytffkakpbelknaaa

/- W9zp -/
namespace Go.Proofs.Ytffkakpbelknaaa
open Go.ChangeShapes Go.WideShapes Go.ChangeAt Go.RowKit
set_option linter.unusedVariables false

def ftS (s : Sb) (t : ByteArray) (its : List It) : Sb := ⟨s.u, t, ftV s.es its⟩

set_option maxRecDepth 100000 in
set_option maxHeartbeats 1600000 in
theorem withChange_fetch (v x : Value) (ps : List (Sb × Value)) (o : OpD) (B P : Nat) (w : World) (h : OwnD w B v ps) (hB : B ≤ w.heap.size) (hsz : ∀ s ∈ ps.map Prod.fst, SbSz s ∧ ∀ x ∈ s.es, EnSz x) (hr : risB (sbKs (ps.map Prod.fst)) = true) (hn : ps.length ≤ 900) (hx : ItAt w w.heap.size x o.its) (hk : o.k = 3) (hf : fnB (sbKs (ps.map Prod.fst)) o.fu = true) (hpl : plK (sbKs (ps.map Prod.fst)) o.fu = P) (hP : P < ps.length) (hne : ps[P].1.es.length ≤ 100) (hni : o.its.length ≤ 100) (hre : risB (enKs ps[P].1.es) = true) :
    Calls Try.prog 52 #[v, opV o x] w (OutCh ((ps.map Prod.fst).set P (ftS ps[P].1 o.ft o.its)) B w) := by
  have HP := Lib.hid (fun w h => placeOfS_any v (ps.map Prod.fst) o.fu w h (by rw [List.length_map]; omega) (ris_mono hr o.fu))
  have hkey : ps[P].1.u = o.fu := by subst hpl; exact found_key hf hP
  have HI := Lib.hid (OwnS.at h.ownS hsz)
  have HD := Lib.hid h
  have HFin : Hid (∀ W3 y, Below w.heap.size w W3 → OwnR 47 5 enC W3 B y (ftV ps[P].1.es o.its) → (y = ps[P].2 ∨ OwnR 47 5 enC W3 w.heap.size y (ftV ps[P].1.es o.its)) →
      Calls Try.prog 102 #[v, sbV ps[P].1.u o.ft y] W3 fun e w4 => ∃ v4, e = .returned v4 ∧ OutCh ((ps.map Prod.fst).set P (ftS ps[P].1 o.ft o.its)) B w (.returned (.tuple #[v4, .bool true])) w4) := Lib.hid (fun W3 y h3 hy hyb => by
    have hd3 := HD.out.keep h3 (Nat.le_refl _)
    obtain ⟨ya, yc, hye⟩ := hy.slice
    refine (withS_any v ps (ftS ps[P].1 o.ft o.its, y) W3 (hd3.1.at sbC_len) (OwnS.at hd3.ownS hsz) hd3.one (by rw [hye]; rfl) hr hn).mono ?_
    rintro e w4 ⟨v4, rfl, ho, hb⟩
    have e1 : (ftS ps[P].1 o.ft o.its).u = o.fu := hkey
    simp only [e1] at ho
    rw [hpl, hf, putP_set _ _ _ hP] at ho
    exact ⟨v4, rfl, v4, _, rfl, by rw [List.map_set], HD.out.repl P hP (ftS ps[P].1 o.ft o.its) hB h3 hy hyb hb ho, (h3.mono hB).trans (hb.mono (Nat.le_trans hB h3.size))⟩)
  rw [hf, hpl] at HP
  have hXb : ∀ b, ps[P].2.ownBlock = some b → b < w.heap.size := fun b hb => (World.ownsRow.lt (h.2.1 _ (List.getElem_mem hP)) b hb).2
  have HIt := Lib.hid hx
  have HA : Hid (∀ W1, Below w.heap.size w W1 → Calls Try.prog 107 #[sbV ps[P].1.u ps[P].1.t ps[P].2, .agg #[.string o.fu, .string o.ft, x]] W1 (FtOut ps[P].1 o.ft o.its ps[P].2 B W1)) := Lib.hid (fun W1 h1 => fetched_any ps[P].1 ps[P].2 o.fu o.ft x o.its B W1 ((HD.out.2.1 _ (List.getElem_mem hP)).keep h1 (Nat.le_refl _)) (hsz _ (List.mem_map.2 ⟨_, List.getElem_mem hP, rfl⟩)).2 hre (Nat.le_trans hB h1.size) ((HIt.out.below h1).mono h1.size) hne hni)
  unfold FtOut at HA
  obtain ⟨g, cap, rfl, hg, hBg, hcm, hcl⟩ := h.some (by omega)
  obtain ⟨xa, xc, rfl⟩ := hx.1.slice
  have HCe : Hid (∀ w2, OwnR 43 3 sbC w2 B (.slice (some ⟨g, 0, none⟩) ps.length cap) ps → w2.cell? ⟨g, P * 3, none⟩ = some (.string ps[P].1.u) ∧ w2.cell? ⟨g, P * 3 + 1, none⟩ = some (.string ps[P].1.t) ∧ w2.cell? ⟨g, P * 3 + 2, none⟩ = some ps[P].2) := Lib.hid (fun w2 h => ⟨h.val sbC_len rfl P 0 _ hP rfl, h.val sbC_len rfl P 1 _ hP rfl, h.val sbC_len rfl P 2 _ hP rfl⟩)
  obtain ⟨ya, yc, hye⟩ := (h.2.1 _ (List.getElem_mem hP)).slice
  obtain ⟨k, u, i, d, fu, ft, its⟩ := o
  simp only at hk HP HA HFin hkey ⊢
  subst hk
  generalize (ps.map Prod.fst).set P (ftS ps[P].1 ft its) = SS at HFin ⊢
  generalize ftV ps[P].1.es its = V at HA HFin
  generalize ps[P].1.es = E at hye
  generalize ps[P].1.u = S0 at HA HCe HFin
  generalize ps[P].1.t = S1 at HA HCe
  generalize ps[P].2 = X at HA HCe HFin hXb hye
  subst hye
  have HXb := Lib.hid hXb
  clear h hsz hr hf hx hpl hkey hXb hne hni hre HIt
  have hB0 : Below w.heap.size w (w.alloc (.cells #[.int .i64 3, .string u, .string i, .int .i64 d, .string fu, .string ft, .slice xa its.length xc] 31)) := (Below.refl _ _).alloc (Nat.le_refl _) _
  have hX0 := Box.new w #[.int .i64 3, .string u, .string i, .int .i64 d, .string fu, .string ft, .slice xa its.length xc] 31
  go_enter Try.func52, Try.ntmps52
  go_wp2_with fail
  refine (HP.out _ ((HI.out.below hB0).mono hB0.size)).mono ?_
  rintro e w1 ⟨rfl, hb1⟩
  have hB1 := hB0.trans (hb1.mono hB0.size)
  have hX1 := hX0.keep hb1 hX0.lt
  obtain ⟨c0, c1, c2⟩ := HCe.out _ (HD.out.1.keep hB1 (Nat.le_refl _))
  have f0 := hX1.cell 0 _ rfl
  have hX2 := hX1.alloc (.cells #[.string S0, .string S1, .slice ya E.length yc] 43)
  have f0' : (w1.alloc (.cells #[.string S0, .string S1, .slice ya E.length yc] 43)).cell? ⟨w.heap.size, 0, none⟩ = some (.int .i64 3) := hX2.cell 0 _ rfl
  have f4' : (w1.alloc (.cells #[.string S0, .string S1, .slice ya E.length yc] 43)).cell? ⟨w.heap.size, 4, none⟩ = some (.string fu) := hX2.cell 4 _ rfl
  have f5' : (w1.alloc (.cells #[.string S0, .string S1, .slice ya E.length yc] 43)).cell? ⟨w.heap.size, 5, none⟩ = some (.string ft) := hX2.cell 5 _ rfl
  have f6' : (w1.alloc (.cells #[.string S0, .string S1, .slice ya E.length yc] 43)).cell? ⟨w.heap.size, 6, none⟩ = some (.slice xa its.length xc) := hX2.cell 6 _ rfl
  have hB2 : Below w.heap.size w (w1.alloc (.cells #[.string S0, .string S1, .slice ya E.length yc] 43)) := hB1.alloc hB1.size _
  have hS := Box.new w1 #[.string S0, .string S1, .slice ya E.length yc] 43
  have hw1 : w.heap.size ≤ w1.heap.size := hB1.size
  have hW1s : (w1.alloc (.cells #[.string S0, .string S1, .slice ya E.length yc] 43)).heap.size = w1.heap.size + 1 := by simp
  clear hb1 hB0 hB1 hX0 hX2
  go_wp2_with fail
  refine (HA.out _ hB2).mono ?_
  rintro e w2 ⟨y, rfl, hft⟩
  have hBe2 := hB2.trans (hft.bel.mono hB2.size)
  have hS2 := hS.keep hft.bel hS.lt
  have hyb : y.ownBlock ≠ some w1.heap.size := by
    rcases hft.new with e | e
    · rw [e]; intro e2; have := HXb.out _ e2; omega
    · intro e2; have := (World.ownsRow.lt e _ e2).1; rw [hW1s] at this; omega
  have HY : Hid (OwnR 47 5 enC w2 B y V ∧ (y = .slice ya E.length yc ∨ OwnR 47 5 enC w2 w.heap.size y V)) := Lib.hid ⟨hft.own, hft.new.elim .inl (fun e => .inr (e.base_mono hB2.size))⟩
  have HYb := Lib.hid hyb
  obtain ⟨za, zc, rfl⟩ := hft.own.slice
  have hsf := hS2.free
  have s0 := hS2.cell 0 _ rfl
  have s1 := hS2.cell 1 _ rfl
  have s2 := hS2.cell 2 _ rfl
  have HB2 := Lib.hid hBe2
  clear hBe2 hft hyb c0 c1 c2 f0 f0' f4' f5' f6' hB2 hS hX1 hS2 HA HCe hW1s
  go_wp2_with fail
  have hBe3 := ((HB2.out.setCell (p := ⟨w1.heap.size, 0, none⟩) hw1 (.string S0)).setCell (p := ⟨w1.heap.size, 1, none⟩) hw1 (.string ft)).setCell (p := ⟨w1.heap.size, 2, none⟩) hw1 (.slice za V.length zc)
  have hY3 := ((HY.out.1.off ⟨w1.heap.size, 0, none⟩ (.string S0) HYb.out).off ⟨w1.heap.size, 1, none⟩ (.string ft) HYb.out).off ⟨w1.heap.size, 2, none⟩ (.slice za V.length zc) HYb.out
  have hN3 := HY.out.2.imp id (fun e => ((e.off ⟨w1.heap.size, 0, none⟩ (.string S0) HYb.out).off ⟨w1.heap.size, 1, none⟩ (.string ft) HYb.out).off ⟨w1.heap.size, 2, none⟩ (.slice za V.length zc) HYb.out)
  generalize ((w2.setCell ⟨w1.heap.size, 0, none⟩ (.string S0)).setCell ⟨w1.heap.size, 1, none⟩ (.string ft)).setCell ⟨w1.heap.size, 2, none⟩ (.slice za V.length zc) = W3 at hBe3 hY3 hN3 ⊢
  refine (HFin.out W3 _ hBe3 hY3 hN3).mono ?_
  rintro e w4 ⟨v4, rfl, hout⟩
  have HE := Lib.hid hout
  clear hout hBe3 hY3 hN3 hsf s0 s1 s2
  go_wp2
  go_ret2
  exact HE.out
end Go.Proofs.Ytffkakpbelknaaa

/- W9zq -/
namespace Go.Proofs.Ytffkakpbelknaaa
open Go.ChangeShapes Go.WideShapes Go.ChangeAt Go.RowKit
set_option linter.unusedVariables false

/-- What a change of one feed that is to be there answers. -/
def chV (ss : List Sb) (o : OpD) : Option (List Sb) := match ss[plK (sbKs ss) (opU o)]? with
  | none => none
  | some s => if fnB (sbKs ss) (opU o) = true then
      (if o.k = 2 then some (ss.take (plK (sbKs ss) (opU o)) ++ ss.drop (plK (sbKs ss) (opU o) + 1))
       else if o.k = 8 then some (ss.set (plK (sbKs ss) (opU o)) (alS s))
       else if o.k = 3 then some (ss.set (plK (sbKs ss) (opU o)) (ftS s o.ft o.its))
       else if fnB (enKs s.es) o.i = true then some (ss.set (plK (sbKs ss) (opU o)) (mkS s o.i o.k)) else none)
    else none
def doI (ss : List Sb) (o : OpD) : Option (List Sb) :=
  if o.k = 1 then (if fnB (sbKs ss) o.u = true ∨ ss.length = 6 then none else some (putP ss (plK (sbKs ss) o.u) false ⟨o.u, ⟨#[]⟩, []⟩))
  else if o.k = 9 then some (pgS ss o.d)
  else chV ss o
/-- What Done answers. -/
def doV (ss : List Sb) (o : OpD) : Option (List Sb) := if rdB ss = true ∧ opB o = true then doI ss o else none

theorem rd_len {ss : List Sb} (h : rdB ss = true) : ss.length ≤ 6 := by
  unfold rdB at h
  simp only [Bool.and_eq_true, decide_eq_true_eq] at h
  exact h.1
theorem rd_ris {ss : List Sb} (h : rdB ss = true) : risB (sbKs ss) = true := by
  unfold rdB at h
  simp only [Bool.and_eq_true, decide_eq_true_eq] at h
  exact h.2.2
theorem rd_sub {ss : List Sb} (h : rdB ss = true) (s : Sb) (hs : s ∈ ss) : sbB s = true := by
  unfold rdB at h
  simp only [Bool.and_eq_true, decide_eq_true_eq] at h
  obtain ⟨i, hi, rfl⟩ := List.getElem_of_mem hs
  have := allB_at h.2.1 i hi
  rw [sbsB_at ss i hi] at this
  exact this
theorem sb_len {s : Sb} (h : sbB s = true) : s.es.length ≤ 12 := by
  unfold sbB at h
  simp only [Bool.and_eq_true, decide_eq_true_eq] at h
  exact h.1.2
theorem sb_ris {s : Sb} (h : sbB s = true) : risB (enKs s.es) = true := by
  unfold sbB ensB at h
  simp only [Bool.and_eq_true, decide_eq_true_eq] at h
  exact h.2.2
theorem op_kinds {o : OpD} (h : opB o = true) : o.k = 1 ∨ o.k = 2 ∨ o.k = 3 ∨ o.k = 4 ∨ o.k = 5 ∨ o.k = 6 ∨ o.k = 7 ∨ o.k = 8 ∨ o.k = 9 := by
  unfold opB at h
  by_cases h1 : o.k = 1 ∨ o.k = 2 ∨ o.k = 8
  · omega
  · rw [if_neg h1] at h
    by_cases h3 : o.k = 3
    · omega
    · rw [if_neg h3] at h
      by_cases h4 : o.k = 4 ∨ o.k = 5 ∨ o.k = 6 ∨ o.k = 7
      · omega
      · rw [if_neg h4] at h
        by_cases h9 : o.k = 9
        · omega
        · rw [if_neg h9] at h
          cases h
theorem fdB_len9 {u t : ByteArray} {its : List It} (h : fdB u t its = true) : its.length ≤ 12 := by
  unfold fdB at h
  simp only [Bool.and_eq_true, decide_eq_true_eq] at h
  exact h.2.2
theorem op_its {o : OpD} (h : opB o = true) (hk : o.k = 3) : o.its.length ≤ 12 := by
  unfold opB at h
  rw [if_neg (by omega), if_pos hk] at h
  simp only [Bool.and_eq_true] at h
  exact fdB_len9 h.2
/-- What withChange answers. -/
def OutX (r : Option (List Sb)) (B : Nat) (w : World) (e : Ending) (w' : World) : Prop := match r with
  | none => OutNo w e w'
  | some ss => OutCh ss B w e w'

theorem withChange_any (v x : Value) (ps : List (Sb × Value)) (o : OpD) (B : Nat) (w : World) (h : OwnD w B v ps) (hB : B ≤ w.heap.size) (hsz : ∀ s ∈ ps.map Prod.fst, SbSz s ∧ ∀ x ∈ s.es, EnSz x) (hrd : rdB (ps.map Prod.fst) = true) (hop : opB o = true) (h1 : o.k ≠ 1) (h9 : o.k ≠ 9) (hx : ItAt w w.heap.size x o.its) :
    Calls Try.prog 52 #[v, opV o x] w (OutX (chV (ps.map Prod.fst) o) B w) := by
  have hr := rd_ris hrd
  have hl := rd_len hrd
  have hn : ps.length ≤ 900 := by rw [List.length_map] at hl; omega
  cases hf : fnB (sbKs (ps.map Prod.fst)) (opU o) with
  | false =>
    have e : chV (ps.map Prod.fst) o = none := by
      unfold chV
      rw [hf]
      split <;> simp
    rw [e]
    exact withChange_none v x ps o B w h hsz hr hn hx hf
  | true =>
    have hP0 := found_lt hf
    obtain ⟨P, hpl⟩ : ∃ P, plK (sbKs (ps.map Prod.fst)) (opU o) = P := ⟨_, rfl⟩
    have hP' : P < ps.length := by rw [← hpl]; exact hP0
    have hs1 : (ps.map Prod.fst)[P]? = some (ps[P].1) := by
      rw [List.getElem?_map, List.getElem?_eq_getElem hP']
      rfl
    have hm : ps[P].1 ∈ ps.map Prod.fst := List.mem_map.2 ⟨_, List.getElem_mem hP', rfl⟩
    have hsb := rd_sub hrd _ hm
    have hle := sb_len hsb
    have hre := sb_ris hsb
    have e : chV (ps.map Prod.fst) o = (if o.k = 2 then some ((ps.map Prod.fst).take P ++ (ps.map Prod.fst).drop (P + 1))
       else if o.k = 8 then some ((ps.map Prod.fst).set P (alS (ps[P].1)))
       else if o.k = 3 then some ((ps.map Prod.fst).set P (ftS (ps[P].1) o.ft o.its))
       else if fnB (enKs (ps[P].1).es) o.i = true then some ((ps.map Prod.fst).set P (mkS (ps[P].1) o.i o.k)) else none) := by
      unfold chV
      rw [hf, hpl, hs1]
      rfl
    rw [e]
    clear e hs1 hm hsb hP0
    by_cases h2 : o.k = 2
    · rw [if_pos h2]
      have hu : opU o = o.u := by unfold opU; rw [if_neg (by omega)]
      rw [hu] at hf hpl
      have := withChange_drop v x ps o B w h hB hsz hr hn hx h2 hf
      rw [hpl, List.map_append, List.map_take, List.map_drop] at this
      exact this
    · rw [if_neg h2]
      by_cases h8 : o.k = 8
      · rw [if_pos h8]
        have hu : opU o = o.u := by unfold opU; rw [if_neg (by omega)]
        rw [hu] at hf hpl
        exact withChange_all v x ps o B P w h hB hsz hr hn hx h8 hf hpl hP' (by omega)
      · rw [if_neg h8]
        by_cases h3 : o.k = 3
        · rw [if_pos h3]
          have hu : opU o = o.fu := by unfold opU; rw [if_pos h3]
          rw [hu] at hf hpl
          exact withChange_fetch v x ps o B P w h hB hsz hr hn hx h3 hf hpl hP' (by omega) (by have := op_its hop h3; omega) hre
        · rw [if_neg h3]
          have hu : opU o = o.u := by unfold opU; rw [if_neg h3]
          rw [hu] at hf hpl
          have hk : o.k = 4 ∨ o.k = 5 ∨ o.k = 6 ∨ o.k = 7 := by have := op_kinds hop; omega
          cases hfe : fnB (enKs ps[P].1.es) o.i with
          | true =>
            rw [if_pos rfl]
            exact withChange_mark v x ps o B P w h hB hsz hr hn hx hk hf hpl hP' (by omega) hre hfe
          | false =>
            rw [if_neg (by simp)]
            exact withChange_noentry v x ps o B P w h hB hsz hr hn hx hk hf hpl hP' (by omega) hre hfe
end Go.Proofs.Ytffkakpbelknaaa
