/- Joined: W9zl, W9zm. -/
import Derived.Test.YtgimjfffdnopiaaH34
/- W9zl -/
namespace Go.Proofs.Ytgimjfffdnopiaa
open Go.ChangeShapes Go.WideShapes Go.ChangeAt Go.RowKit
set_option linter.unusedVariables false

def alS (s : Sb) : Sb := { s with es := rdAll s.es }
theorem alS_sz {s : Sb} (h : SbSz s ∧ ∀ x ∈ s.es, EnSz x) : SbSz (alS s) ∧ ∀ x ∈ (alS s).es, EnSz x := by
  refine ⟨h.1, fun x hx => ?_⟩
  obtain ⟨y, hy, rfl⟩ := List.mem_map.1 hx
  exact h.2 y hy

set_option maxRecDepth 100000 in
set_option maxHeartbeats 1600000 in
theorem withChange_all (v x : Value) (ps : List (Sb × Value)) (o : OpD) (B P : Nat) (w : World) (h : OwnD w B v ps) (hB : B ≤ w.heap.size) (hsz : ∀ s ∈ ps.map Prod.fst, SbSz s ∧ ∀ x ∈ s.es, EnSz x) (hr : risB (sbKs (ps.map Prod.fst)) = true) (hn : ps.length ≤ 900) (hx : ItAt w w.heap.size x o.its) (hk : o.k = 8) (hf : fnB (sbKs (ps.map Prod.fst)) o.u = true) (hpl : plK (sbKs (ps.map Prod.fst)) o.u = P) (hP : P < ps.length) (hne : ps[P].1.es.length ≤ 1000) :
    Calls Try.prog 63 #[v, opV o x] w (OutCh ((ps.map Prod.fst).set P (alS ps[P].1)) B w) := by
  have HP := Lib.hid (fun w h => placeOfS_any v (ps.map Prod.fst) o.u w h (by rw [List.length_map]; omega) (ris_mono hr o.u))
  have hkey : ps[P].1.u = o.u := by subst hpl; exact found_key hf hP
  have HI := Lib.hid (OwnS.at h.ownS hsz)
  have HD := Lib.hid h
  obtain ⟨qs, hqs⟩ : ∃ qs, qs = ps.set P (alS ps[P].1, ps[P].2) := ⟨_, rfl⟩
  have hql : P < qs.length := by rw [hqs, List.length_set]; exact hP
  have hq1 : qs[P] = (alS ps[P].1, ps[P].2) := by subst hqs; exact List.getElem_set_self _
  have HKs : Hid (sbKs (qs.map Prod.fst) = sbKs (ps.map Prod.fst)) := Lib.hid (by rw [hqs]; exact keys_same ps P hP _ _ rfl)
  have HW : Hid (∀ w3, B ≤ w3.heap.size → OwnD w3 B v qs → Calls Try.prog 125 #[v, sbV ps[P].1.u ps[P].1.t ps[P].2] w3 fun e w' => ∃ y, e = .returned y ∧ OwnD w' B y qs ∧ Below w3.heap.size w3 w') := Lib.hid (fun w3 hB3 h3 => by
    have := with_back v qs P hql o.u B w3 h3 hB3 (by rw [hqs]; exact sz_set hsz P _ _ (alS_sz (hsz _ (List.mem_map.2 ⟨_, List.getElem_mem hP, rfl⟩)))) (by rw [HKs.out]; exact hr) (by rw [hqs, List.length_set]; exact hn) (by rw [HKs.out, hq1]; show plK _ ps[P].1.u = P; rw [hkey]; exact hpl) (by rw [HKs.out, hq1]; show fnB _ ps[P].1.u = true; rw [hkey]; exact hf)
    rw [hq1] at this
    exact this)
  rw [hf, hpl] at HP
  have hXb : ∀ b, ps[P].2.ownBlock = some b → B ≤ b ∧ b < w.heap.size := fun b hb => World.ownsRow.lt (h.2.1 _ (List.getElem_mem hP)) b hb
  have HIn : Hid (∀ w1 w2, Below w.heap.size w w1 → w1.grownBy w2 ps[P].2.ownBlock → OwnR 103 5 enC w2 B ps[P].2 (rdAll ps[P].1.es) → OwnD w2 B v qs ∧ Below B w w2) := Lib.hid (fun w1 w2 h1 h2 h3 => by
    refine ⟨?_, (h1.mono hB).trans (gb_Below h2 (Nat.le_trans hB h1.size) (fun b hb => (hXb b hb).1))⟩
    rw [hqs]
    exact (HD.out.keep h1 (Nat.le_refl _)).inplace P hP (alS ps[P].1) rfl rfl h2 h3)
  have HOf : Hid (∀ w2 p z, w.heap.size ≤ p.block → OwnD w2 B v qs → OwnD (w2.setCell p z) B v qs) := Lib.hid (fun w2 p z hp h2 => by
    refine h2.off p z (fun e => ?_) (fun q hq e => ?_)
    · have := (World.ownsRow.lt HD.out.1 _ e).2; omega
    · have hq2 : ∃ q' ∈ ps, q'.2 = q.2 := by
        rw [hqs] at hq
        rcases List.mem_or_eq_of_mem_set hq with h | h
        · exact ⟨q, h, rfl⟩
        · exact ⟨_, List.getElem_mem hP, by rw [h]⟩
      obtain ⟨q', hq', e2⟩ := hq2
      have := (World.ownsRow.lt (HD.out.2.1 q' hq') p.block (by rw [e2]; exact e)).2
      omega)
  have HZ : Hid (qs.map Prod.fst = (ps.map Prod.fst).set P (alS ps[P].1)) := Lib.hid (by rw [hqs, List.map_set])
  have HA := Lib.hid (fun (w : World) (h : OwnR 103 5 enC w B ps[P].2 ps[P].1.es) => allRead_any ps[P].1 ps[P].2 B w h hne)
  obtain ⟨g, cap, rfl, hg, hBg, hcm, hcl⟩ := h.some (by omega)
  obtain ⟨xa, xc, rfl⟩ := hx.1.slice
  have HCe : Hid (∀ w2, OwnR 99 3 sbC w2 B (.slice (some ⟨g, 0, none⟩) ps.length cap) ps → w2.cell? ⟨g, P * 3, none⟩ = some (.string ps[P].1.u) ∧ w2.cell? ⟨g, P * 3 + 1, none⟩ = some (.string ps[P].1.t) ∧ w2.cell? ⟨g, P * 3 + 2, none⟩ = some ps[P].2) := Lib.hid (fun w2 h => ⟨h.val sbC_len rfl P 0 _ hP rfl, h.val sbC_len rfl P 1 _ hP rfl, h.val sbC_len rfl P 2 _ hP rfl⟩)
  have HEo : Hid (∀ w1, Below w.heap.size w w1 → OwnR 103 5 enC w1 B ps[P].2 ps[P].1.es) := Lib.hid (fun w1 h1 => (HD.out.2.1 _ (List.getElem_mem hP)).keep h1 (Nat.le_refl _))
  have HXb : Hid (ps[P].2.ownBlock ≠ some w.heap.size ∧ ∀ w1 : World, w.heap.size ≤ w1.heap.size → ps[P].2.ownBlock ≠ some w1.heap.size) := Lib.hid ⟨fun e => by have := (hXb _ e).2; omega, fun w1 h1 e => by have := (hXb _ e).2; omega⟩
  obtain ⟨ya, yc, hye⟩ := (h.2.1 _ (List.getElem_mem hP)).slice
  obtain ⟨i, u, k, d, fu, ft, its⟩ := o
  simp only at hk HP ⊢
  subst hk
  rw [← HZ.out]
  unfold OutAR at HA
  generalize ps[P].1.es = E at HA HEo HIn hye
  generalize ps[P].1.u = S0 at HA HCe HW
  generalize ps[P].1.t = S1 at HA HCe HW
  generalize ps[P].2 = X at HA HCe HW HEo HIn HXb hye
  subst hye
  clear h hsz hr hf hx hpl hkey hqs hql hq1 HKs hXb hne HZ
  have hB0 : Below w.heap.size w (w.alloc (.cells #[.int .i64 8, .string u, .string k, .int .i64 d, .string fu, .string ft, .slice xa its.length xc] 38)) := (Below.refl _ _).alloc (Nat.le_refl _) _
  have hX0 := Box.new w #[.int .i64 8, .string u, .string k, .int .i64 d, .string fu, .string ft, .slice xa its.length xc] 38
  go_enter Try.func63, Try.ntmps63
  go_wp2_with fail
  refine (HP.out _ ((HI.out.below hB0).mono hB0.size)).mono ?_
  rintro e w1 ⟨rfl, hb1⟩
  have hB1 := hB0.trans (hb1.mono hB0.size)
  have hX1 := hX0.keep hb1 hX0.lt
  obtain ⟨c0, c1, c2⟩ := HCe.out _ (HD.out.1.keep hB1 (Nat.le_refl _))
  have f0 := hX1.cell 0 _ rfl
  have f0' : (w1.alloc (.cells #[.string S0, .string S1, .slice ya E.length yc] 99)).cell? ⟨w.heap.size, 0, none⟩ = some (.int .i64 8) := (hX1.alloc _).cell 0 _ rfl
  have hB2 : Below w.heap.size w (w1.alloc (.cells #[.string S0, .string S1, .slice ya E.length yc] 99)) := hB1.alloc hB1.size _
  have hS := Box.new w1 #[.string S0, .string S1, .slice ya E.length yc] 99
  have hw1 : w.heap.size ≤ w1.heap.size := hB1.size
  clear hb1 hB0 hB1 hX0
  go_wp2_with fail
  refine (HA.out _ (HEo.out _ hB2)).mono ?_
  rintro e w2 ⟨rfl, ho2, hg2⟩
  obtain ⟨hO2, hBe2⟩ := HIn.out _ w2 hB2 hg2 ho2
  have hS2 : Box w2 w1.heap.size #[.string S0, .string S1, .slice ya E.length yc] 99 := (hg2.block _ hS.lt (fun e => HXb.out.2 w1 hw1 e.symm)).trans hS
  have hsf := hS2.free
  have s0 := hS2.cell 0 _ rfl
  have s1 := hS2.cell 1 _ rfl
  have s2 := hS2.cell 2 _ rfl
  have HO2 := Lib.hid hO2
  have HS2 := Lib.hid hS2
  have HB2 := Lib.hid hBe2
  clear hO2 hBe2 hg2 ho2 c0 c1 c2 f0 f0' hB2 hS hX1 hS2 HA HIn HCe HEo
  go_wp2_with fail
  have hO3 := HOf.out _ ⟨w1.heap.size, 2, none⟩ (.slice ya E.length yc) hw1 (HOf.out _ ⟨w1.heap.size, 1, none⟩ (.string S1) hw1 (HOf.out _ ⟨w1.heap.size, 0, none⟩ (.string S0) hw1 HO2.out))
  have hBe3 : Below B w (((w2.setCell ⟨w1.heap.size, 0, none⟩ (.string S0)).setCell ⟨w1.heap.size, 1, none⟩ (.string S1)).setCell ⟨w1.heap.size, 2, none⟩ (.slice ya E.length yc)) := ((HB2.out.setCell (p := ⟨w1.heap.size, 0, none⟩) (by show B ≤ w1.heap.size; omega) _).setCell (p := ⟨w1.heap.size, 1, none⟩) (by show B ≤ w1.heap.size; omega) _).setCell (p := ⟨w1.heap.size, 2, none⟩) (by show B ≤ w1.heap.size; omega) _
  generalize ((w2.setCell ⟨w1.heap.size, 0, none⟩ (.string S0)).setCell ⟨w1.heap.size, 1, none⟩ (.string S1)).setCell ⟨w1.heap.size, 2, none⟩ (.slice ya E.length yc) = W3 at hO3 hBe3 ⊢
  refine (HW.out W3 (Nat.le_trans hB hBe3.size) hO3).mono ?_
  rintro e w4 ⟨y, rfl, hO4, hb4⟩
  have HE : Hid (OutCh (qs.map Prod.fst) B w (.returned (.tuple #[y, .bool true])) w4) := Lib.hid ⟨y, qs, rfl, rfl, hO4, hBe3.trans (hb4.mono (Nat.le_trans hB hBe3.size))⟩
  clear hO3 hO4 hb4 hBe3 hsf s0 s1 s2
  go_wp2
  go_ret2
  exact HE.out
end Go.Proofs.Ytgimjfffdnopiaa

/- W9zm -/
namespace Go.Proofs.Ytgimjfffdnopiaa
open Go.ChangeShapes Go.WideShapes Go.ChangeAt Go.RowKit
set_option linter.unusedVariables false

def mkS (s : Sb) (id : ByteArray) (k : Int) : Sb := { s with es := mkAt s.es (plK (enKs s.es) id) k }
theorem mkE_it (x : En) (k : Int) : (mkE x k).it = x.it := by
  unfold mkE
  by_cases h4 : k = 4
  · rw [if_pos h4]
  · rw [if_neg h4]
    by_cases h5 : k = 5
    · rw [if_pos h5]
    · rw [if_neg h5]
      by_cases h6 : k = 6
      · rw [if_pos h6]
      · rw [if_neg h6]
theorem mkS_sz {s : Sb} (id : ByteArray) (k : Int) (h : SbSz s ∧ ∀ x ∈ s.es, EnSz x) : SbSz (mkS s id k) ∧ ∀ x ∈ (mkS s id k).es, EnSz x := by
  refine ⟨h.1, fun x hx => ?_⟩
  unfold mkS mkAt at hx
  simp only at hx
  split at hx
  · rename_i y hy
    rcases List.mem_or_eq_of_mem_set hx with h1 | h1
    · exact h.2 x h1
    · rw [h1]
      have := h.2 y (List.mem_of_getElem? hy)
      unfold EnSz at this ⊢
      rw [mkE_it]
      exact this
  · exact h.2 x hx

set_option maxRecDepth 100000 in
set_option maxHeartbeats 1600000 in
theorem withChange_mark (v x : Value) (ps : List (Sb × Value)) (o : OpD) (B P : Nat) (w : World) (h : OwnD w B v ps) (hB : B ≤ w.heap.size) (hsz : ∀ s ∈ ps.map Prod.fst, SbSz s ∧ ∀ x ∈ s.es, EnSz x) (hr : risB (sbKs (ps.map Prod.fst)) = true) (hn : ps.length ≤ 900) (hx : ItAt w w.heap.size x o.its) (hk : o.k = 4 ∨ o.k = 5 ∨ o.k = 6 ∨ o.k = 7) (hf : fnB (sbKs (ps.map Prod.fst)) o.u = true) (hpl : plK (sbKs (ps.map Prod.fst)) o.u = P) (hP : P < ps.length) (hne : ps[P].1.es.length ≤ 1000) (hre : risB (enKs ps[P].1.es) = true) (hfe : fnB (enKs ps[P].1.es) o.i = true) :
    Calls Try.prog 63 #[v, opV o x] w (OutCh ((ps.map Prod.fst).set P (mkS ps[P].1 o.i o.k)) B w) := by
  have HP := Lib.hid (fun w h => placeOfS_any v (ps.map Prod.fst) o.u w h (by rw [List.length_map]; omega) (ris_mono hr o.u))
  have hkey : ps[P].1.u = o.u := by subst hpl; exact found_key hf hP
  have HI := Lib.hid (OwnS.at h.ownS hsz)
  have HD := Lib.hid h
  obtain ⟨qs, hqs⟩ : ∃ qs, qs = ps.set P (mkS ps[P].1 o.i o.k, ps[P].2) := ⟨_, rfl⟩
  have hql : P < qs.length := by rw [hqs, List.length_set]; exact hP
  have hq1 : qs[P] = (mkS ps[P].1 o.i o.k, ps[P].2) := by subst hqs; exact List.getElem_set_self _
  have HKs : Hid (sbKs (qs.map Prod.fst) = sbKs (ps.map Prod.fst)) := Lib.hid (by rw [hqs]; exact keys_same ps P hP _ _ rfl)
  have HW : Hid (∀ w3, B ≤ w3.heap.size → OwnD w3 B v qs → Calls Try.prog 125 #[v, sbV ps[P].1.u ps[P].1.t ps[P].2] w3 fun e w' => ∃ y, e = .returned y ∧ OwnD w' B y qs ∧ Below w3.heap.size w3 w') := Lib.hid (fun w3 hB3 h3 => by
    have := with_back v qs P hql o.u B w3 h3 hB3 (by rw [hqs]; exact sz_set hsz P _ _ (mkS_sz _ _ (hsz _ (List.mem_map.2 ⟨_, List.getElem_mem hP, rfl⟩)))) (by rw [HKs.out]; exact hr) (by rw [hqs, List.length_set]; exact hn) (by rw [HKs.out, hq1]; show plK _ ps[P].1.u = P; rw [hkey]; exact hpl) (by rw [HKs.out, hq1]; show fnB _ ps[P].1.u = true; rw [hkey]; exact hf)
    rw [hq1] at this
    exact this)
  rw [hf, hpl] at HP
  have hXb : ∀ b, ps[P].2.ownBlock = some b → B ≤ b ∧ b < w.heap.size := fun b hb => World.ownsRow.lt (h.2.1 _ (List.getElem_mem hP)) b hb
  have HIn : Hid (∀ w1 w2, Below w.heap.size w w1 → w1.grownBy w2 ps[P].2.ownBlock → OwnR 103 5 enC w2 B ps[P].2 (mkAt ps[P].1.es (plK (enKs ps[P].1.es) o.i) o.k) → OwnD w2 B v qs ∧ Below B w w2) := Lib.hid (fun w1 w2 h1 h2 h3 => by
    refine ⟨?_, (h1.mono hB).trans (gb_Below h2 (Nat.le_trans hB h1.size) (fun b hb => (hXb b hb).1))⟩
    rw [hqs]
    exact (HD.out.keep h1 (Nat.le_refl _)).inplace P hP (mkS ps[P].1 o.i o.k) rfl rfl h2 h3)
  have HOf : Hid (∀ w2 p z, w.heap.size ≤ p.block → OwnD w2 B v qs → OwnD (w2.setCell p z) B v qs) := Lib.hid (fun w2 p z hp h2 => by
    refine h2.off p z (fun e => ?_) (fun q hq e => ?_)
    · have := (World.ownsRow.lt HD.out.1 _ e).2; omega
    · have hq2 : ∃ q' ∈ ps, q'.2 = q.2 := by
        rw [hqs] at hq
        rcases List.mem_or_eq_of_mem_set hq with h | h
        · exact ⟨q, h, rfl⟩
        · exact ⟨_, List.getElem_mem hP, by rw [h]⟩
      obtain ⟨q', hq', e2⟩ := hq2
      have := (World.ownsRow.lt (HD.out.2.1 q' hq') p.block (by rw [e2]; exact e)).2
      omega)
  have HZ : Hid (qs.map Prod.fst = (ps.map Prod.fst).set P (mkS ps[P].1 o.i o.k)) := Lib.hid (by rw [hqs, List.map_set])
  have HA := Lib.hid (fun (w : World) (h : OwnR 103 5 enC w B ps[P].2 ps[P].1.es) => marked_any ps[P].1 ps[P].2 B o.i o.k w hk h (hsz _ (List.mem_map.2 ⟨_, List.getElem_mem hP, rfl⟩)).2 hre hne)
  obtain ⟨g, cap, rfl, hg, hBg, hcm, hcl⟩ := h.some (by omega)
  obtain ⟨xa, xc, rfl⟩ := hx.1.slice
  have HCe : Hid (∀ w2, OwnR 99 3 sbC w2 B (.slice (some ⟨g, 0, none⟩) ps.length cap) ps → w2.cell? ⟨g, P * 3, none⟩ = some (.string ps[P].1.u) ∧ w2.cell? ⟨g, P * 3 + 1, none⟩ = some (.string ps[P].1.t) ∧ w2.cell? ⟨g, P * 3 + 2, none⟩ = some ps[P].2) := Lib.hid (fun w2 h => ⟨h.val sbC_len rfl P 0 _ hP rfl, h.val sbC_len rfl P 1 _ hP rfl, h.val sbC_len rfl P 2 _ hP rfl⟩)
  have HEo : Hid (∀ w1, Below w.heap.size w w1 → OwnR 103 5 enC w1 B ps[P].2 ps[P].1.es) := Lib.hid (fun w1 h1 => (HD.out.2.1 _ (List.getElem_mem hP)).keep h1 (Nat.le_refl _))
  have HXb : Hid (ps[P].2.ownBlock ≠ some w.heap.size ∧ ∀ w1 : World, w.heap.size ≤ w1.heap.size → ps[P].2.ownBlock ≠ some w1.heap.size) := Lib.hid ⟨fun e => by have := (hXb _ e).2; omega, fun w1 h1 e => by have := (hXb _ e).2; omega⟩
  obtain ⟨ya, yc, hye⟩ := (h.2.1 _ (List.getElem_mem hP)).slice
  unfold OutMK at HA
  simp only [hfe, if_true] at HA
  rw [← HZ.out]
  clear HZ
  obtain ⟨k, u, i, d, fu, ft, its⟩ := o
  simp only at hk HP HA HIn hre hfe ⊢
  have hk2 : (k == 2) = false := by rw [beq_eq_false_iff_ne]; omega
  have hk8 : (k == 8) = false := by rw [beq_eq_false_iff_ne]; omega
  have hk3 : (k == 3) = false := by rw [beq_eq_false_iff_ne]; omega
  obtain ⟨M, hM⟩ : ∃ M, M = mkAt ps[P].1.es (plK (enKs ps[P].1.es) i) k := ⟨_, rfl⟩
  rw [← hM] at HA HIn
  clear hk hre hfe hM
  generalize ps[P].1.es = E at HA HEo HIn hye
  generalize ps[P].1.u = S0 at HA HCe HW
  generalize ps[P].1.t = S1 at HA HCe HW
  generalize ps[P].2 = X at HA HCe HW HEo HIn HXb hye
  subst hye
  clear h hsz hr hf hx hpl hkey hqs hql hq1 HKs hXb hne
  have hB0 : Below w.heap.size w (w.alloc (.cells #[.int .i64 k, .string u, .string i, .int .i64 d, .string fu, .string ft, .slice xa its.length xc] 38)) := (Below.refl _ _).alloc (Nat.le_refl _) _
  have hX0 := Box.new w #[.int .i64 k, .string u, .string i, .int .i64 d, .string fu, .string ft, .slice xa its.length xc] 38
  go_enter Try.func63, Try.ntmps63
  go_wp2_with fail
  refine (HP.out _ ((HI.out.below hB0).mono hB0.size)).mono ?_
  rintro e w1 ⟨rfl, hb1⟩
  have hB1 := hB0.trans (hb1.mono hB0.size)
  have hX1 := hX0.keep hb1 hX0.lt
  obtain ⟨c0, c1, c2⟩ := HCe.out _ (HD.out.1.keep hB1 (Nat.le_refl _))
  have f0 := hX1.cell 0 _ rfl
  have f0' : (w1.alloc (.cells #[.string S0, .string S1, .slice ya E.length yc] 99)).cell? ⟨w.heap.size, 0, none⟩ = some (.int .i64 k) := (hX1.alloc _).cell 0 _ rfl
  have f2' : (w1.alloc (.cells #[.string S0, .string S1, .slice ya E.length yc] 99)).cell? ⟨w.heap.size, 2, none⟩ = some (.string i) := (hX1.alloc _).cell 2 _ rfl
  have hB2 : Below w.heap.size w (w1.alloc (.cells #[.string S0, .string S1, .slice ya E.length yc] 99)) := hB1.alloc hB1.size _
  have hS := Box.new w1 #[.string S0, .string S1, .slice ya E.length yc] 99
  have hw1 : w.heap.size ≤ w1.heap.size := hB1.size
  clear hb1 hB0 hB1 hX0
  go_wp2_with fail
  refine (HA.out _ (HEo.out _ hB2)).mono ?_
  rintro e w2 ⟨rfl, ho2, hg2⟩
  obtain ⟨hO2, hBe2⟩ := HIn.out _ w2 hB2 hg2 ho2
  have hS2 : Box w2 w1.heap.size #[.string S0, .string S1, .slice ya E.length yc] 99 := (hg2.block _ hS.lt (fun e => HXb.out.2 w1 hw1 e.symm)).trans hS
  have hsf := hS2.free
  have s0 := hS2.cell 0 _ rfl
  have s1 := hS2.cell 1 _ rfl
  have s2 := hS2.cell 2 _ rfl
  have HO2 := Lib.hid hO2
  have HS2 := Lib.hid hS2
  have HB2 := Lib.hid hBe2
  clear hO2 hBe2 hg2 ho2 c0 c1 c2 f0 f0' f2' hB2 hS hX1 hS2 HA HIn HCe HEo
  go_wp2_with fail
  have hO3 := HOf.out _ ⟨w1.heap.size, 2, none⟩ (.slice ya E.length yc) hw1 (HOf.out _ ⟨w1.heap.size, 1, none⟩ (.string S1) hw1 (HOf.out _ ⟨w1.heap.size, 0, none⟩ (.string S0) hw1 HO2.out))
  have hBe3 : Below B w (((w2.setCell ⟨w1.heap.size, 0, none⟩ (.string S0)).setCell ⟨w1.heap.size, 1, none⟩ (.string S1)).setCell ⟨w1.heap.size, 2, none⟩ (.slice ya E.length yc)) := ((HB2.out.setCell (p := ⟨w1.heap.size, 0, none⟩) (by show B ≤ w1.heap.size; omega) _).setCell (p := ⟨w1.heap.size, 1, none⟩) (by show B ≤ w1.heap.size; omega) _).setCell (p := ⟨w1.heap.size, 2, none⟩) (by show B ≤ w1.heap.size; omega) _
  generalize ((w2.setCell ⟨w1.heap.size, 0, none⟩ (.string S0)).setCell ⟨w1.heap.size, 1, none⟩ (.string S1)).setCell ⟨w1.heap.size, 2, none⟩ (.slice ya E.length yc) = W3 at hO3 hBe3 ⊢
  refine (HW.out W3 (Nat.le_trans hB hBe3.size) hO3).mono ?_
  rintro e w4 ⟨y, rfl, hO4, hb4⟩
  have HE : Hid (OutCh (qs.map Prod.fst) B w (.returned (.tuple #[y, .bool true])) w4) := Lib.hid ⟨y, qs, rfl, rfl, hO4, hBe3.trans (hb4.mono (Nat.le_trans hB hBe3.size))⟩
  clear hO3 hO4 hb4 hBe3 hsf s0 s1 s2
  go_wp2
  go_ret2
  exact HE.out
end Go.Proofs.Ytgimjfffdnopiaa
