/- Joined: W14x. -/
import Derived.Test.YtffkakpbelknaaaS23
import Derived.Test.YtffkakpbelknaaaS40
/- W14x -/
namespace Go.Proofs.Ytffkakpbelknaaa
open Go.ChangeShapes Go.WideShapes Go.ChangeAt Go.RowKit
set_option linter.unusedVariables false
set_option linter.unusedSimpArgs false

def maF1 (k : Int) : Fi := ⟨mtX k, mtX (k + 1)⟩
def maFs (n : Nat) (m : Int) : List Fi := (List.range n).map fun i : Nat => maF1 (m + 2 * (i : Int))
theorem maFs_len (n : Nat) (m : Int) : (maFs n m).length = n := by simp [maFs]
theorem maFs_get (n : Nat) (m : Int) (i : Nat) (h : i < (maFs n m).length) : (maFs n m)[i] = maF1 (m + 2 * (i : Int)) := by simp [maFs]
theorem maFs_snoc (n : Nat) (m : Int) : maFs (n + 1) m = maFs n m ++ [maF1 (m + 2 * (n : Int))] := by
  unfold maFs
  rw [List.range_succ, List.map_append]
  rfl
theorem maFs_set (es : List Fi) (m : Int) (k : Nat) (h : k < es.length) : (maFs k m ++ es.drop k).set k (maF1 (m + 2 * (k : Int))) = maFs (k + 1) m ++ es.drop (k + 1) := by
  rw [List.set_append_right _ _ (by rw [maFs_len]; exact Nat.le_refl _), maFs_len, Nat.sub_self, List.drop_eq_getElem_cons h, List.set_cons_zero, maFs_snoc, List.append_assoc]
  rfl
theorem maFs_sz (n : Nat) (m : Int) : ∀ x ∈ maFs n m, FiSz x := by
  intro x hx
  unfold maFs at hx
  obtain ⟨i, _, rfl⟩ := List.mem_map.1 hx
  have h1 := mtX_size (m + 2 * (i : Int))
  have h2 := mtX_size (m + 2 * (i : Int) + 1)
  have h3 := mtX_size (m + 2 * (i : Int) + 1 + 1)
  have h4 := mtX_size (m + 2 * (i : Int) + 1 + 1 + 1)
  unfold maF1 FiSz maxLen
  exact ⟨by dsimp only; omega, by dsimp only; omega⟩

def maD1 (k : Int) : DOp := ⟨k, mtX (k + 1), mtX (k + 1 + 1), mtX (k + 1 + 1 + 1)⟩
def maDs (n : Nat) (m : Int) : List DOp := (List.range n).map fun i : Nat => maD1 (m + 4 * (i : Int))
theorem maDs_len (n : Nat) (m : Int) : (maDs n m).length = n := by simp [maDs]
theorem maDs_get (n : Nat) (m : Int) (i : Nat) (h : i < (maDs n m).length) : (maDs n m)[i] = maD1 (m + 4 * (i : Int)) := by simp [maDs]
theorem maDs_snoc (n : Nat) (m : Int) : maDs (n + 1) m = maDs n m ++ [maD1 (m + 4 * (n : Int))] := by
  unfold maDs
  rw [List.range_succ, List.map_append]
  rfl
theorem maDs_set (es : List DOp) (m : Int) (k : Nat) (h : k < es.length) : (maDs k m ++ es.drop k).set k (maD1 (m + 4 * (k : Int))) = maDs (k + 1) m ++ es.drop (k + 1) := by
  rw [List.set_append_right _ _ (by rw [maDs_len]; exact Nat.le_refl _), maDs_len, Nat.sub_self, List.drop_eq_getElem_cons h, List.set_cons_zero, maDs_snoc, List.append_assoc]
  rfl
theorem maDs_sz (n : Nat) (m : Int) : ∀ x ∈ maDs n m, DoSz x := by
  intro x hx
  unfold maDs at hx
  obtain ⟨i, _, rfl⟩ := List.mem_map.1 hx
  have h1 := mtX_size (m + 4 * (i : Int))
  have h2 := mtX_size (m + 4 * (i : Int) + 1)
  have h3 := mtX_size (m + 4 * (i : Int) + 1 + 1)
  have h4 := mtX_size (m + 4 * (i : Int) + 1 + 1 + 1)
  unfold maD1 DoSz maxLen
  exact ⟨by dsimp only; omega, by dsimp only; omega, by dsimp only; omega⟩


set_option maxRecDepth 100000 in
set_option maxHeartbeats 1600000 in
theorem markFileS_any (v : Value) (es : List Fi) (base : Nat) (m : Int) (w : World) (h : OwnR 167 2 fiC w base v es) (hm0 : 0 < m) (hm1 : m ≤ 100000000000000) (hn : es.length ≤ 1048576) :
    Calls Try.prog 80 #[v, .int .i64 m] w fun e w' => e = .returned (.int .i64 (m + 2 * (es.length : Int))) ∧ OwnR 167 2 fiC w' base v (maFs es.length m) ∧ w.grownBy w' v.ownBlock := by
  obtain ⟨va, vc, rfl⟩ := h.slice
  have HM := Lib.hid (fun k w h0 h1 => markText_any k w h0 h1)
  have HO := Lib.hid h
  clear h
  go_enter Try.func80, Try.ntmps80
  go_wp2
  go_loopw [1, 5] (fun c i wr => ∃ k : Nat, k ≤ es.length ∧ i = .int .i64 (k : Int) ∧ c = .int .i64 (m + 2 * (k : Int)) ∧ Hid (OwnR 167 2 fiC wr base (.slice va es.length vc) (maFs k m ++ es.drop k)) ∧ Hid (w.grownBy wr (Value.ownBlock (.slice va es.length vc)))) (fun _ i _ => es.length - (intOf i).toNat)
  case atStart => exact ⟨0, Nat.zero_le _, rfl, by simp, HO, Lib.hid (World.grownBy.refl _ _)⟩
  case round =>
    obtain ⟨k, hk, rfl, rfl, HD, HG⟩ := hrel
    clear HO
    by_cases hlt : k < es.length
    · have HL : Hid (es.length = (maFs k m ++ es.drop k).length) := Lib.hid (by rw [List.length_append, maFs_len, List.length_drop]; omega)
      obtain ⟨g, hva, hg1, hg2, hgn⟩ := OwnR.form HD.out (by rw [← HL.out]; omega)
      clear hgn
      subst hva
      have HK : Hid (k < (maFs k m ++ es.drop k).length) := Lib.hid (by rw [← HL.out]; exact hlt)
      have HSt := Lib.hid (maFs_set es m k hlt)
      have HD0 := Lib.hid (own_start HD.out HK.out)
      generalize (maFs k m ++ es.drop k)[k] = x0 at HD0
      generalize maFs k m ++ es.drop k = L at HD0 HSt HL HK
      clear HD
      obtain ⟨c, hc⟩ : ∃ c, c = m + 2 * (k : Int) := ⟨_, rfl⟩
      have hc0 : 0 < c := by omega
      have hc1 : c ≤ 100000000000000 + 2 * 1048576 := by omega
      have HC2 : Hid (m + 2 * ((k : Int) + 1) = c + 2) := Lib.hid (by omega)
      rw [← hc] at HSt ⊢
      have HC := Lib.hid hc
      clear hc hm0 hm1
      go_wp2_with fail
      refine (HM.out (c) _ (by omega) (by omega)).mono ?_
      rintro e w1 ⟨rfl, hb1⟩
      have HD1k := Lib.hid ((HD0.out).keep hb1 (Nat.le_refl _))
      have HG1k : Hid (w.grownBy w1 (some g)) := Lib.hid ((show w.grownBy wr (some g) from HG.out).trans (gb_any hb1))
      obtain ⟨X0, hX0⟩ : ∃ X, X = mtX (c) := ⟨_, rfl⟩
      rw [← hX0]
      have HX0 := Lib.hid hX0
      clear hX0 hb1
      obtain ⟨u0z, hu0z⟩ : ∃ u, (w1).cell? ⟨g, k * 2, none⟩ = some u := ⟨_, by have := own_cell fiC_len (HD1k.out) HL.out HK.out 0 _ rfl; exact this⟩
      have fz0 := own_free (HD1k.out) HL.out
      have HD1 : Hid (OwnR 167 2 fiC ((w1).setCell ⟨g, k * 2, none⟩ (.string X0)) base (.slice (some ⟨g, 0, none⟩) es.length vc) (L.set k ⟨X0, x0.da⟩)) := Lib.hid (by have := own_fld (x' := ⟨X0, x0.da⟩) fiC_len (HD1k.out) HL.out HK.out 0 (.string X0) (by decide) rfl; exact this)
      have HG1 : Hid (w.grownBy ((w1).setCell ⟨g, k * 2, none⟩ (.string X0)) (some g)) := Lib.hid (gb_set1 g _ _ (HG1k.out))
      go_wp2_with fail
      refine (HM.out (c + 1) _ (by omega) (by omega)).mono ?_
      rintro e w2 ⟨rfl, hb2⟩
      have HD2k := Lib.hid ((HD1.out).keep hb2 (Nat.le_refl _))
      have HG2k : Hid (w.grownBy w2 (some g)) := Lib.hid ((HG1.out).trans (gb_any hb2))
      obtain ⟨X1, hX1⟩ : ∃ X, X = mtX (c + 1) := ⟨_, rfl⟩
      rw [← hX1]
      have HX1 := Lib.hid hX1
      clear hX1 hb2
      obtain ⟨u1z, hu1z⟩ : ∃ u, (w2).cell? ⟨g, k * 2 + 1, none⟩ = some u := ⟨_, by have := own_cell fiC_len (HD2k.out) HL.out HK.out 1 _ rfl; exact this⟩
      have fz1 := own_free (HD2k.out) HL.out
      have HD2 : Hid (OwnR 167 2 fiC ((w2).setCell ⟨g, k * 2 + 1, none⟩ (.string X1)) base (.slice (some ⟨g, 0, none⟩) es.length vc) (L.set k ⟨X0, X1⟩)) := Lib.hid (by have := own_fld (x' := ⟨X0, X1⟩) fiC_len (HD2k.out) HL.out HK.out 1 (.string X1) (by decide) rfl; exact this)
      have HG2 : Hid (w.grownBy ((w2).setCell ⟨g, k * 2 + 1, none⟩ (.string X1)) (some g)) := Lib.hid (gb_set1 g _ _ (HG2k.out))
      go_wp2
      go_roundw
      case rel => exact ⟨k + 1, by omega, by go_num, by have := HC2.out; simp; omega, Lib.hid (by rw [← HSt.out, show maF1 c = ⟨X0, X1⟩ by rw [HX0.out, HX1.out]; rfl]; exact HD2.out), HG2⟩
      case measure => simp [intOf]; omega
    · have hke : k = es.length := by omega
      have HE : Hid (OwnR 167 2 fiC wr base (.slice va es.length vc) (maFs es.length m)) := Lib.hid (by have := HD.out; rw [hke, List.drop_length, List.append_nil] at this; exact this)
      have HZ : Hid (m + 2 * (k : Int) = m + 2 * (es.length : Int)) := Lib.hid (by omega)
      clear hke HD
      go_wp2
      go_ret
      exact ⟨ret_int HZ.out, HE.out, HG.out⟩

set_option maxRecDepth 100000 in
set_option maxHeartbeats 1600000 in
theorem markDOpS_any (v : Value) (es : List DOp) (base : Nat) (m : Int) (w : World) (h : OwnR 68 4 doC w base v es) (hm0 : 0 < m) (hm1 : m ≤ 100000000000000) (hn : es.length ≤ 1048576) :
    Calls Try.prog 81 #[v, .int .i64 m] w fun e w' => e = .returned (.int .i64 (m + 4 * (es.length : Int))) ∧ OwnR 68 4 doC w' base v (maDs es.length m) ∧ w.grownBy w' v.ownBlock := by
  obtain ⟨va, vc, rfl⟩ := h.slice
  have HM := Lib.hid (fun k w h0 h1 => markText_any k w h0 h1)
  have HO := Lib.hid h
  clear h
  go_enter Try.func81, Try.ntmps81
  go_wp2
  go_loopw [1, 5] (fun c i wr => ∃ k : Nat, k ≤ es.length ∧ i = .int .i64 (k : Int) ∧ c = .int .i64 (m + 4 * (k : Int)) ∧ Hid (OwnR 68 4 doC wr base (.slice va es.length vc) (maDs k m ++ es.drop k)) ∧ Hid (w.grownBy wr (Value.ownBlock (.slice va es.length vc)))) (fun _ i _ => es.length - (intOf i).toNat)
  case atStart => exact ⟨0, Nat.zero_le _, rfl, by simp, HO, Lib.hid (World.grownBy.refl _ _)⟩
  case round =>
    obtain ⟨k, hk, rfl, rfl, HD, HG⟩ := hrel
    clear HO
    by_cases hlt : k < es.length
    · have HL : Hid (es.length = (maDs k m ++ es.drop k).length) := Lib.hid (by rw [List.length_append, maDs_len, List.length_drop]; omega)
      obtain ⟨g, hva, hg1, hg2, hgn⟩ := OwnR.form HD.out (by rw [← HL.out]; omega)
      clear hgn
      subst hva
      have HK : Hid (k < (maDs k m ++ es.drop k).length) := Lib.hid (by rw [← HL.out]; exact hlt)
      have HSt := Lib.hid (maDs_set es m k hlt)
      have HD0 := Lib.hid (own_start HD.out HK.out)
      generalize (maDs k m ++ es.drop k)[k] = x0 at HD0
      generalize maDs k m ++ es.drop k = L at HD0 HSt HL HK
      clear HD
      obtain ⟨c, hc⟩ : ∃ c, c = m + 4 * (k : Int) := ⟨_, rfl⟩
      have hc0 : 0 < c := by omega
      have hc1 : c ≤ 100000000000000 + 4 * 1048576 := by omega
      have HC2 : Hid (m + 4 * ((k : Int) + 1) = c + 4) := Lib.hid (by omega)
      rw [← hc] at HSt ⊢
      have HC := Lib.hid hc
      clear hc hm0 hm1
      obtain ⟨u0z, hu0z⟩ : ∃ u, (wr).cell? ⟨g, k * 4, none⟩ = some u := ⟨_, by have := own_cell doC_len (HD0.out) HL.out HK.out 0 _ rfl; exact this⟩
      have fz0 := own_free (HD0.out) HL.out
      have HD1 : Hid (OwnR 68 4 doC ((wr).setCell ⟨g, k * 4, none⟩ (.int .i64 c)) base (.slice (some ⟨g, 0, none⟩) es.length vc) (L.set k ⟨c, x0.nm, x0.tn, x0.da⟩)) := Lib.hid (by have := own_fld (x' := ⟨c, x0.nm, x0.tn, x0.da⟩) doC_len (HD0.out) HL.out HK.out 0 (.int .i64 c) (by decide) rfl; exact this)
      have HG1 : Hid (w.grownBy ((wr).setCell ⟨g, k * 4, none⟩ (.int .i64 c)) (some g)) := Lib.hid (gb_set1 g _ _ (show w.grownBy wr (some g) from HG.out))
      go_wp2_with fail
      refine (HM.out (c + 1) _ (by omega) (by omega)).mono ?_
      rintro e w2 ⟨rfl, hb2⟩
      have HD2k := Lib.hid ((HD1.out).keep hb2 (Nat.le_refl _))
      have HG2k : Hid (w.grownBy w2 (some g)) := Lib.hid ((HG1.out).trans (gb_any hb2))
      obtain ⟨X1, hX1⟩ : ∃ X, X = mtX (c + 1) := ⟨_, rfl⟩
      rw [← hX1]
      have HX1 := Lib.hid hX1
      clear hX1 hb2
      obtain ⟨u1z, hu1z⟩ : ∃ u, (w2).cell? ⟨g, k * 4 + 1, none⟩ = some u := ⟨_, by have := own_cell doC_len (HD2k.out) HL.out HK.out 1 _ rfl; exact this⟩
      have fz1 := own_free (HD2k.out) HL.out
      have HD2 : Hid (OwnR 68 4 doC ((w2).setCell ⟨g, k * 4 + 1, none⟩ (.string X1)) base (.slice (some ⟨g, 0, none⟩) es.length vc) (L.set k ⟨c, X1, x0.tn, x0.da⟩)) := Lib.hid (by have := own_fld (x' := ⟨c, X1, x0.tn, x0.da⟩) doC_len (HD2k.out) HL.out HK.out 1 (.string X1) (by decide) rfl; exact this)
      have HG2 : Hid (w.grownBy ((w2).setCell ⟨g, k * 4 + 1, none⟩ (.string X1)) (some g)) := Lib.hid (gb_set1 g _ _ (HG2k.out))
      go_wp2_with fail
      refine (HM.out (c + 1 + 1) _ (by omega) (by omega)).mono ?_
      rintro e w3 ⟨rfl, hb3⟩
      have HD3k := Lib.hid ((HD2.out).keep hb3 (Nat.le_refl _))
      have HG3k : Hid (w.grownBy w3 (some g)) := Lib.hid ((HG2.out).trans (gb_any hb3))
      obtain ⟨X2, hX2⟩ : ∃ X, X = mtX (c + 1 + 1) := ⟨_, rfl⟩
      rw [← hX2]
      have HX2 := Lib.hid hX2
      clear hX2 hb3
      obtain ⟨u2z, hu2z⟩ : ∃ u, (w3).cell? ⟨g, k * 4 + 2, none⟩ = some u := ⟨_, by have := own_cell doC_len (HD3k.out) HL.out HK.out 2 _ rfl; exact this⟩
      have fz2 := own_free (HD3k.out) HL.out
      have HD3 : Hid (OwnR 68 4 doC ((w3).setCell ⟨g, k * 4 + 2, none⟩ (.string X2)) base (.slice (some ⟨g, 0, none⟩) es.length vc) (L.set k ⟨c, X1, X2, x0.da⟩)) := Lib.hid (by have := own_fld (x' := ⟨c, X1, X2, x0.da⟩) doC_len (HD3k.out) HL.out HK.out 2 (.string X2) (by decide) rfl; exact this)
      have HG3 : Hid (w.grownBy ((w3).setCell ⟨g, k * 4 + 2, none⟩ (.string X2)) (some g)) := Lib.hid (gb_set1 g _ _ (HG3k.out))
      go_wp2_with fail
      refine (HM.out (c + 1 + 1 + 1) _ (by omega) (by omega)).mono ?_
      rintro e w4 ⟨rfl, hb4⟩
      have HD4k := Lib.hid ((HD3.out).keep hb4 (Nat.le_refl _))
      have HG4k : Hid (w.grownBy w4 (some g)) := Lib.hid ((HG3.out).trans (gb_any hb4))
      obtain ⟨X3, hX3⟩ : ∃ X, X = mtX (c + 1 + 1 + 1) := ⟨_, rfl⟩
      rw [← hX3]
      have HX3 := Lib.hid hX3
      clear hX3 hb4
      obtain ⟨u3z, hu3z⟩ : ∃ u, (w4).cell? ⟨g, k * 4 + 3, none⟩ = some u := ⟨_, by have := own_cell doC_len (HD4k.out) HL.out HK.out 3 _ rfl; exact this⟩
      have fz3 := own_free (HD4k.out) HL.out
      have HD4 : Hid (OwnR 68 4 doC ((w4).setCell ⟨g, k * 4 + 3, none⟩ (.string X3)) base (.slice (some ⟨g, 0, none⟩) es.length vc) (L.set k ⟨c, X1, X2, X3⟩)) := Lib.hid (by have := own_fld (x' := ⟨c, X1, X2, X3⟩) doC_len (HD4k.out) HL.out HK.out 3 (.string X3) (by decide) rfl; exact this)
      have HG4 : Hid (w.grownBy ((w4).setCell ⟨g, k * 4 + 3, none⟩ (.string X3)) (some g)) := Lib.hid (gb_set1 g _ _ (HG4k.out))
      go_wp2
      go_roundw
      case rel => exact ⟨k + 1, by omega, by go_num, by have := HC2.out; simp; omega, Lib.hid (by rw [← HSt.out, show maD1 c = ⟨c, X1, X2, X3⟩ by rw [HX1.out, HX2.out, HX3.out]; rfl]; exact HD4.out), HG4⟩
      case measure => simp [intOf]; omega
    · have hke : k = es.length := by omega
      have HE : Hid (OwnR 68 4 doC wr base (.slice va es.length vc) (maDs es.length m)) := Lib.hid (by have := HD.out; rw [hke, List.drop_length, List.append_nil] at this; exact this)
      have HZ : Hid (m + 4 * (k : Int) = m + 4 * (es.length : Int)) := Lib.hid (by omega)
      clear hke HD
      go_wp2
      go_ret
      exact ⟨ret_int HZ.out, HE.out, HG.out⟩

set_option maxRecDepth 100000 in
set_option maxHeartbeats 1600000 in
theorem heldFileS_any (v : Value) (n : Nat) (m : Int) (w : World) (h : FiAt w w.heap.size v (maFs n m)) (hm0 : 0 < m) (hm1 : m ≤ 100000000000000) (hn : n ≤ 1048576) :
    Calls Try.prog 82 #[v, .int .i64 m] w fun e w' => e = .returned (.int .i64 (m + 2 * (n : Int))) ∧ Below w.heap.size w w' := by
  have HI := Lib.hid h
  obtain ⟨a, cap, hv, hl, hmx, hc⟩ := h.raw
  rw [maFs_len] at hv hl
  subst hv
  unfold maxLen at hmx
  have HM := Lib.hid (fun k w h0 h1 => markText_any k w h0 h1)
  clear hc h
  go_enter Try.func82, Try.ntmps82
  go_wp2
  go_loopw [1, 5] (fun c i wr => ∃ k : Nat, k ≤ n ∧ i = .int .i64 (k : Int) ∧ c = .int .i64 (m + 2 * (k : Int)) ∧ Below w.heap.size w wr) (fun _ i _ => n - (intOf i).toNat)
  case atStart => exact ⟨0, Nat.zero_le _, rfl, by simp, Below.refl _ _⟩
  case round =>
    obtain ⟨k, hk, rfl, rfl, hB⟩ := hrel
    by_cases hlt : k < n
    · obtain ⟨a', cap', hv, q1, q2, hc⟩ := (HI.out.below hB).raw
      rw [maFs_len] at hv
      clear q1 q2
      cases hv
      have hlt2 : k < (maFs n m).length := by rw [maFs_len]; exact hlt
      obtain ⟨b, off, rfl, hb, hr⟩ := hc k hlt2
      obtain ⟨c0, c1, s0⟩ := hr k hlt2
      clear s0
      rw [maFs_get n m k hlt2] at c0 c1
      obtain ⟨c, hcc⟩ : ∃ c, c = m + 2 * (k : Int) := ⟨_, rfl⟩
      have hc0 : 0 < c := by omega
      have hc1 : c ≤ 100000000000000 + 2 * 1048576 := by omega
      have HC2 : Hid (m + 2 * ((k : Int) + 1) = c + 2) := Lib.hid (by omega)
      rw [← hcc] at c0 c1 ⊢
      unfold maF1 at c0 c1
      simp only at c0 c1
      obtain ⟨X0, hX0⟩ : ∃ X, X = mtX (c) := ⟨_, rfl⟩
      rw [← hX0] at c0
      have HT0 := Lib.hid (fun w => HM.out (c) w (by omega) (by omega))
      rw [← hX0] at HT0
      clear hX0
      obtain ⟨X1, hX1⟩ : ∃ X, X = mtX (c + 1) := ⟨_, rfl⟩
      rw [← hX1] at c1
      have HT1 := Lib.hid (fun w => HM.out (c + 1) w (by omega) (by omega))
      rw [← hX1] at HT1
      clear hX1
      have hbw : b < wr.heap.size := by have := hB.size; omega
      have HCC := Lib.hid hcc
      clear hr hc hcc hm0 hm1 hlt2
      have HK : Hid (∀ w1 w2 : World, wr.heap.size ≤ w1.heap.size → Below w1.heap.size w1 w2 → (w1.cell? ⟨b, off + k * 2, none⟩ = some (.string X0) ∧ w1.cell? ⟨b, off + k * 2 + 1, none⟩ = some (.string X1)) → (w2.cell? ⟨b, off + k * 2, none⟩ = some (.string X0) ∧ w2.cell? ⟨b, off + k * 2 + 1, none⟩ = some (.string X1))) := Lib.hid (fun w1 w2 hs hb1 h => by
        have kc : ∀ o x, w1.cell? ⟨b, o, none⟩ = some x → w2.cell? ⟨b, o, none⟩ = some x := fun o x h => by rw [hb1.cell (p := ⟨b, o, none⟩) (show b < w1.heap.size by omega)]; exact h
        exact ⟨kc _ _ h.1, kc _ _ h.2⟩)
      have hE0 : (wr.drew.cell? ⟨b, off + k * 2, none⟩ = some (.string X0) ∧ wr.drew.cell? ⟨b, off + k * 2 + 1, none⟩ = some (.string X1)) := ⟨c0, c1⟩
      go_wp2
      refine wp_region_T (fun w' => (w'.cell? ⟨b, off + k * 2, none⟩ = some (.string X0) ∧ w'.cell? ⟨b, off + k * 2 + 1, none⟩ = some (.string X1))) (fun _ => True) 7 (by kernel_rfl) 8 rfl ?_
      refine wpAnyT_takesA (md := .any) 2 (by kernel_rfl) (by intro d v c a w h; cases d <;> exact h) [0, 1, 2, 3, 4, 5] _ _ _ (by decide) (by kernel_rfl) ⟨hE0, fun _ => trivial⟩ ?_
      simp only [pick, List.filterMap_cons, List.filterMap_nil, List.getElem?_cons_zero, List.getElem?_cons_succ]
      refine wpIf_step (.slice (some ⟨b, off, none⟩) n cap) (by kernel_rfl) (fun w hw => by go_simp) ?_
      refine wpIf_step (.int .i64 (k : Int)) (by kernel_rfl) (fun w hw => by go_simp) ?_
      refine wpIf_step (.pointer (some ⟨b, off + k * 2, none⟩)) (by kernel_rfl) (fun w hw => by go_simp) ?_
      refine wpIf_step (.pointer (some ⟨b, off + k * 2, none⟩)) (by kernel_rfl) (fun w hw => by go_simp) ?_
      refine wpIf_step (.string X0) (by kernel_rfl) (fun w hw => by have e0 := hw.1; go_simp) ?_
      refine wpIf_step (.int .i64 (c)) (by kernel_rfl) (fun w hw => by go_simp) ?_
      refine wpIf_nil (fun hS => ?_)
      clear hS
      refine wpAnyT_one 6 1 (by kernel_rfl) rfl (by kernel_rfl) (fun K hK => ?_)
      go_simp
      refine (HT0.out wr.drew).mono ?_
      rintro e w1 ⟨rfl, hb0⟩
      have hB0 := hB.drew.trans (hb0.mono hB.size)
      have hEn0 := HK.out wr.drew w1 (Nat.le_refl _) hb0 hE0
      have hsz0 : wr.heap.size ≤ w1.heap.size := by have h9 := hb0.size; simp only [World.drew] at h9; omega
      refine hK _ _ ⟨hEn0, fun _ => trivial⟩ (fun hS => ?_)
      clear hK K hS
      refine wpAnyT_one 7 0 (by kernel_rfl) rfl (by kernel_rfl) (fun K hK => ?_)
      go_simp
      refine hK _ _ ⟨hEn0, fun _ => trivial⟩ (fun hS => ?_)
      clear hK K hS
      refine wpAnyT_over (by kernel_rfl) ?_
      clear hE0 hb0
      clear c0 c1
      have hE1 : (w1.drew.cell? ⟨b, off + k * 2, none⟩ = some (.string X0) ∧ w1.drew.cell? ⟨b, off + k * 2 + 1, none⟩ = some (.string X1)) := hEn0
      go_wp2
      refine wp_region_T (fun w' => (w'.cell? ⟨b, off + k * 2, none⟩ = some (.string X0) ∧ w'.cell? ⟨b, off + k * 2 + 1, none⟩ = some (.string X1))) (fun _ => True) 7 (by kernel_rfl) 8 rfl ?_
      refine wpAnyT_takesA (md := .any) 2 (by kernel_rfl) (by intro d v c a w h; cases d <;> exact h) [0, 1, 2, 3, 4, 5] _ _ _ (by decide) (by kernel_rfl) ⟨hE1, fun _ => trivial⟩ ?_
      simp only [pick, List.filterMap_cons, List.filterMap_nil, List.getElem?_cons_zero, List.getElem?_cons_succ]
      refine wpIf_step (.slice (some ⟨b, off, none⟩) n cap) (by kernel_rfl) (fun w hw => by go_simp) ?_
      refine wpIf_step (.int .i64 (k : Int)) (by kernel_rfl) (fun w hw => by go_simp) ?_
      refine wpIf_step (.pointer (some ⟨b, off + k * 2, none⟩)) (by kernel_rfl) (fun w hw => by go_simp) ?_
      refine wpIf_step (.pointer (some ⟨b, off + k * 2 + 1, none⟩)) (by kernel_rfl) (fun w hw => by go_simp) ?_
      refine wpIf_step (.string X1) (by kernel_rfl) (fun w hw => by have e0 := hw.2; go_simp) ?_
      refine wpIf_step (.int .i64 (c + 1)) (by kernel_rfl) (fun w hw => by go_simp) ?_
      refine wpIf_nil (fun hS => ?_)
      clear hS
      refine wpAnyT_one 6 1 (by kernel_rfl) rfl (by kernel_rfl) (fun K hK => ?_)
      go_simp
      refine (HT1.out w1.drew).mono ?_
      rintro e w2 ⟨rfl, hb1⟩
      have hB1 := hB0.drew.trans (hb1.mono hB0.size)
      have hEn1 := HK.out w1.drew w2 (hsz0) hb1 hE1
      have hsz1 : wr.heap.size ≤ w2.heap.size := by have h9 := hb1.size; simp only [World.drew] at h9; omega
      refine hK _ _ ⟨hEn1, fun _ => trivial⟩ (fun hS => ?_)
      clear hK K hS
      refine wpAnyT_one 7 0 (by kernel_rfl) rfl (by kernel_rfl) (fun K hK => ?_)
      go_simp
      refine hK _ _ ⟨hEn1, fun _ => trivial⟩ (fun hS => ?_)
      clear hK K hS
      refine wpAnyT_over (by kernel_rfl) ?_
      clear hE1 hb1
      obtain ⟨c0, c1⟩ := hEn1
      go_wp2
      go_roundw
      case rel => exact ⟨k + 1, by omega, by go_num, by have := HC2.out; simp; omega, hB1⟩
      case measure => simp [intOf]; omega
    · have HZ : Hid (m + 2 * (k : Int) = m + 2 * (n : Int)) := Lib.hid (by omega)
      go_wp2
      go_ret
      exact ⟨ret_int HZ.out, hB⟩

set_option maxRecDepth 100000 in
set_option maxHeartbeats 1600000 in
theorem heldDOpS_any (v : Value) (n : Nat) (m : Int) (w : World) (h : OaAt w w.heap.size v (maDs n m)) (hm0 : 0 < m) (hm1 : m ≤ 100000000000000) (hn : n ≤ 1048576) :
    Calls Try.prog 83 #[v, .int .i64 m] w fun e w' => e = .returned (.int .i64 (m + 4 * (n : Int))) ∧ Below w.heap.size w w' := by
  have HI := Lib.hid h
  obtain ⟨a, cap, hv, hl, hmx, hc⟩ := h.raw
  rw [maDs_len] at hv hl
  subst hv
  unfold maxLen at hmx
  have HM := Lib.hid (fun k w h0 h1 => markText_any k w h0 h1)
  clear hc h
  go_enter Try.func83, Try.ntmps83
  go_wp2
  go_loopw [1, 5] (fun c i wr => ∃ k : Nat, k ≤ n ∧ i = .int .i64 (k : Int) ∧ c = .int .i64 (m + 4 * (k : Int)) ∧ Below w.heap.size w wr) (fun _ i _ => n - (intOf i).toNat)
  case atStart => exact ⟨0, Nat.zero_le _, rfl, by simp, Below.refl _ _⟩
  case round =>
    obtain ⟨k, hk, rfl, rfl, hB⟩ := hrel
    by_cases hlt : k < n
    · obtain ⟨a', cap', hv, q1, q2, hc⟩ := (HI.out.below hB).raw
      rw [maDs_len] at hv
      clear q1 q2
      cases hv
      have hlt2 : k < (maDs n m).length := by rw [maDs_len]; exact hlt
      obtain ⟨b, off, rfl, hb, hr⟩ := hc k hlt2
      obtain ⟨c0, c1, c2, c3, s0⟩ := hr k hlt2
      clear s0
      rw [maDs_get n m k hlt2] at c0 c1 c2 c3
      obtain ⟨c, hcc⟩ : ∃ c, c = m + 4 * (k : Int) := ⟨_, rfl⟩
      have hc0 : 0 < c := by omega
      have hc1 : c ≤ 100000000000000 + 4 * 1048576 := by omega
      have HC2 : Hid (m + 4 * ((k : Int) + 1) = c + 4) := Lib.hid (by omega)
      rw [← hcc] at c0 c1 c2 c3 ⊢
      unfold maD1 at c0 c1 c2 c3
      simp only at c0 c1 c2 c3
      obtain ⟨X1, hX1⟩ : ∃ X, X = mtX (c + 1) := ⟨_, rfl⟩
      rw [← hX1] at c1
      have HT1 := Lib.hid (fun w => HM.out (c + 1) w (by omega) (by omega))
      rw [← hX1] at HT1
      clear hX1
      obtain ⟨X2, hX2⟩ : ∃ X, X = mtX (c + 1 + 1) := ⟨_, rfl⟩
      rw [← hX2] at c2
      have HT2 := Lib.hid (fun w => HM.out (c + 1 + 1) w (by omega) (by omega))
      rw [← hX2] at HT2
      clear hX2
      obtain ⟨X3, hX3⟩ : ∃ X, X = mtX (c + 1 + 1 + 1) := ⟨_, rfl⟩
      rw [← hX3] at c3
      have HT3 := Lib.hid (fun w => HM.out (c + 1 + 1 + 1) w (by omega) (by omega))
      rw [← hX3] at HT3
      clear hX3
      have hbw : b < wr.heap.size := by have := hB.size; omega
      have HCC := Lib.hid hcc
      clear hr hc hcc hm0 hm1 hlt2
      have HK : Hid (∀ w1 w2 : World, wr.heap.size ≤ w1.heap.size → Below w1.heap.size w1 w2 → (w1.cell? ⟨b, off + k * 4, none⟩ = some (.int .i64 c) ∧ w1.cell? ⟨b, off + k * 4 + 1, none⟩ = some (.string X1) ∧ w1.cell? ⟨b, off + k * 4 + 2, none⟩ = some (.string X2) ∧ w1.cell? ⟨b, off + k * 4 + 3, none⟩ = some (.string X3)) → (w2.cell? ⟨b, off + k * 4, none⟩ = some (.int .i64 c) ∧ w2.cell? ⟨b, off + k * 4 + 1, none⟩ = some (.string X1) ∧ w2.cell? ⟨b, off + k * 4 + 2, none⟩ = some (.string X2) ∧ w2.cell? ⟨b, off + k * 4 + 3, none⟩ = some (.string X3))) := Lib.hid (fun w1 w2 hs hb1 h => by
        have kc : ∀ o x, w1.cell? ⟨b, o, none⟩ = some x → w2.cell? ⟨b, o, none⟩ = some x := fun o x h => by rw [hb1.cell (p := ⟨b, o, none⟩) (show b < w1.heap.size by omega)]; exact h
        exact ⟨kc _ _ h.1, kc _ _ h.2.1, kc _ _ h.2.2.1, kc _ _ h.2.2.2⟩)
      have hE1 : (wr.drew.cell? ⟨b, off + k * 4, none⟩ = some (.int .i64 c) ∧ wr.drew.cell? ⟨b, off + k * 4 + 1, none⟩ = some (.string X1) ∧ wr.drew.cell? ⟨b, off + k * 4 + 2, none⟩ = some (.string X2) ∧ wr.drew.cell? ⟨b, off + k * 4 + 3, none⟩ = some (.string X3)) := ⟨c0, c1, c2, c3⟩
      go_wp2
      refine wp_region_T (fun w' => (w'.cell? ⟨b, off + k * 4, none⟩ = some (.int .i64 c) ∧ w'.cell? ⟨b, off + k * 4 + 1, none⟩ = some (.string X1) ∧ w'.cell? ⟨b, off + k * 4 + 2, none⟩ = some (.string X2) ∧ w'.cell? ⟨b, off + k * 4 + 3, none⟩ = some (.string X3))) (fun _ => True) 7 (by kernel_rfl) 8 rfl ?_
      refine wpAnyT_takesA (md := .any) 2 (by kernel_rfl) (by intro d v c a w h; cases d <;> exact h) [0, 1, 2, 3, 4, 5] _ _ _ (by decide) (by kernel_rfl) ⟨hE1, fun _ => trivial⟩ ?_
      simp only [pick, List.filterMap_cons, List.filterMap_nil, List.getElem?_cons_zero, List.getElem?_cons_succ]
      refine wpIf_step (.slice (some ⟨b, off, none⟩) n cap) (by kernel_rfl) (fun w hw => by go_simp) ?_
      refine wpIf_step (.int .i64 (k : Int)) (by kernel_rfl) (fun w hw => by go_simp) ?_
      refine wpIf_step (.pointer (some ⟨b, off + k * 4, none⟩)) (by kernel_rfl) (fun w hw => by go_simp) ?_
      refine wpIf_step (.pointer (some ⟨b, off + k * 4 + 1, none⟩)) (by kernel_rfl) (fun w hw => by go_simp) ?_
      refine wpIf_step (.string X1) (by kernel_rfl) (fun w hw => by have e0 := hw.2.1; go_simp) ?_
      refine wpIf_step (.int .i64 (c + 1)) (by kernel_rfl) (fun w hw => by go_simp) ?_
      refine wpIf_nil (fun hS => ?_)
      clear hS
      refine wpAnyT_one 6 1 (by kernel_rfl) rfl (by kernel_rfl) (fun K hK => ?_)
      go_simp
      refine (HT1.out wr.drew).mono ?_
      rintro e w2 ⟨rfl, hb1⟩
      have hB1 := hB.drew.trans (hb1.mono hB.size)
      have hEn1 := HK.out wr.drew w2 (Nat.le_refl _) hb1 hE1
      have hsz1 : wr.heap.size ≤ w2.heap.size := by have h9 := hb1.size; simp only [World.drew] at h9; omega
      refine hK _ _ ⟨hEn1, fun _ => trivial⟩ (fun hS => ?_)
      clear hK K hS
      refine wpAnyT_one 7 0 (by kernel_rfl) rfl (by kernel_rfl) (fun K hK => ?_)
      go_simp
      refine hK _ _ ⟨hEn1, fun _ => trivial⟩ (fun hS => ?_)
      clear hK K hS
      refine wpAnyT_over (by kernel_rfl) ?_
      clear hE1 hb1
      clear c0 c1 c2 c3
      have hE2 : (w2.drew.cell? ⟨b, off + k * 4, none⟩ = some (.int .i64 c) ∧ w2.drew.cell? ⟨b, off + k * 4 + 1, none⟩ = some (.string X1) ∧ w2.drew.cell? ⟨b, off + k * 4 + 2, none⟩ = some (.string X2) ∧ w2.drew.cell? ⟨b, off + k * 4 + 3, none⟩ = some (.string X3)) := hEn1
      go_wp2
      refine wp_region_T (fun w' => (w'.cell? ⟨b, off + k * 4, none⟩ = some (.int .i64 c) ∧ w'.cell? ⟨b, off + k * 4 + 1, none⟩ = some (.string X1) ∧ w'.cell? ⟨b, off + k * 4 + 2, none⟩ = some (.string X2) ∧ w'.cell? ⟨b, off + k * 4 + 3, none⟩ = some (.string X3))) (fun _ => True) 7 (by kernel_rfl) 8 rfl ?_
      refine wpAnyT_takesA (md := .any) 2 (by kernel_rfl) (by intro d v c a w h; cases d <;> exact h) [0, 1, 2, 3, 4, 5] _ _ _ (by decide) (by kernel_rfl) ⟨hE2, fun _ => trivial⟩ ?_
      simp only [pick, List.filterMap_cons, List.filterMap_nil, List.getElem?_cons_zero, List.getElem?_cons_succ]
      refine wpIf_step (.slice (some ⟨b, off, none⟩) n cap) (by kernel_rfl) (fun w hw => by go_simp) ?_
      refine wpIf_step (.int .i64 (k : Int)) (by kernel_rfl) (fun w hw => by go_simp) ?_
      refine wpIf_step (.pointer (some ⟨b, off + k * 4, none⟩)) (by kernel_rfl) (fun w hw => by go_simp) ?_
      refine wpIf_step (.pointer (some ⟨b, off + k * 4 + 2, none⟩)) (by kernel_rfl) (fun w hw => by go_simp) ?_
      refine wpIf_step (.string X2) (by kernel_rfl) (fun w hw => by have e0 := hw.2.2.1; go_simp) ?_
      refine wpIf_step (.int .i64 (c + 1 + 1)) (by kernel_rfl) (fun w hw => by go_simp) ?_
      refine wpIf_nil (fun hS => ?_)
      clear hS
      refine wpAnyT_one 6 1 (by kernel_rfl) rfl (by kernel_rfl) (fun K hK => ?_)
      go_simp
      refine (HT2.out w2.drew).mono ?_
      rintro e w3 ⟨rfl, hb2⟩
      have hB2 := hB1.drew.trans (hb2.mono hB1.size)
      have hEn2 := HK.out w2.drew w3 (hsz1) hb2 hE2
      have hsz2 : wr.heap.size ≤ w3.heap.size := by have h9 := hb2.size; simp only [World.drew] at h9; omega
      refine hK _ _ ⟨hEn2, fun _ => trivial⟩ (fun hS => ?_)
      clear hK K hS
      refine wpAnyT_one 7 0 (by kernel_rfl) rfl (by kernel_rfl) (fun K hK => ?_)
      go_simp
      refine hK _ _ ⟨hEn2, fun _ => trivial⟩ (fun hS => ?_)
      clear hK K hS
      refine wpAnyT_over (by kernel_rfl) ?_
      clear hE2 hb2
      have hE3 : (w3.drew.cell? ⟨b, off + k * 4, none⟩ = some (.int .i64 c) ∧ w3.drew.cell? ⟨b, off + k * 4 + 1, none⟩ = some (.string X1) ∧ w3.drew.cell? ⟨b, off + k * 4 + 2, none⟩ = some (.string X2) ∧ w3.drew.cell? ⟨b, off + k * 4 + 3, none⟩ = some (.string X3)) := hEn2
      go_wp2
      refine wp_region_T (fun w' => (w'.cell? ⟨b, off + k * 4, none⟩ = some (.int .i64 c) ∧ w'.cell? ⟨b, off + k * 4 + 1, none⟩ = some (.string X1) ∧ w'.cell? ⟨b, off + k * 4 + 2, none⟩ = some (.string X2) ∧ w'.cell? ⟨b, off + k * 4 + 3, none⟩ = some (.string X3))) (fun _ => True) 7 (by kernel_rfl) 8 rfl ?_
      refine wpAnyT_takesA (md := .any) 2 (by kernel_rfl) (by intro d v c a w h; cases d <;> exact h) [0, 1, 2, 3, 4, 5] _ _ _ (by decide) (by kernel_rfl) ⟨hE3, fun _ => trivial⟩ ?_
      simp only [pick, List.filterMap_cons, List.filterMap_nil, List.getElem?_cons_zero, List.getElem?_cons_succ]
      refine wpIf_step (.slice (some ⟨b, off, none⟩) n cap) (by kernel_rfl) (fun w hw => by go_simp) ?_
      refine wpIf_step (.int .i64 (k : Int)) (by kernel_rfl) (fun w hw => by go_simp) ?_
      refine wpIf_step (.pointer (some ⟨b, off + k * 4, none⟩)) (by kernel_rfl) (fun w hw => by go_simp) ?_
      refine wpIf_step (.pointer (some ⟨b, off + k * 4 + 3, none⟩)) (by kernel_rfl) (fun w hw => by go_simp) ?_
      refine wpIf_step (.string X3) (by kernel_rfl) (fun w hw => by have e0 := hw.2.2.2; go_simp) ?_
      refine wpIf_step (.int .i64 (c + 1 + 1 + 1)) (by kernel_rfl) (fun w hw => by go_simp) ?_
      refine wpIf_nil (fun hS => ?_)
      clear hS
      refine wpAnyT_one 6 1 (by kernel_rfl) rfl (by kernel_rfl) (fun K hK => ?_)
      go_simp
      refine (HT3.out w3.drew).mono ?_
      rintro e w4 ⟨rfl, hb3⟩
      have hB3 := hB2.drew.trans (hb3.mono hB2.size)
      have hEn3 := HK.out w3.drew w4 (hsz2) hb3 hE3
      have hsz3 : wr.heap.size ≤ w4.heap.size := by have h9 := hb3.size; simp only [World.drew] at h9; omega
      refine hK _ _ ⟨hEn3, fun _ => trivial⟩ (fun hS => ?_)
      clear hK K hS
      refine wpAnyT_one 7 0 (by kernel_rfl) rfl (by kernel_rfl) (fun K hK => ?_)
      go_simp
      refine hK _ _ ⟨hEn3, fun _ => trivial⟩ (fun hS => ?_)
      clear hK K hS
      refine wpAnyT_over (by kernel_rfl) ?_
      clear hE3 hb3
      obtain ⟨c0, c1, c2, c3⟩ := hEn3
      go_wp2
      go_roundw
      case rel => exact ⟨k + 1, by omega, by go_num, by have := HC2.out; simp; omega, hB3⟩
      case measure => simp [intOf]; omega
    · have HZ : Hid (m + 4 * (k : Int) = m + 4 * (n : Int)) := Lib.hid (by omega)
      go_wp2
      go_ret
      exact ⟨ret_int HZ.out, hB⟩
end Go.Proofs.Ytffkakpbelknaaa
