/- Joined: M8a. -/
import Derived.Test.YtgimjfffdnopiaaDoorJ20
import Derived.Test.YtgimjfffdnopiaaDoorJ29
/- M8a -/
namespace Go.Proofs.YtgimjfffdnopiaaDoor
open Go.ChangeShapes Go.WideShapes Go.ChangeAt Go.RowKit
set_option linter.unusedVariables false
set_option linter.unusedSimpArgs false

/-- Items with marks. -/
def maI (k : Int) : It := ⟨mtX k, mtX (k + 1), k + 1 + 1⟩
def maIs (n : Nat) (m : Int) : List It := (List.range n).map fun i : Nat => maI (m + 3 * (i : Int))
theorem maIs_len (n : Nat) (m : Int) : (maIs n m).length = n := by simp [maIs]
theorem maIs_get (n : Nat) (m : Int) (i : Nat) (h : i < (maIs n m).length) : (maIs n m)[i] = maI (m + 3 * (i : Int)) := by simp [maIs]
theorem maIs_snoc (n : Nat) (m : Int) : maIs (n + 1) m = maIs n m ++ [maI (m + 3 * (n : Int))] := by
  unfold maIs
  rw [List.range_succ, List.map_append]
  rfl
theorem maIs_set (es : List It) (m : Int) (k : Nat) (h : k < es.length) : (maIs k m ++ es.drop k).set k (maI (m + 3 * (k : Int))) = maIs (k + 1) m ++ es.drop (k + 1) := by
  rw [List.set_append_right _ _ (by rw [maIs_len]; exact Nat.le_refl _), maIs_len, Nat.sub_self, List.drop_eq_getElem_cons h, List.set_cons_zero, maIs_snoc, List.append_assoc]
  rfl
theorem maIs_sz (n : Nat) (m : Int) : ∀ x ∈ maIs n m, x.id.size ≤ maxLen ∧ x.ti.size ≤ maxLen := by
  intro x hx
  unfold maIs at hx
  obtain ⟨i, _, rfl⟩ := List.mem_map.1 hx
  have h1 := mtX_size (m + 3 * (i : Int))
  have h2 := mtX_size (m + 3 * (i : Int) + 1)
  unfold maI maxLen
  exact ⟨by dsimp only; omega, by dsimp only; omega⟩

set_option maxRecDepth 100000 in
set_option maxHeartbeats 1600000 in
theorem markItemS_any (v : Value) (es : List It) (base : Nat) (m : Int) (w : World) (h : OwnR 71 3 itC w base v es) (hm0 : 0 < m) (hm1 : m ≤ 100000000000000) (hn : es.length ≤ 1048576) :
    Calls Tryd.prog 63 #[v, .int .i64 m] w fun e w' => e = .returned (.int .i64 (m + 3 * (es.length : Int))) ∧ OwnR 71 3 itC w' base v (maIs es.length m) ∧ w.grownBy w' v.ownBlock := by
  obtain ⟨va, vc, rfl⟩ := h.slice
  have HM := Lib.hid (fun k w h0 h1 => markText_any k w h0 h1)
  have HO := Lib.hid h
  clear h
  go_enter Tryd.func63, Tryd.ntmps63
  go_wp2
  go_loopw [1, 5] (fun c i wr => ∃ k : Nat, k ≤ es.length ∧ i = .int .i64 (k : Int) ∧ c = .int .i64 (m + 3 * (k : Int)) ∧ Hid (OwnR 71 3 itC wr base (.slice va es.length vc) (maIs k m ++ es.drop k)) ∧ Hid (w.grownBy wr (Value.ownBlock (.slice va es.length vc)))) (fun _ i _ => es.length - (intOf i).toNat)
  case atStart => exact ⟨0, Nat.zero_le _, rfl, by simp, HO, Lib.hid (World.grownBy.refl _ _)⟩
  case round =>
    obtain ⟨k, hk, rfl, rfl, HD, HG⟩ := hrel
    clear HO
    by_cases hlt : k < es.length
    · have HL : Hid (es.length = (maIs k m ++ es.drop k).length) := Lib.hid (by rw [List.length_append, maIs_len, List.length_drop]; omega)
      obtain ⟨g, hva, hg1, hg2, hgn⟩ := OwnR.form HD.out (by rw [← HL.out]; omega)
      clear hgn
      subst hva
      have HK : Hid (k < (maIs k m ++ es.drop k).length) := Lib.hid (by rw [← HL.out]; exact hlt)
      have HSt := Lib.hid (maIs_set es m k hlt)
      have HD0 := Lib.hid (own_start HD.out HK.out)
      generalize (maIs k m ++ es.drop k)[k] = x0 at HD0
      generalize maIs k m ++ es.drop k = L at HD0 HSt HL HK
      clear HD
      obtain ⟨c, hc⟩ : ∃ c, c = m + 3 * (k : Int) := ⟨_, rfl⟩
      have hc0 : 0 < c := by omega
      have hc1 : c ≤ 100000000000000 + 3 * 1048576 := by omega
      have HC2 : Hid (m + 3 * ((k : Int) + 1) = c + 3) := Lib.hid (by omega)
      rw [← hc] at HSt ⊢
      have HC := Lib.hid hc
      clear hc hm0 hm1
      go_wp2_with fail
      refine (HM.out (c) _ (by omega) (by omega)).mono ?_
      rintro e w1 ⟨rfl, hb1⟩
      have HD1k := Lib.hid ((HD0.out).keep hb1 (Nat.le_refl _))
      have HG1k : Hid (w.grownBy w1 (some g)) := Lib.hid ((show w.grownBy wr (some g) from HG.out).trans (gb_any hb1))
      obtain ⟨X0, hX0⟩ : ∃ X, X = mtX (c) := ⟨_, rfl⟩
      rw [← hX0]
      have HX0 := Lib.hid hX0
      clear hX0 hb1
      obtain ⟨u0z, hu0z⟩ : ∃ u, (w1).cell? ⟨g, k * 3, none⟩ = some u := ⟨_, by have := own_cell itC_len (HD1k.out) HL.out HK.out 0 _ rfl; exact this⟩
      have fz0 := own_free (HD1k.out) HL.out
      have HD1 : Hid (OwnR 71 3 itC ((w1).setCell ⟨g, k * 3, none⟩ (.string X0)) base (.slice (some ⟨g, 0, none⟩) es.length vc) (L.set k ⟨X0, x0.ti, x0.da⟩)) := Lib.hid (by have := own_fld (x' := ⟨X0, x0.ti, x0.da⟩) itC_len (HD1k.out) HL.out HK.out 0 (.string X0) (by decide) rfl; exact this)
      have HG1 : Hid (w.grownBy ((w1).setCell ⟨g, k * 3, none⟩ (.string X0)) (some g)) := Lib.hid (gb_set1 g _ _ (HG1k.out))
      go_wp2_with fail
      refine (HM.out (c + 1) _ (by omega) (by omega)).mono ?_
      rintro e w2 ⟨rfl, hb2⟩
      have HD2k := Lib.hid ((HD1.out).keep hb2 (Nat.le_refl _))
      have HG2k : Hid (w.grownBy w2 (some g)) := Lib.hid ((HG1.out).trans (gb_any hb2))
      obtain ⟨X1, hX1⟩ : ∃ X, X = mtX (c + 1) := ⟨_, rfl⟩
      rw [← hX1]
      have HX1 := Lib.hid hX1
      clear hX1 hb2
      obtain ⟨u1z, hu1z⟩ : ∃ u, (w2).cell? ⟨g, k * 3 + 1, none⟩ = some u := ⟨_, by have := own_cell itC_len (HD2k.out) HL.out HK.out 1 _ rfl; exact this⟩
      have fz1 := own_free (HD2k.out) HL.out
      have HD2 : Hid (OwnR 71 3 itC ((w2).setCell ⟨g, k * 3 + 1, none⟩ (.string X1)) base (.slice (some ⟨g, 0, none⟩) es.length vc) (L.set k ⟨X0, X1, x0.da⟩)) := Lib.hid (by have := own_fld (x' := ⟨X0, X1, x0.da⟩) itC_len (HD2k.out) HL.out HK.out 1 (.string X1) (by decide) rfl; exact this)
      have HG2 : Hid (w.grownBy ((w2).setCell ⟨g, k * 3 + 1, none⟩ (.string X1)) (some g)) := Lib.hid (gb_set1 g _ _ (HG2k.out))
      obtain ⟨u2z, hu2z⟩ : ∃ u, ((w2).setCell ⟨g, k * 3 + 1, none⟩ (.string X1)).cell? ⟨g, k * 3 + 2, none⟩ = some u := ⟨_, by have := own_cell itC_len (HD2.out) HL.out HK.out 2 _ rfl; exact this⟩
      have fz2 := own_free (HD2.out) HL.out
      have HD3 : Hid (OwnR 71 3 itC (((w2).setCell ⟨g, k * 3 + 1, none⟩ (.string X1)).setCell ⟨g, k * 3 + 2, none⟩ (.int .i64 (c + 1 + 1))) base (.slice (some ⟨g, 0, none⟩) es.length vc) (L.set k ⟨X0, X1, c + 1 + 1⟩)) := Lib.hid (by have := own_fld (x' := ⟨X0, X1, c + 1 + 1⟩) itC_len (HD2.out) HL.out HK.out 2 (.int .i64 (c + 1 + 1)) (by decide) rfl; exact this)
      have HG3 : Hid (w.grownBy (((w2).setCell ⟨g, k * 3 + 1, none⟩ (.string X1)).setCell ⟨g, k * 3 + 2, none⟩ (.int .i64 (c + 1 + 1))) (some g)) := Lib.hid (gb_set1 g _ _ (HG2.out))
      go_wp2
      go_roundw
      case rel => exact ⟨k + 1, by omega, by go_num, by have := HC2.out; simp; omega, Lib.hid (by rw [← HSt.out, show maI c = ⟨X0, X1, c + 1 + 1⟩ by rw [HX0.out, HX1.out]; rfl]; exact HD3.out), HG3⟩
      case measure => simp [intOf]; omega
    · have hke : k = es.length := by omega
      have HE : Hid (OwnR 71 3 itC wr base (.slice va es.length vc) (maIs es.length m)) := Lib.hid (by have := HD.out; rw [hke, List.drop_length, List.append_nil] at this; exact this)
      have HZ : Hid (m + 3 * (k : Int) = m + 3 * (es.length : Int)) := Lib.hid (by omega)
      clear hke HD
      go_wp2
      go_ret
      exact ⟨ret_int HZ.out, HE.out, HG.out⟩

set_option maxRecDepth 100000 in
set_option maxHeartbeats 1600000 in
theorem heldItemS_any (v : Value) (n : Nat) (m : Int) (w : World) (h : ItAt w w.heap.size v (maIs n m)) (hm0 : 0 < m) (hm1 : m ≤ 100000000000000) (hn : n ≤ 1048576) :
    Calls Tryd.prog 64 #[v, .int .i64 m] w fun e w' => e = .returned (.int .i64 (m + 3 * (n : Int))) ∧ Below w.heap.size w w' := by
  have HI := Lib.hid h
  obtain ⟨a, cap, hv, hl, hmx, hc⟩ := h.raw
  rw [maIs_len] at hv hl
  subst hv
  unfold maxLen at hmx
  have HM := Lib.hid (fun k w h0 h1 => markText_any k w h0 h1)
  clear hc h
  go_enter Tryd.func64, Tryd.ntmps64
  go_wp2
  go_loopw [1, 5] (fun c i wr => ∃ k : Nat, k ≤ n ∧ i = .int .i64 (k : Int) ∧ c = .int .i64 (m + 3 * (k : Int)) ∧ Below w.heap.size w wr) (fun _ i _ => n - (intOf i).toNat)
  case atStart => exact ⟨0, Nat.zero_le _, rfl, by simp, Below.refl _ _⟩
  case round =>
    obtain ⟨k, hk, rfl, rfl, hB⟩ := hrel
    by_cases hlt : k < n
    · obtain ⟨a', cap', hv, q1, q2, hc⟩ := (HI.out.below hB).raw
      rw [maIs_len] at hv
      clear q1 q2
      cases hv
      have hlt2 : k < (maIs n m).length := by rw [maIs_len]; exact hlt
      obtain ⟨b, off, rfl, hb, hr⟩ := hc k hlt2
      obtain ⟨c0, c1, c2, s0, s1⟩ := hr k hlt2
      clear s0 s1
      rw [maIs_get n m k hlt2] at c0 c1 c2
      obtain ⟨c, hcc⟩ : ∃ c, c = m + 3 * (k : Int) := ⟨_, rfl⟩
      have hc0 : 0 < c := by omega
      have hc1 : c ≤ 100000000000000 + 3 * 1048576 := by omega
      have HC2 : Hid (m + 3 * ((k : Int) + 1) = c + 3) := Lib.hid (by omega)
      rw [← hcc] at c0 c1 c2 ⊢
      unfold maI at c0 c1 c2
      simp only at c0 c1 c2
      obtain ⟨X0, hX0⟩ : ∃ X, X = mtX c := ⟨_, rfl⟩
      obtain ⟨X1, hX1⟩ : ∃ X, X = mtX (c + 1) := ⟨_, rfl⟩
      rw [← hX0] at c0
      rw [← hX1] at c1
      have HT0 := Lib.hid (fun w => HM.out c w (by omega) (by omega))
      have HT1 := Lib.hid (fun w => HM.out (c + 1) w (by omega) (by omega))
      rw [← hX0] at HT0
      rw [← hX1] at HT1
      have hbw : b < wr.heap.size := by have := hB.size; omega
      have HCC := Lib.hid hcc
      clear hr hc hcc hX0 hX1 hm0 hm1 hlt2
      have HK : Hid (∀ w1 w2 : World, wr.heap.size ≤ w1.heap.size → Below w1.heap.size w1 w2 → (w1.cell? ⟨b, off + k * 3, none⟩ = some (.string X0) ∧ w1.cell? ⟨b, off + k * 3 + 1, none⟩ = some (.string X1) ∧ w1.cell? ⟨b, off + k * 3 + 2, none⟩ = some (.int .i64 (c + 1 + 1))) → (w2.cell? ⟨b, off + k * 3, none⟩ = some (.string X0) ∧ w2.cell? ⟨b, off + k * 3 + 1, none⟩ = some (.string X1) ∧ w2.cell? ⟨b, off + k * 3 + 2, none⟩ = some (.int .i64 (c + 1 + 1)))) := Lib.hid (fun w1 w2 hs hb1 h => by
        have kc : ∀ o x, w1.cell? ⟨b, o, none⟩ = some x → w2.cell? ⟨b, o, none⟩ = some x := fun o x h => by rw [hb1.cell (p := ⟨b, o, none⟩) (show b < w1.heap.size by omega)]; exact h
        exact ⟨kc _ _ h.1, kc _ _ h.2.1, kc _ _ h.2.2⟩)
      have hE0 : (wr.drew.cell? ⟨b, off + k * 3, none⟩ = some (.string X0) ∧ wr.drew.cell? ⟨b, off + k * 3 + 1, none⟩ = some (.string X1) ∧ wr.drew.cell? ⟨b, off + k * 3 + 2, none⟩ = some (.int .i64 (c + 1 + 1))) := ⟨c0, c1, c2⟩
      go_wp2
      refine wp_region_T (fun w' => (w'.cell? ⟨b, off + k * 3, none⟩ = some (.string X0) ∧ w'.cell? ⟨b, off + k * 3 + 1, none⟩ = some (.string X1) ∧ w'.cell? ⟨b, off + k * 3 + 2, none⟩ = some (.int .i64 (c + 1 + 1)))) (fun _ => True) 7 (by kernel_rfl) 8 rfl ?_
      refine wpAnyT_takesA (md := .any) 2 (by kernel_rfl) (by intro d v c a w h; cases d <;> exact h) [0, 1, 2, 3, 4, 5] _ _ _ (by decide) (by kernel_rfl) ⟨hE0, fun _ => trivial⟩ ?_
      simp only [pick, List.filterMap_cons, List.filterMap_nil, List.getElem?_cons_zero, List.getElem?_cons_succ]
      refine wpIf_step (.slice (some ⟨b, off, none⟩) n cap) (by kernel_rfl) (fun w hw => by go_simp) ?_
      refine wpIf_step (.int .i64 (k : Int)) (by kernel_rfl) (fun w hw => by go_simp) ?_
      refine wpIf_step (.pointer (some ⟨b, off + k * 3, none⟩)) (by kernel_rfl) (fun w hw => by go_simp) ?_
      refine wpIf_step (.pointer (some ⟨b, off + k * 3, none⟩)) (by kernel_rfl) (fun w hw => by go_simp) ?_
      refine wpIf_step (.string X0) (by kernel_rfl) (fun w hw => by have e0 := hw.1; go_simp) ?_
      refine wpIf_step (.int .i64 (c)) (by kernel_rfl) (fun w hw => by go_simp) ?_
      refine wpIf_nil (fun hS => ?_)
      clear hS
      refine wpAnyT_one 6 1 (by kernel_rfl) rfl (by kernel_rfl) (fun K hK => ?_)
      go_simp
      refine (HT0.out wr.drew).mono ?_
      rintro e w1 ⟨rfl, hb0⟩
      have hB0 := hB.drew.trans (hb0.mono hB.size)
      have hEn0 := HK.out wr.drew w1 (Nat.le_refl _) hb0 hE0
      have hsz0 : wr.heap.size ≤ w1.heap.size := by have h9 := hb0.size; simp only [World.drew] at h9; omega
      refine hK _ _ ⟨hEn0, fun _ => trivial⟩ (fun hS => ?_)
      clear hK K hS
      refine wpAnyT_one 7 0 (by kernel_rfl) rfl (by kernel_rfl) (fun K hK => ?_)
      go_simp
      refine hK _ _ ⟨hEn0, fun _ => trivial⟩ (fun hS => ?_)
      clear hK K hS
      refine wpAnyT_over (by kernel_rfl) ?_
      clear hE0 hb0
      clear c0 c1 c2
      have hE1 : (w1.drew.cell? ⟨b, off + k * 3, none⟩ = some (.string X0) ∧ w1.drew.cell? ⟨b, off + k * 3 + 1, none⟩ = some (.string X1) ∧ w1.drew.cell? ⟨b, off + k * 3 + 2, none⟩ = some (.int .i64 (c + 1 + 1))) := hEn0
      go_wp2
      refine wp_region_T (fun w' => (w'.cell? ⟨b, off + k * 3, none⟩ = some (.string X0) ∧ w'.cell? ⟨b, off + k * 3 + 1, none⟩ = some (.string X1) ∧ w'.cell? ⟨b, off + k * 3 + 2, none⟩ = some (.int .i64 (c + 1 + 1)))) (fun _ => True) 7 (by kernel_rfl) 8 rfl ?_
      refine wpAnyT_takesA (md := .any) 2 (by kernel_rfl) (by intro d v c a w h; cases d <;> exact h) [0, 1, 2, 3, 4, 5] _ _ _ (by decide) (by kernel_rfl) ⟨hE1, fun _ => trivial⟩ ?_
      simp only [pick, List.filterMap_cons, List.filterMap_nil, List.getElem?_cons_zero, List.getElem?_cons_succ]
      refine wpIf_step (.slice (some ⟨b, off, none⟩) n cap) (by kernel_rfl) (fun w hw => by go_simp) ?_
      refine wpIf_step (.int .i64 (k : Int)) (by kernel_rfl) (fun w hw => by go_simp) ?_
      refine wpIf_step (.pointer (some ⟨b, off + k * 3, none⟩)) (by kernel_rfl) (fun w hw => by go_simp) ?_
      refine wpIf_step (.pointer (some ⟨b, off + k * 3 + 1, none⟩)) (by kernel_rfl) (fun w hw => by go_simp) ?_
      refine wpIf_step (.string X1) (by kernel_rfl) (fun w hw => by have e0 := hw.2.1; go_simp) ?_
      refine wpIf_step (.int .i64 (c + 1)) (by kernel_rfl) (fun w hw => by go_simp) ?_
      refine wpIf_nil (fun hS => ?_)
      clear hS
      refine wpAnyT_one 6 1 (by kernel_rfl) rfl (by kernel_rfl) (fun K hK => ?_)
      go_simp
      refine (HT1.out w1.drew).mono ?_
      rintro e w2 ⟨rfl, hb1⟩
      have hB1 := hB0.drew.trans (hb1.mono hB0.size)
      have hEn1 := HK.out w1.drew w2 (hsz0) hb1 hE1
      have hsz1 : wr.heap.size ≤ w2.heap.size := by have h9 := hb1.size; simp only [World.drew] at h9; omega
      refine hK _ _ ⟨hEn1, fun _ => trivial⟩ (fun hS => ?_)
      clear hK K hS
      refine wpAnyT_one 7 0 (by kernel_rfl) rfl (by kernel_rfl) (fun K hK => ?_)
      go_simp
      refine hK _ _ ⟨hEn1, fun _ => trivial⟩ (fun hS => ?_)
      clear hK K hS
      refine wpAnyT_over (by kernel_rfl) ?_
      clear hE1 hb1
      obtain ⟨c0, c1, c2⟩ := hEn1
      go_wp2
      go_roundw
      case rel => exact ⟨k + 1, by omega, by go_num, by have := HC2.out; simp; omega, hB1⟩
      case measure => simp [intOf]; omega
    · have HZ : Hid (m + 3 * (k : Int) = m + 3 * (n : Int)) := Lib.hid (by omega)
      go_wp2
      go_ret
      exact ⟨ret_int HZ.out, hB⟩

set_option maxRecDepth 100000 in
set_option maxHeartbeats 1600000 in
theorem markFeed_own (u t : ByteArray) (x : Value) (its : List It) (base : Nat) (m : Int) (w : World) (h : OwnR 71 3 itC w base x its) (hm0 : 0 < m) (hm1 : m ≤ 100000000000000) (hn : its.length ≤ 1048576) :
    Calls Tryd.prog 26 #[fV u t x, .int .i64 m] w fun e w' => e = .returned (.int .i64 (m + 3 * (its.length : Int))) ∧ OwnR 71 3 itC w' base x (maIs its.length m) ∧ w.grownBy w' x.ownBlock := by
  have ho := h.alloc (fC u t x)
  have hb := World.grownBy_alloc w (fC u t x) x.ownBlock
  have HC := Lib.hid (markItemS_any x its base m _ ho hm0 hm1 hn)
  obtain ⟨xa, xc, rfl⟩ := h.slice
  clear h ho
  go_enter Tryd.func26, Tryd.ntmps26
  go_wp2_with fail
  refine HC.out.mono ?_
  rintro e w1 ⟨rfl, ho1, hg1⟩
  have hg := hb.trans hg1
  clear hb hg1
  go_wp2
  go_ret
  exact ⟨rfl, ho1, hg⟩

set_option maxRecDepth 100000 in
set_option maxHeartbeats 1600000 in
theorem heldFeed_own (u t : ByteArray) (x : Value) (n : Nat) (m : Int) (w : World) (h : ItAt w w.heap.size x (maIs n m)) (hm0 : 0 < m) (hm1 : m ≤ 100000000000000) (hn : n ≤ 1048576) :
    Calls Tryd.prog 27 #[fV u t x, .int .i64 m] w fun e w' => e = .returned (.int .i64 (m + 3 * (n : Int))) ∧ Below w.heap.size w w' := by
  have hb : Below w.heap.size w (w.alloc (fC u t x)) := (Below.refl _ _).alloc (Nat.le_refl _) _
  have HC := Lib.hid (heldItemS_any x n m _ ((h.below hb).mono hb.size) hm0 hm1 hn)
  obtain ⟨xa, xc, rfl, _⟩ := h.raw
  clear h
  go_enter Tryd.func27, Tryd.ntmps27
  go_wp2_with fail
  refine HC.out.mono ?_
  rintro e w1 ⟨rfl, hb1⟩
  have hB := hb.trans (hb1.mono hb.size)
  have hk : ¬ (m + 3 * (n : Int) < 0) := by omega
  clear hb hb1
  go_wp2
  go_ret
  exact ⟨rfl, hB⟩
end Go.Proofs.YtgimjfffdnopiaaDoor
