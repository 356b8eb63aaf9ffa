/- Marks on rows of polls and of texts; texts held against each other. -/
import Derived.Test.YtlipgmaiooljkaaW16n
namespace Go.Proofs.Ytlipgmaiooljkaa
open Go.ChangeShapes Go.WideShapes Go.ChangeAt Go.RowKit
set_option linter.unusedVariables false
set_option linter.unusedSimpArgs false

def maT (n : Nat) (m : Int) : List ByteArray := (List.range n).map fun i : Nat => mtX (m + (i : Int))
theorem maT_len (n : Nat) (m : Int) : (maT n m).length = n := by simp [maT]
theorem maT_get (n : Nat) (m : Int) (i : Nat) (h : i < (maT n m).length) : (maT n m)[i] = mtX (m + (i : Int)) := by simp [maT]
theorem maT_snoc (n : Nat) (m : Int) : maT (n + 1) m = maT n m ++ [mtX (m + (n : Int))] := by
  unfold maT
  rw [List.range_succ, List.map_append]
  rfl
theorem maT_set (es : List ByteArray) (m : Int) (k : Nat) (h : k < es.length) : (maT k m ++ es.drop k).set k (mtX (m + (k : Int))) = maT (k + 1) m ++ es.drop (k + 1) := by
  rw [List.set_append_right _ _ (by rw [maT_len]; exact Nat.le_refl _), maT_len, Nat.sub_self, List.drop_eq_getElem_cons h, List.set_cons_zero, maT_snoc, List.append_assoc]
  rfl
def StAt (w : World) (B : Nat) (v : Value) (l : List ByteArray) : Prop := RecAt 1 stC w B v l
theorem StAt.below {w w' : World} {B : Nat} {v : Value} {l : List ByteArray} (h : StAt w B v l) (hb : Below B w w') : StAt w' B v l := RecAt.below h hb
theorem StAt.at {w : World} {B : Nat} {v : Value} {l : List ByteArray} (h : StAt w B v l) (k : Nat) (hk : k < l.length) : ∃ b off cap, v = .slice (some ⟨b, off, none⟩) l.length cap ∧ b < B ∧ w.cell? ⟨b, off + k, none⟩ = some (.string l[k]) := by
  obtain ⟨a, cap, hv, h1, h2, hc⟩ := h
  obtain ⟨b, off, rfl, hB, hr⟩ := hc (by omega)
  have := hr k hk 0 _ rfl
  rw [Nat.mul_one, Nat.add_zero] at this
  exact ⟨b, off, cap, hv, hB, this⟩

set_option maxRecDepth 100000 in
set_option maxHeartbeats 1600000 in
theorem eqStringS_same (v v' : Value) (l : List ByteArray) (w : World) (h : StAt w w.heap.size v l) (h' : StAt w w.heap.size v' l) :
    Calls Try.prog 27 #[v, v'] w fun e w' => e = .returned (.bool true) ∧ Below w.heap.size w w' := by
  have HI := Lib.hid h
  have HJ := Lib.hid h'
  obtain ⟨a, cap, rfl, hl, hm, _⟩ := h
  obtain ⟨a2, cap2, rfl, hl2, hm2, _⟩ := h'
  unfold maxLen at hm hm2
  go_enter Try.func27, Try.ntmps27
  go_wp2
  go_loopw [5] (fun i wr => ∃ k : Nat, k ≤ l.length ∧ i = .int .i64 k ∧ Below w.heap.size w wr) (fun i _ => l.length - (intOf i).toNat)
  case atStart => exact ⟨0, Nat.zero_le _, rfl, Below.refl _ _⟩
  case round =>
    obtain ⟨k, hk, rfl, hbel⟩ := hrel
    by_cases hlt : k < l.length
    · obtain ⟨b, off, cap3, hv, hb, c0⟩ := (HI.out.below hbel).at k hlt
      cases hv
      obtain ⟨b2, off2, cap4, hv2, hb2, g0⟩ := (HJ.out.below hbel).at k hlt
      cases hv2
      obtain ⟨q, hq⟩ : ∃ q, q = l[k] := ⟨_, rfl⟩
      rw [← hq] at c0 g0
      clear hq
      go_wp2
      refine wp_region_T (fun w' => w'.cell? ⟨b, off + k, none⟩ = some (.string q) ∧ w'.cell? ⟨b2, off2 + k, none⟩ = some (.string q)) (fun _ => True) 8 (by kernel_rfl) 9 rfl ?_
      refine wpAnyT_takesA (md := .any) 1 (by kernel_rfl) (by intro d v c a w h; cases d <;> exact h) [0, 1, 2, 3, 4, 5, 6, 7] _ _ _ (by decide) (by kernel_rfl) ⟨⟨c0, g0⟩, fun _ => trivial⟩ ?_
      simp only [pick, List.filterMap_cons, List.filterMap_nil, List.getElem?_cons_zero, List.getElem?_cons_succ]
      refine wpIf_step (.slice (some ⟨b, off, none⟩) l.length cap) (by kernel_rfl) (fun w hw => by go_simp) ?_
      refine wpIf_step (.int .i64 (k : Int)) (by kernel_rfl) (fun w hw => by go_simp) ?_
      refine wpIf_step (.pointer (some ⟨b, off + k, none⟩)) (by kernel_rfl) (fun w hw => by go_simp) ?_
      refine wpIf_step (.string q) (by kernel_rfl) (fun w hw => by obtain ⟨e0, _⟩ := hw; go_simp) ?_
      refine wpIf_step (.slice (some ⟨b2, off2, none⟩) l.length cap2) (by kernel_rfl) (fun w hw => by go_simp) ?_
      refine wpIf_step (.int .i64 (k : Int)) (by kernel_rfl) (fun w hw => by go_simp) ?_
      refine wpIf_step (.pointer (some ⟨b2, off2 + k, none⟩)) (by kernel_rfl) (fun w hw => by go_simp) ?_
      refine wpIf_step (.string q) (by kernel_rfl) (fun w hw => by obtain ⟨_, e0⟩ := hw; go_simp) ?_
      refine wpIf_nil (fun hS => ?_)
      refine wpAnyT_one 8 0 (by kernel_rfl) rfl (by kernel_rfl) (fun K hK => ?_)
      go_simp
      refine hK _ _ ⟨⟨c0, g0⟩, fun _ => trivial⟩ (fun hS4 => ?_)
      clear hK K hS hS4
      replace hbel := hbel.drew
      refine wpAnyT_over (by kernel_rfl) ?_
      go_wp2
      go_roundw
      case rel => exact ⟨k + 1, by omega, by go_num, hbel⟩
      case measure => simp [intOf]; omega
    · go_wp2
      go_ret
      exact ⟨rfl, hbel⟩

set_option maxRecDepth 100000 in
set_option maxHeartbeats 1600000 in
theorem markStringS_any (v : Value) (l : List ByteArray) (base : Nat) (m : Int) (w : World) (h : OwnR 9 1 stC w base v l) (hm0 : 0 < m) (hm1 : m ≤ 100000000000000) (hn : l.length ≤ 1048576) :
    Calls Try.prog 30 #[v, .int .i64 m] w fun e w' => e = .returned (.int .i64 (m + (l.length : Int))) ∧ OwnR 9 1 stC w' base v (maT l.length m) ∧ w.grownBy w' v.ownBlock := by
  obtain ⟨va, vc, rfl⟩ := h.slice
  have HM := Lib.hid (fun k w h0 h1 => markText_any k w h0 h1)
  have HO := Lib.hid h
  clear h
  go_enter Try.func30, Try.ntmps30
  go_wp2
  go_loopw [1, 5] (fun c i wr => ∃ k : Nat, k ≤ l.length ∧ i = .int .i64 (k : Int) ∧ c = .int .i64 (m + (k : Int)) ∧ Hid (OwnR 9 1 stC wr base (.slice va l.length vc) (maT k m ++ l.drop k)) ∧ Hid (w.grownBy wr (Value.ownBlock (.slice va l.length vc)))) (fun _ i _ => l.length - (intOf i).toNat)
  case atStart => exact ⟨0, Nat.zero_le _, rfl, by simp, HO, Lib.hid (World.grownBy.refl _ _)⟩
  case round =>
    obtain ⟨k, hk, rfl, rfl, HD, HG⟩ := hrel
    clear HO
    by_cases hlt : k < l.length
    · have HL : Hid (l.length = (maT k m ++ l.drop k).length) := Lib.hid (by rw [List.length_append, maT_len, List.length_drop]; omega)
      obtain ⟨g, hva, hg1, hg2, hgn⟩ := OwnR.form HD.out (by rw [← HL.out]; omega)
      clear hgn
      subst hva
      have HK : Hid (k < (maT k m ++ l.drop k).length) := Lib.hid (by rw [← HL.out]; exact hlt)
      have HSt := Lib.hid (maT_set l m k hlt)
      have HD0 := Lib.hid (own_start HD.out HK.out)
      generalize (maT k m ++ l.drop k)[k] = x0 at HD0
      generalize maT k m ++ l.drop k = L at HD0 HSt HL HK
      clear HD
      obtain ⟨c, hc⟩ : ∃ c, c = m + (k : Int) := ⟨_, rfl⟩
      have hc0 : 0 < c := by omega
      have hc1 : c ≤ 100000000000000 + 1048576 := by omega
      have HC2 : Hid (m + ((k : Int) + 1) = c + 1) := Lib.hid (by omega)
      rw [← hc] at HSt ⊢
      have HC := Lib.hid hc
      clear hc hm0 hm1
      go_wp2_with fail
      refine (HM.out (c) _ (by omega) (by omega)).mono ?_
      rintro e w1 ⟨rfl, hb1⟩
      have HD1k := Lib.hid ((HD0.out).keep hb1 (Nat.le_refl _))
      have HG1k : Hid (w.grownBy w1 (some g)) := Lib.hid ((show w.grownBy wr (some g) from HG.out).trans (gb_any hb1))
      obtain ⟨X0, hX0⟩ : ∃ X, X = mtX (c) := ⟨_, rfl⟩
      rw [← hX0] at HSt ⊢
      clear hX0 hb1
      obtain ⟨u0z, hu0z⟩ : ∃ u, (w1).cell? ⟨g, k, none⟩ = some u := ⟨_, by have := own_cell stC_len (HD1k.out) HL.out HK.out 0 _ rfl; rw [Nat.mul_one, Nat.add_zero] at this; exact this⟩
      have fz0 := own_free (HD1k.out) HL.out
      have HD1 : Hid (OwnR 9 1 stC ((w1).setCell ⟨g, k, none⟩ (.string X0)) base (.slice (some ⟨g, 0, none⟩) l.length vc) (L.set k X0)) := Lib.hid (by have := own_fld (x' := X0) stC_len (HD1k.out) HL.out HK.out 0 (.string X0) (by decide) rfl; rw [Nat.mul_one, Nat.add_zero] at this; exact this)
      have HG1 : Hid (w.grownBy ((w1).setCell ⟨g, k, none⟩ (.string X0)) (some g)) := Lib.hid (gb_set1 g _ _ (HG1k.out))
      go_wp2
      go_roundw
      case rel => exact ⟨k + 1, by omega, by go_num, by have := HC2.out; simp; omega, Lib.hid (by rw [← HSt.out]; exact HD1.out), HG1⟩
      case measure => simp [intOf]; omega
    · have hke : k = l.length := by omega
      have HE : Hid (OwnR 9 1 stC wr base (.slice va l.length vc) (maT l.length m)) := Lib.hid (by have := HD.out; rw [hke, List.drop_length, List.append_nil] at this; exact this)
      have HZ : Hid (m + (k : Int) = m + (l.length : Int)) := Lib.hid (by omega)
      clear hke HD
      go_wp2
      go_ret
      exact ⟨ret_int HZ.out, HE.out, HG.out⟩

set_option maxRecDepth 100000 in
set_option maxHeartbeats 1600000 in
theorem heldStringS_any (v : Value) (n : Nat) (m : Int) (w : World) (h : StAt w w.heap.size v (maT n m)) (hm0 : 0 < m) (hm1 : m ≤ 100000000000000) (hn : n ≤ 1048576) :
    Calls Try.prog 31 #[v, .int .i64 m] w fun e w' => e = .returned (.int .i64 (m + (n : Int))) ∧ Below w.heap.size w w' := by
  have HI := Lib.hid h
  have HM := Lib.hid (fun k w h0 h1 => markText_any k w h0 h1)
  obtain ⟨a, cap, rfl, hl, hmx, _⟩ := h
  unfold maxLen at hmx
  have HLn := Lib.hid (maT_len n m)
  have HGt := Lib.hid (fun i h => maT_get n m i h)
  generalize maT n m = l at HI hl HLn HGt ⊢
  have hlb : l.length ≤ 1048576 := by have := HLn.out; omega
  go_enter Try.func31, Try.ntmps31
  go_wp2
  go_loopw [1, 5] (fun c i wr => ∃ k : Nat, k ≤ l.length ∧ i = .int .i64 (k : Int) ∧ c = .int .i64 (m + (k : Int)) ∧ Below w.heap.size w wr) (fun _ i _ => l.length - (intOf i).toNat)
  case atStart => exact ⟨0, Nat.zero_le _, rfl, by simp, Below.refl _ _⟩
  case round =>
    obtain ⟨k, hk, rfl, rfl, hB⟩ := hrel
    by_cases hlt : k < l.length
    · obtain ⟨b, off, cap3, hv, hb, c0⟩ := (HI.out.below hB).at k hlt
      cases hv
      rw [HGt.out k hlt] at c0
      obtain ⟨c, hc⟩ : ∃ c, c = m + (k : Int) := ⟨_, rfl⟩
      have hc0 : 0 < c := by omega
      have hc1 : c ≤ 100000000000000 + 1048576 := by have := HLn.out; omega
      have HC2 : Hid (m + ((k : Int) + 1) = c + 1) := Lib.hid (by omega)
      rw [← hc] at c0 ⊢
      have HT := Lib.hid (fun w => HM.out c w (by omega) (by omega))
      generalize mtX c = X at c0 HT
      have hbw : b < wr.heap.size := by have := hB.size; omega
      clear hc hm0 hm1
      go_wp2
      refine wp_region_T (fun w' => w'.cell? ⟨b, off + k, none⟩ = some (.string X)) (fun _ => True) 6 (by kernel_rfl) 7 rfl ?_
      refine wpAnyT_takesA (md := .any) 2 (by kernel_rfl) (by intro d v c a w h; cases d <;> exact h) [0, 1, 2, 3, 4] _ _ _ (by decide) (by kernel_rfl) ⟨c0, fun _ => trivial⟩ ?_
      simp only [pick, List.filterMap_cons, List.filterMap_nil, List.getElem?_cons_zero, List.getElem?_cons_succ]
      refine wpIf_step (.slice (some ⟨b, off, none⟩) l.length cap) (by kernel_rfl) (fun w hw => by go_simp) ?_
      refine wpIf_step (.int .i64 (k : Int)) (by kernel_rfl) (fun w hw => by go_simp) ?_
      refine wpIf_step (.pointer (some ⟨b, off + k, none⟩)) (by kernel_rfl) (fun w hw => by go_simp) ?_
      refine wpIf_step (.string X) (by kernel_rfl) (fun w hw => by go_simp) ?_
      refine wpIf_step (.int .i64 c) (by kernel_rfl) (fun w hw => by go_simp) ?_
      refine wpIf_nil (fun hS => ?_)
      clear hS
      refine wpAnyT_one 5 1 (by kernel_rfl) rfl (by kernel_rfl) (fun K hK => ?_)
      go_simp
      refine (HT.out _).mono ?_
      rintro e w1 ⟨rfl, hb1⟩
      have hB1 := hB.drew.trans (hb1.mono hB.size)
      have d0 : w1.cell? ⟨b, off + k, none⟩ = some (.string X) := (hb1.cell (p := ⟨b, off + k, none⟩) hbw).trans c0
      refine hK _ _ ⟨d0, fun _ => trivial⟩ (fun hS4 => ?_)
      clear hK K hS4 hb1
      refine wpAnyT_one 6 0 (by kernel_rfl) rfl (by kernel_rfl) (fun K hK => ?_)
      go_simp
      refine hK _ _ ⟨d0, fun _ => trivial⟩ (fun hS4 => ?_)
      clear hK K hS4
      refine wpAnyT_over (by kernel_rfl) ?_
      go_wp2
      go_roundw
      case rel => exact ⟨k + 1, by omega, by go_num, by have := HC2.out; simp; omega, hB1⟩
      case measure => simp [intOf]; omega
    · have HZ : Hid (m + (k : Int) = m + (n : Int)) := Lib.hid (by have := HLn.out; omega)
      go_wp2
      go_ret
      exact ⟨ret_int HZ.out, hB⟩

set_option maxRecDepth 100000 in
set_option maxHeartbeats 2400000 in
theorem markPollS_any (v : Value) (ps : List PollD) (base : Nat) (m : Int) (w : World) (h : OwnR 23 6 pkL w base v ps) (hm0 : 0 < m) (hm1 : m ≤ 100000000000000) (hn : ps.length ≤ 1048576) :
    Calls Try.prog 29 #[v, .int .i64 m] w fun e w' => e = .returned (.int .i64 (m + 6 * (ps.length : Int))) ∧ w.grownBy w' v.ownBlock := by
  obtain ⟨va, vc, rfl⟩ := h.slice
  have HM := Lib.hid (fun k w h0 h1 => markText_any k w h0 h1)
  have HO := Lib.hid h
  clear h
  go_enter Try.func29, Try.ntmps29
  go_wp2
  go_loopw [1, 5] (fun c i wr => ∃ (k : Nat) (L : List PollD), k ≤ ps.length ∧ i = .int .i64 (k : Int) ∧ c = .int .i64 (m + 6 * (k : Int)) ∧ Hid (ps.length = L.length) ∧ Hid (OwnR 23 6 pkL wr base (.slice va ps.length vc) L) ∧ Hid (w.grownBy wr (Value.ownBlock (.slice va ps.length vc)))) (fun _ i _ => ps.length - (intOf i).toNat)
  case atStart => exact ⟨0, ps, Nat.zero_le _, rfl, by simp, Lib.hid rfl, HO, Lib.hid (World.grownBy.refl _ _)⟩
  case round =>
    obtain ⟨k, L, hk, rfl, rfl, HL, HD, HG⟩ := hrel
    clear HO
    by_cases hlt : k < ps.length
    · obtain ⟨g, hva, hg1, hg2, hgn⟩ := OwnR.form HD.out (by rw [← HL.out]; omega)
      clear hgn
      subst hva
      have HK : Hid (k < L.length) := Lib.hid (by rw [← HL.out]; exact hlt)
      have HD0 := Lib.hid (own_start HD.out HK.out)
      generalize L[k]'HK.out = x0 at HD0
      clear HD
      obtain ⟨c, hc⟩ : ∃ c, c = m + 6 * (k : Int) := ⟨_, rfl⟩
      have hc0 : 0 < c := by omega
      have hc1 : c ≤ 100000000000000 + 6 * 1048576 := by omega
      have HC2 : Hid (m + 6 * ((k : Int) + 1) = c + 6) := Lib.hid (by omega)
      rw [← hc]
      have HC := Lib.hid hc
      clear hc hm0 hm1
      go_wp2_with fail
      refine (HM.out (c) _ (by omega) (by omega)).mono ?_
      rintro e w1 ⟨rfl, hb1⟩
      have HD1k := Lib.hid ((HD0.out).keep hb1 (Nat.le_refl _))
      have HG1k : Hid (w.grownBy w1 (some g)) := Lib.hid ((show w.grownBy wr (some g) from HG.out).trans (gb_any hb1))
      generalize mtX (c) = X0
      clear hb1
      obtain ⟨u0z, hu0z⟩ : ∃ u, (w1).cell? ⟨g, k * 6, none⟩ = some u := ⟨_, by have := own_cell pkL_len (HD1k.out) HL.out HK.out 0 _ rfl; exact this⟩
      have fz0 := own_free (HD1k.out) HL.out
      have HD1 : Hid (OwnR 23 6 pkL ((w1).setCell ⟨g, k * 6, none⟩ (.string X0)) base (.slice (some ⟨g, 0, none⟩) ps.length vc) (L.set k ⟨X0, x0.m, x0.n, x0.wt, x0.f, x0.g⟩)) := Lib.hid (by have := own_fld (x' := ⟨X0, x0.m, x0.n, x0.wt, x0.f, x0.g⟩) pkL_len (HD1k.out) HL.out HK.out 0 (.string X0) (by decide) rfl; exact this)
      have HG1 : Hid (w.grownBy ((w1).setCell ⟨g, k * 6, none⟩ (.string X0)) (some g)) := Lib.hid (gb_set1 g _ _ (HG1k.out))
      go_wp2_with fail
      refine (HM.out (c + 1) _ (by omega) (by omega)).mono ?_
      rintro e w2 ⟨rfl, hb2⟩
      have HD2k := Lib.hid ((HD1.out).keep hb2 (Nat.le_refl _))
      have HG2k : Hid (w.grownBy w2 (some g)) := Lib.hid (HG1.out.trans (gb_any hb2))
      generalize mtX (c + 1) = X1
      clear hb2
      obtain ⟨u1z, hu1z⟩ : ∃ u, (w2).cell? ⟨g, k * 6 + 1, none⟩ = some u := ⟨_, by have := own_cell pkL_len (HD2k.out) HL.out HK.out 1 _ rfl; exact this⟩
      have fz1 := own_free (HD2k.out) HL.out
      have HD2 : Hid (OwnR 23 6 pkL ((w2).setCell ⟨g, k * 6 + 1, none⟩ (.string X1)) base (.slice (some ⟨g, 0, none⟩) ps.length vc) (L.set k ⟨X0, X1, x0.n, x0.wt, x0.f, x0.g⟩)) := Lib.hid (by have := own_fld (x' := ⟨X0, X1, x0.n, x0.wt, x0.f, x0.g⟩) pkL_len (HD2k.out) HL.out HK.out 1 (.string X1) (by decide) rfl; exact this)
      have HG2 : Hid (w.grownBy ((w2).setCell ⟨g, k * 6 + 1, none⟩ (.string X1)) (some g)) := Lib.hid (gb_set1 g _ _ (HG2k.out))
      obtain ⟨u2z, hu2z⟩ : ∃ u, (((w2).setCell ⟨g, k * 6 + 1, none⟩ (.string X1))).cell? ⟨g, k * 6 + 2, none⟩ = some u := ⟨_, by have := own_cell pkL_len (HD2.out) HL.out HK.out 2 _ rfl; exact this⟩
      have fz2 := own_free (HD2.out) HL.out
      have HD3 : Hid (OwnR 23 6 pkL ((((w2).setCell ⟨g, k * 6 + 1, none⟩ (.string X1))).setCell ⟨g, k * 6 + 2, none⟩ (.int .i64 (c + 1 + 1))) base (.slice (some ⟨g, 0, none⟩) ps.length vc) (L.set k ⟨X0, X1, c + 1 + 1, x0.wt, x0.f, x0.g⟩)) := Lib.hid (by have := own_fld (x' := ⟨X0, X1, c + 1 + 1, x0.wt, x0.f, x0.g⟩) pkL_len (HD2.out) HL.out HK.out 2 (.int .i64 (c + 1 + 1)) (by decide) rfl; exact this)
      have HG3 : Hid (w.grownBy ((((w2).setCell ⟨g, k * 6 + 1, none⟩ (.string X1))).setCell ⟨g, k * 6 + 2, none⟩ (.int .i64 (c + 1 + 1))) (some g)) := Lib.hid (gb_set1 g _ _ (HG2.out))
      obtain ⟨u3z, hu3z⟩ : ∃ u, (((((w2).setCell ⟨g, k * 6 + 1, none⟩ (.string X1))).setCell ⟨g, k * 6 + 2, none⟩ (.int .i64 (c + 1 + 1)))).cell? ⟨g, k * 6 + 3, none⟩ = some u := ⟨_, by have := own_cell pkL_len (HD3.out) HL.out HK.out 3 _ rfl; exact this⟩
      have fz3 := own_free (HD3.out) HL.out
      have HD4 : Hid (OwnR 23 6 pkL ((((((w2).setCell ⟨g, k * 6 + 1, none⟩ (.string X1))).setCell ⟨g, k * 6 + 2, none⟩ (.int .i64 (c + 1 + 1)))).setCell ⟨g, k * 6 + 3, none⟩ (.int .i64 (c + 1 + 1 + 1))) base (.slice (some ⟨g, 0, none⟩) ps.length vc) (L.set k ⟨X0, X1, c + 1 + 1, c + 1 + 1 + 1, x0.f, x0.g⟩)) := Lib.hid (by have := own_fld (x' := ⟨X0, X1, c + 1 + 1, c + 1 + 1 + 1, x0.f, x0.g⟩) pkL_len (HD3.out) HL.out HK.out 3 (.int .i64 (c + 1 + 1 + 1)) (by decide) rfl; exact this)
      have HG4 : Hid (w.grownBy ((((((w2).setCell ⟨g, k * 6 + 1, none⟩ (.string X1))).setCell ⟨g, k * 6 + 2, none⟩ (.int .i64 (c + 1 + 1)))).setCell ⟨g, k * 6 + 3, none⟩ (.int .i64 (c + 1 + 1 + 1))) (some g)) := Lib.hid (gb_set1 g _ _ (HG3.out))
      obtain ⟨u4z, hu4z⟩ : ∃ u, (((((((w2).setCell ⟨g, k * 6 + 1, none⟩ (.string X1))).setCell ⟨g, k * 6 + 2, none⟩ (.int .i64 (c + 1 + 1)))).setCell ⟨g, k * 6 + 3, none⟩ (.int .i64 (c + 1 + 1 + 1)))).cell? ⟨g, k * 6 + 4, none⟩ = some u := ⟨_, by have := own_cell pkL_len (HD4.out) HL.out HK.out 4 _ rfl; exact this⟩
      have fz4 := own_free (HD4.out) HL.out
      have HD5 : Hid (OwnR 23 6 pkL ((((((((w2).setCell ⟨g, k * 6 + 1, none⟩ (.string X1))).setCell ⟨g, k * 6 + 2, none⟩ (.int .i64 (c + 1 + 1)))).setCell ⟨g, k * 6 + 3, none⟩ (.int .i64 (c + 1 + 1 + 1)))).setCell ⟨g, k * 6 + 4, none⟩ (.int .i64 (c + 1 + 1 + 1 + 1))) base (.slice (some ⟨g, 0, none⟩) ps.length vc) (L.set k ⟨X0, X1, c + 1 + 1, c + 1 + 1 + 1, c + 1 + 1 + 1 + 1, x0.g⟩)) := Lib.hid (by have := own_fld (x' := ⟨X0, X1, c + 1 + 1, c + 1 + 1 + 1, c + 1 + 1 + 1 + 1, x0.g⟩) pkL_len (HD4.out) HL.out HK.out 4 (.int .i64 (c + 1 + 1 + 1 + 1)) (by decide) rfl; exact this)
      have HG5 : Hid (w.grownBy ((((((((w2).setCell ⟨g, k * 6 + 1, none⟩ (.string X1))).setCell ⟨g, k * 6 + 2, none⟩ (.int .i64 (c + 1 + 1)))).setCell ⟨g, k * 6 + 3, none⟩ (.int .i64 (c + 1 + 1 + 1)))).setCell ⟨g, k * 6 + 4, none⟩ (.int .i64 (c + 1 + 1 + 1 + 1))) (some g)) := Lib.hid (gb_set1 g _ _ (HG4.out))
      obtain ⟨u5z, hu5z⟩ : ∃ u, (((((((((w2).setCell ⟨g, k * 6 + 1, none⟩ (.string X1))).setCell ⟨g, k * 6 + 2, none⟩ (.int .i64 (c + 1 + 1)))).setCell ⟨g, k * 6 + 3, none⟩ (.int .i64 (c + 1 + 1 + 1)))).setCell ⟨g, k * 6 + 4, none⟩ (.int .i64 (c + 1 + 1 + 1 + 1)))).cell? ⟨g, k * 6 + 5, none⟩ = some u := ⟨_, by have := own_cell pkL_len (HD5.out) HL.out HK.out 5 _ rfl; exact this⟩
      have fz5 := own_free (HD5.out) HL.out
      have HD6 : Hid (OwnR 23 6 pkL ((((((((((w2).setCell ⟨g, k * 6 + 1, none⟩ (.string X1))).setCell ⟨g, k * 6 + 2, none⟩ (.int .i64 (c + 1 + 1)))).setCell ⟨g, k * 6 + 3, none⟩ (.int .i64 (c + 1 + 1 + 1)))).setCell ⟨g, k * 6 + 4, none⟩ (.int .i64 (c + 1 + 1 + 1 + 1)))).setCell ⟨g, k * 6 + 5, none⟩ (.bool ((c + 1 + 1 + 1 + 1 + 1) % 3 == 0))) base (.slice (some ⟨g, 0, none⟩) ps.length vc) (L.set k ⟨X0, X1, c + 1 + 1, c + 1 + 1 + 1, c + 1 + 1 + 1 + 1, (c + 1 + 1 + 1 + 1 + 1) % 3 == 0⟩)) := Lib.hid (by have := own_fld (x' := ⟨X0, X1, c + 1 + 1, c + 1 + 1 + 1, c + 1 + 1 + 1 + 1, (c + 1 + 1 + 1 + 1 + 1) % 3 == 0⟩) pkL_len (HD5.out) HL.out HK.out 5 (.bool ((c + 1 + 1 + 1 + 1 + 1) % 3 == 0)) (by decide) rfl; exact this)
      have HG6 : Hid (w.grownBy ((((((((((w2).setCell ⟨g, k * 6 + 1, none⟩ (.string X1))).setCell ⟨g, k * 6 + 2, none⟩ (.int .i64 (c + 1 + 1)))).setCell ⟨g, k * 6 + 3, none⟩ (.int .i64 (c + 1 + 1 + 1)))).setCell ⟨g, k * 6 + 4, none⟩ (.int .i64 (c + 1 + 1 + 1 + 1)))).setCell ⟨g, k * 6 + 5, none⟩ (.bool ((c + 1 + 1 + 1 + 1 + 1) % 3 == 0))) (some g)) := Lib.hid (gb_set1 g _ _ (HG5.out))
      go_wp2
      go_roundw
      case rel => exact ⟨k + 1, _, by omega, by go_num, by have := HC2.out; simp; omega, Lib.hid (by rw [List.length_set]; exact HL.out), HD6, HG6⟩
      case measure => simp [intOf]; omega
    · have HZ : Hid (m + 6 * (k : Int) = m + 6 * (ps.length : Int)) := Lib.hid (by omega)
      go_wp2
      go_ret
      exact ⟨ret_int HZ.out, HG.out⟩
end Go.Proofs.Ytlipgmaiooljkaa
