/- Joined: M9d. -/
import Derived.Test.YtfgdbpjmjeaolaaH33
import Derived.Test.YtfgdbpjmjeaolaaH39
/- M9d -/
namespace Go.Proofs.Ytfgdbpjmjeaolaa
open Go.ChangeShapes Go.WideShapes Go.ChangeAt Go.RowKit
set_option linter.unusedVariables false

/-- Only blocks from B on and below S are turned. -/
def Mid (B S : Nat) (w w' : World) : Prop := Below B w w' ∧ ∀ g, S ≤ g → g < w.heap.size → w'.heap[g]? = w.heap[g]?
theorem Mid.refl {B S : Nat} (w : World) : Mid B S w w := ⟨Below.refl _ _, fun _ _ _ => rfl⟩
theorem Mid.trans {B S : Nat} {w w' w'' : World} (h : Mid B S w w') (h' : Mid B S w' w'') : Mid B S w w'' :=
  ⟨h.1.trans h'.1, fun g hg hw => (h'.2 g hg (by have := h.1.size; omega)).trans (h.2 g hg hw)⟩
theorem Mid.below {B S : Nat} {w w' : World} (h : Below w.heap.size w w') (hB : B ≤ w.heap.size) : Mid B S w w' :=
  ⟨h.mono hB, fun g _ hw => h.block g hw⟩
theorem Mid.gb {B S : Nat} {w w' : World} {row : Option Nat} (h : w.grownBy w' row) (hB : B ≤ w.heap.size) (hr : ∀ b, row = some b → B ≤ b ∧ b < S) : Mid B S w w' :=
  ⟨gb_Below h hB (fun b hb => (hr b hb).1), fun g hg hw => h.block g hw (fun e => by have := hr g e.symm; omega)⟩
theorem Mid.setCell {B S : Nat} {w w' : World} (h : Mid B S w w') (p : Addr) (x : Value) (h1 : B ≤ p.block) (h2 : p.block < S) : Mid B S w (w'.setCell p x) :=
  ⟨h.1.setCell h1 x, fun g hg hw => (Below.heap_setCell _ _ _ _ (by omega)).trans (h.2 g hg hw)⟩
theorem OwnR.mid {α : Type} {k : Nat} {C : α → List Value} {e : TypeId} {w w' : World} {B S base : Nat} {v : Value} {l : List α} (h : OwnR e k C w base v l) (hm : Mid B S w w') (hS : S ≤ base) : OwnR e k C w' base v l := by
  refine ⟨h.1, ?_⟩
  rcases h.2 with hn | ⟨g, cap, cur, rfl, hb', hg, rest⟩
  · exact .inl hn
  · refine .inr ⟨g, cap, cur, rfl, hb', ?_, rest⟩
    rw [hm.2 g (by omega) (Array.getElem?_eq_some_iff.1 hg).1]
    exact hg
theorem OwnD.mid {w w' : World} {B S base : Nat} {v : Value} {ps : List (Sb × Value)} (h : OwnD w base v ps) (hm : Mid B S w w') (hS : S ≤ base) : OwnD w' base v ps :=
  ⟨h.1.mid hm hS, fun p hp => (h.2.1 p hp).mid hm hS, h.2.2⟩
theorem Box.mid {w w' : World} {B S g : Nat} {cs : Array Value} {t : TypeId} (h : Box w g cs t) (hm : Mid B S w w') (hg : g < B ∨ S ≤ g) : Box w' g cs t := by
  rcases hg with h1 | h1
  · exact h.keep hm.1 h1
  · exact (hm.2 g h1 h.lt).trans h
section
variable {α : Type} {k : Nat} {C : α → List Value}
/-- One field of a record that was put into a row. -/
theorem own_fld {e : TypeId} {w : World} {base g n cap : Nat} {L : List α} {x x' : α} (hk : ∀ x, (C x).length = k) {i : Nat} (h : OwnR e k C w base (.slice (some ⟨g, 0, none⟩) n cap) (L.set i x)) (hn : n = L.length) (hi : i < L.length) (j : Nat) (u : Value) (hj : j < k) (hx : C x' = (C x).set j u) :
    OwnR e k C (w.setCell ⟨g, i * k + j, none⟩ u) base (.slice (some ⟨g, 0, none⟩) n cap) (L.set i x') := by
  have e1 : (L.set i x)[i]'(by rw [List.length_set]; exact hi) = x := List.getElem_set_self _
  have := h.setF hk (by rw [List.length_set]; exact hn) i j x' u (by rw [List.length_set]; exact hi) hj (by rw [e1]; exact hx)
  rw [List.set_set] at this
  exact this
theorem own_start {e : TypeId} {w : World} {base : Nat} {v : Value} {L : List α} {i : Nat} (h : OwnR e k C w base v L) (hi : i < L.length) : OwnR e k C w base v (L.set i L[i]) := by
  rw [List.set_getElem_self]
  exact h
theorem own_cell {e : TypeId} {w : World} {base g n cap : Nat} {L : List α} {x : α} (hk : ∀ x, (C x).length = k) {i : Nat} (h : OwnR e k C w base (.slice (some ⟨g, 0, none⟩) n cap) (L.set i x)) (hn : n = L.length) (hi : i < L.length) (j : Nat) (u : Value) (hu : (C x)[j]? = some u) : w.cell? ⟨g, i * k + j, none⟩ = some u := by
  have e1 : (L.set i x)[i]'(by rw [List.length_set]; exact hi) = x := List.getElem_set_self _
  exact h.val hk (by rw [List.length_set]; exact hn) i j u (by rw [List.length_set]; exact hi) (by rw [e1]; exact hu)
theorem own_free {e : TypeId} {w : World} {base g n cap : Nat} {L : List α} {x : α} {i : Nat} (h : OwnR e k C w base (.slice (some ⟨g, 0, none⟩) n cap) (L.set i x)) (hn : n = L.length) (j : Nat) : w.frozen? ⟨g, j, none⟩ = false :=
  h.free (by rw [List.length_set]; exact hn) j
end

theorem gb_any {w w' : World} {row : Option Nat} (h : Below w.heap.size w w') : w.grownBy w' row := ⟨h.os, h.tape, h.output, h.size, fun k hk _ => h.block k hk⟩

set_option maxRecDepth 100000 in
set_option maxHeartbeats 1600000 in
theorem markItemS_any (v : Value) (es : List It) (base : Nat) (m : Int) (w : World) (h : OwnR 107 3 itC w base v es) (hm0 : 0 < m) (hm1 : m ≤ 100000000000000) (hn : es.length ≤ 1048576) :
    Calls Try.prog 59 #[v, .int .i64 m] w fun e w' => e = .returned (.int .i64 (m + 3 * (es.length : Int))) ∧ OwnR 107 3 itC w' base v (maIs es.length m) ∧ w.grownBy w' v.ownBlock := by
  obtain ⟨va, vc, rfl⟩ := h.slice
  have HM := Lib.hid (fun k w h0 h1 => markText_any k w h0 h1)
  have HO := Lib.hid h
  clear h
  go_enter Try.func59, Try.ntmps59
  go_wp2
  go_loopw [1, 5] (fun c i wr => ∃ k : Nat, k ≤ es.length ∧ i = .int .i64 (k : Int) ∧ c = .int .i64 (m + 3 * (k : Int)) ∧ Hid (OwnR 107 3 itC wr base (.slice va es.length vc) (maIs k m ++ es.drop k)) ∧ Hid (w.grownBy wr (Value.ownBlock (.slice va es.length vc)))) (fun _ i _ => es.length - (intOf i).toNat)
  case atStart => exact ⟨0, Nat.zero_le _, rfl, by simp, HO, Lib.hid (World.grownBy.refl _ _)⟩
  case round =>
    obtain ⟨k, hk, rfl, rfl, HD, HG⟩ := hrel
    clear HO
    by_cases hlt : k < es.length
    · have HL : Hid (es.length = (maIs k m ++ es.drop k).length) := Lib.hid (by rw [List.length_append, maIs_len, List.length_drop]; omega)
      obtain ⟨g, hva, hg1, hg2, hgn⟩ := OwnR.form HD.out (by rw [← HL.out]; omega)
      clear hgn
      subst hva
      have HK : Hid (k < (maIs k m ++ es.drop k).length) := Lib.hid (by rw [← HL.out]; exact hlt)
      have HSt := Lib.hid (maIs_set es m k hlt)
      have HD0 := Lib.hid (own_start HD.out HK.out)
      generalize (maIs k m ++ es.drop k)[k] = x0 at HD0
      generalize maIs k m ++ es.drop k = L at HD0 HSt HL HK
      clear HD
      obtain ⟨c, hc⟩ : ∃ c, c = m + 3 * (k : Int) := ⟨_, rfl⟩
      have hc0 : 0 < c := by omega
      have hc1 : c ≤ 100000000000000 + 3 * 1048576 := by omega
      have HC2 : Hid (m + 3 * ((k : Int) + 1) = c + 3) := Lib.hid (by omega)
      rw [← hc] at HSt ⊢
      have HC := Lib.hid hc
      clear hc hm0 hm1
      go_wp2_with fail
      refine (HM.out (c) _ (by omega) (by omega)).mono ?_
      rintro e w1 ⟨rfl, hb1⟩
      have HD1k := Lib.hid ((HD0.out).keep hb1 (Nat.le_refl _))
      have HG1k : Hid (w.grownBy w1 (some g)) := Lib.hid ((show w.grownBy wr (some g) from HG.out).trans (gb_any hb1))
      obtain ⟨X0, hX0⟩ : ∃ X, X = mtX (c) := ⟨_, rfl⟩
      rw [← hX0]
      have HX0 := Lib.hid hX0
      clear hX0 hb1
      obtain ⟨u0z, hu0z⟩ : ∃ u, (w1).cell? ⟨g, k * 3, none⟩ = some u := ⟨_, by have := own_cell itC_len (HD1k.out) HL.out HK.out 0 _ rfl; exact this⟩
      have fz0 := own_free (HD1k.out) HL.out
      have HD1 : Hid (OwnR 107 3 itC ((w1).setCell ⟨g, k * 3, none⟩ (.string X0)) base (.slice (some ⟨g, 0, none⟩) es.length vc) (L.set k ⟨X0, x0.ti, x0.da⟩)) := Lib.hid (by have := own_fld (x' := ⟨X0, x0.ti, x0.da⟩) itC_len (HD1k.out) HL.out HK.out 0 (.string X0) (by decide) rfl; exact this)
      have HG1 : Hid (w.grownBy ((w1).setCell ⟨g, k * 3, none⟩ (.string X0)) (some g)) := Lib.hid (gb_set1 g _ _ (HG1k.out))
      go_wp2_with fail
      refine (HM.out (c + 1) _ (by omega) (by omega)).mono ?_
      rintro e w2 ⟨rfl, hb2⟩
      have HD2k := Lib.hid ((HD1.out).keep hb2 (Nat.le_refl _))
      have HG2k : Hid (w.grownBy w2 (some g)) := Lib.hid ((HG1.out).trans (gb_any hb2))
      obtain ⟨X1, hX1⟩ : ∃ X, X = mtX (c + 1) := ⟨_, rfl⟩
      rw [← hX1]
      have HX1 := Lib.hid hX1
      clear hX1 hb2
      obtain ⟨u1z, hu1z⟩ : ∃ u, (w2).cell? ⟨g, k * 3 + 1, none⟩ = some u := ⟨_, by have := own_cell itC_len (HD2k.out) HL.out HK.out 1 _ rfl; exact this⟩
      have fz1 := own_free (HD2k.out) HL.out
      have HD2 : Hid (OwnR 107 3 itC ((w2).setCell ⟨g, k * 3 + 1, none⟩ (.string X1)) base (.slice (some ⟨g, 0, none⟩) es.length vc) (L.set k ⟨X0, X1, x0.da⟩)) := Lib.hid (by have := own_fld (x' := ⟨X0, X1, x0.da⟩) itC_len (HD2k.out) HL.out HK.out 1 (.string X1) (by decide) rfl; exact this)
      have HG2 : Hid (w.grownBy ((w2).setCell ⟨g, k * 3 + 1, none⟩ (.string X1)) (some g)) := Lib.hid (gb_set1 g _ _ (HG2k.out))
      obtain ⟨u2z, hu2z⟩ : ∃ u, ((w2).setCell ⟨g, k * 3 + 1, none⟩ (.string X1)).cell? ⟨g, k * 3 + 2, none⟩ = some u := ⟨_, by have := own_cell itC_len (HD2.out) HL.out HK.out 2 _ rfl; exact this⟩
      have fz2 := own_free (HD2.out) HL.out
      have HD3 : Hid (OwnR 107 3 itC (((w2).setCell ⟨g, k * 3 + 1, none⟩ (.string X1)).setCell ⟨g, k * 3 + 2, none⟩ (.int .i64 (c + 1 + 1))) base (.slice (some ⟨g, 0, none⟩) es.length vc) (L.set k ⟨X0, X1, c + 1 + 1⟩)) := Lib.hid (by have := own_fld (x' := ⟨X0, X1, c + 1 + 1⟩) itC_len (HD2.out) HL.out HK.out 2 (.int .i64 (c + 1 + 1)) (by decide) rfl; exact this)
      have HG3 : Hid (w.grownBy (((w2).setCell ⟨g, k * 3 + 1, none⟩ (.string X1)).setCell ⟨g, k * 3 + 2, none⟩ (.int .i64 (c + 1 + 1))) (some g)) := Lib.hid (gb_set1 g _ _ (HG2.out))
      go_wp2
      go_roundw
      case rel => exact ⟨k + 1, by omega, by go_num, by have := HC2.out; simp; omega, Lib.hid (by rw [← HSt.out, show maI c = ⟨X0, X1, c + 1 + 1⟩ by rw [HX0.out, HX1.out]; rfl]; exact HD3.out), HG3⟩
      case measure => simp [intOf]; omega
    · have hke : k = es.length := by omega
      have HE : Hid (OwnR 107 3 itC wr base (.slice va es.length vc) (maIs es.length m)) := Lib.hid (by have := HD.out; rw [hke, List.drop_length, List.append_nil] at this; exact this)
      have HZ : Hid (m + 3 * (k : Int) = m + 3 * (es.length : Int)) := Lib.hid (by omega)
      clear hke HD
      go_wp2
      go_ret
      exact ⟨ret_int HZ.out, HE.out, HG.out⟩

set_option maxRecDepth 100000 in
set_option maxHeartbeats 1600000 in
theorem markEntryS_any (v : Value) (es : List En) (base : Nat) (m : Int) (w : World) (h : OwnR 109 5 enC w base v es) (hm0 : 0 < m) (hm1 : m ≤ 100000000000000) (hn : es.length ≤ 1048576) :
    Calls Try.prog 113 #[v, .int .i64 m] w fun e w' => e = .returned (.int .i64 (m + 5 * (es.length : Int))) ∧ OwnR 109 5 enC w' base v (maEs es.length m) ∧ w.grownBy w' v.ownBlock := by
  obtain ⟨va, vc, rfl⟩ := h.slice
  have HM := Lib.hid (fun k w h0 h1 => markText_any k w h0 h1)
  have HO := Lib.hid h
  clear h
  go_enter Try.func113, Try.ntmps113
  go_wp2
  go_loopw [1, 5] (fun c i wr => ∃ k : Nat, k ≤ es.length ∧ i = .int .i64 (k : Int) ∧ c = .int .i64 (m + 5 * (k : Int)) ∧ Hid (OwnR 109 5 enC wr base (.slice va es.length vc) (maEs k m ++ es.drop k)) ∧ Hid (w.grownBy wr (Value.ownBlock (.slice va es.length vc)))) (fun _ i _ => es.length - (intOf i).toNat)
  case atStart => exact ⟨0, Nat.zero_le _, rfl, by simp, HO, Lib.hid (World.grownBy.refl _ _)⟩
  case round =>
    obtain ⟨k, hk, rfl, rfl, HD, HG⟩ := hrel
    clear HO
    by_cases hlt : k < es.length
    · have HL : Hid (es.length = (maEs k m ++ es.drop k).length) := Lib.hid (by rw [List.length_append, maEs_len, List.length_drop]; omega)
      obtain ⟨g, hva, hg1, hg2, hgn⟩ := OwnR.form HD.out (by rw [← HL.out]; omega)
      clear hgn
      subst hva
      have HK : Hid (k < (maEs k m ++ es.drop k).length) := Lib.hid (by rw [← HL.out]; exact hlt)
      have HSt := Lib.hid (maEs_set es m k hlt)
      have HD0 := Lib.hid (own_start HD.out HK.out)
      generalize (maEs k m ++ es.drop k)[k] = x0 at HD0
      generalize maEs k m ++ es.drop k = L at HD0 HSt HL HK
      clear HD
      obtain ⟨c, hc⟩ : ∃ c, c = m + 5 * (k : Int) := ⟨_, rfl⟩
      have hc0 : 0 < c := by omega
      have hc1 : c ≤ 100000000000000 + 5 * 1048576 := by omega
      have HC2 : Hid (m + 5 * ((k : Int) + 1) = c + 5) := Lib.hid (by omega)
      rw [← hc] at HSt ⊢
      have HC := Lib.hid hc
      clear hc hm0 hm1
      go_wp2_with fail
      refine (HM.out (c) _ (by omega) (by omega)).mono ?_
      rintro e w1 ⟨rfl, hb1⟩
      have HD1k := Lib.hid ((HD0.out).keep hb1 (Nat.le_refl _))
      have HG1k : Hid (w.grownBy w1 (some g)) := Lib.hid ((show w.grownBy wr (some g) from HG.out).trans (gb_any hb1))
      obtain ⟨X0, hX0⟩ : ∃ X, X = mtX (c) := ⟨_, rfl⟩
      rw [← hX0]
      have HX0 := Lib.hid hX0
      clear hX0 hb1
      obtain ⟨u0z, hu0z⟩ : ∃ u, (w1).cell? ⟨g, k * 5, none⟩ = some u := ⟨_, by have := own_cell enC_len (HD1k.out) HL.out HK.out 0 _ rfl; exact this⟩
      have fz0 := own_free (HD1k.out) HL.out
      have HD1 : Hid (OwnR 109 5 enC ((w1).setCell ⟨g, k * 5, none⟩ (.string X0)) base (.slice (some ⟨g, 0, none⟩) es.length vc) (L.set k ⟨⟨X0, x0.it.ti, x0.it.da⟩, x0.rd, x0.st⟩)) := Lib.hid (by have := own_fld (x' := ⟨⟨X0, x0.it.ti, x0.it.da⟩, x0.rd, x0.st⟩) enC_len (HD1k.out) HL.out HK.out 0 (.string X0) (by decide) rfl; exact this)
      have HG1 : Hid (w.grownBy ((w1).setCell ⟨g, k * 5, none⟩ (.string X0)) (some g)) := Lib.hid (gb_set1 g _ _ (HG1k.out))
      go_wp2_with fail
      refine (HM.out (c + 1) _ (by omega) (by omega)).mono ?_
      rintro e w2 ⟨rfl, hb2⟩
      have HD2k := Lib.hid ((HD1.out).keep hb2 (Nat.le_refl _))
      have HG2k : Hid (w.grownBy w2 (some g)) := Lib.hid ((HG1.out).trans (gb_any hb2))
      obtain ⟨X1, hX1⟩ : ∃ X, X = mtX (c + 1) := ⟨_, rfl⟩
      rw [← hX1]
      have HX1 := Lib.hid hX1
      clear hX1 hb2
      obtain ⟨u1z, hu1z⟩ : ∃ u, (w2).cell? ⟨g, k * 5 + 1, none⟩ = some u := ⟨_, by have := own_cell enC_len (HD2k.out) HL.out HK.out 1 _ rfl; exact this⟩
      have fz1 := own_free (HD2k.out) HL.out
      have HD2 : Hid (OwnR 109 5 enC ((w2).setCell ⟨g, k * 5 + 1, none⟩ (.string X1)) base (.slice (some ⟨g, 0, none⟩) es.length vc) (L.set k ⟨⟨X0, X1, x0.it.da⟩, x0.rd, x0.st⟩)) := Lib.hid (by have := own_fld (x' := ⟨⟨X0, X1, x0.it.da⟩, x0.rd, x0.st⟩) enC_len (HD2k.out) HL.out HK.out 1 (.string X1) (by decide) rfl; exact this)
      have HG2 : Hid (w.grownBy ((w2).setCell ⟨g, k * 5 + 1, none⟩ (.string X1)) (some g)) := Lib.hid (gb_set1 g _ _ (HG2k.out))
      obtain ⟨u2z, hu2z⟩ : ∃ u, ((w2).setCell ⟨g, k * 5 + 1, none⟩ (.string X1)).cell? ⟨g, k * 5 + 2, none⟩ = some u := ⟨_, by have := own_cell enC_len (HD2.out) HL.out HK.out 2 _ rfl; exact this⟩
      have fz2 := own_free (HD2.out) HL.out
      have HD3 : Hid (OwnR 109 5 enC (((w2).setCell ⟨g, k * 5 + 1, none⟩ (.string X1)).setCell ⟨g, k * 5 + 2, none⟩ (.int .i64 (c + 1 + 1))) base (.slice (some ⟨g, 0, none⟩) es.length vc) (L.set k ⟨⟨X0, X1, c + 1 + 1⟩, x0.rd, x0.st⟩)) := Lib.hid (by have := own_fld (x' := ⟨⟨X0, X1, c + 1 + 1⟩, x0.rd, x0.st⟩) enC_len (HD2.out) HL.out HK.out 2 (.int .i64 (c + 1 + 1)) (by decide) rfl; exact this)
      have HG3 : Hid (w.grownBy (((w2).setCell ⟨g, k * 5 + 1, none⟩ (.string X1)).setCell ⟨g, k * 5 + 2, none⟩ (.int .i64 (c + 1 + 1))) (some g)) := Lib.hid (gb_set1 g _ _ (HG2.out))
      obtain ⟨u3z, hu3z⟩ : ∃ u, (((w2).setCell ⟨g, k * 5 + 1, none⟩ (.string X1)).setCell ⟨g, k * 5 + 2, none⟩ (.int .i64 (c + 1 + 1))).cell? ⟨g, k * 5 + 3, none⟩ = some u := ⟨_, by have := own_cell enC_len (HD3.out) HL.out HK.out 3 _ rfl; exact this⟩
      have fz3 := own_free (HD3.out) HL.out
      have HD4 : Hid (OwnR 109 5 enC ((((w2).setCell ⟨g, k * 5 + 1, none⟩ (.string X1)).setCell ⟨g, k * 5 + 2, none⟩ (.int .i64 (c + 1 + 1))).setCell ⟨g, k * 5 + 3, none⟩ (.bool ((c + 1 + 1 + 1) % 3 == 0))) base (.slice (some ⟨g, 0, none⟩) es.length vc) (L.set k ⟨⟨X0, X1, c + 1 + 1⟩, (c + 1 + 1 + 1) % 3 == 0, x0.st⟩)) := Lib.hid (by have := own_fld (x' := ⟨⟨X0, X1, c + 1 + 1⟩, (c + 1 + 1 + 1) % 3 == 0, x0.st⟩) enC_len (HD3.out) HL.out HK.out 3 (.bool ((c + 1 + 1 + 1) % 3 == 0)) (by decide) rfl; exact this)
      have HG4 : Hid (w.grownBy ((((w2).setCell ⟨g, k * 5 + 1, none⟩ (.string X1)).setCell ⟨g, k * 5 + 2, none⟩ (.int .i64 (c + 1 + 1))).setCell ⟨g, k * 5 + 3, none⟩ (.bool ((c + 1 + 1 + 1) % 3 == 0))) (some g)) := Lib.hid (gb_set1 g _ _ (HG3.out))
      obtain ⟨u4z, hu4z⟩ : ∃ u, ((((w2).setCell ⟨g, k * 5 + 1, none⟩ (.string X1)).setCell ⟨g, k * 5 + 2, none⟩ (.int .i64 (c + 1 + 1))).setCell ⟨g, k * 5 + 3, none⟩ (.bool ((c + 1 + 1 + 1) % 3 == 0))).cell? ⟨g, k * 5 + 4, none⟩ = some u := ⟨_, by have := own_cell enC_len (HD4.out) HL.out HK.out 4 _ rfl; exact this⟩
      have fz4 := own_free (HD4.out) HL.out
      have HD5 : Hid (OwnR 109 5 enC (((((w2).setCell ⟨g, k * 5 + 1, none⟩ (.string X1)).setCell ⟨g, k * 5 + 2, none⟩ (.int .i64 (c + 1 + 1))).setCell ⟨g, k * 5 + 3, none⟩ (.bool ((c + 1 + 1 + 1) % 3 == 0))).setCell ⟨g, k * 5 + 4, none⟩ (.bool ((c + 1 + 1 + 1 + 1) % 3 == 0))) base (.slice (some ⟨g, 0, none⟩) es.length vc) (L.set k ⟨⟨X0, X1, c + 1 + 1⟩, (c + 1 + 1 + 1) % 3 == 0, (c + 1 + 1 + 1 + 1) % 3 == 0⟩)) := Lib.hid (by have := own_fld (x' := ⟨⟨X0, X1, c + 1 + 1⟩, (c + 1 + 1 + 1) % 3 == 0, (c + 1 + 1 + 1 + 1) % 3 == 0⟩) enC_len (HD4.out) HL.out HK.out 4 (.bool ((c + 1 + 1 + 1 + 1) % 3 == 0)) (by decide) rfl; exact this)
      have HG5 : Hid (w.grownBy (((((w2).setCell ⟨g, k * 5 + 1, none⟩ (.string X1)).setCell ⟨g, k * 5 + 2, none⟩ (.int .i64 (c + 1 + 1))).setCell ⟨g, k * 5 + 3, none⟩ (.bool ((c + 1 + 1 + 1) % 3 == 0))).setCell ⟨g, k * 5 + 4, none⟩ (.bool ((c + 1 + 1 + 1 + 1) % 3 == 0))) (some g)) := Lib.hid (gb_set1 g _ _ (HG4.out))
      go_wp2
      go_roundw
      case rel => exact ⟨k + 1, by omega, by go_num, by have := HC2.out; simp; omega, Lib.hid (by rw [← HSt.out, show maE c = ⟨⟨X0, X1, c + 1 + 1⟩, (c + 1 + 1 + 1) % 3 == 0, (c + 1 + 1 + 1 + 1) % 3 == 0⟩ by rw [HX0.out, HX1.out]; rfl]; exact HD5.out), HG5⟩
      case measure => simp [intOf]; omega
    · have hke : k = es.length := by omega
      have HE : Hid (OwnR 109 5 enC wr base (.slice va es.length vc) (maEs es.length m)) := Lib.hid (by have := HD.out; rw [hke, List.drop_length, List.append_nil] at this; exact this)
      have HZ : Hid (m + 5 * (k : Int) = m + 5 * (es.length : Int)) := Lib.hid (by omega)
      clear hke HD
      go_wp2
      go_ret
      exact ⟨ret_int HZ.out, HE.out, HG.out⟩
set_option maxRecDepth 100000 in
set_option maxHeartbeats 1600000 in
theorem heldEntryS_any (v : Value) (n : Nat) (m : Int) (w : World) (h : EnAt w w.heap.size v (maEs n m)) (hm0 : 0 < m) (hm1 : m ≤ 100000000000000) (hn : n ≤ 1048576) :
    Calls Try.prog 114 #[v, .int .i64 m] w fun e w' => e = .returned (.int .i64 (m + 5 * (n : Int))) ∧ Below w.heap.size w w' := by
  have HI := Lib.hid h
  obtain ⟨a, cap, hv, hl, hmx, hc⟩ := h.raw
  rw [maEs_len] at hv hl
  subst hv
  unfold maxLen at hmx
  have HM := Lib.hid (fun k w h0 h1 => markText_any k w h0 h1)
  clear hc h
  go_enter Try.func114, Try.ntmps114
  go_wp2
  go_loopw [1, 5] (fun c i wr => ∃ k : Nat, k ≤ n ∧ i = .int .i64 (k : Int) ∧ c = .int .i64 (m + 5 * (k : Int)) ∧ Below w.heap.size w wr) (fun _ i _ => n - (intOf i).toNat)
  case atStart => exact ⟨0, Nat.zero_le _, rfl, by simp, Below.refl _ _⟩
  case round =>
    obtain ⟨k, hk, rfl, rfl, hB⟩ := hrel
    by_cases hlt : k < n
    · obtain ⟨a', cap', hv, q1, q2, hc⟩ := (HI.out.below hB).raw
      rw [maEs_len] at hv
      clear q1 q2
      cases hv
      have hlt2 : k < (maEs n m).length := by rw [maEs_len]; exact hlt
      obtain ⟨b, off, rfl, hb, hr⟩ := hc k hlt2
      obtain ⟨c0, c1, c2, c3, c4, s0, s1⟩ := hr k hlt2
      clear s0 s1
      rw [maEs_get n m k hlt2] at c0 c1 c2 c3 c4
      obtain ⟨c, hcc⟩ : ∃ c, c = m + 5 * (k : Int) := ⟨_, rfl⟩
      have hc0 : 0 < c := by omega
      have hc1 : c ≤ 100000000000000 + 5 * 1048576 := by omega
      have HC2 : Hid (m + 5 * ((k : Int) + 1) = c + 5) := Lib.hid (by omega)
      rw [← hcc] at c0 c1 c2 c3 c4 ⊢
      unfold maE at c0 c1 c2 c3 c4
      simp only at c0 c1 c2 c3 c4
      obtain ⟨X0, hX0⟩ : ∃ X, X = mtX c := ⟨_, rfl⟩
      obtain ⟨X1, hX1⟩ : ∃ X, X = mtX (c + 1) := ⟨_, rfl⟩
      rw [← hX0] at c0
      rw [← hX1] at c1
      have HT0 := Lib.hid (fun w => HM.out c w (by omega) (by omega))
      have HT1 := Lib.hid (fun w => HM.out (c + 1) w (by omega) (by omega))
      rw [← hX0] at HT0
      rw [← hX1] at HT1
      have hbw : b < wr.heap.size := by have := hB.size; omega
      have HCC := Lib.hid hcc
      clear hr hc hcc hX0 hX1 hm0 hm1 hlt2
      have HK : Hid (∀ w1 w2 : World, wr.heap.size ≤ w1.heap.size → Below w1.heap.size w1 w2 → (w1.cell? ⟨b, off + k * 5, none⟩ = some (.string X0) ∧ w1.cell? ⟨b, off + k * 5 + 1, none⟩ = some (.string X1) ∧ w1.cell? ⟨b, off + k * 5 + 2, none⟩ = some (.int .i64 (c + 1 + 1)) ∧ w1.cell? ⟨b, off + k * 5 + 3, none⟩ = some (.bool ((c + 1 + 1 + 1) % 3 == 0)) ∧ w1.cell? ⟨b, off + k * 5 + 4, none⟩ = some (.bool ((c + 1 + 1 + 1 + 1) % 3 == 0))) → (w2.cell? ⟨b, off + k * 5, none⟩ = some (.string X0) ∧ w2.cell? ⟨b, off + k * 5 + 1, none⟩ = some (.string X1) ∧ w2.cell? ⟨b, off + k * 5 + 2, none⟩ = some (.int .i64 (c + 1 + 1)) ∧ w2.cell? ⟨b, off + k * 5 + 3, none⟩ = some (.bool ((c + 1 + 1 + 1) % 3 == 0)) ∧ w2.cell? ⟨b, off + k * 5 + 4, none⟩ = some (.bool ((c + 1 + 1 + 1 + 1) % 3 == 0)))) := Lib.hid (fun w1 w2 hs hb1 h => by
        have kc : ∀ o x, w1.cell? ⟨b, o, none⟩ = some x → w2.cell? ⟨b, o, none⟩ = some x := fun o x h => by rw [hb1.cell (p := ⟨b, o, none⟩) (show b < w1.heap.size by omega)]; exact h
        exact ⟨kc _ _ h.1, kc _ _ h.2.1, kc _ _ h.2.2.1, kc _ _ h.2.2.2.1, kc _ _ h.2.2.2.2⟩)
      have hE0 : (wr.drew.cell? ⟨b, off + k * 5, none⟩ = some (.string X0) ∧ wr.drew.cell? ⟨b, off + k * 5 + 1, none⟩ = some (.string X1) ∧ wr.drew.cell? ⟨b, off + k * 5 + 2, none⟩ = some (.int .i64 (c + 1 + 1)) ∧ wr.drew.cell? ⟨b, off + k * 5 + 3, none⟩ = some (.bool ((c + 1 + 1 + 1) % 3 == 0)) ∧ wr.drew.cell? ⟨b, off + k * 5 + 4, none⟩ = some (.bool ((c + 1 + 1 + 1 + 1) % 3 == 0))) := ⟨c0, c1, c2, c3, c4⟩
      go_wp2
      refine wp_region_T (fun w' => (w'.cell? ⟨b, off + k * 5, none⟩ = some (.string X0) ∧ w'.cell? ⟨b, off + k * 5 + 1, none⟩ = some (.string X1) ∧ w'.cell? ⟨b, off + k * 5 + 2, none⟩ = some (.int .i64 (c + 1 + 1)) ∧ w'.cell? ⟨b, off + k * 5 + 3, none⟩ = some (.bool ((c + 1 + 1 + 1) % 3 == 0)) ∧ w'.cell? ⟨b, off + k * 5 + 4, none⟩ = some (.bool ((c + 1 + 1 + 1 + 1) % 3 == 0)))) (fun _ => True) 8 (by kernel_rfl) 9 rfl ?_
      refine wpAnyT_takesA (md := .any) 2 (by kernel_rfl) (by intro d v c a w h; cases d <;> exact h) [0, 1, 2, 3, 4, 5, 6] _ _ _ (by decide) (by kernel_rfl) ⟨hE0, fun _ => trivial⟩ ?_
      simp only [pick, List.filterMap_cons, List.filterMap_nil, List.getElem?_cons_zero, List.getElem?_cons_succ]
      refine wpIf_step (.slice (some ⟨b, off, none⟩) n cap) (by kernel_rfl) (fun w hw => by go_simp) ?_
      refine wpIf_step (.int .i64 (k : Int)) (by kernel_rfl) (fun w hw => by go_simp) ?_
      refine wpIf_step (.pointer (some ⟨b, off + k * 5, none⟩)) (by kernel_rfl) (fun w hw => by go_simp) ?_
      refine wpIf_step (.pointer (some ⟨b, off + k * 5, none⟩)) (by kernel_rfl) (fun w hw => by go_simp) ?_
      refine wpIf_step (.pointer (some ⟨b, off + k * 5, none⟩)) (by kernel_rfl) (fun w hw => by go_simp) ?_
      refine wpIf_step (.string X0) (by kernel_rfl) (fun w hw => by have e0 := hw.1; go_simp) ?_
      refine wpIf_step (.int .i64 (c)) (by kernel_rfl) (fun w hw => by go_simp) ?_
      refine wpIf_nil (fun hS => ?_)
      clear hS
      refine wpAnyT_one 7 1 (by kernel_rfl) rfl (by kernel_rfl) (fun K hK => ?_)
      go_simp
      refine (HT0.out wr.drew).mono ?_
      rintro e w1 ⟨rfl, hb0⟩
      have hB0 := hB.drew.trans (hb0.mono hB.size)
      have hEn0 := HK.out wr.drew w1 (Nat.le_refl _) hb0 hE0
      have hsz0 : wr.heap.size ≤ w1.heap.size := by have h9 := hb0.size; simp only [World.drew] at h9; omega
      refine hK _ _ ⟨hEn0, fun _ => trivial⟩ (fun hS => ?_)
      clear hK K hS
      refine wpAnyT_one 8 0 (by kernel_rfl) rfl (by kernel_rfl) (fun K hK => ?_)
      go_simp
      refine hK _ _ ⟨hEn0, fun _ => trivial⟩ (fun hS => ?_)
      clear hK K hS
      refine wpAnyT_over (by kernel_rfl) ?_
      clear hE0 hb0
      clear c0 c1 c2 c3 c4
      have hE1 : (w1.drew.cell? ⟨b, off + k * 5, none⟩ = some (.string X0) ∧ w1.drew.cell? ⟨b, off + k * 5 + 1, none⟩ = some (.string X1) ∧ w1.drew.cell? ⟨b, off + k * 5 + 2, none⟩ = some (.int .i64 (c + 1 + 1)) ∧ w1.drew.cell? ⟨b, off + k * 5 + 3, none⟩ = some (.bool ((c + 1 + 1 + 1) % 3 == 0)) ∧ w1.drew.cell? ⟨b, off + k * 5 + 4, none⟩ = some (.bool ((c + 1 + 1 + 1 + 1) % 3 == 0))) := hEn0
      go_wp2
      refine wp_region_T (fun w' => (w'.cell? ⟨b, off + k * 5, none⟩ = some (.string X0) ∧ w'.cell? ⟨b, off + k * 5 + 1, none⟩ = some (.string X1) ∧ w'.cell? ⟨b, off + k * 5 + 2, none⟩ = some (.int .i64 (c + 1 + 1)) ∧ w'.cell? ⟨b, off + k * 5 + 3, none⟩ = some (.bool ((c + 1 + 1 + 1) % 3 == 0)) ∧ w'.cell? ⟨b, off + k * 5 + 4, none⟩ = some (.bool ((c + 1 + 1 + 1 + 1) % 3 == 0)))) (fun _ => True) 8 (by kernel_rfl) 9 rfl ?_
      refine wpAnyT_takesA (md := .any) 2 (by kernel_rfl) (by intro d v c a w h; cases d <;> exact h) [0, 1, 2, 3, 4, 5, 6] _ _ _ (by decide) (by kernel_rfl) ⟨hE1, fun _ => trivial⟩ ?_
      simp only [pick, List.filterMap_cons, List.filterMap_nil, List.getElem?_cons_zero, List.getElem?_cons_succ]
      refine wpIf_step (.slice (some ⟨b, off, none⟩) n cap) (by kernel_rfl) (fun w hw => by go_simp) ?_
      refine wpIf_step (.int .i64 (k : Int)) (by kernel_rfl) (fun w hw => by go_simp) ?_
      refine wpIf_step (.pointer (some ⟨b, off + k * 5, none⟩)) (by kernel_rfl) (fun w hw => by go_simp) ?_
      refine wpIf_step (.pointer (some ⟨b, off + k * 5, none⟩)) (by kernel_rfl) (fun w hw => by go_simp) ?_
      refine wpIf_step (.pointer (some ⟨b, off + k * 5 + 1, none⟩)) (by kernel_rfl) (fun w hw => by go_simp) ?_
      refine wpIf_step (.string X1) (by kernel_rfl) (fun w hw => by have e0 := hw.2.1; go_simp) ?_
      refine wpIf_step (.int .i64 (c + 1)) (by kernel_rfl) (fun w hw => by go_simp) ?_
      refine wpIf_nil (fun hS => ?_)
      clear hS
      refine wpAnyT_one 7 1 (by kernel_rfl) rfl (by kernel_rfl) (fun K hK => ?_)
      go_simp
      refine (HT1.out w1.drew).mono ?_
      rintro e w2 ⟨rfl, hb1⟩
      have hB1 := hB0.drew.trans (hb1.mono hB0.size)
      have hEn1 := HK.out w1.drew w2 (hsz0) hb1 hE1
      have hsz1 : wr.heap.size ≤ w2.heap.size := by have h9 := hb1.size; simp only [World.drew] at h9; omega
      refine hK _ _ ⟨hEn1, fun _ => trivial⟩ (fun hS => ?_)
      clear hK K hS
      refine wpAnyT_one 8 0 (by kernel_rfl) rfl (by kernel_rfl) (fun K hK => ?_)
      go_simp
      refine hK _ _ ⟨hEn1, fun _ => trivial⟩ (fun hS => ?_)
      clear hK K hS
      refine wpAnyT_over (by kernel_rfl) ?_
      clear hE1 hb1
      obtain ⟨c0, c1, c2, c3, c4⟩ := hEn1
      go_wp2
      go_roundw
      case rel => exact ⟨k + 1, by omega, by go_num, by have := HC2.out; simp; omega, hB1⟩
      case measure => simp [intOf]; omega
    · have HZ : Hid (m + 5 * (k : Int) = m + 5 * (n : Int)) := Lib.hid (by omega)
      go_wp2
      go_ret
      exact ⟨ret_int HZ.out, hB⟩

end Go.Proofs.Ytfgdbpjmjeaolaa
