/- Joined: W9i. -/
import Derived.Test.YtfgdbpjmjeaolaaH15
/- W9i -/
namespace Go.Proofs.Ytfgdbpjmjeaolaa
open Go.ChangeShapes Go.WideShapes Go.ChangeAt Go.RowKit
set_option linter.unusedVariables false

theorem OwnS.other {w : World} {B : Nat} {v : Value} {ss : List Sb} (h : OwnS w B v ss) (p : Addr) (x : Value) (hp : p.block < B) : OwnS (w.setCell p x) B v ss := by
  obtain ⟨ps, h1, h2, h3⟩ := h
  exact ⟨ps, h1, h2.other p x hp, fun q hq => (h3 q hq).other p x hp⟩
theorem OwnS.base_mono {w : World} {B B' : Nat} {v : Value} {ss : List Sb} (h : OwnS w B v ss) (hb : B' ≤ B) : OwnS w B' v ss := by
  obtain ⟨ps, h1, h2, h3⟩ := h
  exact ⟨ps, h1, h2.base_mono hb, fun q hq => (h3 q hq).base_mono hb⟩
theorem OwnS.slice {w : World} {B : Nat} {v : Value} {ss : List Sb} (h : OwnS w B v ss) : ∃ a cap, v = .slice a ss.length cap := by
  obtain ⟨ps, rfl, h2, h3⟩ := h
  rw [List.length_map]
  exact OwnR.slice h2
/-- What toReader answers. -/
def OutRd (ss : List Sb) (w : World) (e : Ending) (w' : World) : Prop := ∃ v, e = .returned (.agg #[v]) ∧ OwnS w' w.heap.size v ss ∧ Below w.heap.size w w'

set_option maxRecDepth 100000 in
set_option maxHeartbeats 1600000 in
theorem eqSub_same (s : Sb) (x x' : Value) (w : World) (h : EnAt w w.heap.size x s.es) (h' : EnAt w w.heap.size x' s.es) :
    Calls Try.prog 111 #[sbV s.u s.t x, sbV s.u s.t x'] w fun e w' => e = .returned (.bool true) ∧ Below w.heap.size w w' := by
  have HI := Lib.hid h
  have HI' := Lib.hid h'
  have HC := Lib.hid (fun w h h' => eqEntryS_same x x' s.es w h h')
  clear h h'
  have hb0 : Below w.heap.size w ((w.alloc (.cells #[.string s.u, .string s.t, x] 105)).alloc (.cells #[.string s.u, .string s.t, x'] 105)) := ((Below.refl _ _).alloc (Nat.le_refl _) _).alloc (by simp) _
  go_enter Try.func111, Try.ntmps111
  go_wp2_with fail
  refine (HC.out _ ((HI.out.below hb0).mono hb0.size) ((HI'.out.below hb0).mono hb0.size)).mono ?_
  rintro e w1 ⟨rfl, hb1⟩
  have hb2 := hb0.trans (hb1.mono hb0.size)
  clear hb1 hb0
  go_wp2
  go_ret
  exact ⟨rfl, hb2⟩

set_option maxRecDepth 100000 in
set_option maxHeartbeats 1600000 in
theorem eqSubS_same (v v' : Value) (ss : List Sb) (w : World) (h : SbAt w w.heap.size v ss) (h' : SbAt w w.heap.size v' ss) :
    Calls Try.prog 56 #[v, v'] w fun e w' => e = .returned (.bool true) ∧ Below w.heap.size w w' := by
  have HI := Lib.hid h
  have HJ := Lib.hid h'
  obtain ⟨a, cap, rfl, hl, hm, hc⟩ := h.raw
  obtain ⟨a2, cap2, rfl, hl2, hm2, hc2⟩ := h'.raw
  unfold maxLen at hm hm2
  clear hc h hc2 h'
  go_enter Try.func56, Try.ntmps56
  go_wp2
  go_loopw [5] (fun i wr => ∃ k : Nat, k ≤ ss.length ∧ i = .int .i64 k ∧ Below w.heap.size w wr) (fun i _ => ss.length - (intOf i).toNat)
  case atStart => exact ⟨0, Nat.zero_le _, rfl, Below.refl _ _⟩
  case round =>
    obtain ⟨k, hk, rfl, hbel⟩ := hrel
    by_cases hlt : k < ss.length
    · obtain ⟨a', cap', hv, _, _, hc⟩ := (HI.out.below hbel).raw
      cases hv
      obtain ⟨b, off, rfl, hb, hr⟩ := hc k hlt
      obtain ⟨x, c0, c1, c2, hx, _, _⟩ := hr k hlt
      obtain ⟨a'2, cap'2, hv2, _, _, hc2⟩ := (HJ.out.below hbel).raw
      cases hv2
      obtain ⟨b2, off2, rfl, hb2, hr2⟩ := hc2 k hlt
      obtain ⟨y, g0, g1, g2, hy, _, _⟩ := hr2 k hlt
      obtain ⟨xa, xc, rfl⟩ := hx.1.slice
      obtain ⟨xa2, xc2, rfl⟩ := hy.1.slice
      have hx1 := Lib.hid (hx.mono hbel.size)
      have hy1 := Lib.hid (hy.mono hbel.size)
      obtain ⟨P, hP⟩ : ∃ P, P = ss[k] := ⟨_, rfl⟩
      rw [← hP] at c0 c1 c2 g0 g1 g2 hx1 hy1
      have HC := Lib.hid (fun w h h' => eqSub_same P (.slice xa P.es.length xc) (.slice xa2 P.es.length xc2) w h h')
      obtain ⟨S0, hS0⟩ : ∃ x, x = P.u := ⟨_, rfl⟩
      obtain ⟨S1, hS1⟩ : ∃ x, x = P.t := ⟨_, rfl⟩
      rw [← hS0] at c0 g0 HC
      rw [← hS1] at c1 g1 HC
      obtain ⟨n, hn⟩ : ∃ n, n = P.es.length := ⟨_, rfl⟩
      rw [← hn] at c2 g2 hx1 hy1 HC
      clear hr hc hr2 hc2 hS0 hS1 hP hn hx hy
      go_wp2
      refine wp_region_T (fun w' => (w'.cell? ⟨b, off + k * 3, none⟩ = some (.string S0) ∧ w'.cell? ⟨b, off + k * 3 + 1, none⟩ = some (.string S1) ∧ w'.cell? ⟨b, off + k * 3 + 2, none⟩ = some (.slice xa n xc)) ∧ (w'.cell? ⟨b2, off2 + k * 3, none⟩ = some (.string S0) ∧ w'.cell? ⟨b2, off2 + k * 3 + 1, none⟩ = some (.string S1) ∧ w'.cell? ⟨b2, off2 + k * 3 + 2, none⟩ = some (.slice xa2 n xc2))) (fun _ => True) 9 (by kernel_rfl) 10 rfl ?_
      refine wpAnyT_takesA (md := .any) 2 (by kernel_rfl) (by intro d v c a w h; cases d <;> exact h) [0, 1, 2, 3, 4, 5, 6, 7] _ _ _ (by decide) (by kernel_rfl) ⟨⟨⟨c0, c1, c2⟩, g0, g1, g2⟩, fun _ => trivial⟩ ?_
      simp only [pick, List.filterMap_cons, List.filterMap_nil, List.getElem?_cons_zero, List.getElem?_cons_succ]
      refine wpIf_step (.slice (some ⟨b, off, none⟩) ss.length cap) (by kernel_rfl) (fun w hw => by go_simp) ?_
      refine wpIf_step (.int .i64 (k : Int)) (by kernel_rfl) (fun w hw => by go_simp) ?_
      refine wpIf_step (.pointer (some ⟨b, off + k * 3, none⟩)) (by kernel_rfl) (fun w hw => by go_simp) ?_
      refine wpIf_step (sbV S0 S1 (.slice xa n xc)) (by kernel_rfl) (fun w hw => by obtain ⟨⟨e0, e1, e2⟩, _⟩ := hw; go_simp) ?_
      refine wpIf_step (.slice (some ⟨b2, off2, none⟩) ss.length cap2) (by kernel_rfl) (fun w hw => by go_simp) ?_
      refine wpIf_step (.int .i64 (k : Int)) (by kernel_rfl) (fun w hw => by go_simp) ?_
      refine wpIf_step (.pointer (some ⟨b2, off2 + k * 3, none⟩)) (by kernel_rfl) (fun w hw => by go_simp) ?_
      refine wpIf_step (sbV S0 S1 (.slice xa2 n xc2)) (by kernel_rfl) (fun w hw => by obtain ⟨_, e0, e1, e2⟩ := hw; go_simp) ?_
      refine wpIf_nil (fun hS => ?_)
      clear hS
      refine wpAnyT_one 8 1 (by kernel_rfl) rfl (by kernel_rfl) (fun K hK => ?_)
      go_simp
      refine (HC.out wr.drew hx1.out.drew hy1.out.drew).mono ?_
      rintro e w1 ⟨rfl, hb1⟩
      have hbel1 := hbel.drew.trans (hb1.mono hbel.size)
      have hbl : b < wr.drew.heap.size := by have := hbel.size; show b < wr.heap.size; omega
      have hbl2 : b2 < wr.drew.heap.size := by have := hbel.size; show b2 < wr.heap.size; omega
      have hkc : ∀ b o x, b < wr.drew.heap.size → wr.drew.cell? ⟨b, o, none⟩ = some x → w1.cell? ⟨b, o, none⟩ = some x := fun b o x hb hx => by rw [hb1.cell (p := ⟨b, o, none⟩) hb]; exact hx
      have hA3 : (fun w' => (w'.cell? ⟨b, off + k * 3, none⟩ = some (.string S0) ∧ w'.cell? ⟨b, off + k * 3 + 1, none⟩ = some (.string S1) ∧ w'.cell? ⟨b, off + k * 3 + 2, none⟩ = some (.slice xa n xc)) ∧ (w'.cell? ⟨b2, off2 + k * 3, none⟩ = some (.string S0) ∧ w'.cell? ⟨b2, off2 + k * 3 + 1, none⟩ = some (.string S1) ∧ w'.cell? ⟨b2, off2 + k * 3 + 2, none⟩ = some (.slice xa2 n xc2))) w1 := ⟨⟨hkc _ _ _ hbl c0, hkc _ _ _ hbl c1, hkc _ _ _ hbl c2⟩, hkc _ _ _ hbl2 g0, hkc _ _ _ hbl2 g1, hkc _ _ _ hbl2 g2⟩
      clear hb1 hbel c0 c1 c2 g0 g1 g2 hkc hbl hbl2 hx1 hy1
      refine hK _ _ ⟨hA3, fun _ => trivial⟩ (fun hS => ?_)
      clear hK K hS
      refine wpAnyT_one 9 0 (by kernel_rfl) rfl (by kernel_rfl) (fun K hK => ?_)
      go_simp
      refine hK _ _ ⟨hA3, fun _ => trivial⟩ (fun hS => ?_)
      clear hK K hS
      refine wpAnyT_over (by kernel_rfl) ?_
      go_wp2
      go_roundw
      case rel => exact ⟨k + 1, by omega, by go_num, hbel1⟩
      case measure => simp [intOf]; omega
    · go_wp2
      go_ret
      exact ⟨rfl, hbel⟩

set_option maxRecDepth 100000 in
set_option maxHeartbeats 1600000 in
theorem eqReader_same (v v' : Value) (ss : List Sb) (w : World) (h : SbAt w w.heap.size v ss) (h' : SbAt w w.heap.size v' ss) :
    Calls Try.prog 18 #[.agg #[v], .agg #[v']] w fun e w' => e = .returned (.bool true) ∧ Below w.heap.size w w' := by
  have HI := Lib.hid h
  have HI' := Lib.hid h'
  have HC := Lib.hid (fun w h h' => eqSubS_same v v' ss w h h')
  clear h h'
  have hb0 : Below w.heap.size w ((w.alloc (.cells #[v] 26)).alloc (.cells #[v'] 26)) := ((Below.refl _ _).alloc (Nat.le_refl _) _).alloc (by simp) _
  go_enter Try.func18, Try.ntmps18
  go_wp2_with fail
  refine (HC.out _ ((HI.out.below hb0).mono hb0.size) ((HI'.out.below hb0).mono hb0.size)).mono ?_
  rintro e w1 ⟨rfl, hb1⟩
  have hb2 := hb0.trans (hb1.mono hb0.size)
  clear hb1 hb0
  go_wp2
  go_ret
  exact ⟨rfl, hb2⟩
end Go.Proofs.Ytfgdbpjmjeaolaa
