/- Joined: W8m, W9f, W9g, W9h. -/
import Derived.Laws.ResultCell
import Derived.Test.YtffkakpbelknaaaGreatDoorF27
import Derived.Test.YtffkakpbelknaaaGreatDoorF28
/- W8m -/
namespace Go.Proofs.YtffkakpbelknaaaGreatDoor
open Go.ChangeShapes Go.WideShapes Go.ChangeAt Go.RowKit
set_option linter.unusedVariables false

theorem Tryz.infoItem : (Tryz.prog.info? 55).map (fun i => (i.zero, i.size, i.bytes)) = some (some (.agg #[.string ByteArray.empty, .string ByteArray.empty, .int .i64 0]), 3, 40) := by kernel_rfl

abbrev it0 : It := ⟨ByteArray.empty, ByteArray.empty, 0⟩
theorem ItAt.of_own {e : TypeId} {w : World} {base : Nat} {v : Value} {its : List It} (h : OwnR e 3 itC w base v its) (hs : ∀ x ∈ its, x.id.size ≤ maxLen ∧ x.ti.size ≤ maxLen) : ItAt w w.heap.size v its := ⟨h.at itC_len, hs⟩

set_option maxHeartbeats 1600000 in
theorem eqItem_same (s t : ByteArray) (d : Int) (w : World) :
    Calls Tryz.prog 189 #[itV s t d, itV s t d] w fun e w' => e = .returned (.bool true) ∧ Below w.heap.size w w' := by
  go_enter Tryz.func189, Tryz.ntmps189
  go_wp2
  go_ret
  exact ⟨rfl, ((Below.refl _ _).alloc (Nat.le_refl _) _).alloc (by simp) _⟩

set_option maxRecDepth 100000 in
set_option maxHeartbeats 1600000 in
theorem eqItemS_same (v v' : Value) (its : List It) (w : World) (h : ItAt w w.heap.size v its) (h' : ItAt w w.heap.size v' its) :
    Calls Tryz.prog 156 #[v, v'] w fun e w' => e = .returned (.bool true) ∧ Below w.heap.size w w' := by
  have HI := Lib.hid h
  have HJ := Lib.hid h'
  obtain ⟨a, cap, rfl, hl, hm, hc⟩ := h.raw
  obtain ⟨a2, cap2, rfl, hl2, hm2, hc2⟩ := h'.raw
  unfold maxLen at hm hm2
  clear hc h hc2 h'
  go_enter Tryz.func156, Tryz.ntmps156
  go_wp2
  go_loopw [5] (fun i wr => ∃ k : Nat, k ≤ its.length ∧ i = .int .i64 k ∧ Below w.heap.size w wr) (fun i _ => its.length - (intOf i).toNat)
  case atStart => exact ⟨0, Nat.zero_le _, rfl, Below.refl _ _⟩
  case round =>
    obtain ⟨k, hk, rfl, hbel⟩ := hrel
    by_cases hlt : k < its.length
    · obtain ⟨a', cap', hv, _, _, hc⟩ := (HI.out.below hbel).raw
      cases hv
      obtain ⟨b, off, rfl, hb, hr⟩ := hc k hlt
      obtain ⟨c0, c1, c2, s0, s1⟩ := hr k hlt
      obtain ⟨a'2, cap'2, hv2, _, _, hc2⟩ := (HJ.out.below hbel).raw
      cases hv2
      obtain ⟨b2, off2, rfl, hb2, hr2⟩ := hc2 k hlt
      obtain ⟨g0, g1, g2, _, _⟩ := hr2 k hlt
      have HC := Lib.hid (fun w => eqItem_same its[k].id its[k].ti its[k].da w)
      obtain ⟨S, hS⟩ : ∃ S, S = its[k].id := ⟨_, rfl⟩
      obtain ⟨T, hT⟩ : ∃ T, T = its[k].ti := ⟨_, rfl⟩
      obtain ⟨D, hD⟩ : ∃ D, D = its[k].da := ⟨_, rfl⟩
      rw [← hS] at c0 HC g0
      rw [← hT] at c1 HC g1
      rw [← hD] at c2 HC g2
      clear hr hc hr2 hc2 hS hT hD s0 s1
      go_wp2
      refine wp_region_T (fun w' => (w'.cell? ⟨b, off + k * 3, none⟩ = some (.string S) ∧ w'.cell? ⟨b, off + k * 3 + 1, none⟩ = some (.string T) ∧ w'.cell? ⟨b, off + k * 3 + 2, none⟩ = some (.int .i64 D)) ∧ w'.cell? ⟨b2, off2 + k * 3, none⟩ = some (.string S) ∧ w'.cell? ⟨b2, off2 + k * 3 + 1, none⟩ = some (.string T) ∧ w'.cell? ⟨b2, off2 + k * 3 + 2, none⟩ = some (.int .i64 D)) (fun _ => True) 8 (by kernel_rfl) 10 rfl ?_
      refine wpAnyT_takesA (md := .any) 2 (by kernel_rfl) (by intro d v c a w h; cases d <;> exact h) [0, 1, 2, 3, 4, 5, 6, 7] _ _ _ (by decide) (by kernel_rfl) ⟨⟨⟨c0, c1, c2⟩, g0, g1, g2⟩, fun _ => trivial⟩ ?_
      simp only [pick, List.filterMap_cons, List.filterMap_nil, List.getElem?_cons_zero, List.getElem?_cons_succ]
      refine wpIf_step (.slice (some ⟨b, off, none⟩) its.length cap) (by kernel_rfl) (fun w hw => by go_simp) ?_
      refine wpIf_step (.int .i64 (k : Int)) (by kernel_rfl) (fun w hw => by go_simp) ?_
      refine wpIf_step (.pointer (some ⟨b, off + k * 3, none⟩)) (by kernel_rfl) (fun w hw => by go_simp) ?_
      refine wpIf_step (itV S T D) (by kernel_rfl) (fun w hw => by obtain ⟨⟨e0, e1, e2⟩, _⟩ := hw; go_simp) ?_
      refine wpIf_step (.slice (some ⟨b2, off2, none⟩) its.length cap2) (by kernel_rfl) (fun w hw => by go_simp) ?_
      refine wpIf_step (.int .i64 (k : Int)) (by kernel_rfl) (fun w hw => by go_simp) ?_
      refine wpIf_step (.pointer (some ⟨b2, off2 + k * 3, none⟩)) (by kernel_rfl) (fun w hw => by go_simp) ?_
      refine wpIf_step (itV S T D) (by kernel_rfl) (fun w hw => by obtain ⟨_, e0, e1, e2⟩ := hw; go_simp) ?_
      refine wpIf_nil (fun hS => ?_)
      refine wpAnyT_one 8 1 (by kernel_rfl) rfl (by kernel_rfl) (fun K hK => ?_)
      go_simp
      refine (HC.out _).mono ?_
      rintro e w1 ⟨rfl, hb1⟩
      have hbel1 := hbel.drew.trans (hb1.mono hbel.size)
      have hbl : b < wr.drew.heap.size := by have := hbel.size; show b < wr.heap.size; omega
      have hbl2 : b2 < wr.drew.heap.size := by have := hbel.size; show b2 < wr.heap.size; omega
      have hkc : ∀ b o x, b < wr.drew.heap.size → wr.drew.cell? ⟨b, o, none⟩ = some x → w1.cell? ⟨b, o, none⟩ = some x := fun b o x hb hx => by rw [hb1.cell (p := ⟨b, o, none⟩) hb]; exact hx
      refine hK _ _ ⟨⟨⟨hkc _ _ _ hbl c0, hkc _ _ _ hbl c1, hkc _ _ _ hbl c2⟩, hkc _ _ _ hbl2 g0, hkc _ _ _ hbl2 g1, hkc _ _ _ hbl2 g2⟩, fun _ => trivial⟩ (fun hS3 => ?_)
      clear hK K hS hb1 hbel c0 c1 c2 g0 g1 g2 hkc hbl hbl2
      refine wpAnyT_one 9 0 (by kernel_rfl) rfl (by kernel_rfl) (fun K hK => ?_)
      go_simp
      refine hK _ _ ⟨hS3.1, fun _ => trivial⟩ (fun hS4 => ?_)
      clear hK K hS3
      refine wpAnyT_over (by kernel_rfl) ?_
      go_wp2
      go_roundw
      case rel => exact ⟨k + 1, by omega, by go_num, hbel1⟩
      case measure => simp [intOf]; omega
    · go_wp2
      go_ret
      exact ⟨rfl, hbel⟩

/-- A feed in memory: its value, what it holds. -/
def FeedAt (w : World) (v : Value) (u t : ByteArray) (its : List It) : Prop := ∃ x, v = fV u t x ∧ ItAt w w.heap.size x its ∧ u.size ≤ maxLen ∧ t.size ≤ maxLen
theorem FeedAt.below {w w' : World} {v : Value} {u t : ByteArray} {its : List It} (h : FeedAt w v u t its) (hb : Below w.heap.size w w') : FeedAt w' v u t its := by
  obtain ⟨x, hv, hi, r⟩ := h
  exact ⟨x, hv, (hi.below hb).mono hb.size, r⟩
/-- What szFeed answers: less than nothing, or what the lengths are at most. -/
def SzF (u t : ByteArray) (its : List It) (n : Int) (w : World) (e : Ending) (w' : World) : Prop := ∃ r : Int, e = .returned (.int .i64 r) ∧ -1 ≤ r ∧ r ≤ n ∧ (0 ≤ r → (its.length : Int) ≤ n ∧ (u.size : Int) ≤ n ∧ (t.size : Int) ≤ n) ∧ Below w.heap.size w w'

/-- What toFeed answers: a feed in memory of its own. -/
def OutF (u t : ByteArray) (its : List It) (w : World) (e : Ending) (w' : World) : Prop := ∃ x, e = .returned (fV u t x) ∧ OwnR 55 3 itC w' w.heap.size x its ∧ Below w.heap.size w w'

set_option maxRecDepth 100000 in
set_option maxHeartbeats 1600000 in
theorem eqFeed_same (v v' : Value) (u t : ByteArray) (its : List It) (w : World) (h : FeedAt w v u t its) (h' : FeedAt w v' u t its) :
    Calls Tryz.prog 121 #[v, v'] w fun e w' => e = .returned (.bool true) ∧ Below w.heap.size w w' := by
  obtain ⟨x, rfl, hi, hu, ht⟩ := h
  obtain ⟨x', rfl, hi', _, _⟩ := h'
  have HI := Lib.hid hi
  have HI' := Lib.hid hi'
  have HC := Lib.hid (fun w h h' => eqItemS_same x x' its w h h')
  clear hi hi'
  have hb0 : Below w.heap.size w ((w.alloc (fC u t x)).alloc (fC u t x')) := ((Below.refl _ _).alloc (Nat.le_refl _) _).alloc (by simp) _
  go_enter Tryz.func121, Tryz.ntmps121
  go_wp2_with fail
  refine (HC.out _ ((HI.out.below hb0).mono hb0.size) ((HI'.out.below hb0).mono hb0.size)).mono ?_
  rintro e w1 ⟨rfl, hb1⟩
  have hb2 := hb0.trans (hb1.mono hb0.size)
  clear hb1 hb0
  go_wp2
  go_ret
  exact ⟨rfl, hb2⟩

end Go.Proofs.YtffkakpbelknaaaGreatDoor

/- W9f -/
namespace Go.Proofs.YtffkakpbelknaaaGreatDoor
open Go.ChangeShapes Go.WideShapes Go.ChangeAt Go.RowKit
set_option linter.unusedVariables false

theorem Tryz.infoEntry : (Tryz.prog.info? 97).map (fun i => (i.zero, i.size, i.bytes)) = some (some (.agg #[.string ByteArray.empty, .string ByteArray.empty, .int .i64 0, .bool false, .bool false]), 5, 48) := by kernel_rfl

end Go.Proofs.YtffkakpbelknaaaGreatDoor

/- W9g -/
namespace Go.Proofs.YtffkakpbelknaaaGreatDoor
open Go.ChangeShapes Go.WideShapes Go.ChangeAt Go.RowKit
set_option linter.unusedVariables false

end Go.Proofs.YtffkakpbelknaaaGreatDoor

/- W9h -/
namespace Go.Proofs.YtffkakpbelknaaaGreatDoor
open Go.ChangeShapes Go.WideShapes Go.ChangeAt Go.RowKit
set_option linter.unusedVariables false

theorem Tryz.infoSub : (Tryz.prog.info? 94).map (fun i => (i.zero, i.size, i.bytes)) = some (some (.agg #[.string ByteArray.empty, .string ByteArray.empty, .slice none 0 0]), 3, 56) := by kernel_rfl

/-- What szSub answers. -/
def SzS (P : Int → Prop) (n : Int) (w : World) (e : Ending) (w' : World) : Prop := ∃ r : Int, e = .returned (.int .i64 r) ∧ -1 ≤ r ∧ r ≤ n ∧ (0 ≤ r → P n) ∧ Below w.heap.size w w'

/-- What toSub answers. -/
def OutSb (s : Sb) (w : World) (e : Ending) (w' : World) : Prop := ∃ y, e = .returned (sbV s.u s.t y) ∧ OwnR 97 5 enC w' w.heap.size y s.es ∧ Below w.heap.size w w'

theorem putRow_own {α : Type} {k : Nat} {C : α → List Value} {e : TypeId} {base g : Nat} {v : Value} {l : List α} (hg : g < base) (us : List Value) : ∀ (o : Nat) (w : World), OwnR e k C w base v l → OwnR e k C (putRow g o us w) base v l := by
  induction us with
  | nil => intro o w h; exact h
  | cons u us ih => intro o w h; exact ih (o + 1) _ (h.other ⟨g, o, none⟩ u hg)
abbrev sb0 : Sb × Value := (⟨ByteArray.empty, ByteArray.empty, []⟩, .slice none 0 0)
/-- Feeds of a reader that a call has made. -/
def OwnS (w : World) (B : Nat) (v : Value) (ss : List Sb) : Prop := ∃ ps : List (Sb × Value), ps.map Prod.fst = ss ∧ OwnR 94 3 sbC w B v ps ∧ ∀ p ∈ ps, OwnR 97 5 enC w B p.2 p.1.es
theorem OwnR.lift {α : Type} {k : Nat} {C : α → List Value} {e : TypeId} {w : World} {B : Nat} {v : Value} {l : List α} (hk : ∀ x, (C x).length = k) (h : OwnR e k C w B v l) : RecAt k C w w.heap.size v l := h.at hk
theorem OwnS.at {w : World} {B : Nat} {v : Value} {ss : List Sb} (h : OwnS w B v ss) (hs : ∀ s ∈ ss, SbSz s ∧ ∀ x ∈ s.es, EnSz x) : SbAt w w.heap.size v ss := by
  obtain ⟨ps, rfl, h2, h3⟩ := h
  refine ⟨ps, rfl, h2.at sbC_len, fun p hp => ?_⟩
  have hm := hs p.1 (List.mem_map.2 ⟨p, hp, rfl⟩)
  exact ⟨⟨(h3 p hp).at enC_len, hm.2⟩, hm.1⟩
/-- What toSubS answers. -/
def OutS (ss : List Sb) (w : World) (e : Ending) (w' : World) : Prop := ∃ v, e = .returned v ∧ OwnS w' w.heap.size v ss ∧ Below w.heap.size w w'

end Go.Proofs.YtffkakpbelknaaaGreatDoor
