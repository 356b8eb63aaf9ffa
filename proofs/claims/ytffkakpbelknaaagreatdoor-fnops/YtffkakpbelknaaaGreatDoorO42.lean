/- Parts of the proof. -/
import Derived.Deep.CutRange
import Derived.Test.YtffkakpbelknaaaGreatDoorO28
import Derived.Test.YtffkakpbelknaaaGreatDoorO39
import Derived.Test.YtffkakpbelknaaaGreatDoorO41
set_option maxHeartbeats 4000000
set_option maxRecDepth 100000
namespace Go.Proofs.YtffkakpbelknaaaGreatDoor
open Go.ChangeShapes Go.WideShapes Go.ChangeAt Go.RowKit
set_option linter.unusedVariables false
theorem OwnR.keepRow {α : Type} {k : Nat} {C : α -> List Value} {e : TypeId} {w w' : World} {base : Nat} {row : Option Nat} {v : Value} {l : List α} (h : OwnR e k C w base v l) (hg : w.grownBy w' row) (hne : v.ownBlock = none \/ v.ownBlock ≠ row) : OwnR e k C w' base v l := by
 refine ⟨h.1, ?_⟩
 rcases h.2 with h2 | ⟨g, cap, cur, rfl, hbg, hblk, rest⟩
 ·exact .inl h2
 ·exact .inr ⟨g, cap, cur, rfl, hbg, (hg.block g (Array.getElem?_eq_some_iff.1 hblk).1 (by
   rcases hne with h3 | h3
   ·cases h3
   ·exact h3)).trans hblk, rest⟩
theorem opC_one (p : OpD × Value) (hp : ∃ a n c, p.2 = .slice a n c) : ∀ u ∈ opC p, u.oneCell' = true := by
 obtain ⟨a, n, c, h⟩ := hp
 intro u hu
 simp only [opC, h, List.mem_cons, List.not_mem_nil, or_false] at hu
 rcases hu with rfl | rfl | rfl | rfl | rfl | rfl | rfl <;> rfl
structure OwnQ (w : World) (B : Nat) (v : Value) (ps : List (OpD × Value)) : Prop where
 r : OwnR 35 7 opC w B v ps
 i : ∀ p ∈ ps, OwnR 55 3 itC w B p.2 p.1.its
 s : ∀ p ∈ ps, smO p.1
theorem OwnQ.keepG {w w' : World} {B rb : Nat} {v : Value} {ps : List (OpD × Value)} (h : OwnQ w B v ps) (hg : w.grownBy w' (some rb)) (hb : rb < B) : OwnQ w' B v ps := ⟨h.r.keepG hg hb, fun p hp => (h.i p hp).keepG hg hb, h.s⟩
theorem OwnQ.snoc {w w' : World} {B : Nat} {v v' : Value} {ps : List (OpD × Value)} {o : OpD} {x : Value} (h : OwnQ w B v ps) (hx : OwnR 55 3 itC w B x o.its) (hs : smO o) (hg : w.grownBy w' v.ownBlock) (hr : OwnR 35 7 opC w' B v' (ps ++ [(o, x)])) : OwnQ w' B v' (ps ++ [(o, x)]) := by
 refine ⟨hr, fun p hp => ?_, fun p hp => ?_⟩
 ·rcases List.mem_append.1 hp with h1 | h1
  ·exact (h.i p h1).keepRow hg (own_apart (by decide) (h.i p h1) h.r)
  ·rw [List.mem_singleton.1 h1]; exact hx.keepRow hg (own_apart (by decide) hx h.r)
 ·rcases List.mem_append.1 hp with h1 | h1
  ·exact h.s p h1
  ·rw [List.mem_singleton.1 h1]; exact hs
theorem smO_sz {o : OpD} (h : smO o) : OpSz o /\ ∀ x ∈ o.its, x.id.size <= maxLen /\ x.ti.size <= maxLen := by
 obtain ⟨h1, h2, h3, h4, h5, h6⟩ := h
 refine ⟨?_, fun x hx => ?_⟩
 ·unfold OpSz maxLen; omega
 ·have := h6 x hx; unfold smI at this; unfold maxLen; omega
theorem OwnQ.at {w : World} {B : Nat} {v : Value} {ps : List (OpD × Value)} (h : OwnQ w B v ps) : OpsAt w w.heap.size v (ps.map Prod.fst) :=
 ⟨ps, rfl, h.r.at opC_len, fun p hp => ⟨ItAt.of_own (h.i p hp) (smO_sz (h.s p hp)).2, (smO_sz (h.s p hp)).1⟩⟩
abbrev two : Array Value := #[.int .i64 1, .string ⟨#[117]⟩, .string ⟨#[]⟩, .int .i64 0, .string ⟨#[]⟩, .string ⟨#[]⟩, .slice none 0 0, .int .i64 1, .string ⟨#[118]⟩, .string ⟨#[]⟩, .int .i64 0, .string ⟨#[]⟩, .string ⟨#[]⟩, .slice none 0 0]
abbrev twoP : List (OpD × Value) := [(⟨1, ⟨#[117]⟩, ⟨#[]⟩, 0, ⟨#[]⟩, ⟨#[]⟩, []⟩, .slice none 0 0), (⟨1, ⟨#[118]⟩, ⟨#[]⟩, 0, ⟨#[]⟩, ⟨#[]⟩, []⟩, .slice none 0 0)]
theorem OwnQ.ofTwo (w : World) (B : Nat) (hB : B <= w.heap.size) : OwnQ (w.alloc (.cells two 35)) B (.slice (some ⟨w.heap.size, 0, none⟩) 2 2) twoP := by
 refine ⟨⟨rfl, .inr ⟨w.heap.size, 2, two, rfl, hB, heap_alloc_new w _, Nat.le_refl _, by unfold maxLen; omega, rfl, rfl⟩⟩, fun p hp => ?_, fun p hp => ?_⟩
 ·rcases List.mem_cons.1 hp with rfl | h1
  ·exact OwnR.nil _ _ _
  ·rw [List.mem_singleton.1 h1]; exact OwnR.nil _ _ _
 ·rcases List.mem_cons.1 hp with rfl | h1
  ·exact ⟨(by show (1 : Nat) <= 3; omega), (by show (0 : Nat) <= 1; omega), (by show (0 : Nat) <= 3; omega), (by show (0 : Nat) <= 8; omega), by simp, by simp⟩
  ·rw [List.mem_singleton.1 h1]; exact ⟨(by show (1 : Nat) <= 3; omega), (by show (0 : Nat) <= 1; omega), (by show (0 : Nat) <= 3; omega), (by show (0 : Nat) <= 8; omega), by simp, by simp⟩
theorem OwnQ.ofNone (w : World) (B : Nat) (hB : B <= w.heap.size) : OwnQ (w.alloc (.cells #[] 35)) B (.slice (some ⟨w.heap.size, 0, none⟩) 0 0) [] := ⟨OwnR.lit (k := 7) (C := opC) 35 w B hB, fun p hp => (by cases hp), fun p hp => (by cases hp)⟩
end Go.Proofs.YtffkakpbelknaaaGreatDoor
namespace Go.Proofs.YtffkakpbelknaaaGreatDoor
open Go.ChangeShapes Go.WideShapes Go.ChangeAt Go.RowKit
set_option linter.unusedVariables false
set_option linter.unusedSimpArgs false
def OutOps (m : Int) (base rb : Nat) (cv : Value) (zs : List Int) (w : World) (e : Ending) (w' : World) : Prop :=
 ∃ (V : Value) (ps : List (OpD × Value)), e = .returned V /\ (ps.length : Int) <= 2 + m /\ OwnQ w' w.heap.size V ps /\ Rd w' base rb cv zs /\ w.grownBy w' (some rb)
def slD (d : Value) (c : Nat -> Bool) (s : Nat -> Value) (i : Nat) : Value := if c i = true then s i else d
theorem slD_on {d : Value} {c : Nat -> Bool} {s : Nat -> Value} {i : Nat} (h : c i = true) : slD d c s i = s i := if_pos h
theorem FloS.step2 {Post Post' : Nat -> Value -> World -> Prop} {Fr : World -> Prop} {c : Nat -> Bool} {s : Nat -> Value} {w : World} (h : FloS Post Fr c s w) (i : Nat) (v : Value) (w' : World) (hfr : Fr w') (hst : ∀ j u, j ≠ i -> Post j u w -> Post' j u w') (hp : Post' i v w') : FloS Post' Fr (up c i true) (up s i v) w' := by
 refine ⟨hfr, fun j hj => ?_⟩
 unfold up at hj ⊢
 by_cases e : j = i
 ·subst e; rw [if_pos rfl]; exact hp
 ·rw [if_neg e] at hj ⊢
  exact hst j _ e (h.k j hj)
def rgP (Bq : Nat) (ps : List (OpD × Value)) (pn : OpD × Value) (f2 f5 f6 : Bool) (i : Nat) (v : Value) (wr : World) : Prop := match i with
 | 0 => ∃ g, v = .slice (some ⟨g, 0, none⟩) 0 0 /\ Bq <= g /\ (f2 = false -> Box wr g #[] 35)
 | 2 => f5 = false -> OwnR 35 7 opC wr Bq v ps
 | 3 => v = opV pn.1 pn.2
 | 4 => ∃ g, v = .slice (some ⟨g, 0, none⟩) 1 1 /\ Bq <= g /\ (f5 = false -> Box wr g #[.int .i64 pn.1.k, .string pn.1.u, .string pn.1.i, .int .i64 pn.1.d, .string pn.1.fu, .string pn.1.ft, pn.2] 35)
 | 5 => f6 = false -> OwnR 35 7 opC wr Bq v (ps ++ [pn])
 | 6 => ∃ a n c k, v = .tuple #[.agg #[.slice a n c], .int .i64 k]
 | 7 => ∃ a n c k, v = .tuple #[.agg #[.slice a n c], .int .i64 k]
 | 8 => ∃ a n c, v = .agg #[.slice a n c]
 | 9 => ∃ k, v = .int .i64 k
 | 10 => ∃ g, v = .pointer (some ⟨g, 0, none⟩) /\ Bq <= g /\ ∃ u, Box wr g #[u] 42
 | _ => True
theorem rgP_below {Bq : Nat} {ps : List (OpD × Value)} {pn : OpD × Value} {f2 f5 f6 f6' : Bool} {w w' : World} (hb : Below w.heap.size w w') (hf : f6' = false -> f6 = false) (i : Nat) (v : Value) (h : rgP Bq ps pn f2 f5 f6 i v w) : rgP Bq ps pn f2 f5 f6' i v w' := by
 unfold rgP at h ⊢
 split at h
 ·obtain ⟨g, h1, h2, h3⟩ := h; exact ⟨g, h1, h2, fun f => (h3 f).keep hb (h3 f).lt⟩
 ·exact fun f => (h f).keep hb (Nat.le_refl _)
 ·exact h
 ·obtain ⟨g, h1, h2, h3⟩ := h; exact ⟨g, h1, h2, fun f => (h3 f).keep hb (h3 f).lt⟩
 ·exact fun f => (h (hf f)).keep hb (Nat.le_refl _)
 ·exact h
 ·exact h
 ·exact h
 ·exact h
 ·obtain ⟨g, h1, h2, u, h3⟩ := h; exact ⟨g, h1, h2, u, h3.keep hb h3.lt⟩
 ·trivial
theorem box_ne {w : World} {g g' : Nat} {cs cs' : Array Value} {t t' : TypeId} (h : Box w g cs t) (h' : Box w g' cs' t') (hne : t ≠ t' \/ cs.size ≠ cs'.size) : g ≠ g' := by
 intro e
 subst e
 have := h.symm.trans h'
 simp only [Option.some.injEq, Obj.cells.injEq] at this
 rcases hne with h1 | h1
 ·exact h1 this.2.1
 ·exact h1 (by rw [this.1])
theorem rgP_two {Bq : Nat} {ps : List (OpD × Value)} {pn : OpD × Value} {f2 f5 f6 : Bool} {w w' : World} {g0 : Nat} (hg : w.grownBy w' (some g0)) (h0 : Box w g0 #[] 35) (i : Nat) (v : Value) (hi : i ≠ 2) (h : rgP Bq ps pn f2 f5 f6 i v w) : rgP Bq ps pn true f5 f6 i v w' := by
 unfold rgP at h ⊢
 split at h
 ·obtain ⟨g, h1, h2, h3⟩ := h; exact ⟨g, h1, h2, fun f => by cases f⟩
 ·exact absurd rfl hi
 ·exact h
 ·obtain ⟨g, h1, h2, h3⟩ := h; exact ⟨g, h1, h2, fun f => (h3 f).keepG hg (box_ne (h3 f) h0 (.inr (by simp)))⟩
 ·refine fun f => (h f).keepRow hg ?_
  rcases (h f).2 with ⟨_, hl⟩ | ⟨g, cap, cur, rfl, _, hb, hc, _, hz, _⟩
  ·simp at hl
  ·refine .inr (fun e => ?_)
   have e2 : g = g0 := Option.some.inj e
   refine box_ne (show Box w g cur _ from hb) h0 (.inr ?_) e2
   simp at hc ⊢
   intro e3
   subst e3
   simp at hz
   omega
 ·exact h
 ·exact h
 ·exact h
 ·exact h
 ·obtain ⟨g, h1, h2, u, h3⟩ := h; exact ⟨g, h1, h2, u, h3.keepG hg (box_ne h3 h0 (.inl (by decide)))⟩
 ·trivial
theorem rgP_five {Bq : Nat} {ps : List (OpD × Value)} {pn : OpD × Value} {f5 f6 : Bool} {w w' : World} {v2 : Value} (hg : w.grownBy w' v2.ownBlock) (h2 : OwnR 35 7 opC w Bq v2 ps) (i : Nat) (v : Value) (hi : i ≠ 5) (h : rgP Bq ps pn true f5 f6 i v w) : rgP Bq ps pn true true f6 i v w' := by
 unfold rgP at h ⊢
 split at h
 ·obtain ⟨g, h1, h2, h3⟩ := h; exact ⟨g, h1, h2, fun f => by cases f⟩
 ·exact fun f => by cases f
 ·exact h
 ·obtain ⟨g, h1, h2, h3⟩ := h; exact ⟨g, h1, h2, fun f => by cases f⟩
 ·exact absurd rfl hi
 ·exact h
 ·exact h
 ·exact h
 ·exact h
 ·obtain ⟨g, h1, hB, u, h3⟩ := h
  refine ⟨g, h1, hB, u, ?_⟩
  refine (hg.block g h3.lt (fun e => ?_)).trans h3
  rcases h2.2 with ⟨rfl, _⟩ | ⟨g2, cap, cur, rfl, _, hb, _⟩
  ·cases e
  ·exact box_ne h3 (show Box w g2 cur _ from hb) (.inl (by decide)) (Option.some.inj e)
 ·trivial
theorem rgP_eleven {Bq : Nat} {ps : List (OpD × Value)} {pn : OpD × Value} {f6 : Bool} {w : World} {g0 : Nat} (z : Value) (i : Nat) (v : Value) (h : rgP Bq ps pn true true true i v w) : rgP Bq ps pn true true true i v (w.setCell ⟨g0, 0, none⟩ z) := by
 unfold rgP at h ⊢
 split at h
 ·obtain ⟨g, h1, h2, h3⟩ := h; exact ⟨g, h1, h2, fun f => by cases f⟩
 ·exact fun f => by cases f
 ·exact h
 ·obtain ⟨g, h1, h2, h3⟩ := h; exact ⟨g, h1, h2, fun f => by cases f⟩
 ·exact fun f => by cases f
 ·exact h
 ·exact h
 ·exact h
 ·exact h
 ·obtain ⟨g, h1, hB, u, h3⟩ := h
  refine ⟨g, h1, hB, ?_⟩
  by_cases e : g = g0
  ·subst e; exact ⟨z, h3.set 0 z⟩
  ·exact ⟨u, h3.other ⟨g0, 0, none⟩ z e⟩
 ·trivial
theorem ops_any (m : Int) (hm0 : 0 <= m) (hm1 : m <= 100) (base rb : Nat) (cv : Value) (zs : List Int) (w : World) (h : Rd w base rb cv zs) :
  Calls Tryz.prog 133 #[.pointer (some ⟨rb, 0, none⟩), .int .i64 m] w (OutOps m base rb cv zs w) := by
 have hrb := h.lt
 have hr0 := h.alloc (.cells two 35)
 have hg0 := World.grownBy_alloc w (.cells two 35) (some rb)
 have hq0 := OwnQ.ofTwo w w.heap.size (Nat.le_refl _)
 clear h
 have hmw : IntKind.i64.wrap (m + 1) = m + 1 := IntWalk.i64_in _ (by omega)
 go_enter Tryz.func133, Tryz.ntmps133
 go_wp2_with fail
 refine (once_any 6 base rb cv zs _ hr0 (by omega) (by omega)).mono ?_
 rintro e w1 ⟨b, rfl, hr1, hg1⟩
 have hq1 := hq0.keepG hg1 hrb
 have g1 := grown_trans hg0 hg1
 clear hq0 hg0 hg1 hr0
 go_upto_if 14 with fail
 go_cut [5] from 15 to 15 (fun s5 wx => ∃ (ps : List (OpD × Value)), ps.length <= 2 /\ OwnQ wx w.heap.size s5 ps /\ Rd wx base rb cv zs /\ w.grownBy wx (some rb))
 case first =>
  cases b with
  | true =>
   have hq2 := OwnQ.ofNone w1 w.heap.size g1.size
   have hr2 := hr1.alloc (.cells #[] 35)
   have g2 := grown_trans g1 (World.grownBy_alloc w1 (.cells #[] 35) (some rb))
   go_wp2_with fail
   go_meet
   exact ⟨[], by simp, hq2, hr2, g2⟩
  | false =>
   go_wp2_with fail
   go_meet
   exact ⟨_, by simp, hq1, hr1, g1⟩
 case rest =>
  obtain ⟨ps, hps, hq, hr, g⟩ := hcut
  clear hq1 hr1 g1
  go_wp2_with fail
  refine (below_any (m + 1) base rb cv zs _ hr (by omega) (by omega)).mono ?_
  rintro e w2 ⟨yq, rfl, hyq0, hyq1, hr2, hg2⟩
  have hq2 := hq.keepG hg2 hrb
  have g2 := grown_trans g hg2
  clear hq g hg2 hr
  go_wp2_with fail
  go_loopw [5, 6] (fun V i wr => ∃ (y : Int) (ps : List (OpD × Value)), i = .int .i64 y /\ 0 <= y /\ (ps.length : Int) + y <= 2 + m /\ OwnQ wr w.heap.size V ps /\ Rd wr base rb cv zs /\ w.grownBy wr (some rb)) (fun _ i _ => (intOf i).toNat)
  case atStart => exact ⟨yq, ps, rfl, hyq0, by omega, hq2, hr2, g2⟩
  case round =>
   clear hq2 hr2 g2 hps ps
   obtain ⟨y, ps, rfl, hy0, hy1, hq, hr, g⟩ := hrel
   obtain ⟨va, vc, hV⟩ := hq.r.slice
   subst hV
   by_cases hy : 0 < y
   ·go_wp2_with fail
    refine (op_any base rb cv zs _ hr).mono ?_
    rintro e w3 ⟨o, x, rfl, hso, hx, hr3, hg3⟩
    have hq3 := hq.keepG hg3 hrb
    have g3 := grown_trans g hg3
    replace hx := hx.base_mono g.size
    obtain ⟨xa, xc, hX⟩ := hx.slice
    subst hX
    clear hq g hg3 hr
    obtain ⟨ok, ou, oi, od, ofu, oft, oits⟩ := o
    simp only at hx
    have hr4 := hr3.alloc (.cells #[.int .i64 ok, .string ou, .string oi, .int .i64 od, .string ofu, .string oft, .slice xa oits.length xc] 35)
    have hO := Box.new w3 #[.int .i64 ok, .string ou, .string oi, .int .i64 od, .string ofu, .string oft, .slice xa oits.length xc] 35
    have ga := World.grownBy_alloc w3 (.cells #[.int .i64 ok, .string ou, .string oi, .int .i64 od, .string ofu, .string oft, .slice xa oits.length xc] 35) (some rb)
    have hq4 := hq3.keepG ga hrb
    have hx4 := hx.keepG ga hrb
    have g4 := grown_trans g3 ga
    have hF := g3.size
    have hrw := hr3.lt
    clear hr3 hq3 hx g3 ga
    go_upto_region 8 with fail
    generalize w3.alloc (.cells #[.int .i64 ok, .string ou, .string oi, .int .i64 od, .string ofu, .string oft, .slice xa oits.length xc] 35) = W8 at hr4 hO hq4 hx4 g4 ⊢
    generalize w3.heap.size = Ob at hO hF hrw ⊢
    go_cut [8, 9] from 26 to 35 (fun s8 s9 wx => ∃ n : Int, s9 = .int .i64 n /\ Below W8.heap.size W8 wx)
    case first =>
     refine wp_region_T (fun _ => True) (fun _ => True) 12 (by kernel_rfl) 13 rfl ?_
     refine wA 12 [1] ⟨trivial, fun _ => trivial⟩ ?_
     simp only [pick, List.filterMap_cons, List.filterMap_nil, List.getElem?_cons_zero, List.getElem?_cons_succ]
     refine wS (.slice va ps.length vc) (fun w hw => by go_simp) ?_
     refine wpIf_nil (fun hS => ?_)
     clear hS
     have hW8 := g4.size
     have hplen : ps.length <= 1000 := by omega
     refine wpAnyT_flo (fun i => decide (i < 12)) (by kernel_rfl) (by kernel_rfl) 1 (fun L a wr => ∃ (c : Nat -> Bool) (s : Nat -> Value), L = #[c 0, true, c 2, c 3, c 4, c 5, c 6, c 7, c 8, c 9, c 10, c 11, false] /\ a = { tmps := #[.pointer (some ⟨rb, 0, none⟩), .int .i64 m, undef, undef, .slice none 0 0, .slice va ps.length vc, .int .i64 y, .pointer (some ⟨Ob, 0, none⟩), slD u8 c s 10, u9, .agg #[.int .i64 1, .string ⟨#[117]⟩, .string ⟨#[]⟩, .int .i64 0, .string ⟨#[]⟩, .string ⟨#[]⟩, .slice none 0 0], .agg #[.int .i64 1, .string ⟨#[118]⟩, .string ⟨#[]⟩, .int .i64 0, .string ⟨#[]⟩, .string ⟨#[]⟩, .slice none 0 0], .slice (some ⟨w.heap.size, 0, none⟩) 2 2, .pointer (some ⟨rb, 0, none⟩), .bool b, u15, .pointer (some ⟨rb, 0, none⟩), .int .i64 m, .int .i64 (m + 1), .int .i64 yq, .int .i64 y, .bool true, u22, u23, .pointer (some ⟨rb, 0, none⟩), opV (⟨ok, ou, oi, od, ofu, oft, oits⟩ : OpD) (.slice xa oits.length xc), slD u26 c s 7, slD u27 c s 0, .slice va ps.length vc, slD u29 c s 2, slD u30 c s 3, slD u31 c s 4, slD u32 c s 5, slD u33 c s 6, slD u34 c s 8, slD u35 c s 9, u36, u37, u38, u39, u40, u41, u42, u43, u44, u45, u46, u47, undef], defers := [] } /\ FloS (rgP W8.heap.size ps (((⟨ok, ou, oi, od, ofu, oft, oits⟩ : OpD), .slice xa oits.length xc) : OpD × Value) (c 2) (c 5) (c 6)) (fun wr => Below W8.heap.size W8 wr) c s wr) ?_ ?_ ?_ 11 _ _ _ ?_ ?_
     ·rintro L a wr ⟨c, s, rfl, _, _⟩
      rfl
     ·rintro L a wr i oi' ⟨c, s, rfl, rfl, hF⟩ ho hfl hL hdep
      have hi : i < 12 := of_decide_eq_true hfl
      have hb := hF.fr
      have hsz := hb.size
      rcases (show i = 0 \/ i = 1 \/ i = 2 \/ i = 3 \/ i = 4 \/ i = 5 \/ i = 6 \/ i = 7 \/ i = 8 \/ i = 9 \/ i = 10 \/ i = 11 by omega) with rfl | rfl | rfl | rfl | rfl | rfl | rfl | rfl | rfl | rfl | rfl | rfl
      ·have ho' := Option.some.inj ho
       subst ho'
       refine ⟨by kernel_rfl, ?_⟩
       go_simp
       exact ⟨up c 0 true, by simp [up], up s 0 (.slice (some ⟨wr.heap.size, 0, none⟩) 0 0), by simp [up, slD], hF.step2 0 (.slice (some ⟨wr.heap.size, 0, none⟩) 0 0) _ (hb.alloc hsz _) (fun j u _ h => rgP_below ((Below.refl _ _).alloc (Nat.le_refl _) _) (fun f => f) j u h) ⟨wr.heap.size, rfl, hsz, fun _ => Box.new wr #[] 35⟩⟩
      ·cases hL
      ·have ho' := Option.some.inj ho
       subst ho'
       have h0 : c 0 = true := hdep ⟨0, .data⟩ (by simp) rfl
       refine ⟨by kernel_rfl, ?_⟩
       obtain ⟨g0, e0, hg0, hbx⟩ := hF.k 0 h0
       have hc2 : c 2 = false := hL
       have hbx0 := hbx hc2
       have hrow : OwnR 35 7 opC wr W8.heap.size (.slice (some ⟨g0, 0, none⟩) 0 0) ([] : List (OpD × Value)) := ⟨rfl, .inr ⟨g0, 0, #[], rfl, hg0, hbx0, Nat.le_refl _, Nat.zero_le _, rfl, rfl⟩⟩
       have hone : ∀ z ∈ ps, ∀ u ∈ opC z, u.oneCell' = true := fun z hz => opC_one z (by obtain ⟨a1, n1, h1⟩ := (hq4.i z hz).slice; exact ⟨_, _, _, h1⟩)
       have hps : RecAt 7 opC wr W8.heap.size (.slice va ps.length vc) ps := (hq4.r.at opC_len).below hb
       obtain ⟨v2, w2', hrun, hv2, hgr2⟩ := appR_run (P := Tryz.prog) (t := 47) opC_len (by decide) Tryz.underlying47 Tryz.infoOp rfl (by decide) hrow hps hone (by simp; omega) hsz 47
       rw [slD_on h0, e0]
       refine wp_appQ 47 (.tmp 27) (.tmp 28) rfl _ _ v2 rfl rfl hrun ?_
       go_simp
       exact ⟨up c 2 true, by simp [up, h0, e0], up s 2 v2, by simp [up, slD, h0, e0], hF.step2 2 v2 _ (hb.grown hgr2 hsz (ownBlock_base hrow)) (fun j u hj h => rgP_two hgr2 hbx0 j u hj h) (fun _ => by simpa using hv2)⟩
      ·have ho' := Option.some.inj ho
       subst ho'
       refine ⟨by kernel_rfl, ?_⟩
       have hO3 := hO.keep hb hO.lt
       have k0 := hO3.cell 0 _ rfl
       have k1 := hO3.cell 1 _ rfl
       have k2 := hO3.cell 2 _ rfl
       have k3 := hO3.cell 3 _ rfl
       have k4 := hO3.cell 4 _ rfl
       have k5 := hO3.cell 5 _ rfl
       have k6 := hO3.cell 6 _ rfl
       go_simp
       exact ⟨up c 3 true, by simp [up], up s 3 (opV (⟨ok, ou, oi, od, ofu, oft, oits⟩ : OpD) (.slice xa oits.length xc)), by simp [up, slD], hF.step2 3 (opV (⟨ok, ou, oi, od, ofu, oft, oits⟩ : OpD) (.slice xa oits.length xc)) _ hb (fun j u _ h => h) rfl⟩
      ·have ho' := Option.some.inj ho
       subst ho'
       have h3 : c 3 = true := hdep ⟨3, .data⟩ (by simp) rfl
       refine ⟨by kernel_rfl, ?_⟩
       have e3 : s 3 = opV (⟨ok, ou, oi, od, ofu, oft, oits⟩ : OpD) (.slice xa oits.length xc) := hF.k 3 h3
       rw [slD_on h3, e3]
       go_simp
       exact ⟨up c 4 true, by simp [up, h3, e3], up s 4 (.slice (some ⟨wr.heap.size, 0, none⟩) 1 1), by simp [up, slD, h3, e3], hF.step2 4 (.slice (some ⟨wr.heap.size, 0, none⟩) 1 1) _ (hb.alloc hsz _) (fun j u _ h => rgP_below ((Below.refl _ _).alloc (Nat.le_refl _) _) (fun f => f) j u h) ⟨wr.heap.size, rfl, hsz, fun _ => Box.new wr _ 35⟩⟩
      ·have ho' := Option.some.inj ho
       subst ho'
       have h2 : c 2 = true := hdep ⟨2, .data⟩ (by simp) rfl
       have h4 : c 4 = true := hdep ⟨4, .data⟩ (by simp) rfl
       refine ⟨by kernel_rfl, ?_⟩
       have hc5 : c 5 = false := hL
       have hv2 : OwnR 35 7 opC wr W8.heap.size (s 2) ps := hF.k 2 h2 hc5
       obtain ⟨g4', e4, hg4', hbx4⟩ := hF.k 4 h4
       have hbx5 := hbx4 hc5
       have hrec : RecAt 7 opC wr (g4' + 1) (.slice (some ⟨g4', 0, none⟩) 1 1) [(((⟨ok, ou, oi, od, ofu, oft, oits⟩ : OpD), .slice xa oits.length xc) : OpD × Value)] := by
        refine ⟨_, 1, rfl, Nat.le_refl _, by unfold maxLen; omega, fun _ => ⟨g4', 0, rfl, Nat.lt_succ_self _, fun i hi j u hu => ?_⟩⟩
        have hi0 : i = 0 := by simpa using hi
        subst hi0
        simp only [Nat.zero_mul, Nat.zero_add]
        exact cell_of_cells hbx5 (by simpa [opC] using hu)
       have hone : ∀ z ∈ ([(((⟨ok, ou, oi, od, ofu, oft, oits⟩ : OpD), .slice xa oits.length xc) : OpD × Value)] : List (OpD × Value)), ∀ u ∈ opC z, u.oneCell' = true := fun z hz => opC_one z (by rw [List.mem_singleton.1 hz]; exact ⟨_, _, _, rfl⟩)
       obtain ⟨v5, w5', hrun, hv5, hgr5⟩ := appR_run (P := Tryz.prog) (t := 47) opC_len (by decide) Tryz.underlying47 Tryz.infoOp rfl (by decide) hv2 hrec hone (by simp; omega) hsz 47
       have hF0 := hF
       rw [h2] at hF0
       rw [slD_on h2, slD_on h4, e4]
       refine wp_appQ 47 (.tmp 29) (.tmp 31) rfl _ _ v5 rfl rfl hrun ?_
       go_simp
       exact ⟨up c 5 true, by simp [up, h2, h4], up s 5 v5, by simp [up, slD, h2, h4, e4], by
        have h9 := hF0.step2 5 v5 w5' (hb.grown hgr5 hsz (ownBlock_base hv2)) (fun j u hj h => rgP_five hgr5 hv2 j u hj h) (fun _ => hv5)
        simpa [up, h2] using h9⟩
      ·have ho' := Option.some.inj ho
       subst ho'
       have h5 : c 5 = true := hdep ⟨5, .data⟩ (by simp) rfl
       refine ⟨by kernel_rfl, ?_⟩
       have hc6 : c 6 = false := hL
       have hv5 : OwnR 35 7 opC wr W8.heap.size (s 5) (ps ++ [(((⟨ok, ou, oi, od, ofu, oft, oits⟩ : OpD), .slice xa oits.length xc) : OpD × Value)]) := hF.k 5 h5 hc6
       have hats : OpsAt wr wr.heap.size (s 5) ((ps ++ [(((⟨ok, ou, oi, od, ofu, oft, oits⟩ : OpD), .slice xa oits.length xc) : OpD × Value)]).map Prod.fst) := ⟨_, rfl, hv5.at opC_len, fun z hz => by
        rcases List.mem_append.1 hz with h7 | h7
        ·exact ⟨((ItAt.of_own (hq4.i z h7) (smO_sz (hq4.s z h7)).2).below hb).mono hsz, (smO_sz (hq4.s z h7)).1⟩
        ·rw [List.mem_singleton.1 h7]
         exact ⟨((ItAt.of_own hx4 (smO_sz hso).2).below hb).mono hsz, (smO_sz hso).1⟩⟩
       rw [slD_on h5]
       go_simp
       refine (specFolded_any (s 5) _ wr hats).mono ?_
       rintro e w6 ⟨V6, qs, rfl, hq6, hV6, hb6⟩
       obtain ⟨va6, vc6, rfl⟩ := hV6.1.slice
       go_simp
       exact ⟨up c 6 true, by simp [up, h5], up s 6 (.tuple #[.agg #[.slice va6 qs.length vc6], .int .i64 ((fdV ((ps ++ [(((⟨ok, ou, oi, od, ofu, oft, oits⟩ : OpD), .slice xa oits.length xc) : OpD × Value)]).map Prod.fst)).2 : Int)]), by simp [up, slD, h5], hF.step2 6 _ _ (hb.trans (hb6.mono hsz)) (fun j u _ h => rgP_below hb6 (fun f => by cases f) j u h) ⟨_, _, _, _, rfl⟩⟩
      ·have ho' := Option.some.inj ho
       subst ho'
       have h6 : c 6 = true := hdep ⟨6, .data⟩ (by simp) rfl
       refine ⟨by kernel_rfl, ?_⟩
       obtain ⟨ra, rn, rc, k, e6⟩ := hF.k 6 h6
       rw [slD_on h6, e6]
       go_simp
       exact ⟨up c 7 true, by simp [up, h6, e6], up s 7 (.tuple #[.agg #[.slice ra rn rc], .int .i64 k]), by simp [up, slD, h6, e6], hF.step2 7 (.tuple #[.agg #[.slice ra rn rc], .int .i64 k]) _ hb (fun j u _ h => h) ⟨_, _, _, _, rfl⟩⟩
      ·have ho' := Option.some.inj ho
       subst ho'
       have h7 : c 7 = true := hdep ⟨7, .data⟩ (by simp) rfl
       refine ⟨by kernel_rfl, ?_⟩
       obtain ⟨ra, rn, rc, k, e7⟩ := hF.k 7 h7
       rw [slD_on h7, e7]
       go_simp
       exact ⟨up c 8 true, by simp [up, h7, e7], up s 8 (.agg #[.slice ra rn rc]), by simp [up, slD, h7, e7], hF.step2 8 (.agg #[.slice ra rn rc]) _ hb (fun j u _ h => h) ⟨_, _, _, rfl⟩⟩
      ·have ho' := Option.some.inj ho
       subst ho'
       have h7 : c 7 = true := hdep ⟨7, .data⟩ (by simp) rfl
       refine ⟨by kernel_rfl, ?_⟩
       obtain ⟨ra, rn, rc, k, e7⟩ := hF.k 7 h7
       rw [slD_on h7, e7]
       go_simp
       exact ⟨up c 9 true, by simp [up, h7, e7], up s 9 (.int .i64 k), by simp [up, slD, h7, e7], hF.step2 9 (.int .i64 k) _ hb (fun j u _ h => h) ⟨_, rfl⟩⟩
      ·have ho' := Option.some.inj ho
       subst ho'
       refine ⟨by kernel_rfl, ?_⟩
       go_simp
       exact ⟨up c 10 true, by simp [up], up s 10 (.pointer (some ⟨wr.heap.size, 0, none⟩)), by simp [up, slD], hF.step2 10 (.pointer (some ⟨wr.heap.size, 0, none⟩)) _ (hb.alloc hsz _) (fun j u _ h => rgP_below ((Below.refl _ _).alloc (Nat.le_refl _) _) (fun f => f) j u h) ⟨wr.heap.size, rfl, hsz, _, Box.new wr _ 42⟩⟩
      ·have ho' := Option.some.inj ho
       subst ho'
       have h10 : c 10 = true := hdep ⟨10, .data⟩ (by simp) rfl
       have h8 : c 8 = true := hdep ⟨8, .data⟩ (by simp) rfl
       have h2 : c 2 = true := hdep ⟨2, .phase⟩ (by simp) rfl
       have h5 : c 5 = true := hdep ⟨5, .phase⟩ (by simp) rfl
       have h6 : c 6 = true := hdep ⟨6, .phase⟩ (by simp) rfl
       refine ⟨by kernel_rfl, ?_⟩
       obtain ⟨g, e10, hgB, uz, hbz⟩ := hF.k 10 h10
       obtain ⟨ra, rn, rc, e8⟩ := hF.k 8 h8
       have kz := hbz.cell 0 _ rfl
       have kf := hbz.free 0
       have hF0 := hF
       rw [h2, h5, h6] at hF0
       rw [slD_on h10, slD_on h8, e10, e8]
       go_simp
       exact ⟨up c 11 true, by simp [up, h10, h8, h2, h5, h6], up s 11 undef, by simp [up, slD, h10, h8, e10, e8], by
        have h9 := hF0.step2 11 undef (wr.setCell ⟨g, 0, none⟩ (.slice ra rn rc)) (hb.setCell (p := ⟨g, 0, none⟩) hgB _) (fun j u _ h => rgP_eleven (f6 := true) _ j u h) trivial
        simpa [up, h2, h5, h6] using h9⟩
     ·rintro L a wr ⟨c, s, rfl, rfl, hF⟩ hall
      have h0 : c 0 = true := hall 0 (by decide) rfl
      have h2 : c 2 = true := hall 2 (by decide) rfl
      have h3 : c 3 = true := hall 3 (by decide) rfl
      have h4 : c 4 = true := hall 4 (by decide) rfl
      have h5 : c 5 = true := hall 5 (by decide) rfl
      have h6 : c 6 = true := hall 6 (by decide) rfl
      have h7 : c 7 = true := hall 7 (by decide) rfl
      have h8 : c 8 = true := hall 8 (by decide) rfl
      have h9 : c 9 = true := hall 9 (by decide) rfl
      have h10 : c 10 = true := hall 10 (by decide) rfl
      have h11 : c 11 = true := hall 11 (by decide) rfl
      obtain ⟨k, e9⟩ := hF.k 9 h9
      have hb := hF.fr
      rw [h0, h2, h3, h4, h5, h6, h7, h8, h9, h10, h11, slD_on h9, e9]
      clear hall hF h0 h2 h3 h4 h5 h6 h7 h8 h9 h10 h11 e9
      refine wpAnyT_one 12 0 (by kernel_rfl) rfl (by kernel_rfl) ?_
      intro K hK
      go_simp
      refine hK _ _ ⟨trivial, fun _ => trivial⟩ (fun hS => ?_)
      clear hK K hS
      refine wpAnyT_over (by kernel_rfl) ?_
      go_wp2_with fail
      go_meet
      exact ⟨k, rfl, hb⟩
     ·exact ⟨fun _ => false, fun _ => undef, rfl, rfl, below_drewN (Below.refl _ _) 1, fun i hi => by cases hi⟩
     ·decide
    case rest =>
     obtain ⟨n, rfl, hbx⟩ := hcut
     have hW8 := g4.size
     have hqc : OwnQ wc w.heap.size (.slice va ps.length vc) ps := ⟨hq4.r.keep hbx (Nat.le_refl _), fun p hp => (hq4.i p hp).keep hbx (Nat.le_refl _), hq4.s⟩
     have hxc := hx4.keep hbx (Nat.le_refl _)
     have hOc := hO.keep hbx hO.lt
     have hrc := hr4.below hbx hr4.lt
     have gc := gw_below g4 hbx hW8
     clear hr4 hO hq4 hx4 g4 hbx hW8
     have hyw : IntKind.i64.wrap (y - 1) = y - 1 := IntWalk.i64_in _ (by omega)
     by_cases hn : (ps.length : Int) < n
     ·have hnd : decide ((ps.length : Int) < n) = true := decide_eq_true hn
      have HA := Lib.hid (hqc.r.alloc (.cells #[.int .i64 ok, .string ou, .string oi, .int .i64 od, .string ofu, .string oft, .slice xa oits.length xc] 35))
      have HN := Lib.hid (one_rec opC_len (wc) 35 (((⟨ok, ou, oi, od, ofu, oft, oits⟩ : OpD), .slice xa oits.length xc) : OpD × Value) #[.int .i64 ok, .string ou, .string oi, .int .i64 od, .string ofu, .string oft, .slice xa oits.length xc] rfl)
      have HU : Hid (∀ u ∈ ([((⟨ok, ou, oi, od, ofu, oft, oits⟩ : OpD), .slice xa oits.length xc)] : List (OpD × Value)), ∀ z ∈ opC u, z.oneCell' = true) := Lib.hid (fun u hu => opC_one u (by rw [List.mem_singleton.1 hu]; exact ⟨_, _, _, rfl⟩))
      have HZ : Hid (w.heap.size <= (wc.alloc (.cells #[.int .i64 ok, .string ou, .string oi, .int .i64 od, .string ofu, .string oft, .slice xa oits.length xc] 35)).heap.size) := Lib.hid (by have := gc.size; simp; omega)
      have hln : ps.length + ([((⟨ok, ou, oi, od, ofu, oft, oits⟩ : OpD), .slice xa oits.length xc)] : List (OpD × Value)).length <= 100000000 := by simp; omega
      have c0 := hOc.cell 0 _ rfl
      have c1 := hOc.cell 1 _ rfl
      have c2 := hOc.cell 2 _ rfl
      have c3 := hOc.cell 3 _ rfl
      have c4 := hOc.cell 4 _ rfl
      have c5 := hOc.cell 5 _ rfl
      have c6 := hOc.cell 6 _ rfl
      have ga := World.grownBy_alloc wc (.cells #[.int .i64 ok, .string ou, .string oi, .int .i64 od, .string ofu, .string oft, .slice xa oits.length xc] 35) (some rb)
      have HQ := Lib.hid (hqc.keepG ga hrb)
      have HX := Lib.hid (hxc.keepG ga hrb)
      have HG := Lib.hid (grown_trans gc ga)
      have HR := Lib.hid (hrc.alloc (.cells #[.int .i64 ok, .string ou, .string oi, .int .i64 od, .string ofu, .string oft, .slice xa oits.length xc] 35))
      clear ga
      go_wp2_with (
       (at_builtin
        refine wpList_appR opC_len (by decide) Tryz.underlying47 Tryz.infoOp rfl (by decide) rfl (.tmp 44) (.tmp 46) rfl w.heap.size _ _ _ ps [((⟨ok, ou, oi, od, ofu, oft, oits⟩ : OpD), .slice xa oits.length xc)] rfl rfl HA.out HN.out HU.out hln HZ.out ?_
        intro v9 w9 hown9 hg9
        have hq9 := HQ.out.snoc HX.out hso hg9 hown9
        have hbb : Below w.heap.size _ w9 := (Below.refl w.heap.size _).grown hg9 HZ.out (ownBlock_base HA.out)
        have hr9 := HR.out.below hbb hrb
        have g9 := gw_below HG.out hbb (Nat.le_refl _)
        clear hown9 hg9 hbb))
      go_roundw
      case rel => exact ⟨y - 1, _, by first | rfl | rw [hyw], by omega, by simp; omega, hq9, hr9, g9⟩
      case measure => simp [intOf]; omega
     ·have hnd : decide ((ps.length : Int) < n) = false := decide_eq_false hn
      go_wp2_with fail
      refine (once_any 30 base rb cv zs _ hrc (by omega) (by omega)).mono ?_
      rintro e w5 ⟨b5, rfl, hr5, hg5⟩
      have hq5 := hqc.keepG hg5 hrb
      have hx5 := hxc.keepG hg5 hrb
      have hO5 := hOc.keepG hg5 (by omega)
      have g5 := grown_trans gc hg5
      clear hqc hxc hOc gc hrc hg5
      cases b5 with
      | false =>
       go_wp2
       go_roundw
       case rel => exact ⟨y - 1, ps, by first | rfl | rw [hyw], by omega, by omega, hq5, hr5, g5⟩
       case measure => simp [intOf]; omega
      | true =>
       have HA := Lib.hid (hq5.r.alloc (.cells #[.int .i64 ok, .string ou, .string oi, .int .i64 od, .string ofu, .string oft, .slice xa oits.length xc] 35))
       have HN := Lib.hid (one_rec opC_len (w5) 35 (((⟨ok, ou, oi, od, ofu, oft, oits⟩ : OpD), .slice xa oits.length xc) : OpD × Value) #[.int .i64 ok, .string ou, .string oi, .int .i64 od, .string ofu, .string oft, .slice xa oits.length xc] rfl)
       have HU : Hid (∀ u ∈ ([((⟨ok, ou, oi, od, ofu, oft, oits⟩ : OpD), .slice xa oits.length xc)] : List (OpD × Value)), ∀ z ∈ opC u, z.oneCell' = true) := Lib.hid (fun u hu => opC_one u (by rw [List.mem_singleton.1 hu]; exact ⟨_, _, _, rfl⟩))
       have HZ : Hid (w.heap.size <= (w5.alloc (.cells #[.int .i64 ok, .string ou, .string oi, .int .i64 od, .string ofu, .string oft, .slice xa oits.length xc] 35)).heap.size) := Lib.hid (by have := g5.size; simp; omega)
       have hln : ps.length + ([((⟨ok, ou, oi, od, ofu, oft, oits⟩ : OpD), .slice xa oits.length xc)] : List (OpD × Value)).length <= 100000000 := by simp; omega
       have c0 := hO5.cell 0 _ rfl
       have c1 := hO5.cell 1 _ rfl
       have c2 := hO5.cell 2 _ rfl
       have c3 := hO5.cell 3 _ rfl
       have c4 := hO5.cell 4 _ rfl
       have c5 := hO5.cell 5 _ rfl
       have c6 := hO5.cell 6 _ rfl
       have ga := World.grownBy_alloc w5 (.cells #[.int .i64 ok, .string ou, .string oi, .int .i64 od, .string ofu, .string oft, .slice xa oits.length xc] 35) (some rb)
       have HQ := Lib.hid (hq5.keepG ga hrb)
       have HX := Lib.hid (hx5.keepG ga hrb)
       have HG := Lib.hid (grown_trans g5 ga)
       have HR := Lib.hid (hr5.alloc (.cells #[.int .i64 ok, .string ou, .string oi, .int .i64 od, .string ofu, .string oft, .slice xa oits.length xc] 35))
       clear ga
       go_wp2_with (
        (at_builtin
         refine wpList_appR opC_len (by decide) Tryz.underlying47 Tryz.infoOp rfl (by decide) rfl (.tmp 44) (.tmp 46) rfl w.heap.size _ _ _ ps [((⟨ok, ou, oi, od, ofu, oft, oits⟩ : OpD), .slice xa oits.length xc)] rfl rfl HA.out HN.out HU.out hln HZ.out ?_
         intro v9 w9 hown9 hg9
         have hq9 := HQ.out.snoc HX.out hso hg9 hown9
         have hbb : Below w.heap.size _ w9 := (Below.refl w.heap.size _).grown hg9 HZ.out (ownBlock_base HA.out)
         have hr9 := HR.out.below hbb hrb
         have g9 := gw_below HG.out hbb (Nat.le_refl _)
         clear hown9 hg9 hbb))
       go_roundw
       case rel => exact ⟨y - 1, _, by first | rfl | rw [hyw], by omega, by simp; omega, hq9, hr9, g9⟩
       case measure => simp [intOf]; omega
   ·have hy2 : y = 0 := by omega
    subst hy2
    clear hy hy0
    go_wp2
    go_ret
    exact ⟨_, ps, rfl, by omega, hq, hr, g⟩
end Go.Proofs.YtffkakpbelknaaaGreatDoor
namespace Go.Proofs.YtffkakpbelknaaaGreatDoor
open Go.ChangeShapes Go.WideShapes Go.ChangeAt Go.RowKit
set_option linter.unusedVariables false
theorem fd_rd2 : ∀ (os : List OpD) (r : List Sb), rdB r = true -> rdB (fdG r os).1 = true
 | [], r, h => h
 | o :: os, r, h => by
  cases ho : doV r o with
  | none => rw [fdG_none ho]; exact h
  | some r2 => rw [fdG_some ho]; exact fd_rd2 os r2 (doV_rd ho)
theorem OwnD.keepG {w w' : World} {B rb : Nat} {v : Value} {ps : List (Sb × Value)} (h : OwnD w B v ps) (hg : w.grownBy w' (Option.some rb)) (hb : rb < B) : OwnD w' B v ps := ⟨h.1.keepG hg hb, fun p hp => (h.2.1 p hp).keepG hg hb, h.2.2⟩
theorem OwnS.keepG {w w' : World} {B rb : Nat} {v : Value} {ss : List Sb} (h : OwnS w B v ss) (hg : w.grownBy w' (some rb)) (hb : rb < B) : OwnS w' B v ss := by
 obtain ⟨ps, h1, h2, h3⟩ := h
 exact ⟨ps, h1, h2.keepG hg hb, fun p hp => (h3 p hp).keepG hg hb⟩
def OutRdr (base rb : Nat) (cv : Value) (zs : List Int) (w : World) (e : Ending) (w' : World) : Prop :=
 ∃ (V : Value) (ss : List Sb), e = .returned (.agg #[V]) /\ (∀ s ∈ ss, SbSz s /\ ∀ x ∈ s.es, EnSz x) /\ OwnS w' w.heap.size V ss /\ Rd w' base rb cv zs /\ w.grownBy w' (some rb)
theorem OwnS.again {w w' : World} {B : Nat} {v v' : Value} {qs : List (Sb × Value)} {p : Sb × Value} (h : OwnD w B v qs) (hp : p ∈ qs) (hg : w.grownBy w' v.ownBlock) (ho : OwnR 94 3 sbC w' B v' (qs ++ [p])) : OwnS w' B v' ((qs ++ [p]).map Prod.fst) := by
 refine ⟨_, rfl, ho, fun q hq => ?_⟩
 have hq2 : q ∈ qs := by
  rcases List.mem_append.1 hq with h1 | h1
  ·exact h1
  ·rw [List.mem_singleton.1 h1]; exact hp
 exact (h.2.1 q hq2).keepRow hg (own_apart (by decide) (h.2.1 q hq2) h.1)
theorem OwnS.offBoxS {w : World} {B g : Nat} {cs : Array Value} {v : Value} {ss : List Sb} (h : OwnS w B v ss) (hZ : Box w g cs 42) (z : Value) : OwnS (w.setCell ⟨g, 0, none⟩ z) B v ss := by
 obtain ⟨ps, h1, h2, h3⟩ := h
 exact ⟨ps, h1, h2.off ⟨g, 0, none⟩ z (box_row hZ h2 (by decide)), fun p hp => (h3 p hp).off ⟨g, 0, none⟩ z (box_row hZ (h3 p hp) (by decide))⟩
theorem row_ne {α : Type} {k : Nat} {C : α -> List Value} {e t : TypeId} {w : World} {B F : Nat} {cs : Array Value} {v : Value} {l : List α} (hX : Box w F cs t) (h : OwnR e k C w B v l) (he : e ≠ t) {g : Nat} (hg : v.ownBlock = some g) : F ≠ g := fun e2 => box_row hX h he (by rw [hg, e2])
theorem reader_any (base rb : Nat) (cv : Value) (zs : List Int) (w : World) (h : Rd w base rb cv zs) :
  Calls Tryz.prog 102 #[.pointer (some ⟨rb, 0, none⟩)] w (OutRdr base rb cv zs w) := by
 have hrb := h.lt
 have hr0 := h.alloc (.cells #[.slice none 0 0] 42)
 have hg0 := World.grownBy_alloc w (.cells #[.slice none 0 0] 42) (some rb)
 have hz0 := Box.new w #[.slice none 0 0] 42
 have hs0 : (w.alloc (.cells #[.slice none 0 0] 42)).heap.size = w.heap.size + 1 := by simp
 clear h
 go_enter Tryz.func102, Tryz.ntmps102
 go_wp2_with fail
 refine (ops_any 12 (by omega) (by omega) base rb cv zs _ hr0).mono ?_
 rintro e w1 ⟨V0, ps, rfl, hpl, hq, hr1, hg1⟩
 have hz1 := hz0.keepG hg1 (by omega)
 have g1 := grown_trans hg0 hg1
 have HO := Lib.hid hq.at
 obtain ⟨va, vc, hV⟩ := hq.r.slice
 subst hV
 clear hz0 hg0 hg1 hr0 hs0 hq hpl
 go_wp2_with fail
 refine (specFolded_any _ _ _ HO.out).mono ?_
 rintro e w2 ⟨V, qs, rfl, hqs, hD, hb2⟩
 have hrdB : rdB (fdV (ps.map Prod.fst)).1 = true := fd_rd2 _ _ rdB_nil
 have hlq : qs.length <= 6 := by
  have := rd_len hrdB
  rw [<- hqs, List.length_map] at this
  exact this
 have HZ : Hid (∀ s ∈ qs.map Prod.fst, SbSz s /\ ∀ x ∈ s.es, EnSz x) := Lib.hid (by rw [hqs]; exact rd_sz hrdB)
 generalize ((fdV (ps.map Prod.fst)).2 : Int) = N
 clear hqs hrdB HO
 obtain ⟨va2, vc2, hV⟩ := hD.1.slice
 subst hV
 have hD2 := hD.lower g1.size
 have hz2 := hz1.keep hb2 hz1.lt
 have hr2 := hr1.below hb2 hr1.lt
 have g2 := gw_below g1 hb2 g1.size
 clear hD hz1 hr1 g1 hb2
 have hba : Below w2.heap.size w2 (w2.alloc (.cells #[.slice va2 qs.length vc2] 42)) := (Below.refl _ _).alloc (Nat.le_refl _) _
 have hX3 := Box.new w2 #[.slice va2 qs.length vc2] 42
 have hz3 := hz2.keep hba hz2.lt
 have hD3 := hD2.keep hba (Nat.le_refl _)
 have hr3 := hr2.below hba hr2.lt
 have g3 := gw_below g2 hba g2.size
 have hF := hz2.lt
 clear hz2 hD2 hr2 g2 hba
 go_wp2_with fail
 refine (below_any 30 base rb cv zs _ hr3 (by omega) (by omega)).mono ?_
 rintro e W ⟨d, rfl, hd0, hd1, hr, hg4⟩
 have hX := hX3.keepG hg4 (by omega)
 have hz := hz3.keepG hg4 (by omega)
 have hD := hD3.keepG hg4 hrb
 have g := grown_trans g3 hg4
 clear hX3 hz3 hD3 g3 hg4 hr3
 generalize w2.heap.size = F at hX hF ⊢
 have hO : OwnS W w.heap.size (.slice va2 qs.length vc2) (qs.map Prod.fst) := ⟨qs, rfl, hD.1, hD.2.1⟩
 rcases (show d = 28 \/ d = 29 \/ (d ≠ 28 /\ d ≠ 29) by omega) with rfl | rfl | ⟨hd28, hd29⟩
 ·by_cases h0 : 0 < qs.length
  ·obtain ⟨gr, cap, hV, hgl, hgB, hcap, hcap2⟩ := hD.some h0
   simp only [Value.slice.injEq, true_and] at hV
   obtain ⟨rfl, rfl⟩ := hV
   have hp : qs[0] ∈ qs := List.getElem_mem h0
   obtain ⟨s0, hs0⟩ : ∃ s0, s0 = qs[0].1 := ⟨_, rfl⟩
   obtain ⟨y0, hy0⟩ : ∃ y0, y0 = qs[0].2 := ⟨_, rfl⟩
   have hp2 : qs[0] = (s0, y0) := by rw [hs0, hy0]
   have c0 := hD.1.val sbC_len rfl 0 0 (.string s0.u) h0 (by rw [hp2]; rfl)
   have c1 := hD.1.val sbC_len rfl 0 1 (.string s0.t) h0 (by rw [hp2]; rfl)
   have c2 := hD.1.val sbC_len rfl 0 2 y0 h0 (by rw [hp2]; rfl)
   obtain ⟨ya, yc, hyv⟩ := (hD.2.1 _ hp).slice
   rw [hp2] at hyv hp
   simp only at hyv
   subst hyv
   simp only [Nat.zero_mul, Nat.zero_add] at c0 c1 c2
   have HP := Lib.hid hp2
   have HM := Lib.hid hp
   have HY := Lib.hid hy0
   clear hp2 hp hs0 hy0 hO
   have x0 := hX.cell 0 _ rfl
   have hgt : decide ((0 : Int) < (qs.length : Int)) = true := decide_eq_true (by omega)
   have hln : (0 : Int) < (qs.length : Int) := by omega
   have hFg : F ≠ gr := row_ne hX hD.1 (by decide) rfl
   go_wp2
   have x1 := hX.drew
   have hD1 := hD.drew
   have hz1 := hz.drew
   have hr1 : Rd W.drew base rb cv zs := hr.drewN 1
   have g1 : w.grownBy W.drew (some rb) := grown_drewN g 1
   clear x0 hX hD hz hr g
   change W.drew.cell? ⟨gr, 0, none⟩ = _ at c0
   change W.drew.cell? ⟨gr, 1, none⟩ = _ at c1
   change W.drew.cell? ⟨gr, 2, none⟩ = _ at c2
   refine wp_region_T (fun _ => True) (fun w' => Box w' F #[.slice (some ⟨gr, 0, none⟩) qs.length vc2] 42 /\ w'.cell? ⟨gr, 0, none⟩ = some (.string s0.u) /\ w'.cell? ⟨gr, 1, none⟩ = some (.string s0.t) /\ w'.cell? ⟨gr, 2, none⟩ = some (.slice ya s0.es.length yc)) 9 (by kernel_rfl) 10 rfl ?_
   generalize W.drew = W1 at x1 hD1 hz1 hr1 g1 c0 c1 c2 ⊢
   refine wpAnyT_takesB (md := .any) 4 (by kernel_rfl) (by intro d v c a w h; cases d <;> exact h) [0, 1, 2, 3, 4, 5] _ _ _ (by decide) (by kernel_rfl) (by kernel_rfl) (by kernel_rfl) ⟨trivial, fun _ => ⟨x1, c0, c1, c2⟩⟩ ?_
   simp only [pick, List.filterMap_cons, List.filterMap_nil, List.getElem?_cons_zero, List.getElem?_cons_succ]
   refine wS (.pointer (some ⟨F, 0, none⟩)) (fun w hw => by go_simp) ?_
   refine wS (.slice (some ⟨gr, 0, none⟩) qs.length vc2) (fun w hw => by have e0 := hw.2.1.cell 0 _ rfl; go_simp) ?_
   refine wS (.pointer (some ⟨F, 0, none⟩)) (fun w hw => by go_simp) ?_
   refine wS (.slice (some ⟨gr, 0, none⟩) qs.length vc2) (fun w hw => by have e0 := hw.2.1.cell 0 _ rfl; go_simp) ?_
   refine wS (.pointer (some ⟨gr, 0, none⟩)) (fun w hw => by go_simp) ?_
   refine wS (.agg #[.string s0.u, .string s0.t, .slice ya s0.es.length yc]) (fun w hw => by have e0 := hw.2.2.1; have e1 := hw.2.2.2.1; have e2 := hw.2.2.2.2; go_simp) ?_
   refine wpIf_nil (fun hS => ?_)
   clear hS
   refine wO 6 3 (fun K hK => ?_)
   go_simp
   have hba : Below W1.heap.size W1 (W1.alloc (.cells #[.string s0.u, .string s0.t, .slice ya s0.es.length yc] 94)) := (Below.refl _ _).alloc (Nat.le_refl _) _
   have hN := Box.new W1 #[.string s0.u, .string s0.t, .slice ya s0.es.length yc] 94
   have hgl1 : gr < W1.heap.size := (World.ownsRow.lt hD1.1 gr rfl).2
   have kc : ∀ o x, W1.cell? ⟨gr, o, none⟩ = some x -> (W1.alloc (.cells #[.string s0.u, .string s0.t, .slice ya s0.es.length yc] 94)).cell? ⟨gr, o, none⟩ = some x := fun o x h => by rw [hba.cell (p := ⟨gr, o, none⟩) hgl1]; exact h
   have x2 := x1.keep hba x1.lt
   have hD2 := hD1.keep hba (Nat.le_refl _)
   have hz2 := hz1.keep hba hz1.lt
   have hr2 := hr1.below hba hr1.lt
   have g2 := gw_below g1 hba g1.size
   refine hK _ _ ⟨trivial, fun _ => ⟨x2, kc _ _ c0, kc _ _ c1, kc _ _ c2⟩⟩ (fun hS => ?_)
   have c0b := kc _ _ c0
   have c1b := kc _ _ c1
   have c2b := kc _ _ c2
   have hsz2 : w.heap.size <= (W1.alloc (.cells #[.string s0.u, .string s0.t, .slice ya s0.es.length yc] 94)).heap.size := g2.size
   clear hK K hS kc hba x1 hD1 hz1 hr1 g1 c0 c1 c2 hgl1
   generalize W1.alloc (.cells #[.string s0.u, .string s0.t, .slice ya s0.es.length yc] 94) = W2 at x2 hD2 hz2 hr2 g2 hN c0b c1b c2b hsz2 ⊢
   generalize W1.heap.size = gn at hN ⊢
   have hrec : RecAt 3 sbC W2 (gn + 1) (.slice (some ⟨gn, 0, none⟩) 1 1) [((s0, .slice ya s0.es.length yc) : Sb × Value)] := by
    refine ⟨_, 1, rfl, Nat.le_refl _, by unfold maxLen; omega, fun _ => ⟨gn, 0, rfl, Nat.lt_succ_self _, fun i hi j u hu => ?_⟩⟩
    have hi0 : i = 0 := by simpa using hi
    subst hi0
    simp only [Nat.zero_mul, Nat.zero_add]
    exact cell_of_cells hN (by simpa [sbC] using hu)
   have hone : ∀ z ∈ ([((s0, .slice ya s0.es.length yc) : Sb × Value)] : List (Sb × Value)), ∀ u ∈ sbC z, u.oneCell' = true := fun z hz u hu => by
    rw [List.mem_singleton.1 hz] at hu
    simp only [sbC, List.mem_cons, List.not_mem_nil, or_false] at hu
    rcases hu with rfl | rfl | rfl <;> rfl
   obtain ⟨v2, w3, hrun, hv2, hgr2, hck⟩ := appK_run (P := Tryz.prog) (t := 40) sbC_len (by decide) Tryz.underlying40 Tryz.infoSub rfl (by decide) hD2.1 hrec hone (by simp; omega) hsz2 40
   have hFg2 : F ≠ gr := hFg
   have hck2 : ∀ j u, (sbC qs[0])[j]? = some u -> w3.cell? ⟨gr, j, none⟩ = some u := fun j u hu => by
    have hj : j < 3 := by have := (List.getElem?_eq_some_iff.1 hu).1; rwa [sbC_len] at this
    have := hck j u (by have h5 := flat_get sbC_len qs 0 j h0 hj; simp only [Nat.zero_mul, Nat.zero_add] at h5; rw [h5]; exact hu)
    rw [Addr.add_lit] at this
    simpa using this
   have k0 := hck2 0 (.string s0.u) (by rw [HP.out]; rfl)
   have k1 := hck2 1 (.string s0.t) (by rw [HP.out]; rfl)
   have k2 := hck2 2 (.slice ya s0.es.length yc) (by rw [HP.out]; rfl)
   have kb : ∀ (b : Nat) cs t, b ≠ gr -> Box W2 b cs t -> Box w3 b cs t := fun b cs t hb hx => (hgr2.block b hx.lt (fun e => hb (Option.some.inj e))).trans hx
   have hzg : w.heap.size ≠ gr := row_ne hz2 hD2.1 (by decide) rfl
   have x3 := kb F _ _ hFg2 x2
   have z3 := kb _ _ _ hzg hz2
   have hrg : rb ≠ gr := by omega
   have hb23 : Below w.heap.size W2 w3 := below_of_grown hgr2 hgB g2.size
   have hr3 : Rd w3 base rb cv zs := hr2.below hb23 hrb
   have g3 : w.grownBy w3 (some rb) := gw_below g2 hb23 (Nat.le_refl _)
   have hS3 : OwnS w3 w.heap.size v2 ((qs ++ [((s0, .slice ya s0.es.length yc) : Sb × Value)]).map Prod.fst) := OwnS.again hD2 (by rw [<- HP.out]; exact List.getElem_mem h0) hgr2 hv2
   obtain ⟨wa, wc, hv2f⟩ := hv2.slice
   have hln : (qs ++ [((s0, .slice ya s0.es.length yc) : Sb × Value)]).length = qs.length + 1 := by simp
   rw [hln] at hv2f
   clear hln
   refine wO 7 2 (fun K hK => ?_)
   refine wp_appQ 40 (.tmp 20) (.tmp 25) rfl _ _ v2 rfl rfl hrun ?_
   go_simp
   refine hK _ _ ⟨trivial, fun _ => ⟨x3, k0, k1, k2⟩⟩ (fun hS => ?_)
   clear hK K hS
   refine wO 8 1 (fun K hK => ?_)
   go_simp
   refine hK _ _ ⟨trivial, fun _ => ⟨x3, k0, k1, k2⟩⟩ (fun hS => ?_)
   clear hK K hS x2 hD2 hz2 hr2 g2 hN c0b c1b c2b hsz2 hrec hone hck hck2 kb hgr2 hrun hv2
   subst hv2f
   have x0 := x3.cell 0 _ rfl
   have xf := x3.free
   have hX5 := x3.set 0 (.slice wa (qs.length + 1) wc)
   have hb5 : Below F w3 (w3.setCell ⟨F, 0, none⟩ (.slice wa (qs.length + 1) wc)) := (Below.refl _ w3).setCell (p := ⟨F, 0, none⟩) (Nat.le_refl _) _
   have hz5 := z3.keep hb5 hF
   have hr5 := hr3.below hb5 (by omega)
   have g5 := gw_below g3 hb5 (by omega)
   have hO5 := OwnS.offBoxS hS3 x3 (.slice wa (qs.length + 1) wc)
   refine wO 9 0 (fun K hK => ?_)
   go_simp
   refine hK _ _ ⟨trivial, fun h => by exact absurd h (by decide)⟩ (fun hS => ?_)
   have HZ2 : Hid (∀ s ∈ (qs ++ [((s0, .slice ya s0.es.length yc) : Sb × Value)]).map Prod.fst, SbSz s /\ ∀ x ∈ s.es, EnSz x) := Lib.hid (by
    intro s hs
    rw [List.map_append] at hs
    rcases List.mem_append.1 hs with h5 | h5
    ·exact HZ.out s h5
    ·refine HZ.out s ?_
     rw [<- HP.out] at h5
     simp only [List.map_cons, List.map_nil, List.mem_singleton] at h5
     rw [h5]
     exact List.mem_map.2 ⟨_, List.getElem_mem h0, rfl⟩)
   clear hK K hS x0 xf hb5 x3 z3 hr3 g3 hS3 k0 k1 k2
   generalize w3.setCell ⟨F, 0, none⟩ (.slice wa (qs.length + 1) wc) = W5 at hX5 hz5 hr5 g5 hO5 ⊢
   change Box W5 F #[.slice wa (qs.length + 1) wc] _ at hX5
   refine wpAnyT_over (by kernel_rfl) ?_
   have x0e := hX5.cell 0 _ rfl
   have z0e := hz5.cell 0 _ rfl
   have zfe := hz5.free
   go_wp2
   have hb5e : Below w.heap.size W5 (W5.setCell ⟨w.heap.size, 0, none⟩ (.slice wa (qs.length + 1) wc)) := (Below.refl _ W5).setCell (p := ⟨w.heap.size, 0, none⟩) (Nat.le_refl _) _
   have r5e := hr5.below hb5e hrb
   have g5e := gw_below g5 hb5e (Nat.le_refl _)
   have o5e := OwnS.offBoxS hO5 hz5 (.slice wa (qs.length + 1) wc)
   have q5e := hz5.set 0 (.slice wa (qs.length + 1) wc)
   have d0e := cell_of_cells (i := 0) q5e rfl
   exact bodyPost_ret (v := .agg #[(.slice wa (qs.length + 1) wc)]) (by simp [results, Tryz.results102, go_sem, d0e]) rfl ⟨(.slice wa (qs.length + 1) wc), _, rfl, HZ2.out, o5e, r5e, g5e⟩
  ·have hgt : decide ((0 : Int) < (qs.length : Int)) = false := decide_eq_false (by omega)
   have hx0 := hX.cell 0 _ rfl
   have x0e := hX.cell 0 _ rfl
   have z0e := hz.cell 0 _ rfl
   have zfe := hz.free
   go_wp2
   have hb5e : Below w.heap.size W (W.setCell ⟨w.heap.size, 0, none⟩ (.slice va2 qs.length vc2)) := (Below.refl _ W).setCell (p := ⟨w.heap.size, 0, none⟩) (Nat.le_refl _) _
   have r5e := hr.below hb5e hrb
   have g5e := gw_below g hb5e (Nat.le_refl _)
   have o5e := OwnS.offBoxS hO hz (.slice va2 qs.length vc2)
   have q5e := hz.set 0 (.slice va2 qs.length vc2)
   have d0e := cell_of_cells (i := 0) q5e rfl
   exact bodyPost_ret (v := .agg #[(.slice va2 qs.length vc2)]) (by simp [results, Tryz.results102, go_sem, d0e]) rfl ⟨(.slice va2 qs.length vc2), _, rfl, HZ.out, o5e, r5e, g5e⟩
 ·by_cases h0 : 0 < qs.length
  ·obtain ⟨gr, cap, hV, hgl, hgB, hcap, hcap2⟩ := hD.some h0
   simp only [Value.slice.injEq, true_and] at hV
   obtain ⟨rfl, rfl⟩ := hV
   have hp : qs[0] ∈ qs := List.getElem_mem h0
   obtain ⟨s0, hs0⟩ : ∃ s0, s0 = qs[0].1 := ⟨_, rfl⟩
   obtain ⟨y0, hy0⟩ : ∃ y0, y0 = qs[0].2 := ⟨_, rfl⟩
   have hp2 : qs[0] = (s0, y0) := by rw [hs0, hy0]
   have HE := hD.2.1 _ hp
   obtain ⟨ya, yc, hyv⟩ := HE.slice
   rw [hp2] at hyv HE
   simp only at hyv HE
   subst hyv
   have HP := Lib.hid hp2
   have HC : Hid (∀ W', OwnR 94 3 sbC W' w.heap.size (.slice (some ⟨gr, 0, none⟩) qs.length vc2) qs -> W'.cell? ⟨gr, 2, none⟩ = some (.slice ya s0.es.length yc)) := Lib.hid (fun W' hh => by
    have := hh.val sbC_len rfl 0 2 (.slice ya s0.es.length yc) h0 (by rw [hp2]; rfl)
    simpa using this)
   have c2 := HC.out _ hD.1
   clear hp2 hp hs0 hy0
   have x0 := hX.cell 0 _ rfl
   have hgt : decide ((0 : Int) < (qs.length : Int)) = true := decide_eq_true (by omega)
   have hln : (0 : Int) < (qs.length : Int) := by omega
   by_cases h1 : 0 < s0.es.length
   ·obtain ⟨ge, rfl, heB, hel, _⟩ := HE.form h1
    have hgt2 : decide ((0 : Int) < (s0.es.length : Int)) = true := decide_eq_true (by omega)
    have hln2 : (0 : Int) < (s0.es.length : Int) := by omega
    have hFg : F ≠ ge := row_ne hX HE (by decide) rfl
    have hzg : w.heap.size ≠ ge := row_ne hz HE (by decide) rfl
    clear hO HE
    go_wp2
    have x1 := hX.drew
    have hD1 := hD.drew
    have hz1 := hz.drew
    have hr1 : Rd W.drew base rb cv zs := hr.drewN 1
    have g1 : w.grownBy W.drew (some rb) := grown_drewN g 1
    clear x0 hX hD hz hr g
    change W.drew.cell? ⟨gr, 2, none⟩ = _ at c2
    refine wp_region_T (fun _ => True) (fun w' => Box w' F #[.slice (some ⟨gr, 0, none⟩) qs.length vc2] 42 /\ w'.cell? ⟨gr, 2, none⟩ = some (.slice (some ⟨ge, 0, none⟩) s0.es.length yc)) 10 (by kernel_rfl) 11 rfl ?_
    generalize W.drew = W1 at x1 hD1 hz1 hr1 g1 c2 ⊢
    refine wpAnyT_takesB (md := .any) 5 (by kernel_rfl) (by intro d v c a w h; cases d <;> exact h) [0, 1, 2, 3, 4, 5] _ _ _ (by decide) (by kernel_rfl) (by kernel_rfl) (by kernel_rfl) ⟨trivial, fun _ => ⟨x1, c2⟩⟩ ?_
    simp only [pick, List.filterMap_cons, List.filterMap_nil, List.getElem?_cons_zero, List.getElem?_cons_succ]
    refine wS (.pointer (some ⟨F, 0, none⟩)) (fun w hw => by go_simp) ?_
    refine wS (.slice (some ⟨gr, 0, none⟩) qs.length vc2) (fun w hw => by have e0 := hw.2.1.cell 0 _ rfl; go_simp) ?_
    refine wS (.pointer (some ⟨gr, 0, none⟩)) (fun w hw => by go_simp) ?_
    refine wS (.pointer (some ⟨gr, 2, none⟩)) (fun w hw => by go_simp) ?_
    refine wS (.slice (some ⟨ge, 0, none⟩) s0.es.length yc) (fun w hw => by have e0 := hw.2.2; go_simp) ?_
    refine wS (.pointer (some ⟨rb, 0, none⟩)) (fun w hw => by go_simp) ?_
    refine wpIf_nil (fun hS => ?_)
    clear hS
    refine wO 6 4 (fun K hK => ?_)
    go_simp
    refine (off_any 0 200000 base rb cv zs _ hr1 (by omega) (by omega) (by omega)).mono ?_
    rintro e w5 ⟨n, rfl, hn, hr5, hg5⟩
    have x5 := x1.keepG hg5 (by omega)
    have hD5 := hD1.keepG hg5 hrb
    have hz5 := hz1.keepG hg5 (by omega)
    have g5 := grown_trans g1 hg5
    have c5 := HC.out _ hD5.1
    clear x1 hD1 hz1 hr1 g1 c2 hg5
    refine hK _ _ ⟨trivial, fun _ => ⟨x5, c5⟩⟩ (fun hS => ?_)
    clear hK K hS
    refine wO 7 3 (fun K hK => ?_)
    go_simp
    refine hK _ _ ⟨trivial, fun _ => ⟨x5, c5⟩⟩ (fun hS => ?_)
    clear hK K hS
    refine wO 8 2 (fun K hK => ?_)
    go_simp
    refine hK _ _ ⟨trivial, fun _ => ⟨x5, c5⟩⟩ (fun hS => ?_)
    clear hK K hS
    refine wO 9 1 (fun K hK => ?_)
    go_simp
    refine hK _ _ ⟨trivial, fun _ => ⟨x5, c5⟩⟩ (fun hS => ?_)
    clear hK K hS
    have HE5 : OwnR 97 5 enC w5 w.heap.size (.slice (some ⟨ge, 0, none⟩) s0.es.length yc) s0.es := by
     have := hD5.2.1 _ (List.getElem_mem h0)
     rw [HP.out] at this
     exact this
    obtain ⟨it, rd, st, hen⟩ : ∃ it rd st, s0.es[0] = (⟨it, rd, st⟩ : En) := ⟨_, _, _, rfl⟩
    have q2 := HE5.val enC_len rfl 0 2 (.int .i64 it.da) h1 (by rw [hen]; rfl)
    have qf := HE5.free rfl 2
    simp only [Nat.zero_mul, Nat.zero_add] at q2
    refine wO 10 0 (fun K hK => ?_)
    go_simp
    refine hK _ _ ⟨trivial, fun h => by exact absurd h (by decide)⟩ (fun hS => ?_)
    have HE6 := HE5.setF enC_len rfl 0 2 (⟨⟨it.id, it.ti, n⟩, rd, st⟩ : En) (.int .i64 n) h1 (by decide) (by rw [hen]; rfl)
    simp only [Nat.zero_mul, Nat.zero_add] at HE6
    have hge : w5.grownBy (w5.setCell ⟨ge, 2, none⟩ (.int .i64 n)) (qs[0].2.ownBlock) := by
     rw [HP.out]
     exact gb_set (World.grownBy.refl _ _) ⟨ge, 2, none⟩ _ (.inr rfl)
    have hD6 := hD5.inplace 0 h0 (⟨s0.u, s0.t, s0.es.set 0 ⟨⟨it.id, it.ti, n⟩, rd, st⟩⟩ : Sb) (by rw [HP.out]) (by rw [HP.out]) hge (by rw [HP.out]; exact HE6)
    have hO6 : OwnS (w5.setCell ⟨ge, 2, none⟩ (.int .i64 n)) w.heap.size (.slice (some ⟨gr, 0, none⟩) qs.length vc2) _ := ⟨_, rfl, hD6.1, hD6.2.1⟩
    have hX6 := x5.other ⟨ge, 2, none⟩ (.int .i64 n) hFg
    have hz6 := hz5.other ⟨ge, 2, none⟩ (.int .i64 n) hzg
    have hb6 : Below w.heap.size w5 (w5.setCell ⟨ge, 2, none⟩ (.int .i64 n)) := (Below.refl _ _).setCell (p := ⟨ge, 2, none⟩) heB _
    have hr6 := hr5.below hb6 hrb
    have g6 := gw_below g5 hb6 (Nat.le_refl _)
    have HZ2 : Hid (∀ s ∈ (qs.set 0 ((⟨s0.u, s0.t, s0.es.set 0 ⟨⟨it.id, it.ti, n⟩, rd, st⟩⟩ : Sb), qs[0].2)).map Prod.fst, SbSz s /\ ∀ x ∈ s.es, EnSz x) := Lib.hid (by
     intro s hs
     obtain ⟨p, hp, rfl⟩ := List.mem_map.1 hs
     have h00 := HZ.out s0 (List.mem_map.2 ⟨qs[0], List.getElem_mem h0, by rw [HP.out]⟩)
     rcases List.mem_or_eq_of_mem_set hp with h5 | h5
     ·exact HZ.out _ (List.mem_map.2 ⟨p, h5, rfl⟩)
     ·rw [h5]
      refine ⟨h00.1, fun x hx => ?_⟩
      rcases List.mem_or_eq_of_mem_set hx with h6 | h6
      ·exact h00.2 x h6
      ·rw [h6]
       have := h00.2 _ (List.getElem_mem h1)
       rw [hen] at this
       exact this)
    clear hK K hS q2 qf HE5 HE6 hge hD5 hD6 x5 hz5 hr5 g5 c5 hb6
    generalize w5.setCell ⟨ge, 2, none⟩ (.int .i64 n) = W6 at hX6 hz6 hr6 g6 hO6 ⊢
    refine wpAnyT_over (by kernel_rfl) ?_
    have x0e := hX6.cell 0 _ rfl
    have z0e := hz6.cell 0 _ rfl
    have zfe := hz6.free
    go_wp2
    have hb5e : Below w.heap.size W6 (W6.setCell ⟨w.heap.size, 0, none⟩ (.slice (some ⟨gr, 0, none⟩) qs.length vc2)) := (Below.refl _ W6).setCell (p := ⟨w.heap.size, 0, none⟩) (Nat.le_refl _) _
    have r5e := hr6.below hb5e hrb
    have g5e := gw_below g6 hb5e (Nat.le_refl _)
    have o5e := OwnS.offBoxS hO6 hz6 (.slice (some ⟨gr, 0, none⟩) qs.length vc2)
    have q5e := hz6.set 0 (.slice (some ⟨gr, 0, none⟩) qs.length vc2)
    have d0e := cell_of_cells (i := 0) q5e rfl
    exact bodyPost_ret (v := .agg #[(.slice (some ⟨gr, 0, none⟩) qs.length vc2)]) (by simp [results, Tryz.results102, go_sem, d0e]) rfl ⟨(.slice (some ⟨gr, 0, none⟩) qs.length vc2), _, rfl, HZ2.out, o5e, r5e, g5e⟩
   ·have hgt2 : decide ((0 : Int) < (s0.es.length : Int)) = false := decide_eq_false (by omega)
    have x0e := hX.cell 0 _ rfl
    have z0e := hz.cell 0 _ rfl
    have zfe := hz.free
    go_wp2
    have hb5e : Below w.heap.size W (W.setCell ⟨w.heap.size, 0, none⟩ (.slice (some ⟨gr, 0, none⟩) qs.length vc2)) := (Below.refl _ W).setCell (p := ⟨w.heap.size, 0, none⟩) (Nat.le_refl _) _
    have r5e := hr.below hb5e hrb
    have g5e := gw_below g hb5e (Nat.le_refl _)
    have o5e := OwnS.offBoxS hO hz (.slice (some ⟨gr, 0, none⟩) qs.length vc2)
    have q5e := hz.set 0 (.slice (some ⟨gr, 0, none⟩) qs.length vc2)
    have d0e := cell_of_cells (i := 0) q5e rfl
    exact bodyPost_ret (v := .agg #[(.slice (some ⟨gr, 0, none⟩) qs.length vc2)]) (by simp [results, Tryz.results102, go_sem, d0e]) rfl ⟨(.slice (some ⟨gr, 0, none⟩) qs.length vc2), _, rfl, HZ.out, o5e, r5e, g5e⟩
  ·have hgt : decide ((0 : Int) < (qs.length : Int)) = false := decide_eq_false (by omega)
   have hx0 := hX.cell 0 _ rfl
   have x0e := hX.cell 0 _ rfl
   have z0e := hz.cell 0 _ rfl
   have zfe := hz.free
   go_wp2
   have hb5e : Below w.heap.size W (W.setCell ⟨w.heap.size, 0, none⟩ (.slice va2 qs.length vc2)) := (Below.refl _ W).setCell (p := ⟨w.heap.size, 0, none⟩) (Nat.le_refl _) _
   have r5e := hr.below hb5e hrb
   have g5e := gw_below g hb5e (Nat.le_refl _)
   have o5e := OwnS.offBoxS hO hz (.slice va2 qs.length vc2)
   have q5e := hz.set 0 (.slice va2 qs.length vc2)
   have d0e := cell_of_cells (i := 0) q5e rfl
   exact bodyPost_ret (v := .agg #[(.slice va2 qs.length vc2)]) (by simp [results, Tryz.results102, go_sem, d0e]) rfl ⟨(.slice va2 qs.length vc2), _, rfl, HZ.out, o5e, r5e, g5e⟩
 ·have n28 : (d == 28) = false := beq_false_of_ne hd28
  have n29 : (d == 29) = false := beq_false_of_ne hd29
  have x0 := hX.cell 0 _ rfl
  have z0 := hz.cell 0 _ rfl
  have zf := hz.free
  go_wp2
  have hb5 : Below w.heap.size W (W.setCell ⟨w.heap.size, 0, none⟩ (.slice va2 qs.length vc2)) := (Below.refl _ W).setCell (p := ⟨w.heap.size, 0, none⟩) (Nat.le_refl _) _
  have r5 := hr.below hb5 hrb
  have g5 := gw_below g hb5 (Nat.le_refl _)
  have o5 := OwnS.offBoxS hO hz (.slice va2 qs.length vc2)
  have q5 := hz.set 0 (.slice va2 qs.length vc2)
  have d0 := cell_of_cells (i := 0) q5 rfl
  exact bodyPost_ret (v := .agg #[(.slice va2 qs.length vc2)]) (by simp [results, Tryz.results102, go_sem, d0]) rfl ⟨(.slice va2 qs.length vc2), _, rfl, HZ.out, o5, r5, g5⟩
end Go.Proofs.YtffkakpbelknaaaGreatDoor
namespace Go.Proofs.YtffkakpbelknaaaGreatDoor
open Go.ChangeShapes Go.WideShapes Go.ChangeAt Go.RowKit
set_option linter.unusedVariables false
theorem OwnS.other24 {w : World} {B : Nat} {v : Value} {ss : List Sb} (h : OwnS w B v ss) (p : Addr) (x : Value) (hp : p.block < B) : OwnS (w.setCell p x) B v ss := by
 obtain ⟨ps, h1, h2, h3⟩ := h
 exact ⟨ps, h1, h2.other p x hp, fun q hq => (h3 q hq).other p x hp⟩
theorem OwnS.slice24 {w : World} {B : Nat} {v : Value} {ss : List Sb} (h : OwnS w B v ss) : ∃ a cap, v = .slice a ss.length cap := by
 obtain ⟨ps, rfl, h2, _⟩ := h
 rw [List.length_map]
 exact h2.slice
theorem OwnS.other7 {w : World} {B : Nat} {v : Value} {ss : List Sb} (h : OwnS w B v ss) (g : Nat) (hB : g < B) (a b c d e f k : Value) : OwnS (put7 w g a b c d e f k) B v ss :=
 (((((((h).other24 ⟨g, 0, none⟩ a hB).other24 ⟨g, 1, none⟩ b hB).other24 ⟨g, 2, none⟩ c hB).other24 ⟨g, 3, none⟩ d hB).other24 ⟨g, 4, none⟩ e hB).other24 ⟨g, 5, none⟩ f hB).other24 ⟨g, 6, none⟩ k hB
end Go.Proofs.YtffkakpbelknaaaGreatDoor
namespace Go.Proofs.YtffkakpbelknaaaGreatDoor
open Go.ChangeShapes Go.WideShapes Go.ChangeAt Go.RowKit
set_option linter.unusedVariables false
theorem offOp {w : World} {B F : Nat} {cs : Array Value} {v : Value} {its : List It} (h : OwnR 55 3 itC w B v its) (hp : Box w F cs 35) (x : Value) : OwnR 55 3 itC (w.setCell ⟨F, 3, none⟩ x) B v its := h.off ⟨F, 3, none⟩ x (box_row hp h (by decide))
theorem drawReaderOk_any (w : World) (cv : Value) (zs : List Int) (h : Cd w cv zs) :
  Calls Tryz.prog 58 #[cv] w fun e w' => ∃ (V : Value) (ss : List Sb), e = .returned (.agg #[V]) /\ (∀ s ∈ ss, SbSz s /\ ∀ x ∈ s.es, EnSz x) /\ OwnS w' w.heap.size V ss /\ Below w.heap.size w w' := by
 obtain ⟨a, len, cap, hcv⟩ := h.form
 have HV := Lib.hid hcv
 clear hcv
 obtain ⟨W0, hW0⟩ : ∃ W0, W0 = w.alloc (.cells #[.slice none 0 0] 42) := ⟨_, rfl⟩
 have hB0 : Below w.heap.size w W0 := by rw [hW0]; exact (Below.refl _ _).alloc (Nat.le_refl _) _
 have hx0 : Box W0 w.heap.size #[.slice none 0 0] 42 := by rw [hW0]; exact Box.new w _ _
 have hc0 : Cd W0 cv zs := h.below hB0
 have hz0 : W0.heap.size = w.heap.size + 1 := by rw [hW0]; simp
 go_enter Tryz.func58, Tryz.ntmps58
 go_wp2_with fail
 rw [<- hW0]
 clear hW0
 refine (open_any cv a len cap HV.out _).mono ?_
 rintro e w1 ⟨rfl, rfl⟩
 have hrd := hc0.rd
 have hgr := World.grownBy.refl (W0.alloc (.cells #[cv, .int .i64 0] 114)) (some W0.heap.size)
 replace hx0 := hx0.alloc (.cells #[cv, .int .i64 0] 114)
 have hB1 := hB0.alloc hB0.size (.cells #[cv, .int .i64 0] 114)
 generalize hrb : W0.heap.size = rb at hrd hgr ⊢
 rw [hz0] at hrb
 generalize W0.alloc (.cells #[cv, .int .i64 0] 114) = W1 at hrd hgr hx0 hB1 ⊢
 clear hc0 hz0 hB0
 have hgw : ∀ w', W1.grownBy w' (some rb) -> Below w.heap.size w w' := fun w' hg => hB1.trans (below_of_grown hg (by omega) hB1.size)
 have HG := Lib.hid hgw
 have hrl : rb < W1.heap.size := hrd.lt
 clear hgw
 go_wp2_with fail
 refine (reader_any _ _ cv zs _ hrd).mono ?_
 rintro e w2 ⟨V, ss, rfl, hsz, hS, hrd, hg2⟩
 replace hx0 := hx0.keepG hg2 (by omega)
 have hBe := HG.out _ (grown_trans hgr hg2)
 have HZ := Lib.hid hsz
 clear hg2 hsz HG hgr hrd
 obtain ⟨va, vc, rfl⟩ := hS.slice24
 have z0 := hx0.cell 0 _ rfl
 have zf := hx0.free
 go_wp2
 have q5 := hx0.set 0 (.slice va ss.length vc)
 have o5 := hS.other24 ⟨w.heap.size, 0, none⟩ (.slice va ss.length vc) (show w.heap.size < W1.heap.size by omega)
 have b5 := hBe.trans ((Below.refl w.heap.size w2).setCell (p := ⟨w.heap.size, 0, none⟩) (Nat.le_refl _) (.slice va ss.length vc))
 have d0 := cell_of_cells (i := 0) q5 rfl
 obtain ⟨ps, h1, h2, h3⟩ := o5
 exact bodyPost_ret (v := .agg #[.slice va ss.length vc]) (by simp [results, Tryz.results58, go_sem, d0]) rfl ⟨_, ss, rfl, HZ.out, ⟨ps, h1, h2.base_mono (by omega), fun p hp => (h3 p hp).base_mono (by omega)⟩, b5⟩
theorem drawOpOk_any (w : World) (cv : Value) (zs : List Int) (h : Cd w cv zs) :
  Calls Tryz.prog 52 #[cv] w fun e w' => ∃ (o : OpD) (x : Value), e = .returned (opV o x) /\ smO o /\ OwnR 55 3 itC w' w.heap.size x o.its /\ Below w.heap.size w w' := by
 obtain ⟨a, len, cap, hcv⟩ := h.form
 have HV := Lib.hid hcv
 clear hcv
 obtain ⟨W0, hW0⟩ : ∃ W0, W0 = w.alloc (.cells opZ 35) := ⟨_, rfl⟩
 have hB0 : Below w.heap.size w W0 := by rw [hW0]; exact (Below.refl _ _).alloc (Nat.le_refl _) _
 have hx0 : Box W0 w.heap.size opZ 35 := by rw [hW0]; exact Box.new w _ _
 have hc0 : Cd W0 cv zs := h.below hB0
 have hz0 : W0.heap.size = w.heap.size + 1 := by rw [hW0]; simp
 go_enter Tryz.func52, Tryz.ntmps52
 go_wp2_with fail
 rw [<- hW0]
 clear hW0
 refine (open_any cv a len cap HV.out _).mono ?_
 rintro e w1 ⟨rfl, rfl⟩
 have hrd := hc0.rd
 have hgr := World.grownBy.refl (W0.alloc (.cells #[cv, .int .i64 0] 114)) (some W0.heap.size)
 replace hx0 := hx0.alloc (.cells #[cv, .int .i64 0] 114)
 have hB1 := hB0.alloc hB0.size (.cells #[cv, .int .i64 0] 114)
 generalize hrb : W0.heap.size = rb at hrd hgr ⊢
 rw [hz0] at hrb
 generalize W0.alloc (.cells #[cv, .int .i64 0] 114) = W1 at hrd hgr hx0 hB1 ⊢
 clear hc0 hz0 hB0
 have hgw : ∀ w', W1.grownBy w' (some rb) -> Below w.heap.size w w' := fun w' hg => hB1.trans (below_of_grown hg (by omega) hB1.size)
 have HG := Lib.hid hgw
 have hrl : rb < W1.heap.size := hrd.lt
 clear hgw
 go_wp2_with fail
 refine (op_any _ _ cv zs _ hrd).mono ?_
 rintro e w2 ⟨o, x, rfl, hso, hI, hrd, hg2⟩
 replace hx0 := hx0.keepG hg2 (by omega)
 replace hgr := grown_trans hgr hg2
 clear hg2
 obtain ⟨ok, ou, oi, od, ofu, oft, oits⟩ := o
 obtain ⟨xa, xc, hxv⟩ := hI.slice
 simp only at hxv
 subst hxv
 simp only at hI
 have hp := Box.new w2 #[.int .i64 ok, .string ou, .string oi, .int .i64 od, .string ofu, .string oft, .slice xa oits.length xc] 35
 have hpl : w.heap.size < w2.heap.size := hx0.lt
 have hpr : rb < w2.heap.size := hrd.lt
 have ga := World.grownBy_alloc w2 (.cells #[.int .i64 ok, .string ou, .string oi, .int .i64 od, .string ofu, .string oft, .slice xa oits.length xc] 35) (some rb)
 replace hx0 := hx0.keepG ga (by omega)
 replace hrd := hrd.alloc (.cells #[.int .i64 ok, .string ou, .string oi, .int .i64 od, .string ofu, .string oft, .slice xa oits.length xc] 35)
 replace hI := hI.keepG ga hrl
 replace hgr := grown_trans hgr ga
 clear ga
 go_wp2_with fail
 generalize w2.alloc (.cells #[.int .i64 ok, .string ou, .string oi, .int .i64 od, .string ofu, .string oft, .slice xa oits.length xc] 35) = W2 at hx0 hrd hgr hp hI ⊢
 generalize w2.heap.size = F at hp hpl hpr ⊢
 refine (once_any 6 _ _ cv zs _ hrd (by omega) (by omega)).mono ?_
 rintro e W ⟨b, rfl, hrd, hg3⟩
 replace hx0 := hx0.keepG hg3 (by omega)
 replace hp := hp.keepG hg3 (by omega)
 replace hI := hI.keepG hg3 hrl
 replace hgr := grown_trans hgr hg3
 have hlo : w.heap.size < W1.heap.size := by omega
 clear hg3
 cases b with
 | false =>
  have hB := HG.out _ hgr
  have q0 := hp.cell 0 _ rfl
  have q1 := hp.cell 1 _ rfl
  have q2 := hp.cell 2 _ rfl
  have q3 := hp.cell 3 _ rfl
  have q4 := hp.cell 4 _ rfl
  have q5 := hp.cell 5 _ rfl
  have q6 := hp.cell 6 _ rfl
  have y0 := hx0.cell 0 _ rfl
  have yf0 := hx0.free 0
  have y1 := hx0.cell 1 _ rfl
  have yf1 := hx0.free 1
  have y2 := hx0.cell 2 _ rfl
  have yf2 := hx0.free 2
  have y3 := hx0.cell 3 _ rfl
  have yf3 := hx0.free 3
  have y4 := hx0.cell 4 _ rfl
  have yf4 := hx0.free 4
  have y5 := hx0.cell 5 _ rfl
  have yf5 := hx0.free 5
  have y6 := hx0.cell 6 _ rfl
  have yf6 := hx0.free 6
  go_wp2
  have x5 := hx0.put7 (.int .i64 ok) (.string ou) (.string oi) (.int .i64 od) (.string ofu) (.string oft) (.slice xa oits.length xc)
  have i5 := hI.other7 w.heap.size hlo (.int .i64 ok) (.string ou) (.string oi) (.int .i64 od) (.string ofu) (.string oft) (.slice xa oits.length xc)
  have b5 := hB.trans (below7 W w.heap.size w.heap.size (Nat.le_refl _) (.int .i64 ok) (.string ou) (.string oi) (.int .i64 od) (.string ofu) (.string oft) (.slice xa oits.length xc))
  unfold put7 at x5 i5 b5
  have d0 := cell_of_cells (i := 0) x5 rfl
  have d1 := cell_of_cells (i := 1) x5 rfl
  have d2 := cell_of_cells (i := 2) x5 rfl
  have d3 := cell_of_cells (i := 3) x5 rfl
  have d4 := cell_of_cells (i := 4) x5 rfl
  have d5 := cell_of_cells (i := 5) x5 rfl
  have d6 := cell_of_cells (i := 6) x5 rfl
  exact bodyPost_ret (v := opV (⟨ok, ou, oi, od, ofu, oft, oits⟩ : OpD) (.slice xa oits.length xc)) (by simp [results, Tryz.results52, go_sem, d0, d1, d2, d3, d4, d5, d6]) rfl ⟨(⟨ok, ou, oi, od, ofu, oft, oits⟩ : OpD), _, rfl, hso, i5.base_mono (by omega), b5⟩
 | true =>
  go_wp2_with fail
  refine (off_any 0 3 _ _ cv zs _ hrd (by omega) (by omega) (by omega)).mono ?_
  rintro e w7 ⟨n, rfl, hn, hrd, hg7⟩
  replace hx0 := hx0.keepG hg7 (by omega)
  replace hp := hp.keepG hg7 (by omega)
  replace hI := hI.keepG hg7 hrl
  replace hgr := grown_trans hgr hg7
  have hp3 := hp.cell 3 _ rfl
  have hpf := hp.free 3
  have hB7 := HG.out _ hgr
  clear hg7 hrd hgr
  have hpX := hp.set 3 (.int .i64 n)
  change Box (w7.setCell ⟨F, 3, none⟩ (.int .i64 n)) F #[.int .i64 ok, .string ou, .string oi, .int .i64 n, .string ofu, .string oft, .slice xa oits.length xc] _ at hpX
  have hb8 : Below F w7 (w7.setCell ⟨F, 3, none⟩ (.int .i64 n)) := (Below.refl _ _).setCell (p := ⟨F, 3, none⟩) (Nat.le_refl _) _
  have hx8 := hx0.keep hb8 hpl
  have hB8 := hB7.trans (hb8.mono (by omega))
  have hI8 := offOp hI hp (.int .i64 n)
  have q0 := hpX.cell 0 _ rfl
  have q1 := hpX.cell 1 _ rfl
  have q2 := hpX.cell 2 _ rfl
  have q3 := hpX.cell 3 _ rfl
  have q4 := hpX.cell 4 _ rfl
  have q5 := hpX.cell 5 _ rfl
  have q6 := hpX.cell 6 _ rfl
  have y0 := hx8.cell 0 _ rfl
  have yf0 := hx8.free 0
  have y1 := hx8.cell 1 _ rfl
  have yf1 := hx8.free 1
  have y2 := hx8.cell 2 _ rfl
  have yf2 := hx8.free 2
  have y3 := hx8.cell 3 _ rfl
  have yf3 := hx8.free 3
  have y4 := hx8.cell 4 _ rfl
  have yf4 := hx8.free 4
  have y5 := hx8.cell 5 _ rfl
  have yf5 := hx8.free 5
  have y6 := hx8.cell 6 _ rfl
  have yf6 := hx8.free 6
  go_wp2
  have x5 := hx8.put7 (.int .i64 ok) (.string ou) (.string oi) (.int .i64 n) (.string ofu) (.string oft) (.slice xa oits.length xc)
  have i5 := hI8.other7 w.heap.size hlo (.int .i64 ok) (.string ou) (.string oi) (.int .i64 n) (.string ofu) (.string oft) (.slice xa oits.length xc)
  have b5 := hB8.trans (below7 (w7.setCell ⟨F, 3, none⟩ (.int .i64 n)) w.heap.size w.heap.size (Nat.le_refl _) (.int .i64 ok) (.string ou) (.string oi) (.int .i64 n) (.string ofu) (.string oft) (.slice xa oits.length xc))
  unfold put7 at x5 i5 b5
  have d0 := cell_of_cells (i := 0) x5 rfl
  have d1 := cell_of_cells (i := 1) x5 rfl
  have d2 := cell_of_cells (i := 2) x5 rfl
  have d3 := cell_of_cells (i := 3) x5 rfl
  have d4 := cell_of_cells (i := 4) x5 rfl
  have d5 := cell_of_cells (i := 5) x5 rfl
  have d6 := cell_of_cells (i := 6) x5 rfl
  exact bodyPost_ret (v := opV (⟨ok, ou, oi, n, ofu, oft, oits⟩ : OpD) (.slice xa oits.length xc)) (by simp [results, Tryz.results52, go_sem, d0, d1, d2, d3, d4, d5, d6]) rfl ⟨(⟨ok, ou, oi, n, ofu, oft, oits⟩ : OpD), _, rfl, hso, i5.base_mono (by omega), b5⟩
end Go.Proofs.YtffkakpbelknaaaGreatDoor
