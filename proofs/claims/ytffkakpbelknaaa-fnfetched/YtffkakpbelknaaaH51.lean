/- Joined: Draw18, Draw19. -/
import Derived.Deep.CutRange
import Derived.Test.YtffkakpbelknaaaH33
import Derived.Test.YtffkakpbelknaaaH49
/- Draw18 -/
namespace Go.Proofs.Ytffkakpbelknaaa
open Go.ChangeShapes Go.WideShapes Go.ChangeAt Go.RowKit
set_option linter.unusedVariables false

theorem OwnR.keepRow {α : Type} {k : Nat} {C : α → List Value} {e : TypeId} {w w' : World} {base : Nat} {row : Option Nat} {v : Value} {l : List α} (h : OwnR e k C w base v l) (hg : w.grownBy w' row) (hne : v.ownBlock = none ∨ v.ownBlock ≠ row) : OwnR e k C w' base v l := by
  refine ⟨h.1, ?_⟩
  rcases h.2 with h2 | ⟨g, cap, cur, rfl, hbg, hblk, rest⟩
  · exact .inl h2
  · exact .inr ⟨g, cap, cur, rfl, hbg, (hg.block g (Array.getElem?_eq_some_iff.1 hblk).1 (by
      rcases hne with h3 | h3
      · cases h3
      · exact h3)).trans hblk, rest⟩
theorem opC_one (p : OpD × Value) (hp : ∃ a n c, p.2 = .slice a n c) : ∀ u ∈ opC p, u.oneCell' = true := by
  obtain ⟨a, n, c, h⟩ := hp
  intro u hu
  simp only [opC, h, List.mem_cons, List.not_mem_nil, or_false] at hu
  rcases hu with rfl | rfl | rfl | rfl | rfl | rfl | rfl <;> rfl
/-- A row of operations that has been drawn, with what is known of them. -/
structure OwnQ (w : World) (B : Nat) (v : Value) (ps : List (OpD × Value)) : Prop where
  r : OwnR 31 7 opC w B v ps
  i : ∀ p ∈ ps, OwnR 45 3 itC w B p.2 p.1.its
  s : ∀ p ∈ ps, smO p.1
theorem OwnQ.keepG {w w' : World} {B rb : Nat} {v : Value} {ps : List (OpD × Value)} (h : OwnQ w B v ps) (hg : w.grownBy w' (some rb)) (hb : rb < B) : OwnQ w' B v ps := ⟨h.r.keepG hg hb, fun p hp => (h.i p hp).keepG hg hb, h.s⟩
theorem OwnQ.snoc {w w' : World} {B : Nat} {v v' : Value} {ps : List (OpD × Value)} {o : OpD} {x : Value} (h : OwnQ w B v ps) (hx : OwnR 45 3 itC w B x o.its) (hs : smO o) (hg : w.grownBy w' v.ownBlock) (hr : OwnR 31 7 opC w' B v' (ps ++ [(o, x)])) : OwnQ w' B v' (ps ++ [(o, x)]) := by
  refine ⟨hr, fun p hp => ?_, fun p hp => ?_⟩
  · rcases List.mem_append.1 hp with h1 | h1
    · exact (h.i p h1).keepRow hg (own_apart (by decide) (h.i p h1) h.r)
    · rw [List.mem_singleton.1 h1]; exact hx.keepRow hg (own_apart (by decide) hx h.r)
  · rcases List.mem_append.1 hp with h1 | h1
    · exact h.s p h1
    · rw [List.mem_singleton.1 h1]; exact hs
theorem smO_sz {o : OpD} (h : smO o) : OpSz o ∧ ∀ x ∈ o.its, x.id.size ≤ maxLen ∧ x.ti.size ≤ maxLen := by
  obtain ⟨h1, h2, h3, h4, h5, h6⟩ := h
  refine ⟨?_, fun x hx => ?_⟩
  · unfold OpSz maxLen; omega
  · have := h6 x hx; unfold smI at this; unfold maxLen; omega
theorem OwnQ.at {w : World} {B : Nat} {v : Value} {ps : List (OpD × Value)} (h : OwnQ w B v ps) : OpsAt w w.heap.size v (ps.map Prod.fst) :=
  ⟨ps, rfl, h.r.at opC_len, fun p hp => ⟨ItAt.of_own (h.i p hp) (smO_sz (h.s p hp)).2, (smO_sz (h.s p hp)).1⟩⟩
/-- A row of operations, some of which lie in rows of before, with one more: read alone. -/
theorem OwnQ.at1 {w w' : World} {B B' : Nat} {v v' : Value} {ps : List (OpD × Value)} (h : OwnQ w B v ps) (hr : OwnR 31 7 opC w B' v' ps) : OpsAt w w.heap.size v' (ps.map Prod.fst) :=
  ⟨ps, rfl, hr.at opC_len, fun p hp => ⟨ItAt.of_own (h.i p hp) (smO_sz (h.s p hp)).2, (smO_sz (h.s p hp)).1⟩⟩
abbrev two : Array Value := #[.int .i64 1, .string ⟨#[117]⟩, .string ⟨#[]⟩, .int .i64 0, .string ⟨#[]⟩, .string ⟨#[]⟩, .slice none 0 0, .int .i64 1, .string ⟨#[118]⟩, .string ⟨#[]⟩, .int .i64 0, .string ⟨#[]⟩, .string ⟨#[]⟩, .slice none 0 0]
abbrev twoP : List (OpD × Value) := [(⟨1, ⟨#[117]⟩, ⟨#[]⟩, 0, ⟨#[]⟩, ⟨#[]⟩, []⟩, .slice none 0 0), (⟨1, ⟨#[118]⟩, ⟨#[]⟩, 0, ⟨#[]⟩, ⟨#[]⟩, []⟩, .slice none 0 0)]
theorem OwnQ.ofTwo (w : World) (B : Nat) (hB : B ≤ w.heap.size) : OwnQ (w.alloc (.cells two 31)) B (.slice (some ⟨w.heap.size, 0, none⟩) 2 2) twoP := by
  refine ⟨⟨rfl, .inr ⟨w.heap.size, 2, two, rfl, hB, heap_alloc_new w _, Nat.le_refl _, by unfold maxLen; omega, rfl, rfl⟩⟩, fun p hp => ?_, fun p hp => ?_⟩
  · rcases List.mem_cons.1 hp with rfl | h1
    · exact OwnR.nil _ _ _
    · rw [List.mem_singleton.1 h1]; exact OwnR.nil _ _ _
  · rcases List.mem_cons.1 hp with rfl | h1
    · exact ⟨(by show (1 : Nat) ≤ 3; omega), (by show (0 : Nat) ≤ 1; omega), (by show (0 : Nat) ≤ 3; omega), (by show (0 : Nat) ≤ 8; omega), by simp, by simp⟩
    · rw [List.mem_singleton.1 h1]; exact ⟨(by show (1 : Nat) ≤ 3; omega), (by show (0 : Nat) ≤ 1; omega), (by show (0 : Nat) ≤ 3; omega), (by show (0 : Nat) ≤ 8; omega), by simp, by simp⟩
theorem OwnQ.ofNone (w : World) (B : Nat) (hB : B ≤ w.heap.size) : OwnQ (w.alloc (.cells #[] 31)) B (.slice (some ⟨w.heap.size, 0, none⟩) 0 0) [] := ⟨OwnR.lit (k := 7) (C := opC) 31 w B hB, fun p hp => (by cases hp), fun p hp => (by cases hp)⟩
end Go.Proofs.Ytffkakpbelknaaa

/- Draw19 -/
namespace Go.Proofs.Ytffkakpbelknaaa
open Go.ChangeShapes Go.WideShapes Go.ChangeAt Go.RowKit
set_option linter.unusedVariables false
set_option linter.unusedSimpArgs false

/-- What is drawn as operations. -/
def OutOps (m : Int) (base rb : Nat) (cv : Value) (zs : List Int) (w : World) (e : Ending) (w' : World) : Prop :=
  ∃ (V : Value) (ps : List (OpD × Value)), e = .returned V ∧ (ps.length : Int) ≤ 2 + m ∧ OwnQ w' w.heap.size V ps ∧ Rd w' base rb cv zs ∧ w.grownBy w' (some rb)

/-- What stands in a slot: what operation i left, or what was there. -/
def slD (d : Value) (c : Nat → Bool) (s : Nat → Value) (i : Nat) : Value := if c i = true then s i else d
theorem slD_on {d : Value} {c : Nat → Bool} {s : Nat → Value} {i : Nat} (h : c i = true) : slD d c s i = s i := if_pos h
theorem FloS.step2 {Post Post' : Nat → Value → World → Prop} {Fr : World → Prop} {c : Nat → Bool} {s : Nat → Value} {w : World} (h : FloS Post Fr c s w) (i : Nat) (v : Value) (w' : World) (hfr : Fr w') (hst : ∀ j u, j ≠ i → Post j u w → Post' j u w') (hp : Post' i v w') : FloS Post' Fr (up c i true) (up s i v) w' := by
  refine ⟨hfr, fun j hj => ?_⟩
  unfold up at hj ⊢
  by_cases e : j = i
  · subst e; rw [if_pos rfl]; exact hp
  · rw [if_neg e] at hj ⊢
    exact hst j _ e (h.k j hj)
/-- What is known of each operation of the region that folds. -/
def rgP (Bq : Nat) (ps : List (OpD × Value)) (pn : OpD × Value) (f2 f5 f6 : Bool) (i : Nat) (v : Value) (wr : World) : Prop := match i with
  | 0 => ∃ g, v = .slice (some ⟨g, 0, none⟩) 0 0 ∧ Bq ≤ g ∧ (f2 = false → Box wr g #[] 31)
  | 2 => f5 = false → OwnR 31 7 opC wr Bq v ps
  | 3 => v = opV pn.1 pn.2
  | 4 => ∃ g, v = .slice (some ⟨g, 0, none⟩) 1 1 ∧ Bq ≤ g ∧ (f5 = false → Box wr g #[.int .i64 pn.1.k, .string pn.1.u, .string pn.1.i, .int .i64 pn.1.d, .string pn.1.fu, .string pn.1.ft, pn.2] 31)
  | 5 => f6 = false → OwnR 31 7 opC wr Bq v (ps ++ [pn])
  | 6 => ∃ a n c k, v = .tuple #[.agg #[.slice a n c], .int .i64 k]
  | 7 => ∃ a n c k, v = .tuple #[.agg #[.slice a n c], .int .i64 k]
  | 8 => ∃ a n c, v = .agg #[.slice a n c]
  | 9 => ∃ k, v = .int .i64 k
  | 10 => ∃ g, v = .pointer (some ⟨g, 0, none⟩) ∧ Bq ≤ g ∧ ∃ u, Box wr g #[u] 26
  | _ => True
theorem rgP_below {Bq : Nat} {ps : List (OpD × Value)} {pn : OpD × Value} {f2 f5 f6 f6' : Bool} {w w' : World} (hb : Below w.heap.size w w') (hf : f6' = false → f6 = false) (i : Nat) (v : Value) (h : rgP Bq ps pn f2 f5 f6 i v w) : rgP Bq ps pn f2 f5 f6' i v w' := by
  unfold rgP at h ⊢
  split at h
  · obtain ⟨g, h1, h2, h3⟩ := h; exact ⟨g, h1, h2, fun f => (h3 f).keep hb (h3 f).lt⟩
  · exact fun f => (h f).keep hb (Nat.le_refl _)
  · exact h
  · obtain ⟨g, h1, h2, h3⟩ := h; exact ⟨g, h1, h2, fun f => (h3 f).keep hb (h3 f).lt⟩
  · exact fun f => (h (hf f)).keep hb (Nat.le_refl _)
  · exact h
  · exact h
  · exact h
  · exact h
  · obtain ⟨g, h1, h2, u, h3⟩ := h; exact ⟨g, h1, h2, u, h3.keep hb h3.lt⟩
  · trivial
theorem box_ne {w : World} {g g' : Nat} {cs cs' : Array Value} {t t' : TypeId} (h : Box w g cs t) (h' : Box w g' cs' t') (hne : t ≠ t' ∨ cs.size ≠ cs'.size) : g ≠ g' := by
  intro e
  subst e
  have := h.symm.trans h'
  simp only [Option.some.injEq, Obj.cells.injEq] at this
  rcases hne with h1 | h1
  · exact h1 this.2.1
  · exact h1 (by rw [this.1])
theorem rgP_two {Bq : Nat} {ps : List (OpD × Value)} {pn : OpD × Value} {f2 f5 f6 : Bool} {w w' : World} {g0 : Nat} (hg : w.grownBy w' (some g0)) (h0 : Box w g0 #[] 31) (i : Nat) (v : Value) (hi : i ≠ 2) (h : rgP Bq ps pn f2 f5 f6 i v w) : rgP Bq ps pn true f5 f6 i v w' := by
  unfold rgP at h ⊢
  split at h
  · obtain ⟨g, h1, h2, h3⟩ := h; exact ⟨g, h1, h2, fun f => by cases f⟩
  · exact absurd rfl hi
  · exact h
  · obtain ⟨g, h1, h2, h3⟩ := h; exact ⟨g, h1, h2, fun f => (h3 f).keepG hg (box_ne (h3 f) h0 (.inr (by simp)))⟩
  · refine fun f => (h f).keepRow hg ?_
    rcases (h f).2 with ⟨_, hl⟩ | ⟨g, cap, cur, rfl, _, hb, hc, _, hz, _⟩
    · simp at hl
    · refine .inr (fun e => ?_)
      have e2 : g = g0 := Option.some.inj e
      refine box_ne (show Box w g cur _ from hb) h0 (.inr ?_) e2
      simp at hc ⊢
      intro e3
      subst e3
      simp at hz
      omega
  · exact h
  · exact h
  · exact h
  · exact h
  · obtain ⟨g, h1, h2, u, h3⟩ := h; exact ⟨g, h1, h2, u, h3.keepG hg (box_ne h3 h0 (.inl (by decide)))⟩
  · trivial
theorem rgP_five {Bq : Nat} {ps : List (OpD × Value)} {pn : OpD × Value} {f5 f6 : Bool} {w w' : World} {v2 : Value} (hg : w.grownBy w' v2.ownBlock) (h2 : OwnR 31 7 opC w Bq v2 ps) (i : Nat) (v : Value) (hi : i ≠ 5) (h : rgP Bq ps pn true f5 f6 i v w) : rgP Bq ps pn true true f6 i v w' := by
  unfold rgP at h ⊢
  split at h
  · obtain ⟨g, h1, h2, h3⟩ := h; exact ⟨g, h1, h2, fun f => by cases f⟩
  · exact fun f => by cases f
  · exact h
  · obtain ⟨g, h1, h2, h3⟩ := h; exact ⟨g, h1, h2, fun f => by cases f⟩
  · exact absurd rfl hi
  · exact h
  · exact h
  · exact h
  · exact h
  · obtain ⟨g, h1, hB, u, h3⟩ := h
    refine ⟨g, h1, hB, u, ?_⟩
    refine (hg.block g h3.lt (fun e => ?_)).trans h3
    rcases h2.2 with ⟨rfl, _⟩ | ⟨g2, cap, cur, rfl, _, hb, _⟩
    · cases e
    · exact box_ne h3 (show Box w g2 cur _ from hb) (.inl (by decide)) (Option.some.inj e)
  · trivial
theorem rgP_eleven {Bq : Nat} {ps : List (OpD × Value)} {pn : OpD × Value} {f6 : Bool} {w : World} {g0 : Nat} (z : Value) (i : Nat) (v : Value) (h : rgP Bq ps pn true true true i v w) : rgP Bq ps pn true true true i v (w.setCell ⟨g0, 0, none⟩ z) := by
  unfold rgP at h ⊢
  split at h
  · obtain ⟨g, h1, h2, h3⟩ := h; exact ⟨g, h1, h2, fun f => by cases f⟩
  · exact fun f => by cases f
  · exact h
  · obtain ⟨g, h1, h2, h3⟩ := h; exact ⟨g, h1, h2, fun f => by cases f⟩
  · exact fun f => by cases f
  · exact h
  · exact h
  · exact h
  · exact h
  · obtain ⟨g, h1, hB, u, h3⟩ := h
    refine ⟨g, h1, hB, ?_⟩
    by_cases e : g = g0
    · subst e; exact ⟨z, h3.set 0 z⟩
    · exact ⟨u, h3.other ⟨g0, 0, none⟩ z e⟩
  · trivial

set_option maxRecDepth 100000 in
set_option maxHeartbeats 3000000 in
theorem ops_any (m : Int) (hm0 : 0 ≤ m) (hm1 : m ≤ 100) (base rb : Nat) (cv : Value) (zs : List Int) (w : World) (h : Rd w base rb cv zs) :
    Calls Try.prog 96 #[.pointer (some ⟨rb, 0, none⟩), .int .i64 m] w (OutOps m base rb cv zs w) := by
  have hrb := h.lt
  have hr0 := h.alloc (.cells two 31)
  have hg0 := World.grownBy_alloc w (.cells two 31) (some rb)
  have hq0 := OwnQ.ofTwo w w.heap.size (Nat.le_refl _)
  clear h
  have hmw : IntKind.i64.wrap (m + 1) = m + 1 := IntWalk.i64_in _ (by omega)
  go_enter Try.func96, Try.ntmps96
  go_wp2_with fail
  refine (once_any 6 base rb cv zs _ hr0 (by omega) (by omega)).mono ?_
  rintro e w1 ⟨b, rfl, hr1, hg1⟩
  have hq1 := hq0.keepG hg1 hrb
  have g1 := grown_trans hg0 hg1
  clear hq0 hg0 hg1 hr0
  go_upto_if 14 with fail
  go_cut [5] from 15 to 15 (fun s5 wx => ∃ (ps : List (OpD × Value)), ps.length ≤ 2 ∧ OwnQ wx w.heap.size s5 ps ∧ Rd wx base rb cv zs ∧ w.grownBy wx (some rb))
  case first =>
    cases b with
    | true =>
      have hq2 := OwnQ.ofNone w1 w.heap.size g1.size
      have hr2 := hr1.alloc (.cells #[] 31)
      have g2 := grown_trans g1 (World.grownBy_alloc w1 (.cells #[] 31) (some rb))
      go_wp2_with fail
      go_meet
      exact ⟨[], by simp, hq2, hr2, g2⟩
    | false =>
      go_wp2_with fail
      go_meet
      exact ⟨_, by simp, hq1, hr1, g1⟩
  case rest =>
    obtain ⟨ps, hps, hq, hr, g⟩ := hcut
    clear hq1 hr1 g1
    go_wp2_with fail
    refine (below_any (m + 1) base rb cv zs _ hr (by omega) (by omega)).mono ?_
    rintro e w2 ⟨yq, rfl, hyq0, hyq1, hr2, hg2⟩
    have hq2 := hq.keepG hg2 hrb
    have g2 := grown_trans g hg2
    clear hq g hg2 hr
    go_wp2_with fail
    go_loopw [5, 6] (fun V i wr => ∃ (y : Int) (ps : List (OpD × Value)), i = .int .i64 y ∧ 0 ≤ y ∧ (ps.length : Int) + y ≤ 2 + m ∧ OwnQ wr w.heap.size V ps ∧ Rd wr base rb cv zs ∧ w.grownBy wr (some rb)) (fun _ i _ => (intOf i).toNat)
    case atStart => exact ⟨yq, ps, rfl, hyq0, by omega, hq2, hr2, g2⟩
    case round =>
      clear hq2 hr2 g2 hps ps
      obtain ⟨y, ps, rfl, hy0, hy1, hq, hr, g⟩ := hrel
      obtain ⟨va, vc, hV⟩ := hq.r.slice
      subst hV
      by_cases hy : 0 < y
      · go_wp2_with fail
        refine (op_any base rb cv zs _ hr).mono ?_
        rintro e w3 ⟨o, x, rfl, hso, hx, hr3, hg3⟩
        have hq3 := hq.keepG hg3 hrb
        have g3 := grown_trans g hg3
        replace hx := hx.base_mono g.size
        obtain ⟨xa, xc, hX⟩ := hx.slice
        subst hX
        clear hq g hg3 hr
        obtain ⟨ok, ou, oi, od, ofu, oft, oits⟩ := o
        simp only at hx
        have hr4 := hr3.alloc (.cells #[.int .i64 ok, .string ou, .string oi, .int .i64 od, .string ofu, .string oft, .slice xa oits.length xc] 31)
        have hO := Box.new w3 #[.int .i64 ok, .string ou, .string oi, .int .i64 od, .string ofu, .string oft, .slice xa oits.length xc] 31
        have ga := World.grownBy_alloc w3 (.cells #[.int .i64 ok, .string ou, .string oi, .int .i64 od, .string ofu, .string oft, .slice xa oits.length xc] 31) (some rb)
        have hq4 := hq3.keepG ga hrb
        have hx4 := hx.keepG ga hrb
        have g4 := grown_trans g3 ga
        have hF := g3.size
        have hrw := hr3.lt
        clear hr3 hq3 hx g3 ga
        go_upto_region 8 with fail
        generalize w3.alloc (.cells #[.int .i64 ok, .string ou, .string oi, .int .i64 od, .string ofu, .string oft, .slice xa oits.length xc] 31) = W8 at hr4 hO hq4 hx4 g4 ⊢
        generalize w3.heap.size = Ob at hO hF hrw ⊢
        go_cut [8, 9] from 26 to 35 (fun s8 s9 wx => ∃ n : Int, s9 = .int .i64 n ∧ Below W8.heap.size W8 wx)
        case first =>
          refine wp_region_T (fun _ => True) (fun _ => True) 12 (by kernel_rfl) 13 rfl ?_
          refine wpAnyT_takesA (md := .any) 12 (by kernel_rfl) (by intro d v c a w h; cases d <;> exact h) [1] _ _ _ (by decide) (by kernel_rfl) ⟨trivial, fun _ => trivial⟩ ?_
          simp only [pick, List.filterMap_cons, List.filterMap_nil, List.getElem?_cons_zero, List.getElem?_cons_succ]
          refine wpIf_step (.slice va ps.length vc) (by kernel_rfl) (fun w hw => by go_simp) ?_
          refine wpIf_nil (fun hS => ?_)
          clear hS
          have hW8 := g4.size
          have hplen : ps.length ≤ 1000 := by omega
          refine wpAnyT_flo (fun i => decide (i < 12)) (by kernel_rfl) (by kernel_rfl) 1 (fun L a wr => ∃ (c : Nat → Bool) (s : Nat → Value), L = #[c 0, true, c 2, c 3, c 4, c 5, c 6, c 7, c 8, c 9, c 10, c 11, false] ∧ a = { tmps := #[.pointer (some ⟨rb, 0, none⟩), .int .i64 m, undef, undef, .slice none 0 0, .slice va ps.length vc, .int .i64 y, .pointer (some ⟨Ob, 0, none⟩), slD u8 c s 10, u9, .agg #[.int .i64 1, .string ⟨#[117]⟩, .string ⟨#[]⟩, .int .i64 0, .string ⟨#[]⟩, .string ⟨#[]⟩, .slice none 0 0], .agg #[.int .i64 1, .string ⟨#[118]⟩, .string ⟨#[]⟩, .int .i64 0, .string ⟨#[]⟩, .string ⟨#[]⟩, .slice none 0 0], .slice (some ⟨w.heap.size, 0, none⟩) 2 2, .pointer (some ⟨rb, 0, none⟩), .bool b, u15, .pointer (some ⟨rb, 0, none⟩), .int .i64 m, .int .i64 (m + 1), .int .i64 yq, .int .i64 y, .bool true, u22, u23, .pointer (some ⟨rb, 0, none⟩), opV (⟨ok, ou, oi, od, ofu, oft, oits⟩ : OpD) (.slice xa oits.length xc), slD u26 c s 7, slD u27 c s 0, .slice va ps.length vc, slD u29 c s 2, slD u30 c s 3, slD u31 c s 4, slD u32 c s 5, slD u33 c s 6, slD u34 c s 8, slD u35 c s 9, u36, u37, u38, u39, u40, u41, u42, u43, u44, u45, u46, u47, undef], defers := [] } ∧ FloS (rgP W8.heap.size ps (((⟨ok, ou, oi, od, ofu, oft, oits⟩ : OpD), .slice xa oits.length xc) : OpD × Value) (c 2) (c 5) (c 6)) (fun wr => Below W8.heap.size W8 wr) c s wr) ?_ ?_ ?_ 11 _ _ _ ?_ ?_
          · rintro L a wr ⟨c, s, rfl, _, _⟩
            rfl
          · rintro L a wr i oi' ⟨c, s, rfl, rfl, hF⟩ ho hfl hL hdep
            have hi : i < 12 := of_decide_eq_true hfl
            have hb := hF.fr
            have hsz := hb.size
            rcases (show i = 0 ∨ i = 1 ∨ i = 2 ∨ i = 3 ∨ i = 4 ∨ i = 5 ∨ i = 6 ∨ i = 7 ∨ i = 8 ∨ i = 9 ∨ i = 10 ∨ i = 11 by omega) with rfl | rfl | rfl | rfl | rfl | rfl | rfl | rfl | rfl | rfl | rfl | rfl
            · have ho' := Option.some.inj ho
              subst ho'
              refine ⟨by kernel_rfl, ?_⟩
              go_simp
              exact ⟨up c 0 true, by simp [up], up s 0 (.slice (some ⟨wr.heap.size, 0, none⟩) 0 0), by simp [up, slD], hF.step2 0 (.slice (some ⟨wr.heap.size, 0, none⟩) 0 0) _ (hb.alloc hsz _) (fun j u _ h => rgP_below ((Below.refl _ _).alloc (Nat.le_refl _) _) (fun f => f) j u h) ⟨wr.heap.size, rfl, hsz, fun _ => Box.new wr #[] 31⟩⟩
            · cases hL
            · have ho' := Option.some.inj ho
              subst ho'
              have h0 : c 0 = true := hdep ⟨0, .data⟩ (by simp) rfl
              refine ⟨by kernel_rfl, ?_⟩
              obtain ⟨g0, e0, hg0, hbx⟩ := hF.k 0 h0
              have hc2 : c 2 = false := hL
              have hbx0 := hbx hc2
              have hrow : OwnR 31 7 opC wr W8.heap.size (.slice (some ⟨g0, 0, none⟩) 0 0) ([] : List (OpD × Value)) := ⟨rfl, .inr ⟨g0, 0, #[], rfl, hg0, hbx0, Nat.le_refl _, Nat.zero_le _, rfl, rfl⟩⟩
              have hone : ∀ z ∈ ps, ∀ u ∈ opC z, u.oneCell' = true := fun z hz => opC_one z (by obtain ⟨a1, n1, h1⟩ := (hq4.i z hz).slice; exact ⟨_, _, _, h1⟩)
              have hps : RecAt 7 opC wr W8.heap.size (.slice va ps.length vc) ps := (hq4.r.at opC_len).below hb
              obtain ⟨v2, w2', hrun, hv2, hgr2⟩ := appR_run (P := Try.prog) (t := 136) opC_len (by decide) Try.underlying136 Try.infoOp rfl (by decide) hrow hps hone (by simp; omega) hsz 136
              rw [slD_on h0, e0]
              refine wp_appQ 136 (.tmp 27) (.tmp 28) rfl _ _ v2 rfl rfl hrun ?_
              go_simp
              exact ⟨up c 2 true, by simp [up, h0, e0], up s 2 v2, by simp [up, slD, h0, e0], hF.step2 2 v2 _ (hb.grown hgr2 hsz (ownBlock_base hrow)) (fun j u hj h => rgP_two hgr2 hbx0 j u hj h) (fun _ => by simpa using hv2)⟩
            · have ho' := Option.some.inj ho
              subst ho'
              refine ⟨by kernel_rfl, ?_⟩
              have hO3 := hO.keep hb hO.lt
              have k0 := hO3.cell 0 _ rfl
              have k1 := hO3.cell 1 _ rfl
              have k2 := hO3.cell 2 _ rfl
              have k3 := hO3.cell 3 _ rfl
              have k4 := hO3.cell 4 _ rfl
              have k5 := hO3.cell 5 _ rfl
              have k6 := hO3.cell 6 _ rfl
              go_simp
              exact ⟨up c 3 true, by simp [up], up s 3 (opV (⟨ok, ou, oi, od, ofu, oft, oits⟩ : OpD) (.slice xa oits.length xc)), by simp [up, slD], hF.step2 3 (opV (⟨ok, ou, oi, od, ofu, oft, oits⟩ : OpD) (.slice xa oits.length xc)) _ hb (fun j u _ h => h) rfl⟩
            · have ho' := Option.some.inj ho
              subst ho'
              have h3 : c 3 = true := hdep ⟨3, .data⟩ (by simp) rfl
              refine ⟨by kernel_rfl, ?_⟩
              have e3 : s 3 = opV (⟨ok, ou, oi, od, ofu, oft, oits⟩ : OpD) (.slice xa oits.length xc) := hF.k 3 h3
              rw [slD_on h3, e3]
              go_simp
              exact ⟨up c 4 true, by simp [up, h3, e3], up s 4 (.slice (some ⟨wr.heap.size, 0, none⟩) 1 1), by simp [up, slD, h3, e3], hF.step2 4 (.slice (some ⟨wr.heap.size, 0, none⟩) 1 1) _ (hb.alloc hsz _) (fun j u _ h => rgP_below ((Below.refl _ _).alloc (Nat.le_refl _) _) (fun f => f) j u h) ⟨wr.heap.size, rfl, hsz, fun _ => Box.new wr _ 31⟩⟩
            · have ho' := Option.some.inj ho
              subst ho'
              have h2 : c 2 = true := hdep ⟨2, .data⟩ (by simp) rfl
              have h4 : c 4 = true := hdep ⟨4, .data⟩ (by simp) rfl
              refine ⟨by kernel_rfl, ?_⟩
              have hc5 : c 5 = false := hL
              have hv2 : OwnR 31 7 opC wr W8.heap.size (s 2) ps := hF.k 2 h2 hc5
              obtain ⟨g4', e4, hg4', hbx4⟩ := hF.k 4 h4
              have hbx5 := hbx4 hc5
              have hrec : RecAt 7 opC wr (g4' + 1) (.slice (some ⟨g4', 0, none⟩) 1 1) [(((⟨ok, ou, oi, od, ofu, oft, oits⟩ : OpD), .slice xa oits.length xc) : OpD × Value)] := by
                refine ⟨_, 1, rfl, Nat.le_refl _, by unfold maxLen; omega, fun _ => ⟨g4', 0, rfl, Nat.lt_succ_self _, fun i hi j u hu => ?_⟩⟩
                have hi0 : i = 0 := by simpa using hi
                subst hi0
                simp only [Nat.zero_mul, Nat.zero_add]
                exact cell_of_cells hbx5 (by simpa [opC] using hu)
              have hone : ∀ z ∈ ([(((⟨ok, ou, oi, od, ofu, oft, oits⟩ : OpD), .slice xa oits.length xc) : OpD × Value)] : List (OpD × Value)), ∀ u ∈ opC z, u.oneCell' = true := fun z hz => opC_one z (by rw [List.mem_singleton.1 hz]; exact ⟨_, _, _, rfl⟩)
              obtain ⟨v5, w5', hrun, hv5, hgr5⟩ := appR_run (P := Try.prog) (t := 136) opC_len (by decide) Try.underlying136 Try.infoOp rfl (by decide) hv2 hrec hone (by simp; omega) hsz 136
              have hF0 := hF
              rw [h2] at hF0
              rw [slD_on h2, slD_on h4, e4]
              refine wp_appQ 136 (.tmp 29) (.tmp 31) rfl _ _ v5 rfl rfl hrun ?_
              go_simp
              exact ⟨up c 5 true, by simp [up, h2, h4], up s 5 v5, by simp [up, slD, h2, h4, e4], by
                have h9 := hF0.step2 5 v5 w5' (hb.grown hgr5 hsz (ownBlock_base hv2)) (fun j u hj h => rgP_five hgr5 hv2 j u hj h) (fun _ => hv5)
                simpa [up, h2] using h9⟩
            · have ho' := Option.some.inj ho
              subst ho'
              have h5 : c 5 = true := hdep ⟨5, .data⟩ (by simp) rfl
              refine ⟨by kernel_rfl, ?_⟩
              have hc6 : c 6 = false := hL
              have hv5 : OwnR 31 7 opC wr W8.heap.size (s 5) (ps ++ [(((⟨ok, ou, oi, od, ofu, oft, oits⟩ : OpD), .slice xa oits.length xc) : OpD × Value)]) := hF.k 5 h5 hc6
              have hats : OpsAt wr wr.heap.size (s 5) ((ps ++ [(((⟨ok, ou, oi, od, ofu, oft, oits⟩ : OpD), .slice xa oits.length xc) : OpD × Value)]).map Prod.fst) := ⟨_, rfl, hv5.at opC_len, fun z hz => by
                rcases List.mem_append.1 hz with h7 | h7
                · exact ⟨((ItAt.of_own (hq4.i z h7) (smO_sz (hq4.s z h7)).2).below hb).mono hsz, (smO_sz (hq4.s z h7)).1⟩
                · rw [List.mem_singleton.1 h7]
                  exact ⟨((ItAt.of_own hx4 (smO_sz hso).2).below hb).mono hsz, (smO_sz hso).1⟩⟩
              rw [slD_on h5]
              go_simp
              refine (specFolded_any (s 5) _ wr hats).mono ?_
              rintro e w6 ⟨V6, qs, rfl, hq6, hV6, hb6⟩
              obtain ⟨va6, vc6, rfl⟩ := hV6.1.slice
              go_simp
              exact ⟨up c 6 true, by simp [up, h5], up s 6 (.tuple #[.agg #[.slice va6 qs.length vc6], .int .i64 ((fdV ((ps ++ [(((⟨ok, ou, oi, od, ofu, oft, oits⟩ : OpD), .slice xa oits.length xc) : OpD × Value)]).map Prod.fst)).2 : Int)]), by simp [up, slD, h5], hF.step2 6 _ _ (hb.trans (hb6.mono hsz)) (fun j u _ h => rgP_below hb6 (fun f => by cases f) j u h) ⟨_, _, _, _, rfl⟩⟩
            · have ho' := Option.some.inj ho
              subst ho'
              have h6 : c 6 = true := hdep ⟨6, .data⟩ (by simp) rfl
              refine ⟨by kernel_rfl, ?_⟩
              obtain ⟨ra, rn, rc, k, e6⟩ := hF.k 6 h6
              rw [slD_on h6, e6]
              go_simp
              exact ⟨up c 7 true, by simp [up, h6, e6], up s 7 (.tuple #[.agg #[.slice ra rn rc], .int .i64 k]), by simp [up, slD, h6, e6], hF.step2 7 (.tuple #[.agg #[.slice ra rn rc], .int .i64 k]) _ hb (fun j u _ h => h) ⟨_, _, _, _, rfl⟩⟩
            · have ho' := Option.some.inj ho
              subst ho'
              have h7 : c 7 = true := hdep ⟨7, .data⟩ (by simp) rfl
              refine ⟨by kernel_rfl, ?_⟩
              obtain ⟨ra, rn, rc, k, e7⟩ := hF.k 7 h7
              rw [slD_on h7, e7]
              go_simp
              exact ⟨up c 8 true, by simp [up, h7, e7], up s 8 (.agg #[.slice ra rn rc]), by simp [up, slD, h7, e7], hF.step2 8 (.agg #[.slice ra rn rc]) _ hb (fun j u _ h => h) ⟨_, _, _, rfl⟩⟩
            · have ho' := Option.some.inj ho
              subst ho'
              have h7 : c 7 = true := hdep ⟨7, .data⟩ (by simp) rfl
              refine ⟨by kernel_rfl, ?_⟩
              obtain ⟨ra, rn, rc, k, e7⟩ := hF.k 7 h7
              rw [slD_on h7, e7]
              go_simp
              exact ⟨up c 9 true, by simp [up, h7, e7], up s 9 (.int .i64 k), by simp [up, slD, h7, e7], hF.step2 9 (.int .i64 k) _ hb (fun j u _ h => h) ⟨_, rfl⟩⟩
            · have ho' := Option.some.inj ho
              subst ho'
              refine ⟨by kernel_rfl, ?_⟩
              go_simp
              exact ⟨up c 10 true, by simp [up], up s 10 (.pointer (some ⟨wr.heap.size, 0, none⟩)), by simp [up, slD], hF.step2 10 (.pointer (some ⟨wr.heap.size, 0, none⟩)) _ (hb.alloc hsz _) (fun j u _ h => rgP_below ((Below.refl _ _).alloc (Nat.le_refl _) _) (fun f => f) j u h) ⟨wr.heap.size, rfl, hsz, _, Box.new wr _ 26⟩⟩
            · have ho' := Option.some.inj ho
              subst ho'
              have h10 : c 10 = true := hdep ⟨10, .data⟩ (by simp) rfl
              have h8 : c 8 = true := hdep ⟨8, .data⟩ (by simp) rfl
              have h2 : c 2 = true := hdep ⟨2, .phase⟩ (by simp) rfl
              have h5 : c 5 = true := hdep ⟨5, .phase⟩ (by simp) rfl
              have h6 : c 6 = true := hdep ⟨6, .phase⟩ (by simp) rfl
              refine ⟨by kernel_rfl, ?_⟩
              obtain ⟨g, e10, hgB, uz, hbz⟩ := hF.k 10 h10
              obtain ⟨ra, rn, rc, e8⟩ := hF.k 8 h8
              have kz := hbz.cell 0 _ rfl
              have kf := hbz.free 0
              have hF0 := hF
              rw [h2, h5, h6] at hF0
              rw [slD_on h10, slD_on h8, e10, e8]
              go_simp
              exact ⟨up c 11 true, by simp [up, h10, h8, h2, h5, h6], up s 11 undef, by simp [up, slD, h10, h8, e10, e8], by
                have h9 := hF0.step2 11 undef (wr.setCell ⟨g, 0, none⟩ (.slice ra rn rc)) (hb.setCell (p := ⟨g, 0, none⟩) hgB _) (fun j u _ h => rgP_eleven (f6 := true) _ j u h) trivial
                simpa [up, h2, h5, h6] using h9⟩
          · rintro L a wr ⟨c, s, rfl, rfl, hF⟩ hall
            have h0 : c 0 = true := hall 0 (by decide) rfl
            have h2 : c 2 = true := hall 2 (by decide) rfl
            have h3 : c 3 = true := hall 3 (by decide) rfl
            have h4 : c 4 = true := hall 4 (by decide) rfl
            have h5 : c 5 = true := hall 5 (by decide) rfl
            have h6 : c 6 = true := hall 6 (by decide) rfl
            have h7 : c 7 = true := hall 7 (by decide) rfl
            have h8 : c 8 = true := hall 8 (by decide) rfl
            have h9 : c 9 = true := hall 9 (by decide) rfl
            have h10 : c 10 = true := hall 10 (by decide) rfl
            have h11 : c 11 = true := hall 11 (by decide) rfl
            obtain ⟨k, e9⟩ := hF.k 9 h9
            have hb := hF.fr
            rw [h0, h2, h3, h4, h5, h6, h7, h8, h9, h10, h11, slD_on h9, e9]
            clear hall hF h0 h2 h3 h4 h5 h6 h7 h8 h9 h10 h11 e9
            refine wpAnyT_one 12 0 (by kernel_rfl) rfl (by kernel_rfl) ?_
            intro K hK
            go_simp
            refine hK _ _ ⟨trivial, fun _ => trivial⟩ (fun hS => ?_)
            clear hK K hS
            refine wpAnyT_over (by kernel_rfl) ?_
            go_wp2_with fail
            go_meet
            exact ⟨k, rfl, hb⟩
          · exact ⟨fun _ => false, fun _ => undef, rfl, rfl, below_drewN (Below.refl _ _) 1, fun i hi => by cases hi⟩
          · decide
        case rest =>
          obtain ⟨n, rfl, hbx⟩ := hcut
          have hW8 := g4.size
          have hqc : OwnQ wc w.heap.size (.slice va ps.length vc) ps := ⟨hq4.r.keep hbx (Nat.le_refl _), fun p hp => (hq4.i p hp).keep hbx (Nat.le_refl _), hq4.s⟩
          have hxc := hx4.keep hbx (Nat.le_refl _)
          have hOc := hO.keep hbx hO.lt
          have hrc := hr4.below hbx hr4.lt
          have gc := gw_below g4 hbx hW8
          clear hr4 hO hq4 hx4 g4 hbx hW8
          have hyw : IntKind.i64.wrap (y - 1) = y - 1 := IntWalk.i64_in _ (by omega)
          by_cases hn : (ps.length : Int) < n
          · have hnd : decide ((ps.length : Int) < n) = true := decide_eq_true hn
            have HA := Lib.hid (hqc.r.alloc (.cells #[.int .i64 ok, .string ou, .string oi, .int .i64 od, .string ofu, .string oft, .slice xa oits.length xc] 31))
            have HN := Lib.hid (one_rec opC_len (wc) 31 (((⟨ok, ou, oi, od, ofu, oft, oits⟩ : OpD), .slice xa oits.length xc) : OpD × Value) #[.int .i64 ok, .string ou, .string oi, .int .i64 od, .string ofu, .string oft, .slice xa oits.length xc] rfl)
            have HU : Hid (∀ u ∈ ([((⟨ok, ou, oi, od, ofu, oft, oits⟩ : OpD), .slice xa oits.length xc)] : List (OpD × Value)), ∀ z ∈ opC u, z.oneCell' = true) := Lib.hid (fun u hu => opC_one u (by rw [List.mem_singleton.1 hu]; exact ⟨_, _, _, rfl⟩))
            have HZ : Hid (w.heap.size ≤ (wc.alloc (.cells #[.int .i64 ok, .string ou, .string oi, .int .i64 od, .string ofu, .string oft, .slice xa oits.length xc] 31)).heap.size) := Lib.hid (by have := gc.size; simp; omega)
            have hln : ps.length + ([((⟨ok, ou, oi, od, ofu, oft, oits⟩ : OpD), .slice xa oits.length xc)] : List (OpD × Value)).length ≤ 100000000 := by simp; omega
            have c0 := hOc.cell 0 _ rfl
            have c1 := hOc.cell 1 _ rfl
            have c2 := hOc.cell 2 _ rfl
            have c3 := hOc.cell 3 _ rfl
            have c4 := hOc.cell 4 _ rfl
            have c5 := hOc.cell 5 _ rfl
            have c6 := hOc.cell 6 _ rfl
            have ga := World.grownBy_alloc wc (.cells #[.int .i64 ok, .string ou, .string oi, .int .i64 od, .string ofu, .string oft, .slice xa oits.length xc] 31) (some rb)
            have HQ := Lib.hid (hqc.keepG ga hrb)
            have HX := Lib.hid (hxc.keepG ga hrb)
            have HG := Lib.hid (grown_trans gc ga)
            have HR := Lib.hid (hrc.alloc (.cells #[.int .i64 ok, .string ou, .string oi, .int .i64 od, .string ofu, .string oft, .slice xa oits.length xc] 31))
            clear ga
            go_wp2_with (
              (at_builtin
               refine wpList_appR opC_len (by decide) Try.underlying136 Try.infoOp rfl (by decide) rfl (.tmp 44) (.tmp 46) rfl w.heap.size _ _ _ ps [((⟨ok, ou, oi, od, ofu, oft, oits⟩ : OpD), .slice xa oits.length xc)] rfl rfl HA.out HN.out HU.out hln HZ.out ?_
               intro v9 w9 hown9 hg9
               have hq9 := HQ.out.snoc HX.out hso hg9 hown9
               have hbb : Below w.heap.size _ w9 := (Below.refl w.heap.size _).grown hg9 HZ.out (ownBlock_base HA.out)
               have hr9 := HR.out.below hbb hrb
               have g9 := gw_below HG.out hbb (Nat.le_refl _)
               clear hown9 hg9 hbb))
            go_roundw
            case rel => exact ⟨y - 1, _, by first | rfl | rw [hyw], by omega, by simp; omega, hq9, hr9, g9⟩
            case measure => simp [intOf]; omega
          · have hnd : decide ((ps.length : Int) < n) = false := decide_eq_false hn
            go_wp2_with fail
            refine (once_any 30 base rb cv zs _ hrc (by omega) (by omega)).mono ?_
            rintro e w5 ⟨b5, rfl, hr5, hg5⟩
            have hq5 := hqc.keepG hg5 hrb
            have hx5 := hxc.keepG hg5 hrb
            have hO5 := hOc.keepG hg5 (by omega)
            have g5 := grown_trans gc hg5
            clear hqc hxc hOc gc hrc hg5
            cases b5 with
            | false =>
              go_wp2
              go_roundw
              case rel => exact ⟨y - 1, ps, by first | rfl | rw [hyw], by omega, by omega, hq5, hr5, g5⟩
              case measure => simp [intOf]; omega
            | true =>
              have HA := Lib.hid (hq5.r.alloc (.cells #[.int .i64 ok, .string ou, .string oi, .int .i64 od, .string ofu, .string oft, .slice xa oits.length xc] 31))
              have HN := Lib.hid (one_rec opC_len (w5) 31 (((⟨ok, ou, oi, od, ofu, oft, oits⟩ : OpD), .slice xa oits.length xc) : OpD × Value) #[.int .i64 ok, .string ou, .string oi, .int .i64 od, .string ofu, .string oft, .slice xa oits.length xc] rfl)
              have HU : Hid (∀ u ∈ ([((⟨ok, ou, oi, od, ofu, oft, oits⟩ : OpD), .slice xa oits.length xc)] : List (OpD × Value)), ∀ z ∈ opC u, z.oneCell' = true) := Lib.hid (fun u hu => opC_one u (by rw [List.mem_singleton.1 hu]; exact ⟨_, _, _, rfl⟩))
              have HZ : Hid (w.heap.size ≤ (w5.alloc (.cells #[.int .i64 ok, .string ou, .string oi, .int .i64 od, .string ofu, .string oft, .slice xa oits.length xc] 31)).heap.size) := Lib.hid (by have := g5.size; simp; omega)
              have hln : ps.length + ([((⟨ok, ou, oi, od, ofu, oft, oits⟩ : OpD), .slice xa oits.length xc)] : List (OpD × Value)).length ≤ 100000000 := by simp; omega
              have c0 := hO5.cell 0 _ rfl
              have c1 := hO5.cell 1 _ rfl
              have c2 := hO5.cell 2 _ rfl
              have c3 := hO5.cell 3 _ rfl
              have c4 := hO5.cell 4 _ rfl
              have c5 := hO5.cell 5 _ rfl
              have c6 := hO5.cell 6 _ rfl
              have ga := World.grownBy_alloc w5 (.cells #[.int .i64 ok, .string ou, .string oi, .int .i64 od, .string ofu, .string oft, .slice xa oits.length xc] 31) (some rb)
              have HQ := Lib.hid (hq5.keepG ga hrb)
              have HX := Lib.hid (hx5.keepG ga hrb)
              have HG := Lib.hid (grown_trans g5 ga)
              have HR := Lib.hid (hr5.alloc (.cells #[.int .i64 ok, .string ou, .string oi, .int .i64 od, .string ofu, .string oft, .slice xa oits.length xc] 31))
              clear ga
              go_wp2_with (
                (at_builtin
                 refine wpList_appR opC_len (by decide) Try.underlying136 Try.infoOp rfl (by decide) rfl (.tmp 44) (.tmp 46) rfl w.heap.size _ _ _ ps [((⟨ok, ou, oi, od, ofu, oft, oits⟩ : OpD), .slice xa oits.length xc)] rfl rfl HA.out HN.out HU.out hln HZ.out ?_
                 intro v9 w9 hown9 hg9
                 have hq9 := HQ.out.snoc HX.out hso hg9 hown9
                 have hbb : Below w.heap.size _ w9 := (Below.refl w.heap.size _).grown hg9 HZ.out (ownBlock_base HA.out)
                 have hr9 := HR.out.below hbb hrb
                 have g9 := gw_below HG.out hbb (Nat.le_refl _)
                 clear hown9 hg9 hbb))
              go_roundw
              case rel => exact ⟨y - 1, _, by first | rfl | rw [hyw], by omega, by simp; omega, hq9, hr9, g9⟩
              case measure => simp [intOf]; omega
      · have hy2 : y = 0 := by omega
        subst hy2
        clear hy hy0
        go_wp2
        go_ret
        exact ⟨_, ps, rfl, by omega, hq, hr, g⟩
end Go.Proofs.Ytffkakpbelknaaa
