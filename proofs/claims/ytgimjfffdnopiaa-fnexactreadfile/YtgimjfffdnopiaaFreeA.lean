/- A region that draws its order, whose first operations yield in every world and whose last ones have one order: it is walked once, in the order of the text. A region that draws its order, walked by a plan: operations that yield in every world are taken first; where one operation alone can come up it is carried out. A region that draws its order, with loads of two kinds: those whose cells no operation of the region writes (A), and those whose cells are written by operations that come up behind one operation t, which waits for the loads (B). One step of a walk whose outcome the caller names. -/
import Derived.WalkKit
import Derived.StillTail
import Derived.Deep.RegionHeld3
import Derived.OrdersHeld
import Derived.Tactics
namespace Go.Proofs.Ytgimjfffdnopiaa

section
variable {P : Program} {ops : Array Oper} {md : Region.Mode} {Q : Exit → Act → World → Prop}
/-- Each operation of a list, in its order, yields in every world. -/
def wpFree (P : Program) (ops : Array Oper) (R : Act → Prop) : List Oper → Act → Prop
  | [], a => R a
  | o :: l, a => ∃ v, Yields P ops o v a ∧ wpFree P ops R l (a.put o.dst v)
theorem wpFree_step {R : Act → Prop} {o : Oper} {l : List Oper} {a : Act} (v : Value) (hw : Region.wanted o (yielded ops a.tmps) = true) (hy : ∀ w, (execOp a.eval o).run P w = .ok (.value v) w) (h : wpFree P ops R l (a.put o.dst v)) : wpFree P ops R (o :: l) a := ⟨v, .inl ⟨hw, hy⟩, h⟩
theorem wpFree_nil {R : Act → Prop} {a : Act} (h : R a) : wpFree P ops R [] a := h

theorem wpAny_of_free (hsel : Region.noSelect ops = true) (hQ : ∀ d v c a w, Q (.panic c) (Act.put a d v) w → Q (.panic c) a w) (tail : List Oper) (n : Nat) (w : World) (ht : ∀ j, tail[j]? = ops[n + j]?) :
    ∀ (l : List Oper) (k : Nat) (listed : Array Bool) (a : Act), (∀ j, j < l.length → l[j]? = ops[k + j]?) → k + l.length = n →
    Region.lexHead md ops tail.length l.length k listed = true → wpFree P ops (fun a' => wpList P ops Q tail a' w) l a → wpAny P md ops Q (l.length + tail.length) listed a w
  | [], k, listed, a, _, hk, hB, h => by
    have : k = n := by simpa using hk
    subst this
    rw [List.length_nil, Nat.zero_add]
    exact wpAny_of_seq tail k listed a w ht hB h
  | o :: l, k, listed, a, hl, hk, hB, h => by
    obtain ⟨v, hy, hr⟩ := h
    have h0 : ops[k]? = some o := by simpa using (hl 0 (by simp)).symm
    simp only [List.length_cons, Region.lexHead, Bool.and_eq_true] at hB
    obtain ⟨⟨hrd, hf⟩, hB'⟩ := hB
    have e : (o :: l).length + tail.length = (l.length + tail.length) + 1 := by simp; omega
    rw [e]
    refine wpAny_take h0 hsel hf hrd (fun c a w => hQ _ _ c a w) hy ?_
    exact wpAny_of_free hsel hQ tail n w ht l (k + 1) _ _ (fun j hj => by have := hl (j + 1) (by simp; omega); simpa [Nat.add_assoc, Nat.add_comm 1 j] using this) (by simp only [List.length_cons] at hk; omega) hB' hr

/-- A region that draws its order: its first n operations yield in every world; the others have one order. -/
theorem wp_region_free_tail {id : Nat} {a : Act} {w : World} {l : List Oper} (n : Nat) (hm : P.follows .mixedOrders = true) (hsel : Region.noSelect l.toArray = true) (hn : n ≤ l.length)
    (hB : Region.lexHead .any l.toArray (l.length - n) n 0 (Array.replicate l.length false) = true) (hQ : ∀ d v c a w, Q (.panic c) (Act.put a d v) w → Q (.panic c) a w)
    (h : wpFree P l.toArray (fun a' => wpList P l.toArray Q (l.drop n) a' w.drew) (l.take n) a) : (Code.region id l.toArray true).wp P Q a w := by
  refine wp_region_any hm ?_
  have htl : (l.take n).length = n := by simp; omega
  have hdl : (l.drop n).length = l.length - n := by simp
  have := wpAny_of_free (md := .any) hsel hQ (l.drop n) n w.drew (fun j => by simp) (l.take n) 0 (Array.replicate l.length false) a (fun j hj => by
    have hj' : j < n := by rw [htl] at hj; exact hj
    simp [hj']) (by rw [htl]; omega) (by rw [htl, hdl]; exact hB) h
  rw [htl, hdl, show n + (l.length - n) = l.length by omega] at this
  simpa using this
end

end Go.Proofs.Ytgimjfffdnopiaa

namespace Go.Proofs.Ytgimjfffdnopiaa

section
variable {P : Program} {ops : Array Oper} {md : Region.Mode} {Q : Exit → Act → World → Prop}

theorem wp_then {o : Oper} {a : Act} {w : World} {K R : Act → World → Prop} (hh : o.wp P a w K (Exit.then R Q)) : o.wp P a w K Q := by
  unfold Oper.wp at *
  generalize (execOp a.eval o).run P w = r at *
  cases r with
  | ok n w' =>
    cases n with
    | enter f args =>
      simp only [Oper.upon] at hh ⊢
      exact Calls.mono hh (fun e w'' he => by cases e <;> exact he)
    | _ => exact hh
  | halt x w' => cases x <;> exact hh

/-- The operations with these numbers. -/
def pick (l : List Oper) (is : List Nat) : List Oper := is.filterMap fun i => l[i]?
def listAll (is : List Nat) (listed : Array Bool) : Array Bool := is.foldl (fun b i => b.setIfInBounds i true) listed

def forcedB (md : Region.Mode) (ops : Array Oper) : List Nat → Array Bool → Bool
  | [], _ => true
  | i :: r, listed => decide (i < ops.size) && decide (Region.ready md ops listed = [i]) && forcedB md ops r (listed.setIfInBounds i true)
def takeB (md : Region.Mode) (ops : Array Oper) : List Nat → Array Bool → Bool
  | [], _ => true
  | i :: r, listed => decide (i < ops.size) && (Region.ready md ops listed).contains i && Region.free md ops listed i && takeB md ops r (listed.setIfInBounds i true)

theorem wpAny_forced {l : List Oper} (g : Nat) : ∀ (is : List Nat) (listed : Array Bool) (a : Act) (w : World), forcedB md l.toArray is listed = true →
    wpList P l.toArray (Exit.then (fun a' w' => wpAny P md l.toArray Q g (listAll is listed) a' w') Q) (pick l is) a w → wpAny P md l.toArray Q (is.length + g) listed a w
  | [], listed, a, w, _, h => by rw [List.length_nil, Nat.zero_add]; exact h
  | i :: r, listed, a, w, hB, h => by
    simp only [forcedB, Bool.and_eq_true, decide_eq_true_eq, List.size_toArray] at hB
    obtain ⟨⟨hi, hr⟩, hB'⟩ := hB
    have e : (i :: r).length + g = (r.length + g) + 1 := by simp; omega
    rw [e]
    refine ⟨fun h0 => (by rw [hr] at h0; cases h0), fun j hj => ?_⟩
    rw [hr] at hj
    have : j = i := by simpa using hj
    subst this
    have hp : pick l (j :: r) = l[j] :: pick l r := by simp [pick, hi]
    rw [hp] at h
    unfold wpOp
    have ho : l.toArray[j]? = some l[j] := by simp [hi]
    simp only [ho]
    simp only [wpList] at h
    split at h
    · rename_i hw
      rw [if_pos hw]
      rcases h with h | h
      · exact .inl (Oper.wp_mono (fun a' w' h' => wpAny_forced g r (listed.setIfInBounds j true) a' w' hB' h') (wp_then h))
      · exact .inr h
    · rename_i hw
      rw [if_neg hw]
      exact wpAny_forced g r (listed.setIfInBounds j true) _ w hB' h

theorem wpAny_takes {l : List Oper} (g : Nat) (hsel : Region.noSelect l.toArray = true) (hQ : ∀ d v c a w, Q (.panic c) (Act.put a d v) w → Q (.panic c) a w) : ∀ (is : List Nat) (listed : Array Bool) (a : Act) (w : World), takeB md l.toArray is listed = true →
    wpFree P l.toArray (fun a' => wpAny P md l.toArray Q g (listAll is listed) a' w) (pick l is) a → wpAny P md l.toArray Q (is.length + g) listed a w
  | [], listed, a, w, _, h => by rw [List.length_nil, Nat.zero_add]; exact h
  | i :: r, listed, a, w, hB, h => by
    simp only [takeB, Bool.and_eq_true, decide_eq_true_eq, List.size_toArray] at hB
    obtain ⟨⟨⟨hi, hr⟩, hf⟩, hB'⟩ := hB
    have e : (i :: r).length + g = (r.length + g) + 1 := by simp; omega
    rw [e]
    have hp : pick l (i :: r) = l[i] :: pick l r := by simp [pick, hi]
    rw [hp] at h
    obtain ⟨v, hy, hrest⟩ := h
    refine wpAny_take (i := i) (by simp [hi]) hsel hf hr (fun c a w => hQ _ _ c a w) hy ?_
    exact wpAny_takes g hsel hQ r (listed.setIfInBounds i true) _ w hB' hrest

/-- One operation alone can come up. -/
theorem wpAny_one {l : List Oper} {listed : Array Bool} {a : Act} {w : World} (i g : Nat) {o : Oper} (hr : Region.ready md l.toArray listed = [i]) (ho : l[i]? = some o) (hw : Region.wanted o (yielded l.toArray a.tmps) = true)
    (h : ∀ K : Act → World → Prop, (∀ a w, wpAny P md l.toArray Q g (listed.setIfInBounds i true) a w → K a w) → o.wp P a w K Q) : wpAny P md l.toArray Q (g + 1) listed a w := by
  refine ⟨fun h0 => (by rw [hr] at h0; cases h0), fun j hj => ?_⟩
  rw [hr] at hj
  have : j = i := by simpa using hj
  subst this
  unfold wpOp
  have ho' : l.toArray[j]? = some o := by simpa using ho
  simp only [ho']
  rw [if_pos hw]
  exact .inl (h _ (fun _ _ h' => h'))

theorem wpAny_over {l : List Oper} {listed : Array Bool} {a : Act} {w : World} (hr : Region.ready md l.toArray listed = []) (h : Q .normal a w) : wpAny P md l.toArray Q 0 listed a w := ⟨hr, h⟩

theorem wp_region_plan {id : Nat} {a : Act} {w : World} {l : List Oper} (hm : P.follows .mixedOrders = true) (n : Nat) (hn : l.length = n)
    (h : wpAny P .any l.toArray Q n (Array.replicate n false) a w.drew) : (Code.region id l.toArray true).wp P Q a w := by
  subst hn
  refine wp_region_any hm ?_
  simpa using h
end
end Go.Proofs.Ytgimjfffdnopiaa

namespace Go.Proofs.Ytgimjfffdnopiaa

section
variable {P : Program} {ops : Array Oper} {md : Region.Mode} {Q : Exit → Act → World → Prop} {A B : World → Prop} {t : Nat}

/-- What is held of the world: A always, B till operation t has come up. -/
def Sx (A B : World → Prop) (t : Nat) (L : Array Bool) (w : World) : Prop := A w ∧ (L.getD t true = false → B w)

def wpAnyT (P : Program) (md : Region.Mode) (ops : Array Oper) (Q : Exit → Act → World → Prop) (A B : World → Prop) (t : Nat) : Nat → Array Bool → Act → World → Prop
  | 0, L, a, w => Region.ready md ops L = [] ∧ Q .normal a w
  | f + 1, L, a, w => (Region.ready md ops L = [] → Q .normal a w) ∧
      ∀ i ∈ Region.ready md ops L, wpOp P ops Q i (fun a' w' => Sx A B t (L.setIfInBounds i true) w' ∧ wpAnyT P md ops Q A B t f (L.setIfInBounds i true) a' w') a w

theorem wpAny_of_T : ∀ (f : Nat) (L : Array Bool) (a : Act) (w : World), wpAnyT P md ops Q A B t f L a w → wpAny P md ops Q f L a w
  | 0, _, _, _, h => h
  | f + 1, _, _, _, h => ⟨h.1, fun i hi => wpOp_mono (fun a' w' h' => wpAny_of_T f _ a' w' h'.2) (h.2 i hi)⟩

theorem sx_set {i : Nat} (hit : i ≠ t) (L : Array Bool) (w : World) : Sx A B t (L.setIfInBounds i true) w ↔ Sx A B t L w := by
  unfold Sx
  rw [getD_set_ne true hit]

theorem wpAnyT_first {C : World → Prop} {i : Nat} {oi : Oper} {v : Value} (hi : ops[i]? = some oi) (hsel : ∀ (j : Nat) (o : Oper) cs b, ops[j]? = some o → o.op ≠ .select cs b)
    (hQ : ∀ c a w, Q (.panic c) (Act.put a oi.dst v) w → Q (.panic c) a w) (hit : i ≠ t) (K : Array Bool → Prop) (hC : ∀ L, K L → ∀ w, Sx A B t L w → C w)
    (hK : ∀ L j oj, ops[j]? = some oj → (∀ e ∈ oj.after, Region.binds md e = true → e.on ≠ i) → K L → K (L.setIfInBounds j true)) :
    ∀ (f : Nat) (L : Array Bool) (a : Act) (w : World),
      (∀ j oj, ops[j]? = some oj → j ≠ i → L.getD j true = false → (∀ e ∈ oj.after, Region.binds md e = true → e.on ≠ i) → oi.apart ops oj = true) →
      i ∈ Region.ready md ops L → K L → YieldsIf P ops C oi v a → Sx A B t L w →
      wpAnyT P md ops Q A B t f (L.setIfInBounds i true) (a.put oi.dst v) w → wpAnyT P md ops Q A B t (f + 1) L a w := by
  intro f
  induction f with
  | zero =>
    intro L a w _ hr hk hy hS H
    refine ⟨fun h => (by rw [h] at hr; cases hr), fun j hj => ?_⟩
    by_cases hji : j = i
    · subst hji
      exact hy.wpOp hi (hC L hk w hS) ⟨(sx_set hit L w).2 hS, H⟩
    · have h0 := ready_mono hj hji
      rw [H.1] at h0
      cases h0
  | succ f ih =>
    intro L a w hfree hr hk hy hS H
    refine ⟨fun h => (by rw [h] at hr; cases hr), fun j hj => ?_⟩
    by_cases hji : j = i
    · subst hji
      exact hy.wpOp hi (hC L hk w hS) ⟨(sx_set hit L w).2 hS, H⟩
    · have h1 := H.2 j (ready_mono hj hji)
      obtain ⟨hjun, oj, hoj, hall⟩ := mem_ready.1 hj
      have hnot : ∀ e ∈ oj.after, Region.binds md e = true → e.on ≠ i := by
        intro e he hb heq
        have g1 := hall e he hb
        have g0 := (mem_ready.1 hr).1
        rw [heq] at g1
        rcases Nat.lt_or_ge i L.size with g | g
        · simp [g] at g0 g1
          rw [g0] at g1
          cases g1
        · simp [Array.getElem?_eq_none g] at g1
      have h2 := wpOp_putIf hoj (hfree j oj hoj hji hjun hnot) (fun cs b => hsel i oi cs b hi) (fun cs b => hsel j oj cs b hoj) hQ hy h1
      refine wpOp_mono (fun a' w' h3 => ?_) h2
      have hc : (L.setIfInBounds i true).setIfInBounds j true = (L.setIfInBounds j true).setIfInBounds i true := Array.setIfInBounds_comm _ _ (Ne.symm hji)
      obtain ⟨g1, g2, g3⟩ := h3
      rw [hc] at g2 g3
      have g4 := (sx_set hit _ w').1 g2
      refine ⟨g4, ih (L.setIfInBounds j true) a' w' ?_ (ready_mono hr (Ne.symm hji)) (hK L j oj hoj hnot hk) g1 g4 g3⟩
      intro k ok hk' hki hun hno
      refine hfree k ok hk' hki ?_ hno
      by_cases hjk : j = k
      · subst hjk; exact hjun
      · rw [getD_set_ne true hjk] at hun; exact hun

/-- Each operation of a list, in its order, yields in every world that meets C. -/
def wpIf (P : Program) (ops : Array Oper) (C : World → Prop) (R : Act → Prop) : List Oper → Act → Prop
  | [], a => R a
  | o :: l, a => ∃ v, YieldsIf P ops C o v a ∧ wpIf P ops C R l (a.put o.dst v)
theorem wpIf_step {C : World → Prop} {R : Act → Prop} {o : Oper} {l : List Oper} {a : Act} (v : Value) (hw : Region.wanted o (yielded ops a.tmps) = true) (hy : ∀ w, C w → (execOp a.eval o).run P w = .ok (.value v) w) (h : wpIf P ops C R l (a.put o.dst v)) : wpIf P ops C R (o :: l) a := ⟨v, .inl ⟨hw, hy⟩, h⟩
theorem wpIf_nil {C : World → Prop} {R : Act → Prop} {a : Act} (h : R a) : wpIf P ops C R [] a := h

/-- Operation t waits for i. -/
def waitB (md : Region.Mode) (ops : Array Oper) (t i : Nat) : Bool := (ops[t]?).any fun o => o.after.any fun e => Region.binds md e && e.on == i

theorem wpAnyT_takesA {l : List Oper} (g : Nat) (hsel : Region.noSelect l.toArray = true) (hQ : ∀ d v c a w, Q (.panic c) (Act.put a d v) w → Q (.panic c) a w) : ∀ (is : List Nat) (L : Array Bool) (a : Act) (w : World), is.all (fun i => i != t) = true → takeB md l.toArray is L = true → Sx A B t L w →
    wpIf P l.toArray A (fun a' => Sx A B t (listAll is L) w → wpAnyT P md l.toArray Q A B t g (listAll is L) a' w) (pick l is) a → wpAnyT P md l.toArray Q A B t (is.length + g) L a w
  | [], L, a, w, _, _, hS, h => by rw [List.length_nil, Nat.zero_add]; exact h hS
  | i :: r, L, a, w, ht, hB, hS, h => by
    simp only [takeB, Bool.and_eq_true, decide_eq_true_eq, List.size_toArray] at hB
    obtain ⟨⟨⟨hi, hr⟩, hf⟩, hB'⟩ := hB
    simp only [List.all_cons, Bool.and_eq_true, bne_iff_ne, ne_eq] at ht
    have e : (i :: r).length + g = (r.length + g) + 1 := by simp; omega
    rw [e]
    have hp : pick l (i :: r) = l[i] :: pick l r := by simp [pick, hi]
    rw [hp] at h
    obtain ⟨v, hy, hrest⟩ := h
    have ho : l.toArray[i]? = some l[i] := by simp [hi]
    exact wpAnyT_first (C := A) ho (Region.noSelect_spec hsel) (fun c a w => hQ _ _ c a w) ht.1 (fun _ => True) (fun L _ w h => h.1) (fun _ _ _ _ _ _ => trivial) _ L a w (Region.free_spec ho hf) (by simpa using hr) trivial hy hS
      (wpAnyT_takesA g hsel hQ r (L.setIfInBounds i true) _ w ht.2 hB' ((sx_set ht.1 L w).2 hS) hrest)

theorem wpAnyT_takesB {l : List Oper} (g : Nat) (hsel : Region.noSelect l.toArray = true) (hQ : ∀ d v c a w, Q (.panic c) (Act.put a d v) w → Q (.panic c) a w) : ∀ (is : List Nat) (L : Array Bool) (a : Act) (w : World), is.all (fun i => i != t) = true → is.all (fun i => waitB md l.toArray t i) = true → L.getD t true = false → takeB md l.toArray is L = true → Sx A B t L w →
    wpIf P l.toArray (fun w => A w ∧ B w) (fun a' => Sx A B t (listAll is L) w → wpAnyT P md l.toArray Q A B t g (listAll is L) a' w) (pick l is) a → wpAnyT P md l.toArray Q A B t (is.length + g) L a w
  | [], L, a, w, _, _, _, _, hS, h => by rw [List.length_nil, Nat.zero_add]; exact h hS
  | i :: r, L, a, w, ht, hwt, hun, hB, hS, h => by
    simp only [takeB, Bool.and_eq_true, decide_eq_true_eq, List.size_toArray] at hB
    obtain ⟨⟨⟨hi, hr⟩, hf⟩, hB'⟩ := hB
    simp only [List.all_cons, Bool.and_eq_true, bne_iff_ne, ne_eq] at ht
    simp only [List.all_cons, Bool.and_eq_true] at hwt
    have e : (i :: r).length + g = (r.length + g) + 1 := by simp; omega
    rw [e]
    have hp : pick l (i :: r) = l[i] :: pick l r := by simp [pick, hi]
    rw [hp] at h
    obtain ⟨v, hy, hrest⟩ := h
    have ho : l.toArray[i]? = some l[i] := by simp [hi]
    refine wpAnyT_first (C := fun w => A w ∧ B w) ho (Region.noSelect_spec hsel) (fun c a w => hQ _ _ c a w) ht.1 (fun L => L.getD t true = false) (fun L hL w h => ⟨h.1, h.2 hL⟩) ?_ _ L a w (Region.free_spec ho hf) (by simpa using hr) hun hy hS
      (wpAnyT_takesB g hsel hQ r (L.setIfInBounds i true) _ w ht.2 hwt.2 (by rw [getD_set_ne true ht.1]; exact hun) hB' ((sx_set ht.1 L w).2 hS) hrest)
    intro L j oj hoj hno hL
    by_cases hjt : j = t
    · subst hjt
      have hw1 := hwt.1
      unfold waitB at hw1
      rw [hoj] at hw1
      simp only [Option.any_some, Array.any_eq_true', Bool.and_eq_true, beq_iff_eq] at hw1
      obtain ⟨e, he, hb, heq⟩ := hw1
      exact absurd heq (hno e he hb)
    · rw [getD_set_ne true hjt]; exact hL

/-- One operation alone can come up: behind it what is held is shown anew. -/
theorem wpAnyT_one {l : List Oper} {L : Array Bool} {a : Act} {w : World} (i g : Nat) {o : Oper} (hr : Region.ready md l.toArray L = [i]) (ho : l[i]? = some o) (hw : Region.wanted o (yielded l.toArray a.tmps) = true)
    (h : ∀ K : Act → World → Prop, (∀ a w, Sx A B t (L.setIfInBounds i true) w → (Sx A B t (L.setIfInBounds i true) w → wpAnyT P md l.toArray Q A B t g (L.setIfInBounds i true) a w) → K a w) → o.wp P a w K Q) : wpAnyT P md l.toArray Q A B t (g + 1) L a w := by
  refine ⟨fun h0 => (by rw [hr] at h0; cases h0), fun j hj => ?_⟩
  rw [hr] at hj
  have : j = i := by simpa using hj
  subst this
  unfold wpOp
  have ho' : l.toArray[j]? = some o := by simpa using ho
  simp only [ho']
  rw [if_pos hw]
  exact .inl (h _ (fun _ _ h1 h2 => ⟨h1, h2 h1⟩))

theorem wpAnyT_over {l : List Oper} {L : Array Bool} {a : Act} {w : World} (hr : Region.ready md l.toArray L = []) (h : Q .normal a w) : wpAnyT P md l.toArray Q A B t 0 L a w := ⟨hr, h⟩

theorem wp_region_T {id : Nat} {a : Act} {w : World} {l : List Oper} (A B : World → Prop) (t : Nat) (hm : P.follows .mixedOrders = true) (n : Nat) (hn : l.length = n)
    (h : wpAnyT P .any l.toArray Q A B t n (Array.replicate n false) a w.drew) : (Code.region id l.toArray true).wp P Q a w :=
  wp_region_plan hm n hn (wpAny_of_T _ _ _ _ h)
end
end Go.Proofs.Ytgimjfffdnopiaa

namespace Go.Proofs.Ytgimjfffdnopiaa

theorem step_to {P : Program} {ops : Array Oper} {rest : List Oper} {o : Oper} {a : Act} {w w' : World} {Q : Exit → Act → World → Prop} {v : Value} (hg : o.guard = none)
    (hrun : (execOp a.eval o).run P w = .ok (.value v) w') (h : wpList P ops Q rest (a.put o.dst v) w') : wpList P ops Q (o :: rest) a w :=
  wpList_plain hg fun K hK => by
    unfold Oper.wp
    rw [hrun, Oper.upon_value]
    exact hK _ _ h
end Go.Proofs.Ytgimjfffdnopiaa
