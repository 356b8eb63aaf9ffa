/- Joined: FreeA, Flo. -/
import Derived.WalkKit
import Derived.StillTail
import Derived.Deep.RegionHeld3
import Derived.OrdersHeld
import Derived.Tactics
/- FreeA -/
namespace Go.Proofs.Ytffkakpbelknaaa

section
variable {P : Program} {ops : Array Oper} {md : Region.Mode} {Q : Exit → Act → World → Prop}
/-- Each operation of a list, in its order, yields in every world. -/
def wpFree (P : Program) (ops : Array Oper) (R : Act → Prop) : List Oper → Act → Prop
  | [], a => R a
  | o :: l, a => ∃ v, Yields P ops o v a ∧ wpFree P ops R l (a.put o.dst v)
theorem wpFree_step {R : Act → Prop} {o : Oper} {l : List Oper} {a : Act} (v : Value) (hw : Region.wanted o (yielded ops a.tmps) = true) (hy : ∀ w, (execOp a.eval o).run P w = .ok (.value v) w) (h : wpFree P ops R l (a.put o.dst v)) : wpFree P ops R (o :: l) a := ⟨v, .inl ⟨hw, hy⟩, h⟩
theorem wpFree_nil {R : Act → Prop} {a : Act} (h : R a) : wpFree P ops R [] a := h

theorem wpAny_of_free (hsel : Region.noSelect ops = true) (hQ : ∀ d v c a w, Q (.panic c) (Act.put a d v) w → Q (.panic c) a w) (tail : List Oper) (n : Nat) (w : World) (ht : ∀ j, tail[j]? = ops[n + j]?) :
    ∀ (l : List Oper) (k : Nat) (listed : Array Bool) (a : Act), (∀ j, j < l.length → l[j]? = ops[k + j]?) → k + l.length = n →
    Region.lexHead md ops tail.length l.length k listed = true → wpFree P ops (fun a' => wpList P ops Q tail a' w) l a → wpAny P md ops Q (l.length + tail.length) listed a w
  | [], k, listed, a, _, hk, hB, h => by
    have : k = n := by simpa using hk
    subst this
    rw [List.length_nil, Nat.zero_add]
    exact wpAny_of_seq tail k listed a w ht hB h
  | o :: l, k, listed, a, hl, hk, hB, h => by
    obtain ⟨v, hy, hr⟩ := h
    have h0 : ops[k]? = some o := by simpa using (hl 0 (by simp)).symm
    simp only [List.length_cons, Region.lexHead, Bool.and_eq_true] at hB
    obtain ⟨⟨hrd, hf⟩, hB'⟩ := hB
    have e : (o :: l).length + tail.length = (l.length + tail.length) + 1 := by simp; omega
    rw [e]
    refine wpAny_take h0 hsel hf hrd (fun c a w => hQ _ _ c a w) hy ?_
    exact wpAny_of_free hsel hQ tail n w ht l (k + 1) _ _ (fun j hj => by have := hl (j + 1) (by simp; omega); simpa [Nat.add_assoc, Nat.add_comm 1 j] using this) (by simp only [List.length_cons] at hk; omega) hB' hr

/-- A region that draws its order: its first n operations yield in every world; the others have one order. -/
theorem wp_region_free_tail {id : Nat} {a : Act} {w : World} {l : List Oper} (n : Nat) (hm : P.follows .mixedOrders = true) (hsel : Region.noSelect l.toArray = true) (hn : n ≤ l.length)
    (hB : Region.lexHead .any l.toArray (l.length - n) n 0 (Array.replicate l.length false) = true) (hQ : ∀ d v c a w, Q (.panic c) (Act.put a d v) w → Q (.panic c) a w)
    (h : wpFree P l.toArray (fun a' => wpList P l.toArray Q (l.drop n) a' w.drew) (l.take n) a) : (Code.region id l.toArray true).wp P Q a w := by
  refine wp_region_any hm ?_
  have htl : (l.take n).length = n := by simp; omega
  have hdl : (l.drop n).length = l.length - n := by simp
  have := wpAny_of_free (md := .any) hsel hQ (l.drop n) n w.drew (fun j => by simp) (l.take n) 0 (Array.replicate l.length false) a (fun j hj => by
    have hj' : j < n := by rw [htl] at hj; exact hj
    simp [hj']) (by rw [htl]; omega) (by rw [htl, hdl]; exact hB) h
  rw [htl, hdl, show n + (l.length - n) = l.length by omega] at this
  simpa using this
end

end Go.Proofs.Ytffkakpbelknaaa

namespace Go.Proofs.Ytffkakpbelknaaa

section
variable {P : Program} {ops : Array Oper} {md : Region.Mode} {Q : Exit → Act → World → Prop}

theorem wp_then {o : Oper} {a : Act} {w : World} {K R : Act → World → Prop} (hh : o.wp P a w K (Exit.then R Q)) : o.wp P a w K Q := by
  unfold Oper.wp at *
  generalize (execOp a.eval o).run P w = r at *
  cases r with
  | ok n w' =>
    cases n with
    | enter f args =>
      simp only [Oper.upon] at hh ⊢
      exact Calls.mono hh (fun e w'' he => by cases e <;> exact he)
    | _ => exact hh
  | halt x w' => cases x <;> exact hh

/-- The operations with these numbers. -/
def pick (l : List Oper) (is : List Nat) : List Oper := is.filterMap fun i => l[i]?
def listAll (is : List Nat) (listed : Array Bool) : Array Bool := is.foldl (fun b i => b.setIfInBounds i true) listed

def forcedB (md : Region.Mode) (ops : Array Oper) : List Nat → Array Bool → Bool
  | [], _ => true
  | i :: r, listed => decide (i < ops.size) && decide (Region.ready md ops listed = [i]) && forcedB md ops r (listed.setIfInBounds i true)
def takeB (md : Region.Mode) (ops : Array Oper) : List Nat → Array Bool → Bool
  | [], _ => true
  | i :: r, listed => decide (i < ops.size) && (Region.ready md ops listed).contains i && Region.free md ops listed i && takeB md ops r (listed.setIfInBounds i true)

theorem wpAny_forced {l : List Oper} (g : Nat) : ∀ (is : List Nat) (listed : Array Bool) (a : Act) (w : World), forcedB md l.toArray is listed = true →
    wpList P l.toArray (Exit.then (fun a' w' => wpAny P md l.toArray Q g (listAll is listed) a' w') Q) (pick l is) a w → wpAny P md l.toArray Q (is.length + g) listed a w
  | [], listed, a, w, _, h => by rw [List.length_nil, Nat.zero_add]; exact h
  | i :: r, listed, a, w, hB, h => by
    simp only [forcedB, Bool.and_eq_true, decide_eq_true_eq, List.size_toArray] at hB
    obtain ⟨⟨hi, hr⟩, hB'⟩ := hB
    have e : (i :: r).length + g = (r.length + g) + 1 := by simp; omega
    rw [e]
    refine ⟨fun h0 => (by rw [hr] at h0; cases h0), fun j hj => ?_⟩
    rw [hr] at hj
    have : j = i := by simpa using hj
    subst this
    have hp : pick l (j :: r) = l[j] :: pick l r := by simp [pick, hi]
    rw [hp] at h
    unfold wpOp
    have ho : l.toArray[j]? = some l[j] := by simp [hi]
    simp only [ho]
    simp only [wpList] at h
    split at h
    · rename_i hw
      rw [if_pos hw]
      rcases h with h | h
      · exact .inl (Oper.wp_mono (fun a' w' h' => wpAny_forced g r (listed.setIfInBounds j true) a' w' hB' h') (wp_then h))
      · exact .inr h
    · rename_i hw
      rw [if_neg hw]
      exact wpAny_forced g r (listed.setIfInBounds j true) _ w hB' h

theorem wpAny_takes {l : List Oper} (g : Nat) (hsel : Region.noSelect l.toArray = true) (hQ : ∀ d v c a w, Q (.panic c) (Act.put a d v) w → Q (.panic c) a w) : ∀ (is : List Nat) (listed : Array Bool) (a : Act) (w : World), takeB md l.toArray is listed = true →
    wpFree P l.toArray (fun a' => wpAny P md l.toArray Q g (listAll is listed) a' w) (pick l is) a → wpAny P md l.toArray Q (is.length + g) listed a w
  | [], listed, a, w, _, h => by rw [List.length_nil, Nat.zero_add]; exact h
  | i :: r, listed, a, w, hB, h => by
    simp only [takeB, Bool.and_eq_true, decide_eq_true_eq, List.size_toArray] at hB
    obtain ⟨⟨⟨hi, hr⟩, hf⟩, hB'⟩ := hB
    have e : (i :: r).length + g = (r.length + g) + 1 := by simp; omega
    rw [e]
    have hp : pick l (i :: r) = l[i] :: pick l r := by simp [pick, hi]
    rw [hp] at h
    obtain ⟨v, hy, hrest⟩ := h
    refine wpAny_take (i := i) (by simp [hi]) hsel hf hr (fun c a w => hQ _ _ c a w) hy ?_
    exact wpAny_takes g hsel hQ r (listed.setIfInBounds i true) _ w hB' hrest

/-- One operation alone can come up. -/
theorem wpAny_one {l : List Oper} {listed : Array Bool} {a : Act} {w : World} (i g : Nat) {o : Oper} (hr : Region.ready md l.toArray listed = [i]) (ho : l[i]? = some o) (hw : Region.wanted o (yielded l.toArray a.tmps) = true)
    (h : ∀ K : Act → World → Prop, (∀ a w, wpAny P md l.toArray Q g (listed.setIfInBounds i true) a w → K a w) → o.wp P a w K Q) : wpAny P md l.toArray Q (g + 1) listed a w := by
  refine ⟨fun h0 => (by rw [hr] at h0; cases h0), fun j hj => ?_⟩
  rw [hr] at hj
  have : j = i := by simpa using hj
  subst this
  unfold wpOp
  have ho' : l.toArray[j]? = some o := by simpa using ho
  simp only [ho']
  rw [if_pos hw]
  exact .inl (h _ (fun _ _ h' => h'))

theorem wpAny_over {l : List Oper} {listed : Array Bool} {a : Act} {w : World} (hr : Region.ready md l.toArray listed = []) (h : Q .normal a w) : wpAny P md l.toArray Q 0 listed a w := ⟨hr, h⟩

theorem wp_region_plan {id : Nat} {a : Act} {w : World} {l : List Oper} (hm : P.follows .mixedOrders = true) (n : Nat) (hn : l.length = n)
    (h : wpAny P .any l.toArray Q n (Array.replicate n false) a w.drew) : (Code.region id l.toArray true).wp P Q a w := by
  subst hn
  refine wp_region_any hm ?_
  simpa using h
end
end Go.Proofs.Ytffkakpbelknaaa

namespace Go.Proofs.Ytffkakpbelknaaa

section
variable {P : Program} {ops : Array Oper} {md : Region.Mode} {Q : Exit → Act → World → Prop} {A B : World → Prop} {t : Nat}

/-- What is held of the world: A always, B till operation t has come up. -/
def Sx (A B : World → Prop) (t : Nat) (L : Array Bool) (w : World) : Prop := A w ∧ (L.getD t true = false → B w)

def wpAnyT (P : Program) (md : Region.Mode) (ops : Array Oper) (Q : Exit → Act → World → Prop) (A B : World → Prop) (t : Nat) : Nat → Array Bool → Act → World → Prop
  | 0, L, a, w => Region.ready md ops L = [] ∧ Q .normal a w
  | f + 1, L, a, w => (Region.ready md ops L = [] → Q .normal a w) ∧
      ∀ i ∈ Region.ready md ops L, wpOp P ops Q i (fun a' w' => Sx A B t (L.setIfInBounds i true) w' ∧ wpAnyT P md ops Q A B t f (L.setIfInBounds i true) a' w') a w

theorem wpAny_of_T : ∀ (f : Nat) (L : Array Bool) (a : Act) (w : World), wpAnyT P md ops Q A B t f L a w → wpAny P md ops Q f L a w
  | 0, _, _, _, h => h
  | f + 1, _, _, _, h => ⟨h.1, fun i hi => wpOp_mono (fun a' w' h' => wpAny_of_T f _ a' w' h'.2) (h.2 i hi)⟩

theorem sx_set {i : Nat} (hit : i ≠ t) (L : Array Bool) (w : World) : Sx A B t (L.setIfInBounds i true) w ↔ Sx A B t L w := by
  unfold Sx
  rw [getD_set_ne true hit]

theorem wpAnyT_first {C : World → Prop} {i : Nat} {oi : Oper} {v : Value} (hi : ops[i]? = some oi) (hsel : ∀ (j : Nat) (o : Oper) cs b, ops[j]? = some o → o.op ≠ .select cs b)
    (hQ : ∀ c a w, Q (.panic c) (Act.put a oi.dst v) w → Q (.panic c) a w) (hit : i ≠ t) (K : Array Bool → Prop) (hC : ∀ L, K L → ∀ w, Sx A B t L w → C w)
    (hK : ∀ L j oj, ops[j]? = some oj → (∀ e ∈ oj.after, Region.binds md e = true → e.on ≠ i) → K L → K (L.setIfInBounds j true)) :
    ∀ (f : Nat) (L : Array Bool) (a : Act) (w : World),
      (∀ j oj, ops[j]? = some oj → j ≠ i → L.getD j true = false → (∀ e ∈ oj.after, Region.binds md e = true → e.on ≠ i) → oi.apart ops oj = true) →
      i ∈ Region.ready md ops L → K L → YieldsIf P ops C oi v a → Sx A B t L w →
      wpAnyT P md ops Q A B t f (L.setIfInBounds i true) (a.put oi.dst v) w → wpAnyT P md ops Q A B t (f + 1) L a w := by
  intro f
  induction f with
  | zero =>
    intro L a w _ hr hk hy hS H
    refine ⟨fun h => (by rw [h] at hr; cases hr), fun j hj => ?_⟩
    by_cases hji : j = i
    · subst hji
      exact hy.wpOp hi (hC L hk w hS) ⟨(sx_set hit L w).2 hS, H⟩
    · have h0 := ready_mono hj hji
      rw [H.1] at h0
      cases h0
  | succ f ih =>
    intro L a w hfree hr hk hy hS H
    refine ⟨fun h => (by rw [h] at hr; cases hr), fun j hj => ?_⟩
    by_cases hji : j = i
    · subst hji
      exact hy.wpOp hi (hC L hk w hS) ⟨(sx_set hit L w).2 hS, H⟩
    · have h1 := H.2 j (ready_mono hj hji)
      obtain ⟨hjun, oj, hoj, hall⟩ := mem_ready.1 hj
      have hnot : ∀ e ∈ oj.after, Region.binds md e = true → e.on ≠ i := by
        intro e he hb heq
        have g1 := hall e he hb
        have g0 := (mem_ready.1 hr).1
        rw [heq] at g1
        rcases Nat.lt_or_ge i L.size with g | g
        · simp [g] at g0 g1
          rw [g0] at g1
          cases g1
        · simp [Array.getElem?_eq_none g] at g1
      have h2 := wpOp_putIf hoj (hfree j oj hoj hji hjun hnot) (fun cs b => hsel i oi cs b hi) (fun cs b => hsel j oj cs b hoj) hQ hy h1
      refine wpOp_mono (fun a' w' h3 => ?_) h2
      have hc : (L.setIfInBounds i true).setIfInBounds j true = (L.setIfInBounds j true).setIfInBounds i true := Array.setIfInBounds_comm _ _ (Ne.symm hji)
      obtain ⟨g1, g2, g3⟩ := h3
      rw [hc] at g2 g3
      have g4 := (sx_set hit _ w').1 g2
      refine ⟨g4, ih (L.setIfInBounds j true) a' w' ?_ (ready_mono hr (Ne.symm hji)) (hK L j oj hoj hnot hk) g1 g4 g3⟩
      intro k ok hk' hki hun hno
      refine hfree k ok hk' hki ?_ hno
      by_cases hjk : j = k
      · subst hjk; exact hjun
      · rw [getD_set_ne true hjk] at hun; exact hun

/-- Each operation of a list, in its order, yields in every world that meets C. -/
def wpIf (P : Program) (ops : Array Oper) (C : World → Prop) (R : Act → Prop) : List Oper → Act → Prop
  | [], a => R a
  | o :: l, a => ∃ v, YieldsIf P ops C o v a ∧ wpIf P ops C R l (a.put o.dst v)
theorem wpIf_step {C : World → Prop} {R : Act → Prop} {o : Oper} {l : List Oper} {a : Act} (v : Value) (hw : Region.wanted o (yielded ops a.tmps) = true) (hy : ∀ w, C w → (execOp a.eval o).run P w = .ok (.value v) w) (h : wpIf P ops C R l (a.put o.dst v)) : wpIf P ops C R (o :: l) a := ⟨v, .inl ⟨hw, hy⟩, h⟩
theorem wpIf_nil {C : World → Prop} {R : Act → Prop} {a : Act} (h : R a) : wpIf P ops C R [] a := h

/-- Operation t waits for i. -/
def waitB (md : Region.Mode) (ops : Array Oper) (t i : Nat) : Bool := (ops[t]?).any fun o => o.after.any fun e => Region.binds md e && e.on == i

theorem wpAnyT_takesA {l : List Oper} (g : Nat) (hsel : Region.noSelect l.toArray = true) (hQ : ∀ d v c a w, Q (.panic c) (Act.put a d v) w → Q (.panic c) a w) : ∀ (is : List Nat) (L : Array Bool) (a : Act) (w : World), is.all (fun i => i != t) = true → takeB md l.toArray is L = true → Sx A B t L w →
    wpIf P l.toArray A (fun a' => Sx A B t (listAll is L) w → wpAnyT P md l.toArray Q A B t g (listAll is L) a' w) (pick l is) a → wpAnyT P md l.toArray Q A B t (is.length + g) L a w
  | [], L, a, w, _, _, hS, h => by rw [List.length_nil, Nat.zero_add]; exact h hS
  | i :: r, L, a, w, ht, hB, hS, h => by
    simp only [takeB, Bool.and_eq_true, decide_eq_true_eq, List.size_toArray] at hB
    obtain ⟨⟨⟨hi, hr⟩, hf⟩, hB'⟩ := hB
    simp only [List.all_cons, Bool.and_eq_true, bne_iff_ne, ne_eq] at ht
    have e : (i :: r).length + g = (r.length + g) + 1 := by simp; omega
    rw [e]
    have hp : pick l (i :: r) = l[i] :: pick l r := by simp [pick, hi]
    rw [hp] at h
    obtain ⟨v, hy, hrest⟩ := h
    have ho : l.toArray[i]? = some l[i] := by simp [hi]
    exact wpAnyT_first (C := A) ho (Region.noSelect_spec hsel) (fun c a w => hQ _ _ c a w) ht.1 (fun _ => True) (fun L _ w h => h.1) (fun _ _ _ _ _ _ => trivial) _ L a w (Region.free_spec ho hf) (by simpa using hr) trivial hy hS
      (wpAnyT_takesA g hsel hQ r (L.setIfInBounds i true) _ w ht.2 hB' ((sx_set ht.1 L w).2 hS) hrest)

theorem wpAnyT_takesB {l : List Oper} (g : Nat) (hsel : Region.noSelect l.toArray = true) (hQ : ∀ d v c a w, Q (.panic c) (Act.put a d v) w → Q (.panic c) a w) : ∀ (is : List Nat) (L : Array Bool) (a : Act) (w : World), is.all (fun i => i != t) = true → is.all (fun i => waitB md l.toArray t i) = true → L.getD t true = false → takeB md l.toArray is L = true → Sx A B t L w →
    wpIf P l.toArray (fun w => A w ∧ B w) (fun a' => Sx A B t (listAll is L) w → wpAnyT P md l.toArray Q A B t g (listAll is L) a' w) (pick l is) a → wpAnyT P md l.toArray Q A B t (is.length + g) L a w
  | [], L, a, w, _, _, _, _, hS, h => by rw [List.length_nil, Nat.zero_add]; exact h hS
  | i :: r, L, a, w, ht, hwt, hun, hB, hS, h => by
    simp only [takeB, Bool.and_eq_true, decide_eq_true_eq, List.size_toArray] at hB
    obtain ⟨⟨⟨hi, hr⟩, hf⟩, hB'⟩ := hB
    simp only [List.all_cons, Bool.and_eq_true, bne_iff_ne, ne_eq] at ht
    simp only [List.all_cons, Bool.and_eq_true] at hwt
    have e : (i :: r).length + g = (r.length + g) + 1 := by simp; omega
    rw [e]
    have hp : pick l (i :: r) = l[i] :: pick l r := by simp [pick, hi]
    rw [hp] at h
    obtain ⟨v, hy, hrest⟩ := h
    have ho : l.toArray[i]? = some l[i] := by simp [hi]
    refine wpAnyT_first (C := fun w => A w ∧ B w) ho (Region.noSelect_spec hsel) (fun c a w => hQ _ _ c a w) ht.1 (fun L => L.getD t true = false) (fun L hL w h => ⟨h.1, h.2 hL⟩) ?_ _ L a w (Region.free_spec ho hf) (by simpa using hr) hun hy hS
      (wpAnyT_takesB g hsel hQ r (L.setIfInBounds i true) _ w ht.2 hwt.2 (by rw [getD_set_ne true ht.1]; exact hun) hB' ((sx_set ht.1 L w).2 hS) hrest)
    intro L j oj hoj hno hL
    by_cases hjt : j = t
    · subst hjt
      have hw1 := hwt.1
      unfold waitB at hw1
      rw [hoj] at hw1
      simp only [Option.any_some, Array.any_eq_true', Bool.and_eq_true, beq_iff_eq] at hw1
      obtain ⟨e, he, hb, heq⟩ := hw1
      exact absurd heq (hno e he hb)
    · rw [getD_set_ne true hjt]; exact hL

/-- One operation alone can come up: behind it what is held is shown anew. -/
theorem wpAnyT_one {l : List Oper} {L : Array Bool} {a : Act} {w : World} (i g : Nat) {o : Oper} (hr : Region.ready md l.toArray L = [i]) (ho : l[i]? = some o) (hw : Region.wanted o (yielded l.toArray a.tmps) = true)
    (h : ∀ K : Act → World → Prop, (∀ a w, Sx A B t (L.setIfInBounds i true) w → (Sx A B t (L.setIfInBounds i true) w → wpAnyT P md l.toArray Q A B t g (L.setIfInBounds i true) a w) → K a w) → o.wp P a w K Q) : wpAnyT P md l.toArray Q A B t (g + 1) L a w := by
  refine ⟨fun h0 => (by rw [hr] at h0; cases h0), fun j hj => ?_⟩
  rw [hr] at hj
  have : j = i := by simpa using hj
  subst this
  unfold wpOp
  have ho' : l.toArray[j]? = some o := by simpa using ho
  simp only [ho']
  rw [if_pos hw]
  exact .inl (h _ (fun _ _ h1 h2 => ⟨h1, h2 h1⟩))

theorem wpAnyT_over {l : List Oper} {L : Array Bool} {a : Act} {w : World} (hr : Region.ready md l.toArray L = []) (h : Q .normal a w) : wpAnyT P md l.toArray Q A B t 0 L a w := ⟨hr, h⟩

theorem wp_region_T {id : Nat} {a : Act} {w : World} {l : List Oper} (A B : World → Prop) (t : Nat) (hm : P.follows .mixedOrders = true) (n : Nat) (hn : l.length = n)
    (h : wpAnyT P .any l.toArray Q A B t n (Array.replicate n false) a w.drew) : (Code.region id l.toArray true).wp P Q a w :=
  wp_region_plan hm n hn (wpAny_of_T _ _ _ _ h)
end
end Go.Proofs.Ytffkakpbelknaaa

namespace Go.Proofs.Ytffkakpbelknaaa

theorem step_to {P : Program} {ops : Array Oper} {rest : List Oper} {o : Oper} {a : Act} {w w' : World} {Q : Exit → Act → World → Prop} {v : Value} (hg : o.guard = none)
    (hrun : (execOp a.eval o).run P w = .ok (.value v) w') (h : wpList P ops Q rest (a.put o.dst v) w') : wpList P ops Q (o :: rest) a w :=
  wpList_plain hg fun K hK => by
    unfold Oper.wp
    rw [hrun, Oper.upon_value]
    exact hK _ _ h
end Go.Proofs.Ytffkakpbelknaaa

/- Flo -/
namespace Go.Proofs.Ytffkakpbelknaaa
set_option linter.unusedVariables false

/-- Every operation waits for earlier ones alone. -/
def backB (md : Region.Mode) (l : List Oper) : Bool := (List.range l.length).all fun i => match l[i]? with
  | some o => o.after.all fun e => !Region.binds md e || decide (e.on < i)
  | none => true
def leftN (L : Array Bool) : Nat := (L.toList.filter (fun b => !b)).length
theorem left_set : ∀ (l : List Bool) (i : Nat), l[i]? = some false → ((l.set i true).filter (fun b => !b)).length + 1 = (l.filter (fun b => !b)).length
  | [], i, h => by cases h
  | b :: l, 0, h => by
    obtain rfl : b = false := by simpa using h
    simp
  | b :: l, i + 1, h => by
    have := left_set l i (by simpa using h)
    rw [List.set_cons_succ]
    cases b
    · simp only [List.filter_cons, Bool.not_false, if_true, List.length_cons]; omega
    · simp only [List.filter_cons, Bool.not_true, Bool.false_eq_true, if_false]; exact this
theorem left_none : ∀ (l : List Bool), (l.filter (fun b => !b)).length = 0 → ∀ (i : Nat) (b : Bool), l[i]? = some b → b = true
  | [], _, i, b, h => by cases h
  | c :: l, hl, i, b, h => by
    cases c
    · simp at hl
    · cases i with
      | zero => simpa using h.symm
      | succ i => exact left_none l (by simpa using hl) i b (by simpa using h)
theorem getD_some {L : Array Bool} {i : Nat} {b d : Bool} (h : L.getD i d = b) (hi : i < L.size) : L.toList[i]? = some b := by
  have e : L.getD i d = L[i] := by simp [Array.getD, hi]
  rw [e] at h
  simp [hi, h]
theorem wpAnyT_inv {P : Program} {md : Region.Mode} {Q : Exit → Act → World → Prop} {t : Nat} {l : List Oper} (hback : backB md l = true) (Inv : Array Bool → Act → World → Prop)
    (hsz : ∀ L a w, Inv L a w → L.size = l.length)
    (hstep : ∀ L a w i o, Inv L a w → l[i]? = some o → L.getD i true = false → (∀ e ∈ o.after, Region.binds md e = true → L.getD e.on false = true) → Region.wanted o (yielded l.toArray a.tmps) = true ∧ o.wp P a w (fun a' w' => Inv (L.setIfInBounds i true) a' w') Q)
    (hend : ∀ L a w, Inv L a w → (∀ i, i < l.length → L.getD i true = true) → Q .normal a w) :
    ∀ (f : Nat) (L : Array Bool) (a : Act) (w : World), Inv L a w → leftN L ≤ f → wpAnyT P md l.toArray Q (fun _ => True) (fun _ => True) t f L a w := by
  have hall : ∀ L a w, Inv L a w → Region.ready md l.toArray L = [] → ∀ i, i < l.length → L.getD i true = true := by
    intro L a w hI hr i
    induction i using Nat.strongRecOn with
    | _ i ih =>
      intro hi
      cases hg : L.getD i true with
      | true => rfl
      | false =>
        exfalso
        have hs := hsz L a w hI
        have hm : i ∈ Region.ready md l.toArray L := by
          unfold Region.ready
          rw [List.mem_filter]
          refine ⟨by rw [List.mem_range]; simpa using hi, ?_⟩
          rw [hg]
          have ho : l.toArray[i]? = some l[i] := by simp [hi]
          rw [ho]
          simp only [Bool.not_false, Bool.true_and, Option.map_some, Option.getD_some, Array.all_eq_true']
          intro e he
          have hb := List.all_eq_true.1 hback i (List.mem_range.2 hi)
          rw [List.getElem?_eq_getElem hi] at hb
          simp only [Array.all_eq_true'] at hb
          cases hbe : Region.binds md e with
          | false => simp
          | true =>
          have he2 : e.on < i := by have h0 := hb e he; rw [hbe] at h0; simpa using h0
          have h3 := ih e.on he2 (by omega)
          have h4 : L.getD e.on false = true := by
            have h5 := getD_some h3 (by omega)
            have h6 : e.on < L.size := by omega
            have h7 : L[e.on] = true := by simpa [h6] using h5
            simp [Array.getD, h6, h7]
          rw [h4]
          simp
        rw [hr] at hm
        cases hm
  intro f
  induction f with
  | zero =>
    intro L a w hI hf
    have hn : ∀ i, i < l.length → L.getD i true = true := by
      intro i hi
      have hs := hsz L a w hI
      cases hg : L.getD i true with
      | true => rfl
      | false => exact absurd (left_none _ (by unfold leftN at hf; omega) i false (getD_some hg (by omega))) (by simp)
    refine ⟨?_, hend L a w hI hn⟩
    unfold Region.ready
    rw [List.filter_eq_nil_iff]
    intro i hi
    rw [hn i (by simpa using hi)]
    simp
  | succ f ih =>
    intro L a w hI hf
    refine ⟨fun hr => hend L a w hI (hall L a w hI hr), fun i hi => ?_⟩
    have hs := hsz L a w hI
    unfold Region.ready at hi
    obtain ⟨h1, h2⟩ := List.mem_filter.1 hi
    have hlt : i < l.length := by simpa using List.mem_range.1 h1
    have ho : l.toArray[i]? = some l[i] := by simp [hlt]
    rw [ho] at h2
    simp only [Option.map_some, Option.getD_some, Bool.and_eq_true, Bool.not_eq_true', Array.all_eq_true'] at h2
    obtain ⟨h3, h4⟩ := h2
    obtain ⟨hw, hwp⟩ := hstep L a w i l[i] hI (List.getElem?_eq_getElem hlt) h3 (fun e he hb => by
      have := h4 e he
      rw [hb] at this
      simpa using this)
    unfold wpOp
    simp only [ho]
    rw [if_pos hw]
    refine .inl (Oper.wp_mono (fun a' w' h => ⟨⟨trivial, fun _ => trivial⟩, ih _ _ _ h ?_⟩) hwp)
    have := left_set L.toList i (getD_some h3 (by omega))
    unfold leftN at hf ⊢
    rw [Array.toList_setIfInBounds]
    omega

/-- Those that float (fl) and are left. -/
def leftF (fl : Nat → Bool) (n : Nat) (L : Array Bool) : Nat := ((List.range n).filter fun i => fl i && !L.getD i true).length
/-- The others wait for all that float. -/
def tailB (md : Region.Mode) (fl : Nat → Bool) (l : List Oper) : Bool := (List.range l.length).all fun i => fl i || (match l[i]? with
  | some o => (List.range l.length).all fun j => !fl j || o.after.any fun e => Region.binds md e && e.on == j
  | none => true)
theorem getD_set2 (L : Array Bool) (i j : Nat) (d : Bool) (hi : i < L.size) : (L.setIfInBounds i true).getD j d = if i = j then true else L.getD j d := by
  by_cases h : i = j
  · subst h; simp [Array.getD, hi]
  · rw [if_neg h]
    simp only [Array.getD, Array.size_setIfInBounds]
    split
    · rename_i hj
      simp [hj, h]
    · rfl
theorem filter_one {α : Type} [DecidableEq α] (p q : α → Bool) : ∀ (l : List α) (x : α), l.Nodup → x ∈ l → p x = true → q x = false → (∀ y ∈ l, y ≠ x → q y = p y) → (l.filter q).length + 1 = (l.filter p).length
  | [], x, _, h, _, _, _ => by cases h
  | a :: l, x, hn, hx, hp, hq, hr => by
    have hn' := List.nodup_cons.1 hn
    by_cases e : a = x
    · subst e
      have : l.filter q = l.filter p := List.filter_congr (fun y hy => hr y (List.mem_cons_of_mem _ hy) (fun h => hn'.1 (h ▸ hy)))
      simp only [List.filter_cons, hp, hq, if_true, List.length_cons, Bool.false_eq_true, if_false, this]
    · have hx' : x ∈ l := by rcases List.mem_cons.1 hx with h | h; exact absurd h.symm e; exact h
      have ih := filter_one p q l x hn'.2 hx' hp hq (fun y hy hne => hr y (List.mem_cons_of_mem _ hy) hne)
      have ha := hr a List.mem_cons_self e
      simp only [List.filter_cons, ha]
      split
      · simp only [List.length_cons]; omega
      · exact ih
theorem wpAnyT_flo {P : Program} {md : Region.Mode} {Q : Exit → Act → World → Prop} {t : Nat} {l : List Oper} (fl : Nat → Bool) (hback : backB md l = true) (htail : tailB md fl l = true) (g : Nat) (Inv : Array Bool → Act → World → Prop)
    (hsz : ∀ L a w, Inv L a w → L.size = l.length)
    (hstep : ∀ L a w i o, Inv L a w → l[i]? = some o → fl i = true → L.getD i true = false → (∀ e ∈ o.after, Region.binds md e = true → L.getD e.on false = true) → Region.wanted o (yielded l.toArray a.tmps) = true ∧ o.wp P a w (fun a' w' => Inv (L.setIfInBounds i true) a' w') Q)
    (hlast : ∀ L a w, Inv L a w → (∀ i, i < l.length → fl i = true → L.getD i true = true) → wpAnyT P md l.toArray Q (fun _ => True) (fun _ => True) t g L a w) :
    ∀ (f : Nat) (L : Array Bool) (a : Act) (w : World), Inv L a w → leftF fl l.length L = f → wpAnyT P md l.toArray Q (fun _ => True) (fun _ => True) t (f + g) L a w := by
  intro f
  induction f with
  | zero =>
    intro L a w hI hf
    rw [Nat.zero_add]
    refine hlast L a w hI (fun i hi hfl => ?_)
    cases hg : L.getD i true with
    | true => rfl
    | false =>
      exfalso
      have hm : i ∈ (List.range l.length).filter fun i => fl i && !L.getD i true := List.mem_filter.2 ⟨List.mem_range.2 hi, by rw [hfl, hg]; rfl⟩
      unfold leftF at hf
      rw [List.eq_nil_of_length_eq_zero hf] at hm
      cases hm
  | succ f ih =>
    intro L a w hI hf
    have hs := hsz L a w hI
    have hex : ∃ i, i < l.length ∧ fl i = true ∧ L.getD i true = false := by
      unfold leftF at hf
      cases hfl : (List.range l.length).filter fun i => fl i && !L.getD i true with
      | nil => rw [hfl] at hf; cases hf
      | cons x r =>
        have hm : x ∈ (List.range l.length).filter fun i => fl i && !L.getD i true := by rw [hfl]; exact List.mem_cons_self
        obtain ⟨h1, h2⟩ := List.mem_filter.1 hm
        simp only [Bool.and_eq_true, Bool.not_eq_true'] at h2
        exact ⟨x, List.mem_range.1 h1, h2.1, h2.2⟩
    rw [Nat.succ_add]
    refine ⟨fun hr => ?_, fun i hi => ?_⟩
    · exfalso
      have hall : ∀ i, i < l.length → L.getD i true = true := by
        intro i
        induction i using Nat.strongRecOn with
        | _ i ih2 =>
          intro hi
          cases hg : L.getD i true with
          | true => rfl
          | false =>
            exfalso
            have hm : i ∈ Region.ready md l.toArray L := by
              unfold Region.ready
              rw [List.mem_filter]
              refine ⟨by rw [List.mem_range]; simpa using hi, ?_⟩
              rw [hg]
              have ho : l.toArray[i]? = some l[i] := by simp [hi]
              rw [ho]
              simp only [Bool.not_false, Bool.true_and, Option.map_some, Option.getD_some, Array.all_eq_true']
              intro e he
              have hb := List.all_eq_true.1 hback i (List.mem_range.2 hi)
              rw [List.getElem?_eq_getElem hi] at hb
              simp only [Array.all_eq_true'] at hb
              cases hbe : Region.binds md e with
              | false => simp
              | true =>
              have he2 : e.on < i := by have h0 := hb e he; rw [hbe] at h0; simpa using h0
              have h3 := ih2 e.on he2 (by omega)
              have h4 : L.getD e.on false = true := by
                have h5 := getD_some h3 (by omega)
                have h6 : e.on < L.size := by omega
                have h7 : L[e.on] = true := by simpa [h6] using h5
                simp [Array.getD, h6, h7]
              rw [h4]
              simp
            rw [hr] at hm
            cases hm
      obtain ⟨i, h1, _, h3⟩ := hex
      rw [hall i h1] at h3
      cases h3
    · unfold Region.ready at hi
      obtain ⟨h1, h2⟩ := List.mem_filter.1 hi
      have hlt : i < l.length := by simpa using List.mem_range.1 h1
      have ho : l.toArray[i]? = some l[i] := by simp [hlt]
      rw [ho] at h2
      simp only [Option.map_some, Option.getD_some, Bool.and_eq_true, Bool.not_eq_true', Array.all_eq_true'] at h2
      obtain ⟨h3, h4⟩ := h2
      have hdeps : ∀ e ∈ l[i].after, Region.binds md e = true → L.getD e.on false = true := fun e he hb => by
        have := h4 e he
        rw [hb] at this
        simpa using this
      cases hfi : fl i with
      | false =>
        exfalso
        have ht := List.all_eq_true.1 htail i (List.mem_range.2 hlt)
        rw [hfi, List.getElem?_eq_getElem hlt] at ht
        simp only [Bool.false_or] at ht
        obtain ⟨j, hj1, hj2, hj3⟩ := hex
        have h5 := List.all_eq_true.1 ht j (List.mem_range.2 hj1)
        rw [hj2] at h5
        simp only [Bool.not_true, Bool.false_or, Array.any_eq_true', Bool.and_eq_true, beq_iff_eq] at h5
        obtain ⟨e, he, hb, heq⟩ := h5
        have h6 := hdeps e he hb
        rw [heq] at h6
        have h7 : j < L.size := by omega
        simp [Array.getD, h7] at h6 hj3
        rw [h6] at hj3
        cases hj3
      | true =>
        obtain ⟨hw, hwp⟩ := hstep L a w i l[i] hI (List.getElem?_eq_getElem hlt) hfi h3 hdeps
        unfold wpOp
        simp only [ho]
        rw [if_pos hw]
        refine .inl (Oper.wp_mono (fun a' w' h => ⟨⟨trivial, fun _ => trivial⟩, ih _ _ _ h ?_⟩) hwp)
        unfold leftF at hf ⊢
        have := filter_one (fun i => fl i && !L.getD i true) (fun j => fl j && !(L.setIfInBounds i true).getD j true) (List.range l.length) i List.nodup_range (List.mem_range.2 hlt) (by rw [hfi, h3]; rfl) (by rw [getD_set2 _ _ _ _ (by omega), if_pos rfl]; simp) (fun y _ hne => by rw [getD_set2 _ _ _ _ (by omega), if_neg (fun h => hne h.symm)])
        omega
/-- What is known of the operations that are done: Post of each one's answer, and Fr of the world. -/
structure FloS (Post : Nat → Value → World → Prop) (Fr : World → Prop) (c : Nat → Bool) (s : Nat → Value) (w : World) : Prop where
  fr : Fr w
  k : ∀ i, c i = true → Post i (s i) w
def up {α : Type} (f : Nat → α) (i : Nat) (x : α) : Nat → α := fun j => if j = i then x else f j
theorem FloS.step {Post : Nat → Value → World → Prop} {Fr : World → Prop} {c : Nat → Bool} {s : Nat → Value} {w : World} (h : FloS Post Fr c s w) (i : Nat) (v : Value) (w' : World) (hfr : Fr w') (hst : ∀ j u, Post j u w → Post j u w') (hp : Post i v w') : FloS Post Fr (up c i true) (up s i v) w' := by
  refine ⟨hfr, fun j hj => ?_⟩
  unfold up at hj ⊢
  by_cases e : j = i
  · subst e; rw [if_pos rfl]; exact hp
  · rw [if_neg e] at hj ⊢
    exact hst j _ (h.k j hj)
def sl (c : Nat → Bool) (s : Nat → Value) (i : Nat) : Value := if c i = true then s i else undef
theorem sl_on {c : Nat → Bool} {s : Nat → Value} {i : Nat} (h : c i = true) : sl c s i = s i := if_pos h
theorem sl_up_self (c : Nat → Bool) (s : Nat → Value) (i : Nat) (v : Value) : sl (up c i true) (up s i v) i = v := by unfold sl up; simp
theorem sl_up_ne (c : Nat → Bool) (s : Nat → Value) (i : Nat) (v : Value) (j : Nat) (h : j ≠ i) : sl (up c i true) (up s i v) j = sl c s j := by unfold sl up; simp [h]
theorem up_self {α : Type} (f : Nat → α) (i : Nat) (x : α) : up f i x i = x := by unfold up; simp
theorem up_ne {α : Type} (f : Nat → α) (i : Nat) (x : α) (j : Nat) (h : j ≠ i) : up f i x j = f j := by unfold up; simp [h]
end Go.Proofs.Ytffkakpbelknaaa
