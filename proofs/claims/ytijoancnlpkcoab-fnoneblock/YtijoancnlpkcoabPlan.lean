/- A region that draws its order, walked by a plan: operations that yield in every world are taken first; where one operation alone can come up it is carried out. -/
import Derived.Test.YtijoancnlpkcoabFree
namespace Go.Proofs.Ytijoancnlpkcoab

section
variable {P : Program} {ops : Array Oper} {md : Region.Mode} {Q : Exit → Act → World → Prop}

theorem wp_then {o : Oper} {a : Act} {w : World} {K R : Act → World → Prop} (hh : o.wp P a w K (Exit.then R Q)) : o.wp P a w K Q := by
  unfold Oper.wp at *
  generalize (execOp a.eval o).run P w = r at *
  cases r with
  | ok n w' =>
    cases n with
    | enter f args =>
      simp only [Oper.upon] at hh ⊢
      exact Calls.mono hh (fun e w'' he => by cases e <;> exact he)
    | _ => exact hh
  | halt x w' => cases x <;> exact hh

/-- The operations with these numbers. -/
def pick (l : List Oper) (is : List Nat) : List Oper := is.filterMap fun i => l[i]?
def listAll (is : List Nat) (listed : Array Bool) : Array Bool := is.foldl (fun b i => b.setIfInBounds i true) listed

def forcedB (md : Region.Mode) (ops : Array Oper) : List Nat → Array Bool → Bool
  | [], _ => true
  | i :: r, listed => decide (i < ops.size) && decide (Region.ready md ops listed = [i]) && forcedB md ops r (listed.setIfInBounds i true)
def takeB (md : Region.Mode) (ops : Array Oper) : List Nat → Array Bool → Bool
  | [], _ => true
  | i :: r, listed => decide (i < ops.size) && (Region.ready md ops listed).contains i && Region.free md ops listed i && takeB md ops r (listed.setIfInBounds i true)

theorem wpAny_forced {l : List Oper} (g : Nat) : ∀ (is : List Nat) (listed : Array Bool) (a : Act) (w : World), forcedB md l.toArray is listed = true →
    wpList P l.toArray (Exit.then (fun a' w' => wpAny P md l.toArray Q g (listAll is listed) a' w') Q) (pick l is) a w → wpAny P md l.toArray Q (is.length + g) listed a w
  | [], listed, a, w, _, h => by rw [List.length_nil, Nat.zero_add]; exact h
  | i :: r, listed, a, w, hB, h => by
    simp only [forcedB, Bool.and_eq_true, decide_eq_true_eq, List.size_toArray] at hB
    obtain ⟨⟨hi, hr⟩, hB'⟩ := hB
    have e : (i :: r).length + g = (r.length + g) + 1 := by simp; omega
    rw [e]
    refine ⟨fun h0 => (by rw [hr] at h0; cases h0), fun j hj => ?_⟩
    rw [hr] at hj
    have : j = i := by simpa using hj
    subst this
    have hp : pick l (j :: r) = l[j] :: pick l r := by simp [pick, hi]
    rw [hp] at h
    unfold wpOp
    have ho : l.toArray[j]? = some l[j] := by simp [hi]
    simp only [ho]
    simp only [wpList] at h
    split at h
    · rename_i hw
      rw [if_pos hw]
      rcases h with h | h
      · exact .inl (Oper.wp_mono (fun a' w' h' => wpAny_forced g r (listed.setIfInBounds j true) a' w' hB' h') (wp_then h))
      · exact .inr h
    · rename_i hw
      rw [if_neg hw]
      exact wpAny_forced g r (listed.setIfInBounds j true) _ w hB' h

theorem wpAny_takes {l : List Oper} (g : Nat) (hsel : Region.noSelect l.toArray = true) (hQ : ∀ d v c a w, Q (.panic c) (Act.put a d v) w → Q (.panic c) a w) : ∀ (is : List Nat) (listed : Array Bool) (a : Act) (w : World), takeB md l.toArray is listed = true →
    wpFree P l.toArray (fun a' => wpAny P md l.toArray Q g (listAll is listed) a' w) (pick l is) a → wpAny P md l.toArray Q (is.length + g) listed a w
  | [], listed, a, w, _, h => by rw [List.length_nil, Nat.zero_add]; exact h
  | i :: r, listed, a, w, hB, h => by
    simp only [takeB, Bool.and_eq_true, decide_eq_true_eq, List.size_toArray] at hB
    obtain ⟨⟨⟨hi, hr⟩, hf⟩, hB'⟩ := hB
    have e : (i :: r).length + g = (r.length + g) + 1 := by simp; omega
    rw [e]
    have hp : pick l (i :: r) = l[i] :: pick l r := by simp [pick, hi]
    rw [hp] at h
    obtain ⟨v, hy, hrest⟩ := h
    refine wpAny_take (i := i) (by simp [hi]) hsel hf hr (fun c a w => hQ _ _ c a w) hy ?_
    exact wpAny_takes g hsel hQ r (listed.setIfInBounds i true) _ w hB' hrest

/-- One operation alone can come up. -/
theorem wpAny_one {l : List Oper} {listed : Array Bool} {a : Act} {w : World} (i g : Nat) {o : Oper} (hr : Region.ready md l.toArray listed = [i]) (ho : l[i]? = some o) (hw : Region.wanted o (yielded l.toArray a.tmps) = true)
    (h : ∀ K : Act → World → Prop, (∀ a w, wpAny P md l.toArray Q g (listed.setIfInBounds i true) a w → K a w) → o.wp P a w K Q) : wpAny P md l.toArray Q (g + 1) listed a w := by
  refine ⟨fun h0 => (by rw [hr] at h0; cases h0), fun j hj => ?_⟩
  rw [hr] at hj
  have : j = i := by simpa using hj
  subst this
  unfold wpOp
  have ho' : l.toArray[j]? = some o := by simpa using ho
  simp only [ho']
  rw [if_pos hw]
  exact .inl (h _ (fun _ _ h' => h'))

theorem wpAny_over {l : List Oper} {listed : Array Bool} {a : Act} {w : World} (hr : Region.ready md l.toArray listed = []) (h : Q .normal a w) : wpAny P md l.toArray Q 0 listed a w := ⟨hr, h⟩

theorem wp_region_plan {id : Nat} {a : Act} {w : World} {l : List Oper} (hm : P.follows .mixedOrders = true) (n : Nat) (hn : l.length = n)
    (h : wpAny P .any l.toArray Q n (Array.replicate n false) a w.drew) : (Code.region id l.toArray true).wp P Q a w := by
  subst hn
  refine wp_region_any hm ?_
  simpa using h
end
end Go.Proofs.Ytijoancnlpkcoab
