/- A region in any order whose answers are known ahead, or by what holds of them. -/
import Derived.Test.YtgimjfffdnopiaaDoorFloFix
namespace Go.Proofs.YtgimjfffdnopiaaDoor
open Go.RowKit
set_option linter.unusedVariables false

/-- What is known of an operation's answer: a value, what holds of it, a new box of so many cells. -/
inductive Ke where
  | val (v : Value)
  | ex (P : Value → World → Prop)
  | box (n : Nat) (t : TypeId)
def KeP (S : Nat) (k : Nat → Ke) (i : Nat) (v : Value) (w : World) : Prop :=
  match k i with
  | .val x => v = x
  | .ex P => P v w
  | .box n t => ∃ g cs, v = .pointer (some ⟨g, 0, none⟩) ∧ S ≤ g ∧ cs.size = n ∧ Box w g cs t
theorem FloS.stepN {Post : Nat → Value → World → Prop} {Fr : World → Prop} {c : Nat → Bool} {s : Nat → Value} {w : World} (h : FloS Post Fr c s w) (i : Nat) (v : Value) (w' : World) (hfr : Fr w') (hst : ∀ j u, j ≠ i → Post j u w → Post j u w') (hp : Post i v w') : FloS Post Fr (up c i true) (up s i v) w' := by
  refine ⟨hfr, fun j hj => ?_⟩
  unfold up at hj ⊢
  by_cases e : j = i
  · subst e; rw [if_pos rfl]; exact hp
  · rw [if_neg e] at hj ⊢
    exact hst j _ e (h.k j hj)
/-- A slot that held something ahead of the region. -/
def slE (d : Value) (c : Nat → Bool) (s : Nat → Value) (i : Nat) : Value := if c i = true then s i else d
theorem slE_on {d : Value} {c : Nat → Bool} {s : Nat → Value} {i : Nat} (h : c i = true) : slE d c s i = s i := if_pos h
/-- What holds of an answer goes on holding when blocks are made. -/
def exB : Ke → Prop
  | .ex P => ∀ v w w', Below w.heap.size w w' → P v w → P v w'
  | _ => True
def exG (rb : Nat) : Ke → Prop
  | .ex P => ∀ v w w', w.grownBy w' (some rb) → P v w → P v w'
  | _ => True
/-- And when a box of this type from S on is filled. -/
def exP (S : Nat) (t : TypeId) : Ke → Prop
  | .ex P => ∀ v w g cs fin, S ≤ g → Box w g cs t → P v w → P v (putRow g 0 fin w)
  | _ => True
theorem ke_of {p : Ke → Prop} {kl : List Ke} (h : ∀ x ∈ kl, p x) (h0 : p (.val undef)) (j : Nat) : p (kl.getD j (.val undef)) := by
  rw [List.getD_eq_getElem?_getD]
  cases hg : kl[j]? with
  | none => exact h0
  | some x => exact h x (List.mem_of_getElem? hg)
theorem KeP.keep {S : Nat} {k : Nat → Ke} {w w' : World} (hk : ∀ j, exB (k j)) (hb : Below w.heap.size w w') (i : Nat) (v : Value) (h : KeP S k i v w) : KeP S k i v w' := by
  have hi := hk i
  unfold KeP at h ⊢
  split at h
  · exact h
  · rename_i P hP; rw [hP] at hi; exact hi _ _ _ hb h
  · obtain ⟨g, cs, h1, h2, h3, h4⟩ := h; exact ⟨g, cs, h1, h2, h3, h4.keep hb h4.lt⟩
theorem KeP.grow {S rb : Nat} {k : Nat → Ke} {w w' : World} (hk : ∀ j, exG rb (k j)) (hrb : rb < S) (hb : w.grownBy w' (some rb)) (i : Nat) (v : Value) (h : KeP S k i v w) : KeP S k i v w' := by
  have hi := hk i
  unfold KeP at h ⊢
  split at h
  · exact h
  · rename_i P hP; rw [hP] at hi; exact hi _ _ _ hb h
  · obtain ⟨g, cs, h1, h2, h3, h4⟩ := h
    exact ⟨g, cs, h1, h2, h3, (hb.block g h4.lt (fun e => by have := Option.some.inj e; omega)).trans h4⟩
theorem KeP.filledN {S g i0 : Nat} {k : Nat → Ke} {w : World} {cs : Array Value} {us : List Value} {t : TypeId} (hk : ∀ j, j ≠ i0 → exP S t (k j)) (hS : S ≤ g) (hx : Box w g cs t) (hsz : cs.size = us.length) (i : Nat) (hne : i ≠ i0) (v : Value) (h : KeP S k i v w) : KeP S k i v (putRow g 0 us w) := by
  have hi := hk i hne
  unfold KeP at h ⊢
  split at h
  · exact h
  · rename_i P hP; rw [hP] at hi; exact hi _ _ _ _ _ hS hx h
  · obtain ⟨g', cs', h1, h2, h3, h4⟩ := h
    by_cases e : g' = g
    · subst e
      have e2 : some (Obj.cells cs' _ (0, 0)) = some (Obj.cells cs t (0, 0)) := h4.symm.trans hx
      injection e2 with e3
      injection e3 with e4 e5 e6
      subst e4 e5
      obtain ⟨xs, rfl, hl⟩ := arrS hsz
      exact ⟨g', us.toArray, h1, h2, by simp; omega, Box.fillAll hx hl.symm⟩
    · exact ⟨g', cs', h1, h2, h3, (putRow_other g us 0 w g' e).trans h4⟩
theorem gw_below16 {w wr w' : World} {row : Option Nat} {B : Nat} (h : w.grownBy wr row) (hb : Below B wr w') (hB : w.heap.size ≤ B) : w.grownBy w' row :=
  ⟨hb.os.trans h.os, hb.tape.trans h.tape, hb.output.trans h.output, Nat.le_trans h.size hb.size, fun k hk hne => (hb.block k (by omega)).trans (h.block k hk hne)⟩
theorem putRow_grown (g : Nat) (us : List Value) (w0 w : World) (rb : Nat) (hg : w0.heap.size ≤ g) (h : w0.grownBy w (some rb)) : w0.grownBy (putRow g 0 us w) (some rb) := gw_below16 h (below_putRow g w0.heap.size hg us 0 w) (Nat.le_refl _)
end Go.Proofs.YtgimjfffdnopiaaDoor
