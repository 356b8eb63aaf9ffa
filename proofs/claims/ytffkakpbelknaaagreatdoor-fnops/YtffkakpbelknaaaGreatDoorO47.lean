/- Parts of the proof. -/
import Derived.Test.YtffkakpbelknaaaGreatDoorO3
import Derived.Test.YtffkakpbelknaaaGreatDoorO8
namespace Go.Proofs.YtffkakpbelknaaaGreatDoor
set_option maxHeartbeats 4000000
set_option maxRecDepth 100000
open Go.RowKit
set_option linter.unusedVariables false
def FixP (S : Nat) (vals : Nat -> Value) (bx : Nat -> Option (Array Value × TypeId)) (i : Nat) (v : Value) (w : World) : Prop :=
 match bx i with
 | none => v = vals i
 | some ct => ∃ g, v = .pointer (some ⟨g, 0, none⟩) /\ S <= g /\ Box w g ct.1 ct.2
theorem FixP.keep {S : Nat} {vals : Nat -> Value} {bx : Nat -> Option (Array Value × TypeId)} {w w' : World} (hb : Below w.heap.size w w') (i : Nat) (v : Value) (h : FixP S vals bx i v w) : FixP S vals bx i v w' := by
 unfold FixP at h ⊢
 cases hbx : bx i with
 | none => rw [hbx] at h; exact h
 | some ct =>
  rw [hbx] at h
  obtain ⟨g, h1, h2, h3⟩ := h
  exact ⟨g, h1, h2, h3.keep hb h3.lt⟩
inductive Kd where
 | val (v : Value)
 | box (n : Nat) (t : TypeId)
 | put (cs : Array Value) (t : TypeId)
def FixQ (S : Nat) (k : Nat -> Kd) (i : Nat) (v : Value) (w : World) : Prop :=
 match k i with
 | .val x => v = x
 | .box n t => ∃ g cs, v = .pointer (some ⟨g, 0, none⟩) /\ S <= g /\ cs.size = n /\ Box w g cs t
 | .put cs t => ∃ g, v = .pointer (some ⟨g, 0, none⟩) /\ S <= g /\ Box w g cs t
theorem FixQ.keep {S : Nat} {k : Nat -> Kd} {w w' : World} (hb : Below w.heap.size w w') (i : Nat) (v : Value) (h : FixQ S k i v w) : FixQ S k i v w' := by
 unfold FixQ at h ⊢
 split at h
 ·exact h
 ·obtain ⟨g, cs, h1, h2, h3, h4⟩ := h; exact ⟨g, cs, h1, h2, h3, h4.keep hb h4.lt⟩
 ·obtain ⟨g, h1, h2, h3⟩ := h; exact ⟨g, h1, h2, h3.keep hb h3.lt⟩
theorem FixQ.filled {S g : Nat} {k : Nat -> Kd} {w w' : World} {cs fin : Array Value} {t : TypeId} (hx : Box w g cs t) (hsz : cs.size = fin.size) (hx' : Box w' g fin t) (ho : ∀ j, j ≠ g -> w'.heap[j]? = w.heap[j]?) (hp : ∀ j cs' t', k j = .put cs' t' -> t' = t -> cs' = fin) (i : Nat) (v : Value) (h : FixQ S k i v w) : FixQ S k i v w' := by
 unfold FixQ at h ⊢
 split at h
 ·exact h
 ·obtain ⟨g', cs', h1, h2, h3, h4⟩ := h
  by_cases e : g' = g
  ·subst e
   have e2 : some (Obj.cells cs' _ (0, 0)) = some (Obj.cells cs t (0, 0)) := h4.symm.trans hx
   injection e2 with e3
   injection e3 with e4 e5 e6
   subst e4 e5
   exact ⟨g', fin, h1, h2, by omega, hx'⟩
  ·exact ⟨g', cs', h1, h2, h3, (ho g' e).trans h4⟩
 ·rename_i cs' t' hk
  obtain ⟨g', h1, h2, h4⟩ := h
  by_cases e : g' = g
  ·subst e
   have e2 : some (Obj.cells cs' t' (0, 0)) = some (Obj.cells cs t (0, 0)) := h4.symm.trans hx
   injection e2 with e3
   injection e3 with e4 e5 e6
   have e7 := hp i cs' t' hk e5
   subst e7 e5
   exact ⟨g', h1, h2, hx'⟩
  ·exact ⟨g', h1, h2, (ho g' e).trans h4⟩
theorem Box.filled {g : Nat} {t : TypeId} (us : List Value) : ∀ (o : Nat) (w : World) (xs : List Value), Box w g xs.toArray t -> Box (putRow g o us w) g (setL o us xs).toArray t := by
 induction us with
 | nil => intro o w xs h; exact h
 | cons u us ih =>
  intro o w xs h
  refine ih (o + 1) _ _ ?_
  have := h.set o u
  rw [List.setIfInBounds_toArray] at this
  exact this
theorem Box.fillAll {w : World} {g : Nat} {t : TypeId} {xs us : List Value} (h : Box w g xs.toArray t) (hl : us.length = xs.length) : Box (putRow g 0 us w) g us.toArray t := by
 have := Box.filled us 0 w xs h
 rw [setL_eq us 0 xs (by omega), Nat.zero_add, hl, List.drop_length, List.take_zero, List.append_nil, List.nil_append] at this
 exact this
theorem below_putRow (g B : Nat) (hB : B <= g) (us : List Value) : ∀ (o : Nat) (w : World), Below B w (putRow g o us w) := by
 induction us with
 | nil => intro o w; exact Below.refl _ _
 | cons u us ih =>
  intro o w
  exact ((Below.refl B w).setCell (p := ⟨g, o, none⟩) hB u).trans (ih (o + 1) _)
theorem arrS {cs : Array Value} {n : Nat} (h : cs.size = n) : ∃ l : List Value, cs = l.toArray /\ l.length = n := ⟨cs.toList, by simp, by simpa using h⟩
end Go.Proofs.YtffkakpbelknaaaGreatDoor
