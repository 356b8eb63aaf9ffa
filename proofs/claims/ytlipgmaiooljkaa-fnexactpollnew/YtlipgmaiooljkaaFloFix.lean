/- A region in any order whose answers are known ahead, but for new boxes. -/
import Derived.Test.YtlipgmaiooljkaaFlo
import Derived.Test.YtlipgmaiooljkaaRecs
namespace Go.Proofs.Ytlipgmaiooljkaa
open Go.RowKit
set_option linter.unusedVariables false

/-- What is known of an operation's answer: the value told ahead, or a new box of the cells told ahead. -/
def FixP (S : Nat) (vals : Nat → Value) (bx : Nat → Option (Array Value × TypeId)) (i : Nat) (v : Value) (w : World) : Prop :=
  match bx i with
  | none => v = vals i
  | some ct => ∃ g, v = .pointer (some ⟨g, 0, none⟩) ∧ S ≤ g ∧ Box w g ct.1 ct.2
theorem FixP.keep {S : Nat} {vals : Nat → Value} {bx : Nat → Option (Array Value × TypeId)} {w w' : World} (hb : Below w.heap.size w w') (i : Nat) (v : Value) (h : FixP S vals bx i v w) : FixP S vals bx i v w' := by
  unfold FixP at h ⊢
  cases hbx : bx i with
  | none => rw [hbx] at h; exact h
  | some ct =>
    rw [hbx] at h
    obtain ⟨g, h1, h2, h3⟩ := h
    exact ⟨g, h1, h2, h3.keep hb h3.lt⟩
end Go.Proofs.Ytlipgmaiooljkaa
