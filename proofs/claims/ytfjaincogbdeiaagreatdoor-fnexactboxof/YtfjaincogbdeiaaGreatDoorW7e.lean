/- Contracts: DateOk and DayOf of the reference (chapter 7). -/
import Derived.Test.YtfjaincogbdeiaaGreatDoorW7d
import Derived.Test.YtfjaincogbdeiaaGreatDoorFreeA
namespace Go.Proofs.YtfjaincogbdeiaaGreatDoor
open Go.ChangeShapes Go.WideShapes Go.ChangeAt Go.RowKit
set_option linter.unusedVariables false

theorem dOk_not {y m d : Int} (h : ¬ (1970 ≤ y ∧ y ≤ 2517 ∧ 1 ≤ m ∧ m ≤ 12 ∧ 1 ≤ d ∧ d ≤ dIM y m ∧ dN y m d ≤ 200000)) : dOk y m d = false := decide_eq_false h
theorem l1In_true (n lo hi : Int) (w : World) (h : lo ≤ n ∧ n ≤ hi) : Calls Tryz.prog 16 #[.int .i64 n, .int .i64 lo, .int .i64 hi] w fun e w' => e = .returned (.bool true) ∧ w = w' := by
  have := l1In_any n lo hi w
  rwa [decide_eq_true h.1, decide_eq_true h.2] at this
theorem l1In_false (n lo hi : Int) (w : World) (h : ¬ (lo ≤ n ∧ n ≤ hi)) : Calls Tryz.prog 16 #[.int .i64 n, .int .i64 lo, .int .i64 hi] w fun e w' => e = .returned (.bool false) ∧ w = w' := by
  have := l1In_any n lo hi w
  rwa [show (decide (lo ≤ n) && decide (n ≤ hi)) = false by simpa using fun h1 => by omega] at this

end Go.Proofs.YtfjaincogbdeiaaGreatDoor
