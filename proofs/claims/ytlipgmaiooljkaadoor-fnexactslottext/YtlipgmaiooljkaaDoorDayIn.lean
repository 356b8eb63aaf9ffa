/- Whether a number is between two others; whether it is a day. -/
import Derived.Test.YtlipgmaiooljkaaDoorOwn
import Derived.IntWalk
namespace Go.Proofs.YtlipgmaiooljkaaDoor
open Go.ChangeShapes Go.WideShapes Go.ChangeAt Go.RowKit
set_option linter.unusedVariables false

theorem l1In_any (n lo hi : Int) (w : World) :
    Calls Tryd.prog 27 #[.int .i64 n, .int .i64 lo, .int .i64 hi] w fun e w' => e = .returned (.bool (decide (lo ≤ n) && decide (n ≤ hi))) ∧ w = w' := by
  by_cases h : lo ≤ n
  · have HD : Hid (decide (lo ≤ n) = true) := Lib.hid (decide_eq_true h)
    go_enter Tryd.func27, Tryd.ntmps27
    go_wp2
    go_ret
    exact ⟨ret_bool (by rw [HD.out]; rfl), rfl⟩
  · have HD : Hid (decide (lo ≤ n) = false) := Lib.hid (decide_eq_false h)
    have hd : decide (lo ≤ n) = false := decide_eq_false h
    clear h
    go_enter Tryd.func27, Tryd.ntmps27
    go_wp2
    go_ret
    exact ⟨ret_bool (by rw [HD.out]; rfl), rfl⟩

end Go.Proofs.YtlipgmaiooljkaaDoor
