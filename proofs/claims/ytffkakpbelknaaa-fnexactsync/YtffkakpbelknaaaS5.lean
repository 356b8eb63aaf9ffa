/- Joined: DayIn. -/
import Derived.IntWalk
import Derived.Test.YtffkakpbelknaaaS2
/- DayIn -/
namespace Go.Proofs.Ytffkakpbelknaaa
open Go.ChangeShapes Go.WideShapes Go.ChangeAt Go.RowKit
set_option linter.unusedVariables false

theorem l1In_any (n lo hi : Int) (w : World) :
    Calls Try.prog 67 #[.int .i64 n, .int .i64 lo, .int .i64 hi] w fun e w' => e = .returned (.bool (decide (lo ≤ n) && decide (n ≤ hi))) ∧ w = w' := by
  by_cases h : lo ≤ n
  · have HD : Hid (decide (lo ≤ n) = true) := Lib.hid (decide_eq_true h)
    go_enter Try.func67, Try.ntmps67
    go_wp2
    go_ret
    exact ⟨ret_bool (by rw [HD.out]; rfl), rfl⟩
  · have HD : Hid (decide (lo ≤ n) = false) := Lib.hid (decide_eq_false h)
    have hd : decide (lo ≤ n) = false := decide_eq_false h
    clear h
    go_enter Try.func67, Try.ntmps67
    go_wp2
    go_ret
    exact ⟨ret_bool (by rw [HD.out]; rfl), rfl⟩

theorem isDay_any (n : Int) (w : World) : Calls Try.prog 64 #[.int .i64 n] w fun e w' => e = .returned (.bool (decide (0 ≤ n) && decide (n ≤ 200000))) ∧ w = w' := by
  by_cases h : 0 ≤ n
  · have HD : Hid (decide (0 ≤ n) = true) := Lib.hid (decide_eq_true h)
    go_enter Try.func64, Try.ntmps64
    go_wp2
    go_ret
    exact ⟨ret_bool (by rw [HD.out]; rfl), rfl⟩
  · have HD : Hid (decide (0 ≤ n) = false) := Lib.hid (decide_eq_false h)
    have hd : decide (0 ≤ n) = false := decide_eq_false h
    clear h
    go_enter Try.func64, Try.ntmps64
    go_wp2
    go_ret
    exact ⟨ret_bool (by rw [HD.out]; rfl), rfl⟩

end Go.Proofs.Ytffkakpbelknaaa
