/- Parts of the proof. -/
import Derived.IntWalk
import Derived.Test.YtffkakpbelknaaaGreatDoorO2
namespace Go.Proofs.YtffkakpbelknaaaGreatDoor
set_option maxHeartbeats 4000000
set_option maxRecDepth 100000
open Go.ChangeShapes Go.WideShapes Go.ChangeAt Go.RowKit
set_option linter.unusedVariables false
theorem l1In_any (n lo hi : Int) (w : World) :
  Calls Tryz.prog 88 #[.int .i64 n, .int .i64 lo, .int .i64 hi] w fun e w' => e = .returned (.bool (decide (lo <= n) && decide (n <= hi))) /\ w = w' := by
 by_cases h : lo <= n
 ·have HD : Hid (decide (lo <= n) = true) := Lib.hid (decide_eq_true h)
  go_enter Tryz.func88, Tryz.ntmps88
  go_wp2
  go_ret
  exact ⟨ret_bool (by rw [HD.out]; rfl), rfl⟩
 ·have HD : Hid (decide (lo <= n) = false) := Lib.hid (decide_eq_false h)
  have hd : decide (lo <= n) = false := decide_eq_false h
  clear h
  go_enter Tryz.func88, Tryz.ntmps88
  go_wp2
  go_ret
  exact ⟨ret_bool (by rw [HD.out]; rfl), rfl⟩
theorem isDay_any (n : Int) (w : World) : Calls Tryz.prog 69 #[.int .i64 n] w fun e w' => e = .returned (.bool (decide (0 <= n) && decide (n <= 200000))) /\ w = w' := by
 by_cases h : 0 <= n
 ·have HD : Hid (decide (0 <= n) = true) := Lib.hid (decide_eq_true h)
  go_enter Tryz.func69, Tryz.ntmps69
  go_wp2
  go_ret
  exact ⟨ret_bool (by rw [HD.out]; rfl), rfl⟩
 ·have HD : Hid (decide (0 <= n) = false) := Lib.hid (decide_eq_false h)
  have hd : decide (0 <= n) = false := decide_eq_false h
  clear h
  go_enter Tryz.func69, Tryz.ntmps69
  go_wp2
  go_ret
  exact ⟨ret_bool (by rw [HD.out]; rfl), rfl⟩
end Go.Proofs.YtffkakpbelknaaaGreatDoor
