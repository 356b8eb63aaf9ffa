/- Parts of the proof. -/
import Derived.Lib.LazyBuf
import Derived.Test.YtffkakpbelknaaaGreatDoorO8
import Derived.Test.YtffkakpbelknaaaGreatDoorO21
import Derived.Test.YtffkakpbelknaaaGreatDoorO28
set_option maxHeartbeats 4000000
set_option maxRecDepth 100000
namespace Go.Proofs.YtffkakpbelknaaaGreatDoor
open Go.ChangeShapes Go.WideShapes Go.ChangeAt Go.RowKit
set_option linter.unusedVariables false
theorem enC_one (x : En) : ∀ u ∈ enC x, u.oneCell' = true := by
 intro u hu
 simp only [enC, List.mem_cons, List.not_mem_nil, or_false] at hu
 rcases hu with rfl | rfl | rfl | rfl | rfl <;> rfl
theorem sbC_one (x : Sb × Value) (hx : x.2.oneCell' = true) : ∀ u ∈ sbC x, u.oneCell' = true := by
 intro u hu
 simp only [sbC, List.mem_cons, List.not_mem_nil, or_false] at hu
 rcases hu with rfl | rfl | rfl
 ·rfl
 ·rfl
 ·exact hx
end Go.Proofs.YtffkakpbelknaaaGreatDoor
namespace Go.Proofs.YtffkakpbelknaaaGreatDoor
open Go.ChangeShapes Go.WideShapes Go.ChangeAt Go.RowKit
set_option linter.unusedVariables false
end Go.Proofs.YtffkakpbelknaaaGreatDoor
