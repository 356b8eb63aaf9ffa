/- Joined: Laid4. -/
import Derived.Test.YtlipgmaiooljkaaGreatDoorRows
import Derived.Stop.LaidErr
import Derived.MakeChecks
import Derived.Test.YtlipgmaiooljkaaGreatDoorH6
/- Laid4 -/
namespace Go.Proofs.YtlipgmaiooljkaaGreatDoor
open Go.ChangeShapes Go.WideShapes Go.ChangeAt Go.RowKit
set_option linter.unusedVariables false

theorem gGiven : Tryz.prog.globalNamed "loop.example/g00569/impl.errGivenUp" = some 0 := by kernel_rfl
theorem tGiven : (Tryz.prog.globals[0]?).map (·.type) = some 93 := by kernel_rfl
/-- The variable that the program gives up with holds a value. -/
theorem laid_gives {W : World} (h : laidMetH Tryz.prog [("loop.example/g00569/impl.errGivenUp", Rows.laid_loop_example_g00569_impl_errGivenUp)] W) : ∃ t x, Gives W t x := by
  rw [MakeChecks.laidMetH_plain _ _ _ (by kernel_rfl)] at h
  obtain ⟨ps, ⟨g0, t0, cs0, f0, p0, q0, hg0, ht0, hv0, hd0, _, _⟩, _, _⟩ := h
  obtain rfl := Option.some.inj (gGiven.symm.trans hg0)
  obtain rfl := Option.some.inj (tGiven.symm.trans ht0)
  obtain ⟨_, u, v, hcs, _, _⟩ := iface_of_trod Tryz.underlying93 hd0
  refine ⟨u, v, ?_⟩
  have := World.var?_cell hg0 hv0 0
  obtain ⟨l⟩ := cs0
  simp at hcs
  subst hcs
  unfold Gives
  simpa using this
end Go.Proofs.YtlipgmaiooljkaaGreatDoor
