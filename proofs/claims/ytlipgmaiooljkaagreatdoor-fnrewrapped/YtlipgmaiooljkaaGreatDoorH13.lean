/- Joined: Laid17. -/
import Derived.Test.YtlipgmaiooljkaaGreatDoorH7
import Derived.Test.YtlipgmaiooljkaaGreatDoorH12
/- Laid17 -/
namespace Go.Proofs.YtlipgmaiooljkaaGreatDoor
open Go.ChangeShapes Go.WideShapes Go.ChangeAt Go.RowKit
set_option linter.unusedVariables false

theorem laid_gfks {W : World} (h : laidMetH Tryz.prog [("loop.example/g00569/impl.errGivenUp", Rows.laid_loop_example_g00569_impl_errGivenUp), ("loop.example/g00569/impl.shaFirst", Rows.laid_loop_example_g00569_impl_shaFirst), ("loop.example/g00569/impl.shaConstants", Rows.laid_loop_example_g00569_impl_shaConstants)] W) : FTab W ∧ KTab W ∧ ∃ t x, Gives W t x := by
  rw [MakeChecks.laidMetH_plain _ _ _ (by kernel_rfl)] at h
  obtain ⟨ps, ⟨gz, tz, csz, fz, pz, qz, hgz, htz, hvz, hdz, ⟨g0, t0, cs0, f0, p0, q0, hg0, ht0, hv0, hd0, ⟨g1, t1, cs1, f1, p1, q1, hg1, ht1, hv1, hd1, _, e1⟩, e0⟩, ez⟩, _, hr⟩ := h
  obtain rfl := Option.some.inj (gGiven.symm.trans hgz)
  obtain rfl := Option.some.inj (tGiven.symm.trans htz)
  obtain rfl := Option.some.inj (gFs.symm.trans hg0)
  obtain rfl := Option.some.inj (tFs.symm.trans ht0)
  obtain rfl := Option.some.inj (gKs.symm.trans hg1)
  obtain rfl := Option.some.inj (tKs.symm.trans ht1)
  have hcs := words_of_trod Tryz.underlying176 Tryz.underlying104 cU4 cFs sha0 rfl hd0
  have hcs1 := words_of_trod Tryz.underlying158 Tryz.underlying104 cU4 cKs kTab rfl hd1
  have hsz : cs0.size = 8 := by rw [← Array.length_toList, hcs]; rfl
  have hsz1 : cs1.size = 64 := by rw [← Array.length_toList, hcs1]; rfl
  refine ⟨arr_of_var hg0 hv0 hcs (hr 2 0 (by rw [ez, e0, hsz]; simp [MemPlace.row])).1, arr_of_var hg1 hv1 hcs1 (hr 4 0 (by rw [ez, e0, e1, hsz, hsz1]; simp [MemPlace.row])).1, ?_⟩
  obtain ⟨_, u, v, hcs, _, _⟩ := iface_of_trod Tryz.underlying93 hdz
  refine ⟨u, v, ?_⟩
  have := World.var?_cell hgz hvz 0
  obtain ⟨l⟩ := csz
  simp at hcs
  subst hcs
  unfold Gives
  simpa using this
end Go.Proofs.YtlipgmaiooljkaaGreatDoor
