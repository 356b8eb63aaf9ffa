/- Joined: Laid8c. -/
import Derived.Shelf.Vars
import Derived.Test.YtgimjfffdnopiaaDoorJ19
import Derived.Test.YtgimjfffdnopiaaDoorJ21
/- Laid8c -/
namespace Go.Proofs.YtgimjfffdnopiaaDoor
open Go.ChangeShapes Go.WideShapes Go.ChangeAt Go.RowKit
set_option linter.unusedVariables false

theorem laid_FnExactReadFeed {W : World} (h : laidMetH Tryd.prog [("loop.example/g00569/impl.monthDays", Rows.laid_loop_example_g00569_impl_monthDays), ("loop.example/g00569/impl.escapes", Rows.laid_loop_example_g00569_impl_escapes)] W) : ETab W ∧ MTab W := by
  rw [MakeChecks.laidMetH_plain _ _ _ (by kernel_rfl)] at h
  obtain ⟨ps, ⟨g0, t0, cs0, f0, p0, q0, hg0, ht0, hv0, hd0, ⟨g1, t1, cs1, f1, p1, q1, hg1, ht1, hv1, hd1, _, e1⟩, e0⟩, _, hr⟩ := h
  obtain rfl := Option.some.inj (gMd.symm.trans hg0)
  obtain rfl := Option.some.inj (tMd.symm.trans ht0)
  obtain rfl := Option.some.inj (gEs.symm.trans hg1)
  obtain rfl := Option.some.inj (tEs.symm.trans ht1)
  have hcs0 := ints_of_trod Tryd.underlying107 Tryd.underlying2 cI8 cMd mTab rfl hd0
  have hsz0 : cs0.size = 12 := by rw [← Array.length_toList, hcs0]; rfl
  have hcs1 := strs_of_trod Tryd.underlying141 Tryd.underlying9 cSt cEs eTab rfl hd1
  have hsz1 : cs1.size = 4 := by rw [← Array.length_toList, hcs1]; rfl
  have r_M := arr_of_var7 hg0 hv0 hcs0 (hr 0 0 (by rw [e0, hsz0]; simp [MemPlace.row])).1
  have r_E := etab_of hg1 hv1 hcs1 (hr 3 0 (by rw [e0, e1, hsz1]; simp [MemPlace.row])).1
  exact ⟨r_E, r_M⟩
theorem xtab_of {W : World} (h : W.ShapedOpen Tryd.prog) : XTab W :=
  cell_of_shapedOpen_int (P := Tryd.prog) (zero := #[.int .i64 0]) (t := 3) h (by decide +kernel) (by kernel_rfl) rfl (by kernel_rfl) (by kernel_rfl) Tryd.underlying3
theorem laid_rf {W : World} (h : laidMetH Tryd.prog Rows.fnExactReadFeedRow.laid W) (hs : W.ShapedOpen Tryd.prog) : ETab W ∧ XTab W ∧ MTab W :=
  ⟨(laid_FnExactReadFeed h).1, xtab_of hs, (laid_FnExactReadFeed h).2⟩
end Go.Proofs.YtgimjfffdnopiaaDoor
