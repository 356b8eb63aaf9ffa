/- Joined: Laid11b. -/
import Derived.Test.YtgimjfffdnopiaaDoorJ22
import Derived.Test.YtgimjfffdnopiaaDoorJ34
/- Laid11b -/
namespace Go.Proofs.YtgimjfffdnopiaaDoor
open Go.ChangeShapes Go.WideShapes Go.ChangeAt Go.RowKit
set_option linter.unusedVariables false

theorem gOw : Tryd.prog.globalNamed "loop.example/g00569/impl.opWords" = some 1 := by kernel_rfl
theorem tOw : (Tryd.prog.globals[1]?).map (·.type) = some 115 := by kernel_rfl
theorem cOw : Tryd.prog.cellsOf 115 = 10 := by kernel_rfl
def oTab : List (List UInt8) := [[], [97, 100, 100], [100, 114, 111, 112], [102, 101, 116, 99, 104], [114, 101, 97, 100], [117, 110, 114, 101, 97, 100], [115, 116, 97, 114], [117, 110, 115, 116, 97, 114], [97, 108, 108], [112, 117, 114, 103, 101]]
theorem otab_of {W : World} {n : String} {cs : Array Value} (hg : Tryd.prog.globalNamed n = some 1) (hv : W.var? Tryd.prog n = some cs) (hcs : cs.toList = oTab.map (fun n => Value.string ⟨n.toArray⟩)) (hr : ∃ c t, W.heap[1]? = some (.cells c t (0, 0))) : OTab W := by
  obtain ⟨c, t, hr⟩ := hr
  refine ⟨t, ?_⟩
  unfold World.var? at hv
  rw [hg] at hv
  simp only [Option.bind_some, hr] at hv
  obtain rfl := Option.some.inj hv
  rw [hr]
  congr 2
  rw [← Array.toArray_toList (xs := c), hcs]
  rfl

theorem laid_FnExactReadOp {W : World} (h : laidMetH Tryd.prog [("loop.example/g00569/impl.monthDays", Rows.laid_loop_example_g00569_impl_monthDays), ("loop.example/g00569/impl.escapes", Rows.laid_loop_example_g00569_impl_escapes), ("loop.example/g00569/impl.opWords", Rows.laid_loop_example_g00569_impl_opWords)] W) : OTab W ∧ ETab W ∧ MTab W := by
  rw [MakeChecks.laidMetH_plain _ _ _ (by kernel_rfl)] at h
  obtain ⟨ps, ⟨g0, t0, cs0, f0, p0, q0, hg0, ht0, hv0, hd0, ⟨g1, t1, cs1, f1, p1, q1, hg1, ht1, hv1, hd1, ⟨g2, t2, cs2, f2, p2, q2, hg2, ht2, hv2, hd2, _, e2⟩, e1⟩, e0⟩, _, hr⟩ := h
  obtain rfl := Option.some.inj (gMd.symm.trans hg0)
  obtain rfl := Option.some.inj (tMd.symm.trans ht0)
  obtain rfl := Option.some.inj (gEs.symm.trans hg1)
  obtain rfl := Option.some.inj (tEs.symm.trans ht1)
  obtain rfl := Option.some.inj (gOw.symm.trans hg2)
  obtain rfl := Option.some.inj (tOw.symm.trans ht2)
  have hcs0 := ints_of_trod Tryd.underlying107 Tryd.underlying2 cI8 cMd mTab rfl hd0
  have hsz0 : cs0.size = 12 := by rw [← Array.length_toList, hcs0]; rfl
  have hcs1 := strs_of_trod Tryd.underlying141 Tryd.underlying9 cSt cEs eTab rfl hd1
  have hsz1 : cs1.size = 4 := by rw [← Array.length_toList, hcs1]; rfl
  have hcs2 := strs_of_trod Tryd.underlying115 Tryd.underlying9 cSt cOw oTab rfl hd2
  have hsz2 : cs2.size = 10 := by rw [← Array.length_toList, hcs2]; rfl
  have r_M := arr_of_var7 hg0 hv0 hcs0 (hr 0 0 (by rw [e0, hsz0]; simp [MemPlace.row])).1
  have r_E := etab_of hg1 hv1 hcs1 (hr 3 0 (by rw [e0, e1, hsz1]; simp [MemPlace.row])).1
  have r_O := otab_of hg2 hv2 hcs2 (hr 1 0 (by rw [e0, e1, e2, hsz2]; simp [MemPlace.row])).1
  exact ⟨r_O, r_E, r_M⟩
theorem laid_ro {W : World} (h : laidMetH Tryd.prog Rows.fnExactReadOpRow.laid W) (hs : W.ShapedOpen Tryd.prog) : OTab W ∧ ETab W ∧ XTab W ∧ MTab W :=
  ⟨(laid_FnExactReadOp h).1, (laid_FnExactReadOp h).2.1, xtab_of hs, (laid_FnExactReadOp h).2.2⟩
end Go.Proofs.YtgimjfffdnopiaaDoor
