/- Parts of the proof. -/
import Derived.Test.YtffkakpbelknaaaGreatDoorO15
import Derived.Test.YtffkakpbelknaaaGreatDoorO26
set_option maxHeartbeats 4000000
set_option maxRecDepth 100000
namespace Go.Proofs.YtffkakpbelknaaaGreatDoor
open Go.ChangeShapes Go.WideShapes Go.ChangeAt Go.RowKit
set_option linter.unusedVariables false
theorem gOw : Tryz.prog.globalNamed "loop.example/g00569/impl.opWords" = some 0 := by kernel_rfl
theorem tOw : (Tryz.prog.globals[0]?).map (·.type) = some 78 := by kernel_rfl
theorem cOw : Tryz.prog.cellsOf 78 = 10 := by kernel_rfl
def oTab : List (List UInt8) := [[], [97, 100, 100], [100, 114, 111, 112], [102, 101, 116, 99, 104], [114, 101, 97, 100], [117, 110, 114, 101, 97, 100], [115, 116, 97, 114], [117, 110, 115, 116, 97, 114], [97, 108, 108], [112, 117, 114, 103, 101]]
theorem otab_of {W : World} {n : String} {cs : Array Value} (hg : Tryz.prog.globalNamed n = some 0) (hv : W.var? Tryz.prog n = some cs) (hcs : cs.toList = oTab.map (fun n => Value.string ⟨n.toArray⟩)) (hr : ∃ c t, W.heap[0]? = some (.cells c t (0, 0))) : OTab W := by
 obtain ⟨c, t, hr⟩ := hr
 refine ⟨t, ?_⟩
 unfold World.var? at hv
 rw [hg] at hv
 simp only [Option.bind_some, hr] at hv
 obtain rfl := Option.some.inj hv
 rw [hr]
 congr 2
 rw [<- Array.toArray_toList (xs := c), hcs]
 rfl
theorem laid_FnExactOpText {W : World} (h : laidMetH Tryz.prog [("math/bits.deBruijn32tab", Rows.laid_math_bits_deBruijn32tab), ("math/bits.deBruijn64tab", Rows.laid_math_bits_deBruijn64tab), ("internal/strconv.uint64pow10", Rows.laid_internal_strconv_uint64pow10), ("loop.example/g00569/impl.monthDays", Rows.laid_loop_example_g00569_impl_monthDays), ("loop.example/g00569/impl.escapes", Rows.laid_loop_example_g00569_impl_escapes), ("loop.example/g00569/impl.opWords", Rows.laid_loop_example_g00569_impl_opWords)] W) : Tabs W := by
 rw [MakeChecks.laidMetH_plain _ _ _ (by kernel_rfl)] at h
 obtain ⟨ps, ⟨g0, t0, cs0, f0, p0, q0, hg0, ht0, hv0, hd0, ⟨g1, t1, cs1, f1, p1, q1, hg1, ht1, hv1, hd1, ⟨g2, t2, cs2, f2, p2, q2, hg2, ht2, hv2, hd2, ⟨g3, t3, cs3, f3, p3, q3, hg3, ht3, hv3, hd3, ⟨g4, t4, cs4, f4, p4, q4, hg4, ht4, hv4, hd4, ⟨g5, t5, cs5, f5, p5, q5, hg5, ht5, hv5, hd5, _, e5⟩, e4⟩, e3⟩, e2⟩, e1⟩, e0⟩, _, hr⟩ := h
 obtain rfl := Option.some.inj (gPw.symm.trans hg2)
 obtain rfl := Option.some.inj (tPw.symm.trans ht2)
 obtain rfl := Option.some.inj (gMd.symm.trans hg3)
 obtain rfl := Option.some.inj (tMd.symm.trans ht3)
 obtain rfl := Option.some.inj (gEs.symm.trans hg4)
 obtain rfl := Option.some.inj (tEs.symm.trans ht4)
 obtain rfl := Option.some.inj (gOw.symm.trans hg5)
 obtain rfl := Option.some.inj (tOw.symm.trans ht5)
 have hcs2 := ints_of_trod Tryz.underlying246 Tryz.underlying169 cU8 cPw p10L rfl hd2
 have r_P : PTab W := by
  unfold PTab Lib.TabIs
  rw [hv2, p10_eq]
  congr 1
  rw [<- Array.toArray_toList (xs := cs2), hcs2]
 have hcs3 := ints_of_trod Tryz.underlying176 Tryz.underlying2 cI8 cMd mTab rfl hd3
 have hsz3 : cs3.size = 12 := by rw [<- Array.length_toList, hcs3]; rfl
 have hcs4 := strs_of_trod Tryz.underlying109 Tryz.underlying9 cSt cEs eTab rfl hd4
 have hsz4 : cs4.size = 4 := by rw [<- Array.length_toList, hcs4]; rfl
 have hcs5 := strs_of_trod Tryz.underlying78 Tryz.underlying9 cSt cOw oTab rfl hd5
 have hsz5 : cs5.size = 10 := by rw [<- Array.length_toList, hcs5]; rfl
 have r_M := arr_of_var7 hg3 hv3 hcs3 (hr 3 0 (by rw [e0, e1, e2, e3, hsz3]; simp [MemPlace.row])).1
 have r_E := etab_of hg4 hv4 hcs4 (hr 1 0 (by rw [e0, e1, e2, e3, e4, hsz4]; simp [MemPlace.row])).1
 have r_O := otab_of hg5 hv5 hcs5 (hr 0 0 (by rw [e0, e1, e2, e3, e4, e5, hsz5]; simp [MemPlace.row])).1
 exact ⟨r_E, r_M, r_P, r_O⟩
end Go.Proofs.YtffkakpbelknaaaGreatDoor
