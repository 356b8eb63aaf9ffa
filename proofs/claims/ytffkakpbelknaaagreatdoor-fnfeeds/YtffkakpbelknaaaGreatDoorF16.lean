/- Joined: Laid8b. -/
import Derived.Test.YtffkakpbelknaaaGreatDoorF12
import Derived.Test.YtffkakpbelknaaaGreatDoorF15
/- Laid8b -/
namespace Go.Proofs.YtffkakpbelknaaaGreatDoor
open Go.ChangeShapes Go.WideShapes Go.ChangeAt Go.RowKit
set_option linter.unusedVariables false

theorem laid_mpe {W : World} (h : laidMetH Tryz.prog [("math/bits.deBruijn32tab", Rows.laid_math_bits_deBruijn32tab), ("math/bits.deBruijn64tab", Rows.laid_math_bits_deBruijn64tab), ("internal/strconv.uint64pow10", Rows.laid_internal_strconv_uint64pow10), ("loop.example/g00569/impl.monthDays", Rows.laid_loop_example_g00569_impl_monthDays), ("loop.example/g00569/impl.escapes", Rows.laid_loop_example_g00569_impl_escapes)] W) : ETab W ∧ MTab W ∧ PTab W := by
  rw [MakeChecks.laidMetH_plain _ _ _ (by kernel_rfl)] at h
  obtain ⟨ps, ⟨ga, ta, csa, fa, pa, qa, hga, hta, hva, hda, ⟨gb, tb, csb, fb, pb, qb, hgb, htb, hvb, hdb, ⟨g2, t2, cs2, f2, p2, q2, hg2, ht2, hv2, hd2, ⟨g0, t0, cs0, f0, p0, q0, hg0, ht0, hv0, hd0, ⟨g3, t3, cs3, f3, p3, q3, hg3, ht3, hv3, hd3, _, e3⟩, e0⟩, e2⟩, eb⟩, ea⟩, _, hr⟩ := h
  obtain rfl := Option.some.inj (gMd.symm.trans hg0)
  obtain rfl := Option.some.inj (tMd.symm.trans ht0)
  obtain rfl := Option.some.inj (gPw.symm.trans hg2)
  obtain rfl := Option.some.inj (tPw.symm.trans ht2)
  obtain rfl := Option.some.inj (gEs.symm.trans hg3)
  obtain rfl := Option.some.inj (tEs.symm.trans ht3)
  have hcs := ints_of_trod Tryz.underlying176 Tryz.underlying2 cI8 cMd mTab rfl hd0
  have hsz : cs0.size = 12 := by rw [← Array.length_toList, hcs]; rfl
  have hcs2 := ints_of_trod Tryz.underlying246 Tryz.underlying169 cU8 cPw p10L rfl hd2
  have hcs3 := strs_of_trod Tryz.underlying109 Tryz.underlying9 cSt cEs eTab rfl hd3
  have hsz3 : cs3.size = 4 := by rw [← Array.length_toList, hcs3]; rfl
  refine ⟨etab_of hg3 hv3 hcs3 (hr 1 0 (by rw [ea, eb, e2, e0, e3, hsz3]; simp [MemPlace.row])).1, arr_of_var7 hg0 hv0 hcs (hr 3 0 (by rw [ea, eb, e2, e0, hsz]; simp [MemPlace.row])).1, ?_⟩
  unfold PTab Lib.TabIs
  rw [hv2, p10_eq]
  congr 1
  rw [← Array.toArray_toList (xs := cs2), hcs2]
end Go.Proofs.YtffkakpbelknaaaGreatDoor
