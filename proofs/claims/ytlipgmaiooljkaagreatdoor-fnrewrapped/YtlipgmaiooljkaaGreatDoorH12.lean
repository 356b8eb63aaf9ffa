/- Joined: Laid5. -/
import Derived.Test.YtlipgmaiooljkaaGreatDoorRows
import Derived.Stop.LaidErr
import Derived.MakeChecks
import Derived.Test.YtlipgmaiooljkaaGreatDoorH10
import Derived.Test.YtlipgmaiooljkaaGreatDoorH11
/- Laid5 -/
namespace Go.Proofs.YtlipgmaiooljkaaGreatDoor
open Go.ChangeShapes Go.WideShapes Go.ChangeAt Go.RowKit
set_option linter.unusedVariables false

theorem words_of_trod {P : Program} {w : World} {t e : TypeId} {N fuel : Nat} {cs : List Value} {p : List MemPlace} (ht : P.underlying t = some (.array N e)) (he : P.underlying e = some (.int .u32)) (hc : P.cellsOf e = 1) (hct : P.cellsOf t = N) (zs : List Int) (hz : zs.length = N)
    (h : DataW.trod (fun _ => ()) P w 0 (fun _ => true) false fuel t cs = some (.agg (zs.map fun n => .lit (.int .u32 n)), p)) : cs = zs.map (Value.int .u32) := by
  obtain ⟨xs, m, _, hx, hl, hn, hel⟩ := DataW.trod_array ht h
  simp only [Prod.mk.injEq, DataW.agg.injEq] at hx
  rw [hct] at hl
  refine List.ext_getElem (by rw [hl, List.length_map, hz]) ?_
  intro i h1 h2
  have hi : i < N := by omega
  have h3 := hel i hi
  rw [hc, Nat.mul_one] at h3
  have hix : i < xs.length := by omega
  rw [List.getElem?_eq_getElem hix] at h3
  obtain ⟨n, e1, e2, _⟩ := DataW.trod_int he h3
  have h4 : (zs.map fun n => (DataW.lit (.int .u32 n) : DataW Unit))[i]? = (xs.map (·.1))[i]? := by rw [hx.1]
  have hiz : i < zs.length := by omega
  rw [List.getElem?_map, List.getElem?_map, List.getElem?_eq_getElem hix, List.getElem?_eq_getElem hiz, e2] at h4
  simp at h4
  rw [List.drop_eq_getElem_cons h1, List.take_succ_cons, List.take_zero] at e1
  rw [List.getElem_map, h4]
  exact (List.cons.inj e1).1

theorem gKs : Tryz.prog.globalNamed "loop.example/g00569/impl.shaConstants" = some 4 := by kernel_rfl
theorem tKs : (Tryz.prog.globals[4]?).map (·.type) = some 158 := by kernel_rfl
theorem cKs : Tryz.prog.cellsOf 158 = 64 := by kernel_rfl
theorem cU4 : Tryz.prog.cellsOf 104 = 1 := by kernel_rfl
theorem gFs : Tryz.prog.globalNamed "loop.example/g00569/impl.shaFirst" = some 2 := by kernel_rfl
theorem tFs : (Tryz.prog.globals[2]?).map (·.type) = some 176 := by kernel_rfl
theorem cFs : Tryz.prog.cellsOf 176 = 8 := by kernel_rfl

/-- The table of constants lies as it should; the first state too. -/
def KTab (w : World) : Prop := ∃ t, Arr w 4 t .u32 kTab
def FTab (w : World) : Prop := ∃ t, Arr w 2 t .u32 sha0
theorem KTab.below {w w' : World} {B : Nat} (h : KTab w) (hb : Below B w w') (hB : w.heap.size ≤ B) : KTab w' := by
  obtain ⟨t, h⟩ := h
  exact ⟨t, h.below hb (by have := h.lt; omega)⟩
theorem FTab.below {w w' : World} {B : Nat} (h : FTab w) (hb : Below B w w') (hB : w.heap.size ≤ B) : FTab w' := by
  obtain ⟨t, h⟩ := h
  exact ⟨t, h.below hb (by have := h.lt; omega)⟩
theorem arr_of_var {W : World} {n : String} {g : Nat} {cs : Array Value} {zs : List Int} (hg : Tryz.prog.globalNamed n = some g) (hv : W.var? Tryz.prog n = some cs) (hcs : cs.toList = zs.map (Value.int .u32)) (hr : ∃ c t, W.heap[g]? = some (.cells c t (0, 0))) : ∃ t, Arr W g t .u32 zs := by
  obtain ⟨c, t, hr⟩ := hr
  refine ⟨t, ?_⟩
  unfold World.var? at hv
  rw [hg] at hv
  simp only [Option.bind_some, hr] at hv
  obtain rfl := Option.some.inj hv
  unfold Arr stK
  rw [hr, ← hcs]
theorem laid_ks {W : World} (h : laidMetH Tryz.prog [("loop.example/g00569/impl.shaConstants", Rows.laid_loop_example_g00569_impl_shaConstants)] W) : KTab W := by
  rw [MakeChecks.laidMetH_plain _ _ _ (by kernel_rfl)] at h
  obtain ⟨ps, ⟨g0, t0, cs0, f0, p0, q0, hg0, ht0, hv0, hd0, _, e0⟩, _, hr⟩ := h
  obtain rfl := Option.some.inj (gKs.symm.trans hg0)
  obtain rfl := Option.some.inj (tKs.symm.trans ht0)
  have hcs := words_of_trod Tryz.underlying158 Tryz.underlying104 cU4 cKs kTab rfl hd0
  have hsz : cs0.size = 64 := by rw [← Array.length_toList, hcs]; rfl
  exact arr_of_var hg0 hv0 hcs (hr 4 0 (by rw [e0, hsz]; simp [MemPlace.row])).1
theorem laid_fks {W : World} (h : laidMetH Tryz.prog [("loop.example/g00569/impl.shaFirst", Rows.laid_loop_example_g00569_impl_shaFirst), ("loop.example/g00569/impl.shaConstants", Rows.laid_loop_example_g00569_impl_shaConstants)] W) : FTab W ∧ KTab W := by
  rw [MakeChecks.laidMetH_plain _ _ _ (by kernel_rfl)] at h
  obtain ⟨ps, ⟨g0, t0, cs0, f0, p0, q0, hg0, ht0, hv0, hd0, ⟨g1, t1, cs1, f1, p1, q1, hg1, ht1, hv1, hd1, _, e1⟩, e0⟩, _, hr⟩ := h
  obtain rfl := Option.some.inj (gFs.symm.trans hg0)
  obtain rfl := Option.some.inj (tFs.symm.trans ht0)
  obtain rfl := Option.some.inj (gKs.symm.trans hg1)
  obtain rfl := Option.some.inj (tKs.symm.trans ht1)
  have hcs := words_of_trod Tryz.underlying176 Tryz.underlying104 cU4 cFs sha0 rfl hd0
  have hcs1 := words_of_trod Tryz.underlying158 Tryz.underlying104 cU4 cKs kTab rfl hd1
  have hsz : cs0.size = 8 := by rw [← Array.length_toList, hcs]; rfl
  have hsz1 : cs1.size = 64 := by rw [← Array.length_toList, hcs1]; rfl
  exact ⟨arr_of_var hg0 hv0 hcs (hr 2 0 (by rw [e0, hsz]; simp [MemPlace.row])).1, arr_of_var hg1 hv1 hcs1 (hr 4 0 (by rw [e0, e1, hsz, hsz1]; simp [MemPlace.row])).1⟩
end Go.Proofs.YtlipgmaiooljkaaGreatDoor
