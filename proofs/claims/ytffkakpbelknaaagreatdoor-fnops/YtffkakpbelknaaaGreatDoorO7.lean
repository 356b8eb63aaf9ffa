/- Parts of the proof. -/
import Derived.Test.YtffkakpbelknaaaGreatDoorRows
import Derived.Stop.LaidErr
import Derived.MakeChecks
import Derived.Test.YtffkakpbelknaaaGreatDoorO6
namespace Go.Proofs.YtffkakpbelknaaaGreatDoor
set_option maxHeartbeats 4000000
set_option maxRecDepth 100000
open Go.ChangeShapes Go.WideShapes Go.ChangeAt Go.RowKit
set_option linter.unusedVariables false
theorem ints_of_trod {P : Program} {w : World} {t e : TypeId} {k : IntKind} {N fuel : Nat} {cs : List Value} {p : List MemPlace} (ht : P.underlying t = some (.array N e)) (he : P.underlying e = some (.int k)) (hc : P.cellsOf e = 1) (hct : P.cellsOf t = N) (zs : List Int) (hz : zs.length = N)
  (h : DataW.trod (fun _ => ()) P w 0 (fun _ => true) false fuel t cs = some (.agg (zs.map fun n => .lit (.int k n)), p)) : cs = zs.map (Value.int k) := by
 obtain ⟨xs, m, _, hx, hl, hn, hel⟩ := DataW.trod_array ht h
 simp only [Prod.mk.injEq, DataW.agg.injEq] at hx
 rw [hct] at hl
 refine List.ext_getElem (by rw [hl, List.length_map, hz]) ?_
 intro i h1 h2
 have hi : i < N := by omega
 have h3 := hel i hi
 rw [hc, Nat.mul_one] at h3
 have hix : i < xs.length := by omega
 rw [List.getElem?_eq_getElem hix] at h3
 obtain ⟨n, e1, e2, _⟩ := DataW.trod_int he h3
 have h4 : (zs.map fun n => (DataW.lit (.int k n) : DataW Unit))[i]? = (xs.map (·.1))[i]? := by rw [hx.1]
 have hiz : i < zs.length := by omega
 rw [List.getElem?_map, List.getElem?_map, List.getElem?_eq_getElem hix, List.getElem?_eq_getElem hiz, e2] at h4
 simp at h4
 rw [List.drop_eq_getElem_cons h1, List.take_succ_cons, List.take_zero] at e1
 rw [List.getElem_map, h4]
 exact (List.cons.inj e1).1
theorem arr_of_var7 {W : World} {n : String} {g : Nat} {k : IntKind} {cs : Array Value} {zs : List Int} (hg : Tryz.prog.globalNamed n = some g) (hv : W.var? Tryz.prog n = some cs) (hcs : cs.toList = zs.map (Value.int k)) (hr : ∃ c t, W.heap[g]? = some (.cells c t (0, 0))) : ∃ t, Arr W g t k zs := by
 obtain ⟨c, t, hr⟩ := hr
 refine ⟨t, ?_⟩
 unfold World.var? at hv
 rw [hg] at hv
 simp only [Option.bind_some, hr] at hv
 obtain rfl := Option.some.inj hv
 unfold Arr stK
 rw [hr, <- hcs]
theorem gMd : Tryz.prog.globalNamed "loop.example/g00569/impl.monthDays" = some 3 := by kernel_rfl
theorem tMd : (Tryz.prog.globals[3]?).map (·.type) = some 176 := by kernel_rfl
theorem cMd : Tryz.prog.cellsOf 176 = 12 := by kernel_rfl
theorem cI8 : Tryz.prog.cellsOf 2 = 1 := by kernel_rfl
end Go.Proofs.YtffkakpbelknaaaGreatDoor
