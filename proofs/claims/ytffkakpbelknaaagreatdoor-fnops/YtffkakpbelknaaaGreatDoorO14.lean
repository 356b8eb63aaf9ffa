/- Parts of the proof. -/
import Derived.Test.YtffkakpbelknaaaGreatDoorRows
import Derived.Stop.LaidErr
import Derived.MakeChecks
import Derived.Test.YtffkakpbelknaaaGreatDoorO13
namespace Go.Proofs.YtffkakpbelknaaaGreatDoor
set_option maxHeartbeats 4000000
set_option maxRecDepth 100000
open Go.ChangeShapes Go.WideShapes Go.ChangeAt Go.RowKit
set_option linter.unusedVariables false
theorem strs_of_trod {P : Program} {w : World} {t e : TypeId} {N fuel : Nat} {cs : List Value} {p : List MemPlace} (ht : P.underlying t = some (.array N e)) (he : P.underlying e = some .string) (hc : P.cellsOf e = 1) (hct : P.cellsOf t = N) (zs : List (List UInt8)) (hz : zs.length = N)
  (h : DataW.trod (fun _ => ()) P w 0 (fun _ => true) false fuel t cs = some (.agg (zs.map fun n => .lit (.string n)), p)) : cs = zs.map (fun n => Value.string ⟨n.toArray⟩) := by
 obtain ⟨xs, m, _, hx, hl, hn, hel⟩ := DataW.trod_array ht h
 simp only [Prod.mk.injEq, DataW.agg.injEq] at hx
 rw [hct] at hl
 refine List.ext_getElem (by rw [hl, List.length_map, hz]) ?_
 intro i h1 h2
 have hi : i < N := by omega
 have h3 := hel i hi
 rw [hc, Nat.mul_one] at h3
 have hix : i < xs.length := by omega
 rw [List.getElem?_eq_getElem hix] at h3
 obtain ⟨n, e1, e2, _⟩ := DataW.trod_string he h3
 have h4 : (zs.map fun n => (DataW.lit (.string n) : DataW Unit))[i]? = (xs.map (·.1))[i]? := by rw [hx.1]
 have hiz : i < zs.length := by omega
 rw [List.getElem?_map, List.getElem?_map, List.getElem?_eq_getElem hix, List.getElem?_eq_getElem hiz, e2] at h4
 simp at h4
 rw [List.drop_eq_getElem_cons h1, List.take_succ_cons, List.take_zero] at e1
 rw [List.getElem_map, h4]
 have := (List.cons.inj e1).1
 rw [this]
theorem gEs : Tryz.prog.globalNamed "loop.example/g00569/impl.escapes" = some 1 := by kernel_rfl
theorem tEs : (Tryz.prog.globals[1]?).map (·.type) = some 109 := by kernel_rfl
theorem cEs : Tryz.prog.cellsOf 109 = 4 := by kernel_rfl
theorem cSt : Tryz.prog.cellsOf 9 = 1 := by kernel_rfl
def eTab : List (List UInt8) := [[38, 97, 109, 112, 59], [38, 108, 116, 59], [38, 103, 116, 59], [38, 113, 117, 111, 116, 59]]
theorem etab_of {W : World} {n : String} {cs : Array Value} (hg : Tryz.prog.globalNamed n = some 1) (hv : W.var? Tryz.prog n = some cs) (hcs : cs.toList = eTab.map (fun n => Value.string ⟨n.toArray⟩)) (hr : ∃ c t, W.heap[1]? = some (.cells c t (0, 0))) : ETab W := by
 obtain ⟨c, t, hr⟩ := hr
 refine ⟨t, ?_⟩
 unfold World.var? at hv
 rw [hg] at hv
 simp only [Option.bind_some, hr] at hv
 obtain rfl := Option.some.inj hv
 rw [hr]
 congr 2
 rw [<- Array.toArray_toList (xs := c), hcs]
 rfl
end Go.Proofs.YtffkakpbelknaaaGreatDoor
