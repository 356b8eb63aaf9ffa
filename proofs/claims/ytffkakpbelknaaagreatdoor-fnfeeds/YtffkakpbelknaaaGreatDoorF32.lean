/- Joined: W9r, W9s. -/
import Derived.Lib.LazyBuf
import Derived.Test.YtffkakpbelknaaaGreatDoorF8
import Derived.Test.YtffkakpbelknaaaGreatDoorF17
import Derived.Test.YtffkakpbelknaaaGreatDoorF31
/- W9r -/
namespace Go.Proofs.YtffkakpbelknaaaGreatDoor
open Go.ChangeShapes Go.WideShapes Go.ChangeAt Go.RowKit
set_option linter.unusedVariables false

theorem enC_one (x : En) : ∀ u ∈ enC x, u.oneCell' = true := by
  intro u hu
  simp only [enC, List.mem_cons, List.not_mem_nil, or_false] at hu
  rcases hu with rfl | rfl | rfl | rfl | rfl <;> rfl
theorem sbC_one (x : Sb × Value) (hx : x.2.oneCell' = true) : ∀ u ∈ sbC x, u.oneCell' = true := by
  intro u hu
  simp only [sbC, List.mem_cons, List.not_mem_nil, or_false] at hu
  rcases hu with rfl | rfl | rfl
  · rfl
  · rfl
  · exact hx

end Go.Proofs.YtffkakpbelknaaaGreatDoor

/- W9s -/
namespace Go.Proofs.YtffkakpbelknaaaGreatDoor
open Go.ChangeShapes Go.WideShapes Go.ChangeAt Go.RowKit
set_option linter.unusedVariables false

def vlC (x : Value) : List Value := [x]
theorem vlC_len (x : Value) : (vlC x).length = 1 := rfl
theorem flat_take_le {α : Type} (ls : List (List α)) (k : Nat) : (ls.take k).flatten.length ≤ ls.flatten.length := by
  have h : ls.flatten = (ls.take k).flatten ++ (ls.drop k).flatten := by rw [← List.flatten_append, List.take_append_drop]
  rw [h, List.length_append]
  omega
theorem next_small (n : Nat) (hn : n ≤ 1000000) : Builtin.nextslicecap n 0 ≤ 1000000 := by
  unfold Builtin.nextslicecap
  simp
  split <;> omega

theorem app_zeros_nil {P : Program} {α : Type} {k : Nat} {C : α → List Value} (w : World) (t tn ty e : TypeId) (i : TypeInfo) (z : Value) (ht : P.underlying t = some (.slice e)) (htn : P.underlying tn = some (.int .i64)) (hi : P.info? e = some i) (hz : i.zero = some z) (hk : i.size = k) (h0 : 0 < k) (hzs : z.cells.size = k) (hb : i.bytes ≤ 1000)
    (n : Nat) (hn0 : 0 < n) (hn : n ≤ 1000000) :
    ∃ cap w', (Builtin.append_ #[t, tn] ty #[.slice none 0 0, .int .i64 n]).run P w = .ok (.slice (some ⟨w.heap.size, 0, none⟩) n cap) w' ∧ OwnR e k C w' w.heap.size (.slice (some ⟨w.heap.size, 0, none⟩) 0 cap) ([] : List α) ∧ n ≤ cap ∧ cap ≤ maxLen ∧ Below w.heap.size w w' := by
  have hc := next_small n hn
  have hb1 : n * i.bytes ≤ 1000000 * 1000 := Nat.mul_le_mul hn hb
  have hb2 : Builtin.nextslicecap (0 + n) 0 * i.bytes ≤ 1000000 * 1000 := Nat.mul_le_mul (by rw [Nat.zero_add]; exact hc) hb
  have hr := Lib.run_append_grow_zeros (P := P) w t tn ty e i z .i64 .i64 ht htn hi hz none 0 0 [] (by simp [Builtin.firstCells]) n hn0 (by omega) (by omega) (by omega) (by omega) (by omega)
  rw [Nat.zero_add] at hr
  have hge := grownCap_ge w n 0 e
  have hle := grownCap_le_maxLen w n 0 e (by unfold maxLen; omega)
  refine ⟨_, _, hr, ?_, hge, hle, ?_⟩
  · refine World.ownsRow_made w.drew _ _ (Nat.le_refl _) hle ?_
    have e1 : ([] : List Value).toArray.size = 0 := rfl
    rw [Array.size_append, Array.size_append, e1]
    simp only [Builtin.zeroCells, Array.size_map, Array.size_range, hzs]
    rw [Nat.zero_add, ← Nat.add_mul]
    congr 1
    omega
  · exact ((Below.refl _ _).drew).alloc (Nat.le_refl _) _

end Go.Proofs.YtffkakpbelknaaaGreatDoor
