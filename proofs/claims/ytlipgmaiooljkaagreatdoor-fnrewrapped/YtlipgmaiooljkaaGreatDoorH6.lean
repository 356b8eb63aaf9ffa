/- Joined: W4e. -/
import Derived.Defers
import Derived.Recover
import Derived.RangeFuncBox
import Derived.Test.YtlipgmaiooljkaaGreatDoorH5
/- W4e -/
namespace Go.Proofs.YtlipgmaiooljkaaGreatDoor
open Go.ChangeShapes Go.WideShapes Go.ChangeAt Go.RowKit
set_option linter.unusedVariables false

/-- How many of the first n bytes stand when the noughts behind them are gone. -/
def topN (s : ByteArray) : Nat → Nat
  | 0 => 0
  | n + 1 => if s.data.toList.getD n 0 = 0 then topN s n else n + 1
theorem topN_le (s : ByteArray) : ∀ n, topN s n ≤ n
  | 0 => Nat.le_refl _
  | n + 1 => by
    unfold topN
    have := topN_le s n
    split <;> omega
/-- Whether a text is padded, and what it pads. -/
def unpOk (s : ByteArray) : Bool := decide (s.size ≤ 8000 ∧ 1 ≤ topN s s.size ∧ s.data.toList.getD (topN s s.size - 1) 0 = 128)
def unpT (s : ByteArray) : ByteArray := if unpOk s = true then s.extract 0 (topN s s.size - 1) else ⟨#[]⟩
theorem byte_at (s : ByteArray) (n : Nat) (h : n < s.size) : s.data.toList.getD n 0 = s[n] := by
  have h2 : n < s.data.toList.length := by simpa using h
  rw [List.getD_eq_getElem?_getD, List.getElem?_eq_getElem h2]; rfl
theorem ret_two {a b : ByteArray} {x y : Bool} (h : a = b) (h2 : x = y) : Ending.returned (.tuple #[.string a, .bool x]) = .returned (.tuple #[.string b, .bool y]) := by rw [h, h2]

end Go.Proofs.YtlipgmaiooljkaaGreatDoor


namespace Go.Proofs.YtlipgmaiooljkaaGreatDoor
open Go.ChangeShapes Go.WideShapes Go.ChangeAt Go.RowKit
set_option linter.unusedVariables false

theorem need_true (w : World) : Calls Tryz.prog 52 #[.bool true] w fun e w' => e = .returned (.tuple #[]) ∧ w = w' := by
  go_enter Tryz.func52, Tryz.ntmps52
  go_wp2
  go_end0
  exact ⟨rfl, rfl⟩

theorem need_false (t : TypeId) (x : Value) (w : World) (hv : w.cell? ⟨0, 0, none⟩ = some (.iface t x)) : Calls Tryz.prog 52 #[.bool false] w fun e w' => e = .panicked [{ v := .iface t x, recovered := false }] ∧ w = w' := by
  go_enter Tryz.func52, Tryz.ntmps52
  have hp : (Instr.panic (.iface t x)).run Tryz.prog w = .halt (.panic (.iface t x)) w := rfl
  go_wp2
  exact ⟨rfl, rfl, rfl⟩
end Go.Proofs.YtlipgmaiooljkaaGreatDoor

namespace Go.Proofs.YtlipgmaiooljkaaGreatDoor
open Go.ChangeShapes Go.WideShapes Go.ChangeAt Go.RowKit
set_option linter.unusedVariables false

/-- What the program gives up with. -/
def Gives (w : World) (t : TypeId) (x : Value) : Prop := w.cell? ⟨0, 0, none⟩ = some (.iface t x)
theorem Gives.lt {w : World} {t : TypeId} {x : Value} (h : Gives w t x) : 0 < w.heap.size := World.block_lt_of_cell? w _ h
theorem Gives.below {w w' : World} {B : Nat} {t : TypeId} {x : Value} (h : Gives w t x) (hb : Below B w w') (hB : w.heap.size ≤ B) : Gives w' t x := by
  have := h.lt
  unfold Gives
  rw [hb.cell (p := ⟨0, 0, none⟩) (by show 0 < B; omega)]; exact h

set_option maxRecDepth 100000 in
set_option maxHeartbeats 1600000 in
theorem take_ok (g n : Nat) (s : ByteArray) (w : World) (hg : Boxed w g 85 (.string s)) (hs : s.size ≤ 1000000000) (hn : n ≤ s.size) :
    Calls Tryz.prog 73 #[.pointer (some ⟨g, 0, none⟩), .int .i64 (n : Int)] w fun e w' =>
      e = .returned (.string (s.extract (s.size - n) s.size)) ∧ w' = w.setCell ⟨g, 0, none⟩ (.string (s.extract 0 (s.size - n))) := by
  have hc := hg.cell
  have hf := hg.frozen
  have hsub : (s.size : Int) - (n : Int) = ((s.size - n : Nat) : Int) := by omega
  have hd : decide ((n : Int) ≤ (s.size : Int)) = true := by simp; omega
  obtain ⟨m, hm⟩ : ∃ m, m = s.size - n := ⟨_, rfl⟩
  rw [← hm] at hsub ⊢
  have hml : m ≤ s.size := by omega
  clear hm
  go_enter Tryz.func73, Tryz.ntmps73
  go_wp2_with (first | (go_at_call 52; refine (need_true _).mono ?_; rintro e w' ⟨rfl, rfl⟩))
  go_ret
  exact ⟨rfl, rfl⟩

set_option maxRecDepth 100000 in
set_option maxHeartbeats 1600000 in
theorem take_bad (g n : Nat) (s : ByteArray) (w : World) (t : TypeId) (x : Value) (hv : Gives w t x) (hg : Boxed w g 85 (.string s)) (hs : s.size ≤ 1000000000) (hn : s.size < n) :
    Calls Tryz.prog 73 #[.pointer (some ⟨g, 0, none⟩), .int .i64 (n : Int)] w fun e w' =>
      e = .panicked [{ v := .iface t x, recovered := false }] ∧ w = w' := by
  have hc := hg.cell
  have hf := hg.frozen
  have hd : decide (n ≤ s.size) = false := by simp; omega
  have HV := Lib.hid hv
  clear hv
  go_enter Tryz.func73, Tryz.ntmps73
  go_wp2_with (first | (go_at_call 52; refine (need_false t x _ HV.out).mono ?_; rintro e w' ⟨rfl, rfl⟩))
  exact ⟨rfl, rfl, rfl⟩

end Go.Proofs.YtlipgmaiooljkaaGreatDoor
