/- Whether an operation is right: what both sides answer; an empty feed. -/
import Derived.Test.YtfjaincogbdeiaaDoorW8l
namespace Go.Proofs.YtfjaincogbdeiaaDoor
open Go.ChangeShapes Go.WideShapes Go.ChangeAt Go.RowKit
set_option linter.unusedVariables false

def emB (s : ByteArray) : Bool := s.toList.isEmpty
def feB (u t : ByteArray) (n : Nat) : Bool := emB u && emB t && ((n : Int) == 0)

set_option maxRecDepth 100000 in
set_option maxHeartbeats 1600000 in
theorem feedEmpty_any (u t : ByteArray) (a : Option Addr) (n cap : Nat) (w : World) :
    Calls Tryd.prog 73 #[fV u t (.slice a n cap)] w fun e w' => e = .returned (.bool (feB u t n)) ∧ Below w.heap.size w w' := by
  have hB0 : Below w.heap.size w (w.alloc (fC u t (.slice a n cap))) := (Below.refl _ _).alloc (Nat.le_refl _) _
  have HF : Hid (feB u t n = (u.toList.isEmpty && t.toList.isEmpty && ((n : Int) == 0))) := Lib.hid rfl
  rw [HF.out]
  clear HF
  cases h1 : u.toList.isEmpty with
  | false =>
    go_enter Tryd.func73, Tryd.ntmps73
    go_wp2
    go_ret
    exact ⟨rfl, hB0⟩
  | true =>
    cases h2 : t.toList.isEmpty with
    | false =>
      go_enter Tryd.func73, Tryd.ntmps73
      go_wp2
      go_ret
      exact ⟨rfl, hB0⟩
    | true =>
      cases h3 : ((n : Int) == 0) with
      | false =>
        go_enter Tryd.func73, Tryd.ntmps73
        go_wp2
        go_ret
        exact ⟨rfl, hB0⟩
      | true =>
        go_enter Tryd.func73, Tryd.ntmps73
        go_wp2
        go_ret
        exact ⟨rfl, hB0⟩

set_option maxRecDepth 100000 in
set_option maxHeartbeats 1600000 in
theorem l9Empty_any (u t : ByteArray) (a : Option Addr) (n cap : Nat) (w : World) :
    Calls Tryd.prog 68 #[fV u t (.slice a n cap)] w fun e w' => e = .returned (.bool (feB u t n)) ∧ Below w.heap.size w w' := by
  have hB0 : Below w.heap.size w (w.alloc (fC u t (.slice a n cap))) := (Below.refl _ _).alloc (Nat.le_refl _) _
  have HF : Hid (feB u t n = (u.toList.isEmpty && t.toList.isEmpty && ((n : Int) == 0))) := Lib.hid rfl
  rw [HF.out]
  clear HF
  cases h1 : u.toList.isEmpty with
  | false =>
    go_enter Tryd.func68, Tryd.ntmps68
    go_wp2
    go_ret
    exact ⟨rfl, hB0⟩
  | true =>
    cases h2 : t.toList.isEmpty with
    | false =>
      go_enter Tryd.func68, Tryd.ntmps68
      go_wp2
      go_ret
      exact ⟨rfl, hB0⟩
    | true =>
      cases h3 : ((n : Int) == 0) with
      | false =>
        go_enter Tryd.func68, Tryd.ntmps68
        go_wp2
        go_ret
        exact ⟨rfl, hB0⟩
      | true =>
        go_enter Tryd.func68, Tryd.ntmps68
        go_wp2
        go_ret
        exact ⟨rfl, hB0⟩

/-- An operation's cells. -/
structure OpD where
  k : Int
  u : ByteArray
  i : ByteArray
  d : Int
  fu : ByteArray
  ft : ByteArray
  its : List It
abbrev opV (o : OpD) (x : Value) : Value := .agg #[.int .i64 o.k, .string o.u, .string o.i, .int .i64 o.d, .string o.fu, .string o.ft, x]
def OpSz (o : OpD) : Prop := o.u.size ≤ maxLen ∧ o.i.size ≤ maxLen ∧ o.fu.size ≤ maxLen ∧ o.ft.size ≤ maxLen
def dzB (d : Int) : Bool := (d == 0)
def opB (o : OpD) : Bool :=
  if o.k = 1 ∨ o.k = 2 ∨ o.k = 8 then nmB o.u 20 && emB o.i && dzB o.d && feB o.fu o.ft o.its.length
  else if o.k = 3 then emB o.u && emB o.i && dzB o.d && fdB o.fu o.ft o.its
  else if o.k = 4 ∨ o.k = 5 ∨ o.k = 6 ∨ o.k = 7 then nmB o.u 20 && nmB o.i 8 && dzB o.d && feB o.fu o.ft o.its.length
  else if o.k = 9 then emB o.u && emB o.i && (decide (0 ≤ o.d) && decide (o.d ≤ 200000)) && feB o.fu o.ft o.its.length
  else false
end Go.Proofs.YtfjaincogbdeiaaDoor
