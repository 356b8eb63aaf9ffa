/- Joined: OpenF, W9l. -/
import Derived.Test.YtffkakpbelknaaaGreatDoorF30
import Derived.Test.YtffkakpbelknaaaGreatDoorF31
import Derived.Test.YtffkakpbelknaaaGreatDoorF38
/- OpenF -/
namespace Go.Proofs.YtffkakpbelknaaaGreatDoor
open Go.ChangeShapes Go.WideShapes Go.Deep Go.RowKit
set_option linter.unusedVariables false

end Go.Proofs.YtffkakpbelknaaaGreatDoor

/- W9l -/
namespace Go.Proofs.YtffkakpbelknaaaGreatDoor
open Go.ChangeShapes Go.WideShapes Go.ChangeAt Go.RowKit
set_option linter.unusedVariables false

def OpAt (w : World) (v : Value) (o : OpD) : Prop := ∃ x, v = opV o x ∧ ItAt w w.heap.size x o.its ∧ OpSz o
theorem OpAt.below {w w' : World} {v : Value} {o : OpD} (h : OpAt w v o) (hb : Below w.heap.size w w') : OpAt w' v o := by
  obtain ⟨x, hv, hi, r⟩ := h
  exact ⟨x, hv, (hi.below hb).mono hb.size, r⟩
theorem OpAt.drew {w : World} {v : Value} {o : OpD} (h : OpAt w v o) : OpAt w.drew v o := h
theorem OpAt.get {w : World} {x : Value} {o : OpD} (h : OpAt w (opV o x) o) : ItAt w w.heap.size x o.its := by
  obtain ⟨y, hv, hi, r⟩ := h
  have : x = y := by
    have e := Value.agg.inj hv
    have e2 := congrArg (fun a : Array Value => a[6]?) e
    simpa using e2
  subst this
  exact hi
theorem Box.putL {g : Nat} {t : TypeId} (us : List Value) : ∀ (o : Nat) (w : World) (xs : List Value), Box w g xs.toArray t → Box (putRow g o us w) g (setL o us xs).toArray t := by
  induction us with
  | nil => intro o w xs h; exact h
  | cons u us ih =>
    intro o w xs h
    refine ih (o + 1) _ _ ?_
    have := h.set o u
    rw [List.setIfInBounds_toArray] at this
    exact this
theorem Box.putAll {w : World} {g : Nat} {t : TypeId} {xs us : List Value} (h : Box w g xs.toArray t) (hl : us.length = xs.length) : Box (putRow g 0 us w) g us.toArray t := by
  have := Box.putL us 0 w xs h
  rw [setL_eq us 0 xs (by omega), Nat.zero_add, hl, List.drop_length, List.take_zero, List.append_nil, List.nil_append] at this
  exact this
theorem ne_beq {k : Int} (q : Int) (h : k ≠ q) : (k == q) = false := beq_eq_false_iff_ne.2 h

set_option maxRecDepth 100000 in
theorem implOpOk_any (o : OpD) (x : Value) (w : World) (hI : ItAt w w.heap.size x o.its) (hz : OpSz o) :
    Calls Tryz.prog 23 #[opV o x] w fun e w' => e = .returned (.bool (opB o)) ∧ Below w.heap.size w w' := by
  obtain ⟨a, cap, rfl⟩ := hI.1.slice
  obtain ⟨k, u, i, d, fu, ft, its⟩ := o
  obtain ⟨z1, z2, z3, z4⟩ := hz
  unfold opB
  by_cases h1 : k = 1 ∨ k = 2 ∨ k = 8
  · simp only [if_pos h1]
    exact implOp_1 k h1 u i d fu ft a its.length cap w z1
  · simp only [if_neg h1]
    by_cases h2 : k = 3
    · simp only [if_pos h2]
      exact implOp_3 k h2 u i d fu ft a its.length cap its w z3 z4 hI
    · simp only [if_neg h2]
      by_cases h3 : k = 4 ∨ k = 5 ∨ k = 6 ∨ k = 7
      · simp only [if_pos h3]
        exact implOp_4 k h3 u i d fu ft a its.length cap w z1 z2
      · simp only [if_neg h3]
        by_cases h4 : k = 9
        · simp only [if_pos h4]
          exact implOp_9 k h4 u i d fu ft a its.length cap w
        · simp only [if_neg h4]
          exact implOp_0 k (ne_beq 1 (by omega)) (ne_beq 2 (by omega)) (ne_beq 3 (by omega)) (ne_beq 4 (by omega)) (ne_beq 5 (by omega)) (ne_beq 6 (by omega)) (ne_beq 7 (by omega)) (ne_beq 8 (by omega)) (ne_beq 9 (by omega)) u i d fu ft a its.length cap w
theorem and_four (a b c d : Bool) : (d && a && b && c) = (a && b && c && d) := by cases a <;> cases b <;> cases c <;> cases d <;> rfl

set_option maxRecDepth 100000 in
theorem specOpOk_any (o : OpD) (x : Value) (w : World) (hI : ItAt w w.heap.size x o.its) (hz : OpSz o) :
    Calls Tryz.prog 59 #[opV o x] w fun e w' => e = .returned (.bool (opB o)) ∧ Below w.heap.size w w' := by
  obtain ⟨a, cap, rfl⟩ := hI.1.slice
  obtain ⟨k, u, i, d, fu, ft, its⟩ := o
  obtain ⟨z1, z2, z3, z4⟩ := hz
  unfold opB
  by_cases h1 : k = 1 ∨ k = 2 ∨ k = 8
  · simp only [if_pos h1]
    rw [Bool.and_comm]
    exact specOp_1 k h1 u i d fu ft a its.length cap w z1
  · simp only [if_neg h1]
    by_cases h2 : k = 3
    · simp only [if_pos h2]
      rw [← and_four]
      exact specOp_3 k h2 u i d fu ft a its.length cap its w z3 z4 hI
    · simp only [if_neg h2]
      by_cases h3 : k = 4 ∨ k = 5 ∨ k = 6 ∨ k = 7
      · simp only [if_pos h3]
        rw [Bool.and_comm]
        exact specOp_4 k h3 u i d fu ft a its.length cap w z1 z2
      · simp only [if_neg h3]
        by_cases h4 : k = 9
        · simp only [if_pos h4]
          rw [Bool.and_comm]
          exact specOp_9 k h4 u i d fu ft a its.length cap w
        · simp only [if_neg h4]
          exact specOp_0 k (ne_beq 1 (by omega)) (ne_beq 2 (by omega)) (ne_beq 3 (by omega)) (ne_beq 4 (by omega)) (ne_beq 5 (by omega)) (ne_beq 6 (by omega)) (ne_beq 7 (by omega)) (ne_beq 8 (by omega)) (ne_beq 9 (by omega)) u i d fu ft a its.length cap w

/-- What szOp answers. -/
def SzO (o : OpD) (n : Int) (w : World) (e : Ending) (w' : World) : Prop := ∃ r : Int, e = .returned (.int .i64 r) ∧ -1 ≤ r ∧ r ≤ n ∧ (0 ≤ r → (o.its.length : Int) ≤ n) ∧ Below w.heap.size w w'

/-- What toOp answers. -/
def OutO (o : OpD) (w : World) (e : Ending) (w' : World) : Prop := ∃ y, e = .returned (opV o y) ∧ OwnR 55 3 itC w' w.heap.size y o.its ∧ Below w.heap.size w w'

set_option maxRecDepth 100000 in
set_option maxHeartbeats 1600000 in
theorem eqOp_same (o : OpD) (x x' : Value) (w : World) (h : ItAt w w.heap.size x o.its) (h' : ItAt w w.heap.size x' o.its) (hz : OpSz o) :
    Calls Tryz.prog 77 #[opV o x, opV o x'] w fun e w' => e = .returned (.bool true) ∧ Below w.heap.size w w' := by
  have HI := Lib.hid h
  have HI' := Lib.hid h'
  obtain ⟨hu, hi, hfu, hft⟩ := hz
  have HC := Lib.hid (fun w h h' => eqFeed_same (fV o.fu o.ft x) (fV o.fu o.ft x') o.fu o.ft o.its w ⟨x, rfl, h, hfu, hft⟩ ⟨x', rfl, h', hfu, hft⟩)
  clear h h'
  have hb0 : Below w.heap.size w ((w.alloc (.cells #[.int .i64 o.k, .string o.u, .string o.i, .int .i64 o.d, .string o.fu, .string o.ft, x] 35)).alloc (.cells #[.int .i64 o.k, .string o.u, .string o.i, .int .i64 o.d, .string o.fu, .string o.ft, x'] 35)) := ((Below.refl _ _).alloc (Nat.le_refl _) _).alloc (by simp) _
  go_enter Tryz.func77, Tryz.ntmps77
  go_wp2_with fail
  refine (HC.out _ ((HI.out.below hb0).mono hb0.size) ((HI'.out.below hb0).mono hb0.size)).mono ?_
  rintro e w1 ⟨rfl, hb1⟩
  have hb2 := hb0.trans (hb1.mono hb0.size)
  clear hb1 hb0
  go_wp2
  go_ret
  exact ⟨rfl, hb2⟩

end Go.Proofs.YtffkakpbelknaaaGreatDoor
