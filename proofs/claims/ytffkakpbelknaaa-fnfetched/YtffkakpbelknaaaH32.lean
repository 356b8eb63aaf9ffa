/- Joined: OpenF, W9l, W11o. -/
import Derived.Test.YtffkakpbelknaaaH18
import Derived.Test.YtffkakpbelknaaaH20
import Derived.Test.YtffkakpbelknaaaH31
/- OpenF -/
namespace Go.Proofs.Ytffkakpbelknaaa
open Go.ChangeShapes Go.WideShapes Go.Deep Go.RowKit
set_option linter.unusedVariables false

end Go.Proofs.Ytffkakpbelknaaa

/- W9l -/
namespace Go.Proofs.Ytffkakpbelknaaa
open Go.ChangeShapes Go.WideShapes Go.ChangeAt Go.RowKit
set_option linter.unusedVariables false

def OpAt (w : World) (v : Value) (o : OpD) : Prop := ∃ x, v = opV o x ∧ ItAt w w.heap.size x o.its ∧ OpSz o
theorem OpAt.below {w w' : World} {v : Value} {o : OpD} (h : OpAt w v o) (hb : Below w.heap.size w w') : OpAt w' v o := by
  obtain ⟨x, hv, hi, r⟩ := h
  exact ⟨x, hv, (hi.below hb).mono hb.size, r⟩
theorem OpAt.drew {w : World} {v : Value} {o : OpD} (h : OpAt w v o) : OpAt w.drew v o := h
theorem OpAt.get {w : World} {x : Value} {o : OpD} (h : OpAt w (opV o x) o) : ItAt w w.heap.size x o.its := by
  obtain ⟨y, hv, hi, r⟩ := h
  have : x = y := by
    have e := Value.agg.inj hv
    have e2 := congrArg (fun a : Array Value => a[6]?) e
    simpa using e2
  subst this
  exact hi
theorem Box.putL {g : Nat} {t : TypeId} (us : List Value) : ∀ (o : Nat) (w : World) (xs : List Value), Box w g xs.toArray t → Box (putRow g o us w) g (setL o us xs).toArray t := by
  induction us with
  | nil => intro o w xs h; exact h
  | cons u us ih =>
    intro o w xs h
    refine ih (o + 1) _ _ ?_
    have := h.set o u
    rw [List.setIfInBounds_toArray] at this
    exact this
theorem Box.putAll {w : World} {g : Nat} {t : TypeId} {xs us : List Value} (h : Box w g xs.toArray t) (hl : us.length = xs.length) : Box (putRow g 0 us w) g us.toArray t := by
  have := Box.putL us 0 w xs h
  rw [setL_eq us 0 xs (by omega), Nat.zero_add, hl, List.drop_length, List.take_zero, List.append_nil, List.nil_append] at this
  exact this
theorem ne_beq {k : Int} (q : Int) (h : k ≠ q) : (k == q) = false := beq_eq_false_iff_ne.2 h

set_option maxRecDepth 100000 in
theorem implOpOk_any (o : OpD) (x : Value) (w : World) (hI : ItAt w w.heap.size x o.its) (hz : OpSz o) :
    Calls Try.prog 23 #[opV o x] w fun e w' => e = .returned (.bool (opB o)) ∧ Below w.heap.size w w' := by
  obtain ⟨a, cap, rfl⟩ := hI.1.slice
  obtain ⟨k, u, i, d, fu, ft, its⟩ := o
  obtain ⟨z1, z2, z3, z4⟩ := hz
  unfold opB
  by_cases h1 : k = 1 ∨ k = 2 ∨ k = 8
  · simp only [if_pos h1]
    exact implOp_1 k h1 u i d fu ft a its.length cap w z1
  · simp only [if_neg h1]
    by_cases h2 : k = 3
    · simp only [if_pos h2]
      exact implOp_3 k h2 u i d fu ft a its.length cap its w z3 z4 hI
    · simp only [if_neg h2]
      by_cases h3 : k = 4 ∨ k = 5 ∨ k = 6 ∨ k = 7
      · simp only [if_pos h3]
        exact implOp_4 k h3 u i d fu ft a its.length cap w z1 z2
      · simp only [if_neg h3]
        by_cases h4 : k = 9
        · simp only [if_pos h4]
          exact implOp_9 k h4 u i d fu ft a its.length cap w
        · simp only [if_neg h4]
          exact implOp_0 k (ne_beq 1 (by omega)) (ne_beq 2 (by omega)) (ne_beq 3 (by omega)) (ne_beq 4 (by omega)) (ne_beq 5 (by omega)) (ne_beq 6 (by omega)) (ne_beq 7 (by omega)) (ne_beq 8 (by omega)) (ne_beq 9 (by omega)) u i d fu ft a its.length cap w
theorem and_four (a b c d : Bool) : (d && a && b && c) = (a && b && c && d) := by cases a <;> cases b <;> cases c <;> cases d <;> rfl

set_option maxRecDepth 100000 in
theorem specOpOk_any (o : OpD) (x : Value) (w : World) (hI : ItAt w w.heap.size x o.its) (hz : OpSz o) :
    Calls Try.prog 24 #[opV o x] w fun e w' => e = .returned (.bool (opB o)) ∧ Below w.heap.size w w' := by
  obtain ⟨a, cap, rfl⟩ := hI.1.slice
  obtain ⟨k, u, i, d, fu, ft, its⟩ := o
  obtain ⟨z1, z2, z3, z4⟩ := hz
  unfold opB
  by_cases h1 : k = 1 ∨ k = 2 ∨ k = 8
  · simp only [if_pos h1]
    rw [Bool.and_comm]
    exact specOp_1 k h1 u i d fu ft a its.length cap w z1
  · simp only [if_neg h1]
    by_cases h2 : k = 3
    · simp only [if_pos h2]
      rw [← and_four]
      exact specOp_3 k h2 u i d fu ft a its.length cap its w z3 z4 hI
    · simp only [if_neg h2]
      by_cases h3 : k = 4 ∨ k = 5 ∨ k = 6 ∨ k = 7
      · simp only [if_pos h3]
        rw [Bool.and_comm]
        exact specOp_4 k h3 u i d fu ft a its.length cap w z1 z2
      · simp only [if_neg h3]
        by_cases h4 : k = 9
        · simp only [if_pos h4]
          rw [Bool.and_comm]
          exact specOp_9 k h4 u i d fu ft a its.length cap w
        · simp only [if_neg h4]
          exact specOp_0 k (ne_beq 1 (by omega)) (ne_beq 2 (by omega)) (ne_beq 3 (by omega)) (ne_beq 4 (by omega)) (ne_beq 5 (by omega)) (ne_beq 6 (by omega)) (ne_beq 7 (by omega)) (ne_beq 8 (by omega)) (ne_beq 9 (by omega)) u i d fu ft a its.length cap w

/-- What szOp answers. -/
def SzO (o : OpD) (n : Int) (w : World) (e : Ending) (w' : World) : Prop := ∃ r : Int, e = .returned (.int .i64 r) ∧ -1 ≤ r ∧ r ≤ n ∧ (0 ≤ r → (o.its.length : Int) ≤ n) ∧ Below w.heap.size w w'

/-- What toOp answers. -/
def OutO (o : OpD) (w : World) (e : Ending) (w' : World) : Prop := ∃ y, e = .returned (opV o y) ∧ OwnR 45 3 itC w' w.heap.size y o.its ∧ Below w.heap.size w w'

end Go.Proofs.Ytffkakpbelknaaa

/- W11o -/
namespace Go.Proofs.Ytffkakpbelknaaa
open Go.ChangeShapes Go.WideShapes Go.ChangeAt Go.RowKit
set_option linter.unusedVariables false

/-- What szOpS answers. -/
def SzOs (P : Int → Prop) (n : Int) (w : World) (e : Ending) (w' : World) : Prop := ∃ r : Int, e = .returned (.int .i64 r) ∧ -1 ≤ r ∧ r ≤ n ∧ (0 ≤ r → P n) ∧ Below w.heap.size w w'
theorem putRow_own11 {α : Type} {k : Nat} {C : α → List Value} {e : TypeId} {base g : Nat} {v : Value} {l : List α} (hg : g < base) (us : List Value) : ∀ (o : Nat) (w : World), OwnR e k C w base v l → OwnR e k C (putRow g o us w) base v l := by
  induction us with
  | nil => intro o w h; exact h
  | cons u us ih => intro o w h; exact ih (o + 1) _ (h.other ⟨g, o, none⟩ u hg)
def opC (p : OpD × Value) : List Value := [.int .i64 p.1.k, .string p.1.u, .string p.1.i, .int .i64 p.1.d, .string p.1.fu, .string p.1.ft, p.2]
theorem opC_len (p : OpD × Value) : (opC p).length = 7 := rfl
def OpsAt (w : World) (B : Nat) (v : Value) (os : List OpD) : Prop := ∃ ps : List (OpD × Value), ps.map Prod.fst = os ∧ RecAt 7 opC w B v ps ∧ ∀ p ∈ ps, ItAt w B p.2 p.1.its ∧ OpSz p.1
theorem OpsAt.raw {w : World} {B : Nat} {v : Value} {os : List OpD} (h : OpsAt w B v os) : ∃ a cap, v = .slice a os.length cap ∧ os.length ≤ cap ∧ cap ≤ maxLen ∧
    ∀ j, j < os.length → ∃ b off, a = some ⟨b, off, none⟩ ∧ b < B ∧ ∀ i (h : i < os.length), ∃ x, w.cell? ⟨b, off + i * 7, none⟩ = some (.int .i64 os[i].k) ∧ w.cell? ⟨b, off + i * 7 + 1, none⟩ = some (.string os[i].u) ∧ w.cell? ⟨b, off + i * 7 + 2, none⟩ = some (.string os[i].i) ∧ w.cell? ⟨b, off + i * 7 + 3, none⟩ = some (.int .i64 os[i].d) ∧ w.cell? ⟨b, off + i * 7 + 4, none⟩ = some (.string os[i].fu) ∧ w.cell? ⟨b, off + i * 7 + 5, none⟩ = some (.string os[i].ft) ∧ w.cell? ⟨b, off + i * 7 + 6, none⟩ = some (x) ∧ ItAt w B x os[i].its ∧ OpSz os[i] := by
  obtain ⟨ps, rfl, ⟨a, cap, hv, h1, h2, hc⟩, hs⟩ := h
  refine ⟨a, cap, by rw [List.length_map]; exact hv, by rw [List.length_map]; exact h1, h2, fun j hj => ?_⟩
  rw [List.length_map] at hj
  obtain ⟨b, off, ha, hB, hr⟩ := hc (by omega)
  refine ⟨b, off, ha, hB, fun i hi => ?_⟩
  have hi' : i < ps.length := by rwa [List.length_map] at hi
  have hm := hs _ (List.getElem_mem hi')
  rw [List.getElem_map]
  exact ⟨_, hr i hi' 0 _ rfl, hr i hi' 1 _ rfl, hr i hi' 2 _ rfl, hr i hi' 3 _ rfl, hr i hi' 4 _ rfl, hr i hi' 5 _ rfl, hr i hi' 6 _ rfl, hm.1, hm.2⟩
theorem OpsAt.below {w w' : World} {B : Nat} {v : Value} {os : List OpD} (h : OpsAt w B v os) (hb : Below B w w') : OpsAt w' B v os := by
  obtain ⟨ps, h1, h2, h3⟩ := h
  exact ⟨ps, h1, h2.below hb, fun p hp => ⟨(h3 p hp).1.below hb, (h3 p hp).2⟩⟩
theorem OpsAt.mono {w : World} {B B' : Nat} {v : Value} {os : List OpD} (h : OpsAt w B v os) (hb : B ≤ B') : OpsAt w B' v os := by
  obtain ⟨ps, h1, h2, h3⟩ := h
  exact ⟨ps, h1, h2.mono hb, fun p hp => ⟨(h3 p hp).1.mono hb, (h3 p hp).2⟩⟩
theorem OpsAt.drew {w : World} {B : Nat} {v : Value} {os : List OpD} (h : OpsAt w B v os) : OpsAt w.drew B v os := h
theorem OpsAt.size {w : World} {B : Nat} {v : Value} {os : List OpD} (h : OpsAt w B v os) : ∀ o ∈ os, OpSz o ∧ ∀ x ∈ o.its, x.id.size ≤ maxLen ∧ x.ti.size ≤ maxLen := by
  obtain ⟨ps, rfl, _, h3⟩ := h
  intro s hs
  obtain ⟨p, hp, rfl⟩ := List.mem_map.1 hs
  exact ⟨(h3 p hp).2, (h3 p hp).1.2⟩
abbrev op0 : OpD × Value := (⟨0, ByteArray.empty, ByteArray.empty, 0, ByteArray.empty, ByteArray.empty, []⟩, .slice none 0 0)
theorem Try.infoOp : (Try.prog.info? 31).map (fun i => (i.zero, i.size, i.bytes)) = some (some (.agg #[.int .i64 0, .string ByteArray.empty, .string ByteArray.empty, .int .i64 0, .string ByteArray.empty, .string ByteArray.empty, .slice none 0 0]), 7, 104) := by kernel_rfl
/-- Operations that a call has made. -/
def OwnO (w : World) (B : Nat) (v : Value) (os : List OpD) : Prop := ∃ ps : List (OpD × Value), ps.map Prod.fst = os ∧ OwnR 31 7 opC w B v ps ∧ ∀ p ∈ ps, OwnR 45 3 itC w B p.2 p.1.its
theorem OwnO.at {w : World} {B : Nat} {v : Value} {os : List OpD} (h : OwnO w B v os) (hs : ∀ o ∈ os, OpSz o ∧ ∀ x ∈ o.its, x.id.size ≤ maxLen ∧ x.ti.size ≤ maxLen) : OpsAt w w.heap.size v os := by
  obtain ⟨ps, rfl, h2, h3⟩ := h
  exact ⟨ps, rfl, h2.at opC_len, fun p hp => ⟨ItAt.of_own (h3 p hp) (hs _ (List.mem_map.2 ⟨p, hp, rfl⟩)).2, (hs _ (List.mem_map.2 ⟨p, hp, rfl⟩)).1⟩⟩
theorem OwnO.slice {w : World} {B : Nat} {v : Value} {os : List OpD} (h : OwnO w B v os) : ∃ a cap, v = .slice a os.length cap := by
  obtain ⟨ps, rfl, h2, h3⟩ := h
  rw [List.length_map]
  exact OwnR.slice h2
/-- What toOpS answers. -/
def OutOs (os : List OpD) (w : World) (e : Ending) (w' : World) : Prop := ∃ v, e = .returned v ∧ OwnO w' w.heap.size v os ∧ Below w.heap.size w w'

end Go.Proofs.Ytffkakpbelknaaa
