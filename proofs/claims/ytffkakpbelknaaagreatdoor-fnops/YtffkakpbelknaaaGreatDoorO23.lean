/- Parts of the proof. -/
import Derived.Test.YtffkakpbelknaaaGreatDoorO19
import Derived.Test.YtffkakpbelknaaaGreatDoorO21
import Derived.Test.YtffkakpbelknaaaGreatDoorO22
set_option maxHeartbeats 4000000
set_option maxRecDepth 100000
namespace Go.Proofs.YtffkakpbelknaaaGreatDoor
open Go.ChangeShapes Go.WideShapes Go.Deep Go.RowKit
set_option linter.unusedVariables false
end Go.Proofs.YtffkakpbelknaaaGreatDoor
namespace Go.Proofs.YtffkakpbelknaaaGreatDoor
open Go.ChangeShapes Go.WideShapes Go.ChangeAt Go.RowKit
set_option linter.unusedVariables false
def OpAt (w : World) (v : Value) (o : OpD) : Prop := ∃ x, v = opV o x /\ ItAt w w.heap.size x o.its /\ OpSz o
theorem OpAt.below {w w' : World} {v : Value} {o : OpD} (h : OpAt w v o) (hb : Below w.heap.size w w') : OpAt w' v o := by
 obtain ⟨x, hv, hi, r⟩ := h
 exact ⟨x, hv, (hi.below hb).mono hb.size, r⟩
theorem OpAt.drew {w : World} {v : Value} {o : OpD} (h : OpAt w v o) : OpAt w.drew v o := h
theorem ne_beq {k : Int} (q : Int) (h : k ≠ q) : (k == q) = false := beq_eq_false_iff_ne.2 h
theorem implOpOk_any (o : OpD) (x : Value) (w : World) (hI : ItAt w w.heap.size x o.its) (hz : OpSz o) :
  Calls Tryz.prog 23 #[opV o x] w fun e w' => e = .returned (.bool (opB o)) /\ Below w.heap.size w w' := by
 obtain ⟨a, cap, rfl⟩ := hI.1.slice
 obtain ⟨k, u, i, d, fu, ft, its⟩ := o
 obtain ⟨z1, z2, z3, z4⟩ := hz
 unfold opB
 by_cases h1 : k = 1 \/ k = 2 \/ k = 8
 ·simp only [if_pos h1]
  exact implOp_1 k h1 u i d fu ft a its.length cap w z1
 ·simp only [if_neg h1]
  by_cases h2 : k = 3
  ·simp only [if_pos h2]
   exact implOp_3 k h2 u i d fu ft a its.length cap its w z3 z4 hI
  ·simp only [if_neg h2]
   by_cases h3 : k = 4 \/ k = 5 \/ k = 6 \/ k = 7
   ·simp only [if_pos h3]
    exact implOp_4 k h3 u i d fu ft a its.length cap w z1 z2
   ·simp only [if_neg h3]
    by_cases h4 : k = 9
    ·simp only [if_pos h4]
     exact implOp_9 k h4 u i d fu ft a its.length cap w
    ·simp only [if_neg h4]
     exact implOp_0 k (ne_beq 1 (by omega)) (ne_beq 2 (by omega)) (ne_beq 3 (by omega)) (ne_beq 4 (by omega)) (ne_beq 5 (by omega)) (ne_beq 6 (by omega)) (ne_beq 7 (by omega)) (ne_beq 8 (by omega)) (ne_beq 9 (by omega)) u i d fu ft a its.length cap w
theorem and_four (a b c d : Bool) : (d && a && b && c) = (a && b && c && d) := by cases a <;> cases b <;> cases c <;> cases d <;> rfl
theorem specOpOk_any (o : OpD) (x : Value) (w : World) (hI : ItAt w w.heap.size x o.its) (hz : OpSz o) :
  Calls Tryz.prog 59 #[opV o x] w fun e w' => e = .returned (.bool (opB o)) /\ Below w.heap.size w w' := by
 obtain ⟨a, cap, rfl⟩ := hI.1.slice
 obtain ⟨k, u, i, d, fu, ft, its⟩ := o
 obtain ⟨z1, z2, z3, z4⟩ := hz
 unfold opB
 by_cases h1 : k = 1 \/ k = 2 \/ k = 8
 ·simp only [if_pos h1]
  rw [Bool.and_comm]
  exact specOp_1 k h1 u i d fu ft a its.length cap w z1
 ·simp only [if_neg h1]
  by_cases h2 : k = 3
  ·simp only [if_pos h2]
   rw [<- and_four]
   exact specOp_3 k h2 u i d fu ft a its.length cap its w z3 z4 hI
  ·simp only [if_neg h2]
   by_cases h3 : k = 4 \/ k = 5 \/ k = 6 \/ k = 7
   ·simp only [if_pos h3]
    rw [Bool.and_comm]
    exact specOp_4 k h3 u i d fu ft a its.length cap w z1 z2
   ·simp only [if_neg h3]
    by_cases h4 : k = 9
    ·simp only [if_pos h4]
     rw [Bool.and_comm]
     exact specOp_9 k h4 u i d fu ft a its.length cap w
    ·simp only [if_neg h4]
     exact specOp_0 k (ne_beq 1 (by omega)) (ne_beq 2 (by omega)) (ne_beq 3 (by omega)) (ne_beq 4 (by omega)) (ne_beq 5 (by omega)) (ne_beq 6 (by omega)) (ne_beq 7 (by omega)) (ne_beq 8 (by omega)) (ne_beq 9 (by omega)) u i d fu ft a its.length cap w
end Go.Proofs.YtffkakpbelknaaaGreatDoor
namespace Go.Proofs.YtffkakpbelknaaaGreatDoor
open Go.ChangeShapes Go.WideShapes Go.ChangeAt Go.RowKit
set_option linter.unusedVariables false
def opC (p : OpD × Value) : List Value := [.int .i64 p.1.k, .string p.1.u, .string p.1.i, .int .i64 p.1.d, .string p.1.fu, .string p.1.ft, p.2]
theorem opC_len (p : OpD × Value) : (opC p).length = 7 := rfl
def OpsAt (w : World) (B : Nat) (v : Value) (os : List OpD) : Prop := ∃ ps : List (OpD × Value), ps.map Prod.fst = os /\ RecAt 7 opC w B v ps /\ ∀ p ∈ ps, ItAt w B p.2 p.1.its /\ OpSz p.1
theorem OpsAt.raw {w : World} {B : Nat} {v : Value} {os : List OpD} (h : OpsAt w B v os) : ∃ a cap, v = .slice a os.length cap /\ os.length <= cap /\ cap <= maxLen /\
  ∀ j, j < os.length -> ∃ b off, a = some ⟨b, off, none⟩ /\ b < B /\ ∀ i (h : i < os.length), ∃ x, w.cell? ⟨b, off + i * 7, none⟩ = some (.int .i64 os[i].k) /\ w.cell? ⟨b, off + i * 7 + 1, none⟩ = some (.string os[i].u) /\ w.cell? ⟨b, off + i * 7 + 2, none⟩ = some (.string os[i].i) /\ w.cell? ⟨b, off + i * 7 + 3, none⟩ = some (.int .i64 os[i].d) /\ w.cell? ⟨b, off + i * 7 + 4, none⟩ = some (.string os[i].fu) /\ w.cell? ⟨b, off + i * 7 + 5, none⟩ = some (.string os[i].ft) /\ w.cell? ⟨b, off + i * 7 + 6, none⟩ = some (x) /\ ItAt w B x os[i].its /\ OpSz os[i] := by
 obtain ⟨ps, rfl, ⟨a, cap, hv, h1, h2, hc⟩, hs⟩ := h
 refine ⟨a, cap, by rw [List.length_map]; exact hv, by rw [List.length_map]; exact h1, h2, fun j hj => ?_⟩
 rw [List.length_map] at hj
 obtain ⟨b, off, ha, hB, hr⟩ := hc (by omega)
 refine ⟨b, off, ha, hB, fun i hi => ?_⟩
 have hi' : i < ps.length := by rwa [List.length_map] at hi
 have hm := hs _ (List.getElem_mem hi')
 rw [List.getElem_map]
 exact ⟨_, hr i hi' 0 _ rfl, hr i hi' 1 _ rfl, hr i hi' 2 _ rfl, hr i hi' 3 _ rfl, hr i hi' 4 _ rfl, hr i hi' 5 _ rfl, hr i hi' 6 _ rfl, hm.1, hm.2⟩
theorem OpsAt.below {w w' : World} {B : Nat} {v : Value} {os : List OpD} (h : OpsAt w B v os) (hb : Below B w w') : OpsAt w' B v os := by
 obtain ⟨ps, h1, h2, h3⟩ := h
 exact ⟨ps, h1, h2.below hb, fun p hp => ⟨(h3 p hp).1.below hb, (h3 p hp).2⟩⟩
theorem OpsAt.mono {w : World} {B B' : Nat} {v : Value} {os : List OpD} (h : OpsAt w B v os) (hb : B <= B') : OpsAt w B' v os := by
 obtain ⟨ps, h1, h2, h3⟩ := h
 exact ⟨ps, h1, h2.mono hb, fun p hp => ⟨(h3 p hp).1.mono hb, (h3 p hp).2⟩⟩
theorem OpsAt.drew {w : World} {B : Nat} {v : Value} {os : List OpD} (h : OpsAt w B v os) : OpsAt w.drew B v os := h
theorem OpsAt.size {w : World} {B : Nat} {v : Value} {os : List OpD} (h : OpsAt w B v os) : ∀ o ∈ os, OpSz o /\ ∀ x ∈ o.its, x.id.size <= maxLen /\ x.ti.size <= maxLen := by
 obtain ⟨ps, rfl, _, h3⟩ := h
 intro s hs
 obtain ⟨p, hp, rfl⟩ := List.mem_map.1 hs
 exact ⟨(h3 p hp).2, (h3 p hp).1.2⟩
theorem Tryz.infoOp : (Tryz.prog.info? 35).map (fun i => (i.zero, i.size, i.bytes)) = some (some (.agg #[.int .i64 0, .string ByteArray.empty, .string ByteArray.empty, .int .i64 0, .string ByteArray.empty, .string ByteArray.empty, .slice none 0 0]), 7, 104) := by kernel_rfl
def OwnO (w : World) (B : Nat) (v : Value) (os : List OpD) : Prop := ∃ ps : List (OpD × Value), ps.map Prod.fst = os /\ OwnR 35 7 opC w B v ps /\ ∀ p ∈ ps, OwnR 55 3 itC w B p.2 p.1.its
theorem OwnO.at {w : World} {B : Nat} {v : Value} {os : List OpD} (h : OwnO w B v os) (hs : ∀ o ∈ os, OpSz o /\ ∀ x ∈ o.its, x.id.size <= maxLen /\ x.ti.size <= maxLen) : OpsAt w w.heap.size v os := by
 obtain ⟨ps, rfl, h2, h3⟩ := h
 exact ⟨ps, rfl, h2.at opC_len, fun p hp => ⟨ItAt.of_own (h3 p hp) (hs _ (List.mem_map.2 ⟨p, hp, rfl⟩)).2, (hs _ (List.mem_map.2 ⟨p, hp, rfl⟩)).1⟩⟩
theorem OwnO.slice {w : World} {B : Nat} {v : Value} {os : List OpD} (h : OwnO w B v os) : ∃ a cap, v = .slice a os.length cap := by
 obtain ⟨ps, rfl, h2, h3⟩ := h
 rw [List.length_map]
 exact OwnR.slice h2
end Go.Proofs.YtffkakpbelknaaaGreatDoor
