/- Parts of the proof. -/
import Derived.Laws.ResultCell
import Derived.Test.YtffkakpbelknaaaGreatDoorO19
import Derived.Test.YtffkakpbelknaaaGreatDoorO20
set_option maxHeartbeats 4000000
set_option maxRecDepth 100000
namespace Go.Proofs.YtffkakpbelknaaaGreatDoor
open Go.ChangeShapes Go.WideShapes Go.ChangeAt Go.RowKit
set_option linter.unusedVariables false
theorem Tryz.infoItem : (Tryz.prog.info? 55).map (fun i => (i.zero, i.size, i.bytes)) = some (some (.agg #[.string ByteArray.empty, .string ByteArray.empty, .int .i64 0]), 3, 40) := by kernel_rfl
theorem ItAt.of_own {e : TypeId} {w : World} {base : Nat} {v : Value} {its : List It} (h : OwnR e 3 itC w base v its) (hs : ∀ x ∈ its, x.id.size <= maxLen /\ x.ti.size <= maxLen) : ItAt w w.heap.size v its := ⟨h.at itC_len, hs⟩
def FeedAt (w : World) (v : Value) (u t : ByteArray) (its : List It) : Prop := ∃ x, v = fV u t x /\ ItAt w w.heap.size x its /\ u.size <= maxLen /\ t.size <= maxLen
theorem FeedAt.below {w w' : World} {v : Value} {u t : ByteArray} {its : List It} (h : FeedAt w v u t its) (hb : Below w.heap.size w w') : FeedAt w' v u t its := by
 obtain ⟨x, hv, hi, r⟩ := h
 exact ⟨x, hv, (hi.below hb).mono hb.size, r⟩
end Go.Proofs.YtffkakpbelknaaaGreatDoor
namespace Go.Proofs.YtffkakpbelknaaaGreatDoor
open Go.ChangeShapes Go.WideShapes Go.ChangeAt Go.RowKit
set_option linter.unusedVariables false
theorem Tryz.infoEntry : (Tryz.prog.info? 97).map (fun i => (i.zero, i.size, i.bytes)) = some (some (.agg #[.string ByteArray.empty, .string ByteArray.empty, .int .i64 0, .bool false, .bool false]), 5, 48) := by kernel_rfl
end Go.Proofs.YtffkakpbelknaaaGreatDoor
namespace Go.Proofs.YtffkakpbelknaaaGreatDoor
open Go.ChangeShapes Go.WideShapes Go.ChangeAt Go.RowKit
set_option linter.unusedVariables false
end Go.Proofs.YtffkakpbelknaaaGreatDoor
namespace Go.Proofs.YtffkakpbelknaaaGreatDoor
open Go.ChangeShapes Go.WideShapes Go.ChangeAt Go.RowKit
set_option linter.unusedVariables false
theorem Tryz.infoSub : (Tryz.prog.info? 94).map (fun i => (i.zero, i.size, i.bytes)) = some (some (.agg #[.string ByteArray.empty, .string ByteArray.empty, .slice none 0 0]), 3, 56) := by kernel_rfl
def OwnS (w : World) (B : Nat) (v : Value) (ss : List Sb) : Prop := ∃ ps : List (Sb × Value), ps.map Prod.fst = ss /\ OwnR 94 3 sbC w B v ps /\ ∀ p ∈ ps, OwnR 97 5 enC w B p.2 p.1.es
theorem OwnS.at {w : World} {B : Nat} {v : Value} {ss : List Sb} (h : OwnS w B v ss) (hs : ∀ s ∈ ss, SbSz s /\ ∀ x ∈ s.es, EnSz x) : SbAt w w.heap.size v ss := by
 obtain ⟨ps, rfl, h2, h3⟩ := h
 refine ⟨ps, rfl, h2.at sbC_len, fun p hp => ?_⟩
 have hm := hs p.1 (List.mem_map.2 ⟨p, hp, rfl⟩)
 exact ⟨⟨(h3 p hp).at enC_len, hm.2⟩, hm.1⟩
end Go.Proofs.YtffkakpbelknaaaGreatDoor
