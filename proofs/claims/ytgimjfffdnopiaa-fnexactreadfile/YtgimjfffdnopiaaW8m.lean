/- What the laws make of feeds: counted, copied, held against each other. -/
import Derived.Test.YtgimjfffdnopiaaW8l
import Derived.Laws.ResultCell
namespace Go.Proofs.Ytgimjfffdnopiaa
open Go.ChangeShapes Go.WideShapes Go.ChangeAt Go.RowKit
set_option linter.unusedVariables false

theorem Try.infoItem : (Try.prog.info? 101).map (fun i => (i.zero, i.size, i.bytes)) = some (some (.agg #[.string ByteArray.empty, .string ByteArray.empty, .int .i64 0]), 3, 40) := by kernel_rfl

abbrev it0 : It := ⟨ByteArray.empty, ByteArray.empty, 0⟩
theorem ItAt.of_own {e : TypeId} {w : World} {base : Nat} {v : Value} {its : List It} (h : OwnR e 3 itC w base v its) (hs : ∀ x ∈ its, x.id.size ≤ maxLen ∧ x.ti.size ≤ maxLen) : ItAt w w.heap.size v its := ⟨h.at itC_len, hs⟩

/-- A feed in memory: its value, what it holds. -/
def FeedAt (w : World) (v : Value) (u t : ByteArray) (its : List It) : Prop := ∃ x, v = fV u t x ∧ ItAt w w.heap.size x its ∧ u.size ≤ maxLen ∧ t.size ≤ maxLen
theorem FeedAt.below {w w' : World} {v : Value} {u t : ByteArray} {its : List It} (h : FeedAt w v u t its) (hb : Below w.heap.size w w') : FeedAt w' v u t its := by
  obtain ⟨x, hv, hi, r⟩ := h
  exact ⟨x, hv, (hi.below hb).mono hb.size, r⟩
/-- What szFeed answers: less than nothing, or what the lengths are at most. -/
def SzF (u t : ByteArray) (its : List It) (n : Int) (w : World) (e : Ending) (w' : World) : Prop := ∃ r : Int, e = .returned (.int .i64 r) ∧ -1 ≤ r ∧ r ≤ n ∧ (0 ≤ r → (its.length : Int) ≤ n ∧ (u.size : Int) ≤ n ∧ (t.size : Int) ≤ n) ∧ Below w.heap.size w w'

/-- What toFeed answers: a feed in memory of its own. -/
def OutF (u t : ByteArray) (its : List It) (w : World) (e : Ending) (w' : World) : Prop := ∃ x, e = .returned (fV u t x) ∧ OwnR 101 3 itC w' w.heap.size x its ∧ Below w.heap.size w w'

end Go.Proofs.Ytgimjfffdnopiaa
