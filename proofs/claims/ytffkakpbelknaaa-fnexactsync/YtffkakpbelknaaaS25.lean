/- Joined: W8m, W9f, W9g, W9h. -/
import Derived.Laws.ResultCell
import Derived.Test.YtffkakpbelknaaaS14
import Derived.Test.YtffkakpbelknaaaS15
/- W8m -/
namespace Go.Proofs.Ytffkakpbelknaaa
open Go.ChangeShapes Go.WideShapes Go.ChangeAt Go.RowKit
set_option linter.unusedVariables false

theorem Try.infoItem : (Try.prog.info? 45).map (fun i => (i.zero, i.size, i.bytes)) = some (some (.agg #[.string ByteArray.empty, .string ByteArray.empty, .int .i64 0]), 3, 40) := by kernel_rfl

abbrev it0 : It := ⟨ByteArray.empty, ByteArray.empty, 0⟩
theorem ItAt.of_own {e : TypeId} {w : World} {base : Nat} {v : Value} {its : List It} (h : OwnR e 3 itC w base v its) (hs : ∀ x ∈ its, x.id.size ≤ maxLen ∧ x.ti.size ≤ maxLen) : ItAt w w.heap.size v its := ⟨h.at itC_len, hs⟩

/-- A feed in memory: its value, what it holds. -/
def FeedAt (w : World) (v : Value) (u t : ByteArray) (its : List It) : Prop := ∃ x, v = fV u t x ∧ ItAt w w.heap.size x its ∧ u.size ≤ maxLen ∧ t.size ≤ maxLen
theorem FeedAt.below {w w' : World} {v : Value} {u t : ByteArray} {its : List It} (h : FeedAt w v u t its) (hb : Below w.heap.size w w') : FeedAt w' v u t its := by
  obtain ⟨x, hv, hi, r⟩ := h
  exact ⟨x, hv, (hi.below hb).mono hb.size, r⟩
/-- What szFeed answers: less than nothing, or what the lengths are at most. -/
def SzF (u t : ByteArray) (its : List It) (n : Int) (w : World) (e : Ending) (w' : World) : Prop := ∃ r : Int, e = .returned (.int .i64 r) ∧ -1 ≤ r ∧ r ≤ n ∧ (0 ≤ r → (its.length : Int) ≤ n ∧ (u.size : Int) ≤ n ∧ (t.size : Int) ≤ n) ∧ Below w.heap.size w w'

/-- What toFeed answers: a feed in memory of its own. -/
def OutF (u t : ByteArray) (its : List It) (w : World) (e : Ending) (w' : World) : Prop := ∃ x, e = .returned (fV u t x) ∧ OwnR 45 3 itC w' w.heap.size x its ∧ Below w.heap.size w w'

end Go.Proofs.Ytffkakpbelknaaa

/- W9f -/
namespace Go.Proofs.Ytffkakpbelknaaa
open Go.ChangeShapes Go.WideShapes Go.ChangeAt Go.RowKit
set_option linter.unusedVariables false

theorem Try.infoEntry : (Try.prog.info? 47).map (fun i => (i.zero, i.size, i.bytes)) = some (some (.agg #[.string ByteArray.empty, .string ByteArray.empty, .int .i64 0, .bool false, .bool false]), 5, 48) := by kernel_rfl

end Go.Proofs.Ytffkakpbelknaaa

/- W9g -/
namespace Go.Proofs.Ytffkakpbelknaaa
open Go.ChangeShapes Go.WideShapes Go.ChangeAt Go.RowKit
set_option linter.unusedVariables false

end Go.Proofs.Ytffkakpbelknaaa

/- W9h -/
namespace Go.Proofs.Ytffkakpbelknaaa
open Go.ChangeShapes Go.WideShapes Go.ChangeAt Go.RowKit
set_option linter.unusedVariables false

theorem Try.infoSub : (Try.prog.info? 43).map (fun i => (i.zero, i.size, i.bytes)) = some (some (.agg #[.string ByteArray.empty, .string ByteArray.empty, .slice none 0 0]), 3, 56) := by kernel_rfl

/-- What szSub answers. -/
def SzS (P : Int → Prop) (n : Int) (w : World) (e : Ending) (w' : World) : Prop := ∃ r : Int, e = .returned (.int .i64 r) ∧ -1 ≤ r ∧ r ≤ n ∧ (0 ≤ r → P n) ∧ Below w.heap.size w w'

/-- What toSub answers. -/
def OutSb (s : Sb) (w : World) (e : Ending) (w' : World) : Prop := ∃ y, e = .returned (sbV s.u s.t y) ∧ OwnR 47 5 enC w' w.heap.size y s.es ∧ Below w.heap.size w w'

theorem putRow_own {α : Type} {k : Nat} {C : α → List Value} {e : TypeId} {base g : Nat} {v : Value} {l : List α} (hg : g < base) (us : List Value) : ∀ (o : Nat) (w : World), OwnR e k C w base v l → OwnR e k C (putRow g o us w) base v l := by
  induction us with
  | nil => intro o w h; exact h
  | cons u us ih => intro o w h; exact ih (o + 1) _ (h.other ⟨g, o, none⟩ u hg)
abbrev sb0 : Sb × Value := (⟨ByteArray.empty, ByteArray.empty, []⟩, .slice none 0 0)
/-- Feeds of a reader that a call has made. -/
def OwnS (w : World) (B : Nat) (v : Value) (ss : List Sb) : Prop := ∃ ps : List (Sb × Value), ps.map Prod.fst = ss ∧ OwnR 43 3 sbC w B v ps ∧ ∀ p ∈ ps, OwnR 47 5 enC w B p.2 p.1.es
theorem OwnR.lift {α : Type} {k : Nat} {C : α → List Value} {e : TypeId} {w : World} {B : Nat} {v : Value} {l : List α} (hk : ∀ x, (C x).length = k) (h : OwnR e k C w B v l) : RecAt k C w w.heap.size v l := h.at hk
theorem OwnS.at {w : World} {B : Nat} {v : Value} {ss : List Sb} (h : OwnS w B v ss) (hs : ∀ s ∈ ss, SbSz s ∧ ∀ x ∈ s.es, EnSz x) : SbAt w w.heap.size v ss := by
  obtain ⟨ps, rfl, h2, h3⟩ := h
  refine ⟨ps, rfl, h2.at sbC_len, fun p hp => ?_⟩
  have hm := hs p.1 (List.mem_map.2 ⟨p, hp, rfl⟩)
  exact ⟨⟨(h3 p hp).at enC_len, hm.2⟩, hm.1⟩
/-- What toSubS answers. -/
def OutS (ss : List Sb) (w : World) (e : Ending) (w' : World) : Prop := ∃ v, e = .returned v ∧ OwnS w' w.heap.size v ss ∧ Below w.heap.size w w'

end Go.Proofs.Ytffkakpbelknaaa
