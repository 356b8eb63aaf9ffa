/- What the laws make of readers: counted, copied, held against each other. -/
import Derived.Test.YtgimjfffdnopiaaW9g
namespace Go.Proofs.Ytgimjfffdnopiaa
open Go.ChangeShapes Go.WideShapes Go.ChangeAt Go.RowKit
set_option linter.unusedVariables false

theorem Try.infoSub : (Try.prog.info? 99).map (fun i => (i.zero, i.size, i.bytes)) = some (some (.agg #[.string ByteArray.empty, .string ByteArray.empty, .slice none 0 0]), 3, 56) := by kernel_rfl

/-- What szSub answers. -/
def SzS (P : Int → Prop) (n : Int) (w : World) (e : Ending) (w' : World) : Prop := ∃ r : Int, e = .returned (.int .i64 r) ∧ -1 ≤ r ∧ r ≤ n ∧ (0 ≤ r → P n) ∧ Below w.heap.size w w'

/-- What toSub answers. -/
def OutSb (s : Sb) (w : World) (e : Ending) (w' : World) : Prop := ∃ y, e = .returned (sbV s.u s.t y) ∧ OwnR 103 5 enC w' w.heap.size y s.es ∧ Below w.heap.size w w'

theorem putRow_own {α : Type} {k : Nat} {C : α → List Value} {e : TypeId} {base g : Nat} {v : Value} {l : List α} (hg : g < base) (us : List Value) : ∀ (o : Nat) (w : World), OwnR e k C w base v l → OwnR e k C (putRow g o us w) base v l := by
  induction us with
  | nil => intro o w h; exact h
  | cons u us ih => intro o w h; exact ih (o + 1) _ (h.other ⟨g, o, none⟩ u hg)
abbrev sb0 : Sb × Value := (⟨ByteArray.empty, ByteArray.empty, []⟩, .slice none 0 0)
/-- Feeds of a reader that a call has made. -/
def OwnS (w : World) (B : Nat) (v : Value) (ss : List Sb) : Prop := ∃ ps : List (Sb × Value), ps.map Prod.fst = ss ∧ OwnR 99 3 sbC w B v ps ∧ ∀ p ∈ ps, OwnR 103 5 enC w B p.2 p.1.es
theorem OwnR.lift {α : Type} {k : Nat} {C : α → List Value} {e : TypeId} {w : World} {B : Nat} {v : Value} {l : List α} (hk : ∀ x, (C x).length = k) (h : OwnR e k C w B v l) : RecAt k C w w.heap.size v l := h.at hk
theorem OwnS.at {w : World} {B : Nat} {v : Value} {ss : List Sb} (h : OwnS w B v ss) (hs : ∀ s ∈ ss, SbSz s ∧ ∀ x ∈ s.es, EnSz x) : SbAt w w.heap.size v ss := by
  obtain ⟨ps, rfl, h2, h3⟩ := h
  refine ⟨ps, rfl, h2.at sbC_len, fun p hp => ?_⟩
  have hm := hs p.1 (List.mem_map.2 ⟨p, hp, rfl⟩)
  exact ⟨⟨(h3 p hp).at enC_len, hm.2⟩, hm.1⟩
/-- What toSubS answers. -/
def OutS (ss : List Sb) (w : World) (e : Ending) (w' : World) : Prop := ∃ v, e = .returned v ∧ OwnS w' w.heap.size v ss ∧ Below w.heap.size w w'

end Go.Proofs.Ytgimjfffdnopiaa
