/- Walk of the law FnExactReaderOk. -/
import Derived.Test.YtfjaincogbdeiaaDoorOpenR
import Derived.Test.YtfjaincogbdeiaaDoorW9c
namespace Go.Proofs.YtfjaincogbdeiaaDoor
open Go.ChangeShapes Go.WideShapes Go.ChangeAt Go.RowKit
set_option linter.unusedVariables false

theorem RdAt.below {w w' : World} {v : Value} {ss : List Sb} (h : RdAt w v ss) (hb : Below w.heap.size w w') : RdAt w' v ss := by
  obtain ⟨x, hv, hi⟩ := h
  exact ⟨x, hv, (hi.below hb).mono hb.size⟩
theorem RdAt.drew {w : World} {v : Value} {ss : List Sb} (h : RdAt w v ss) : RdAt w.drew v ss := h
theorem RdAt.get {w : World} {x : Value} {ss : List Sb} (h : RdAt w (.agg #[x]) ss) : SbAt w w.heap.size x ss := by
  obtain ⟨y, hy, hz⟩ := h
  cases hy
  exact hz
theorem OutRd.at {ss : List Sb} {w w' : World} {x : Value} (h : OwnS w' w.heap.size x ss) (hs : ∀ s ∈ ss, SbSz s ∧ ∀ x ∈ s.es, EnSz x) : RdAt w' (.agg #[x]) ss := ⟨x, rfl, h.at hs⟩

end Go.Proofs.YtfjaincogbdeiaaDoor
