/- Walk of the law FnExactPadded. -/
import Derived.Test.YtijoancnlpkcoaaW4a
namespace Go.Proofs.Ytijoancnlpkcoaa
open Go.ChangeShapes Go.WideShapes Go.ChangeAt Go.RowKit
set_option linter.unusedVariables false

theorem walk_FnExactPadded (t : ByteArray) (c : Int) (w : World) (ht : t.size ≤ maxLen) (hc : (Lit.int .i64 c).wf = true) :
    Calls Try.prog 10 #[.string t, .int .i64 c] w fun e w' => e = .returned (.bool true) ∧ Below w.heap.size w w' := by
  have ht' := ht
  unfold maxLen at ht'
  go_enter Try.func10, Try.ntmps10
  go_wp2_with (first | (go_at_call 24; refine (specPadded_any _ _ _ ht hc).mono ?_; rintro e w1 ⟨rfl, hb1⟩) | (go_at_call 25; refine (implPadded_any _ _ _ ht hc).mono ?_; rintro e w2 ⟨rfl, hb2⟩))
  · go_ret
    exact ⟨rfl, Below.refl _ _⟩
  · go_ret
    exact ⟨rfl, hb1.trans (hb2.mono hb1.size)⟩
end Go.Proofs.Ytijoancnlpkcoaa
