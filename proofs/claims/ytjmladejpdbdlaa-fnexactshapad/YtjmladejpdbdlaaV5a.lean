/- Walk of the law FnExactShaPad. -/
import Derived.Test.YtjmladejpdbdlaaW5a
namespace Go.Proofs.Ytjmladejpdbdlaa
open Go.ChangeShapes Go.WideShapes Go.ChangeAt Go.RowKit
set_option linter.unusedVariables false

theorem walk_FnExactShaPad (a : ByteArray) (w : World) (ha : a.size ≤ maxLen) :
    Calls Try.prog 3 #[.string a] w fun e w' => e = .returned (.bool true) ∧ Below w.heap.size w w' := by
  have ha' := ha
  unfold maxLen at ha'
  go_enter Try.func3, Try.ntmps3
  go_wp2_with (first | (go_at_call 4; refine (specShaPad_any _ _ ha).mono ?_; rintro e w1 ⟨rfl, hb1⟩) | (go_at_call 5; refine (implShaPad_any _ _ ha).mono ?_; rintro e w2 ⟨rfl, hb2⟩))
  · go_ret
    exact ⟨rfl, Below.refl _ _⟩
  · go_ret
    exact ⟨rfl, hb1.trans (hb2.mono hb1.size)⟩
end Go.Proofs.Ytjmladejpdbdlaa
