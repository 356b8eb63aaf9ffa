/- Walk of the law FnExactTagOf. -/
import Derived.Test.YtijoancnlpkcoaaW3k
namespace Go.Proofs.Ytijoancnlpkcoaa
open Go.ChangeShapes Go.WideShapes Go.ChangeAt Go.RowKit
set_option linter.unusedVariables false

theorem walk_FnExactTagOf (a b : ByteArray) (w : World) (ha : a.size ≤ maxLen) (hb : b.size ≤ maxLen) :
    Calls Try.prog 8 #[.string a, .string b] w fun e w' => e = .returned (.bool true) ∧ Below w.heap.size w w' := by
  have ha' := ha
  have hb' := hb
  unfold maxLen at ha' hb'
  go_enter Try.func8, Try.ntmps8
  go_wp2_with (first | (go_at_call 21; refine (specTagOf_any _ _ _ ha hb).mono ?_; rintro e w1 ⟨rfl, hb1⟩) | (go_at_call 20; refine (implTagOf_any _ _ _ ha hb).mono ?_; rintro e w2 ⟨rfl, hb2⟩))
  · go_ret
    exact ⟨rfl, Below.refl _ _⟩
  · go_ret
    exact ⟨rfl, Below.refl _ _⟩
  · go_ret
    exact ⟨rfl, hb1.trans (hb2.mono hb1.size)⟩
end Go.Proofs.Ytijoancnlpkcoaa
