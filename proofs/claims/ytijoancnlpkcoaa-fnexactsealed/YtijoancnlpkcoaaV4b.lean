/- Walk of the law FnExactSealed. -/
import Derived.Test.YtijoancnlpkcoaaW4d
namespace Go.Proofs.Ytijoancnlpkcoaa
open Go.ChangeShapes Go.WideShapes Go.ChangeAt Go.RowKit
set_option linter.unusedVariables false

set_option maxHeartbeats 1600000 in
theorem walk_FnExactSealed (a b c t : ByteArray) (w : World) (ha : a.size ≤ maxLen) (hb : b.size ≤ maxLen) (hc : c.size ≤ maxLen) (ht : t.size ≤ maxLen) :
    Calls Try.prog 9 #[.string a, .string b, .string c, .string t] w fun e w' => e = .returned (.bool true) ∧ Below w.heap.size w w' := by
  have ha' := ha
  have hb' := hb
  have hc' := hc
  have ht' := ht
  unfold maxLen at ha' hb' hc' ht'
  go_enter Try.func9, Try.ntmps9
  go_wp2_with (first | (go_at_call 22; refine (specSealed_any _ _ _ _ _ ha hb hc ht).mono ?_; rintro e w1 ⟨rfl, hb1⟩) | (go_at_call 23; refine (implSealed_any _ _ _ _ _ ha hb hc ht).mono ?_; rintro e w2 ⟨rfl, hb2⟩))
  · go_ret
    exact ⟨rfl, Below.refl _ _⟩
  · go_ret
    exact ⟨rfl, Below.refl _ _⟩
  · go_ret
    exact ⟨rfl, Below.refl _ _⟩
  · go_ret
    exact ⟨rfl, Below.refl _ _⟩
  · go_ret
    exact ⟨rfl, hb1.trans (hb2.mono hb1.size)⟩
end Go.Proofs.Ytijoancnlpkcoaa
