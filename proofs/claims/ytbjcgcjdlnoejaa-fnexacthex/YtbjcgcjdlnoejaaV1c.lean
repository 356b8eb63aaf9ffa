/- Walks of the laws FnExactHex, FnExactUnhex. -/
import Derived.Test.YtbjcgcjdlnoejaaW1c
import Derived.Test.YtbjcgcjdlnoejaaW1d
namespace Go.Proofs.Ytbjcgcjdlnoejaa
open Go.ChangeShapes Go.WideShapes Go.ChangeAt Go.RowKit

theorem walk_FnExactHex (a : ByteArray) (w : World) (ha : a.size ≤ maxLen) :
    Calls Try.prog 6 #[.string a] w fun e w' => e = .returned (.bool true) ∧ Below w.heap.size w w' := by
  have ha' := ha
  unfold maxLen at ha'
  go_enter Try.func6, Try.ntmps6
  go_wp2_with (first | (go_at_call 25; refine (specHex_any _ _ ha).mono ?_; rintro e w1 ⟨rfl, hb1⟩) | (go_at_call 26; refine (implHex_any _ _ ha).mono ?_; rintro e w2 ⟨rfl, hb2⟩))
  · go_ret
    exact ⟨rfl, Below.refl _ _⟩
  · go_ret
    exact ⟨rfl, hb1.trans (hb2.mono hb1.size)⟩

theorem walk_FnExactUnhex (a : ByteArray) (w : World) (ha : a.size ≤ maxLen) :
    Calls Try.prog 7 #[.string a] w fun e w' => e = .returned (.bool true) ∧ Below w.heap.size w w' := by
  have ha' := ha
  unfold maxLen at ha'
  go_enter Try.func7, Try.ntmps7
  go_wp2_with (first | (go_at_call 27; refine (specUnhex_any _ _ ha).mono ?_; rintro e w1 ⟨rfl, hb1⟩) | (go_at_call 28; refine (implUnhex_any _ _ ha).mono ?_; rintro e w2 ⟨rfl, hb2⟩))
  · go_ret
    exact ⟨rfl, Below.refl _ _⟩
  · go_ret
    exact ⟨rfl, hb1.trans (hb2.mono hb1.size)⟩
end Go.Proofs.Ytbjcgcjdlnoejaa
