/- Walk of the law FnExactUnpadded. -/
import Derived.Test.YtjmladejpdbdlaaDoorW4h
namespace Go.Proofs.YtjmladejpdbdlaaDoor
open Go.ChangeShapes Go.WideShapes Go.ChangeAt Go.RowKit
set_option linter.unusedVariables false

theorem walk_FnExactUnpadded (a : ByteArray) (w : World) (ha : a.size ≤ maxLen) (hg : ∃ t x, Gives w t x) :
    Calls Tryd.prog 13 #[.string a] w fun e w' => e = .returned (.bool true) ∧ Below w.heap.size w w' := by
  obtain ⟨t, x, hg⟩ := hg
  have ha' := ha
  unfold maxLen at ha'
  by_cases hbig : a.size ≤ 1048576
  · have HG := Lib.hid hg
    clear hg
    have hd : decide ((1048576 : Int) < (a.size : Int)) = false := decide_eq_false (by omega)
    go_enter Tryd.func13, Tryd.ntmps13
    go_wp2_with (first | (go_at_call 41; refine (specUnpadded_any _ _ ha).mono ?_; rintro e w1 ⟨rfl, hb1⟩) | (go_at_call 40; refine (implUnpadded_any _ _ t x (HG.out.below hb1 (Nat.le_refl _)) hbig).mono ?_; rintro e w2 ⟨rfl, hb2⟩))
    go_ret
    exact ⟨rfl, hb1.trans (hb2.mono hb1.size)⟩
  · have hd : decide ((1048576 : Int) < (a.size : Int)) = true := decide_eq_true (by omega)
    go_enter Tryd.func13, Tryd.ntmps13
    go_wp2
    go_ret
    exact ⟨rfl, Below.refl _ _⟩
end Go.Proofs.YtjmladejpdbdlaaDoor
