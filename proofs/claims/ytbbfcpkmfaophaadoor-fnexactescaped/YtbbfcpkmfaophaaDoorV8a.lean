/- Walk of the law FnExactEscaped. -/
import Derived.Test.YtbbfcpkmfaophaaDoorW8b
namespace Go.Proofs.YtbbfcpkmfaophaaDoor
open Go.ChangeShapes Go.WideShapes Go.ChangeAt Go.RowKit
set_option linter.unusedVariables false

set_option maxHeartbeats 1600000 in
theorem walk_FnExactEscaped (s : ByteArray) (w : World) (hs : s.size ≤ maxLen) (hk : ETab w) :
    Calls Tryd.prog 9 #[.string s] w fun e w' => e = .returned (.bool true) ∧ Below w.heap.size w w' := by
  have HS := Lib.hid (fun w => specEscaped_any s w)
  have HI := Lib.hid (fun w hE => implEscaped_any s w hE)
  have HK := Lib.hid hk
  generalize escR s = O at HS HI
  unfold maxLen at hs
  clear hk
  by_cases h1 : s.size ≤ 1048576
  · go_enter Tryd.func9, Tryd.ntmps9
    go_wp2_with fail
    refine (HS.out _).mono ?_
    rintro e w1 ⟨rfl, hb1⟩
    go_wp2_with fail
    refine (HI.out _ (HK.out.below hb1 (Nat.le_refl _))).mono ?_
    rintro e w2 ⟨rfl, hb2⟩
    go_wp2
    go_ret
    exact ⟨rfl, hb1.trans (hb2.mono hb1.size)⟩
  · go_enter Tryd.func9, Tryd.ntmps9
    go_wp2
    go_ret
    exact ⟨rfl, Below.refl _ _⟩
end Go.Proofs.YtbbfcpkmfaophaaDoor
