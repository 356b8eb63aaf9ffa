/- Walk of the law FnExactPlain. -/
import Derived.Test.YtbbfcpkmfaophaaDoorW8c
import Derived.Test.YtbbfcpkmfaophaaDoorW8d
namespace Go.Proofs.YtbbfcpkmfaophaaDoor
open Go.ChangeShapes Go.WideShapes Go.ChangeAt Go.RowKit
set_option linter.unusedVariables false

set_option maxHeartbeats 1600000 in
theorem walk_FnExactPlain (s : ByteArray) (w : World) (hs : s.size ≤ maxLen) (hk : ETab w) :
    Calls Tryd.prog 10 #[.string s] w fun e w' => e = .returned (.bool true) ∧ Below w.heap.size w w' := by
  have HS := Lib.hid (fun w => specPlain_any s w)
  have HI := Lib.hid (fun w hE => implPlain_any s w hE)
  have HK := Lib.hid hk
  obtain ⟨t, b, hv⟩ := plV_form s
  rw [hv] at HS HI
  unfold maxLen at hs
  clear hk hv
  by_cases h1 : s.size ≤ 1048576
  · go_enter Tryd.func10, Tryd.ntmps10
    go_wp2_with fail
    refine (HS.out _).mono ?_
    rintro e w1 ⟨rfl, hb1⟩
    go_wp2_with fail
    refine (HI.out _ (HK.out.below hb1 (Nat.le_refl _))).mono ?_
    rintro e w2 ⟨rfl, hb2⟩
    go_wp2
    go_ret
    exact ⟨rfl, hb1.trans (hb2.mono hb1.size)⟩
  · go_enter Tryd.func10, Tryd.ntmps10
    go_wp2
    go_ret
    exact ⟨rfl, Below.refl _ _⟩
end Go.Proofs.YtbbfcpkmfaophaaDoor
