/- Walk of the law FnExactStretched. -/
import Derived.Test.YtdcbideddlpodaaDoorW6h
namespace Go.Proofs.YtdcbideddlpodaaDoor
open Go.ChangeShapes Go.WideShapes Go.ChangeAt Go.RowKit
set_option linter.unusedVariables false

theorem walk_FnExactStretched (a b : ByteArray) (c : Int) (w : World) (ha : a.size ≤ maxLen) (hb : b.size ≤ maxLen) (hc : (Lit.int .i64 c).wf = true) (hk : FTab w ∧ KTab w) :
    Calls Tryd.prog 9 #[.string a, .string b, .int .i64 c] w fun e w' => e = .returned (.bool true) ∧ Below w.heap.size w w' := by
  have HI := Lib.hid (fun w hF hK => implStretched_any a b c w ha hb hc hF hK)
  have HS := Lib.hid (fun w => specStretched_any a b c w ha hb hc)
  unfold maxLen at ha hb
  generalize srR a b c = O at HI HS
  by_cases h1 : a.size ≤ 1048576
  · by_cases h2 : b.size ≤ 1048576
    · have HK := Lib.hid hk
      clear hk
      go_enter Tryd.func9, Tryd.ntmps9
      go_wp2_with fail
      refine (HS.out _).mono ?_
      rintro e w1 ⟨rfl, hb1⟩
      go_wp2_with fail
      refine (HI.out _ (HK.out.1.below hb1 (Nat.le_refl _)) (HK.out.2.below hb1 (Nat.le_refl _))).mono ?_
      rintro e w2 ⟨rfl, hb2⟩
      go_wp2
      go_ret
      exact ⟨rfl, hb1.trans (hb2.mono hb1.size)⟩
    · go_enter Tryd.func9, Tryd.ntmps9
      go_wp2
      go_ret
      exact ⟨rfl, Below.refl _ _⟩
  · go_enter Tryd.func9, Tryd.ntmps9
    go_wp2
    go_ret
    exact ⟨rfl, Below.refl _ _⟩
end Go.Proofs.YtdcbideddlpodaaDoor
