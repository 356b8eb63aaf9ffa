/- Contract: ShaStep of the reference (chapter 5). -/
import Derived.Test.YtdcbideddlpodaaDoorW5l
namespace Go.Proofs.YtdcbideddlpodaaDoor
open Go.ChangeShapes Go.WideShapes Go.ChangeAt Go.RowKit Go.Shelf
set_option linter.unusedVariables false

set_option maxRecDepth 100000 in
set_option maxHeartbeats 2000000 in
theorem specShaStep_any (s b : ByteArray) (w : World) :
    Calls Tryd.prog 19 #[.string s, .string b] w fun e w' => e = .returned (.string (stpR s b)) ∧ Below w.heap.size w w' := by
  by_cases h1 : s.size = 32
  · by_cases h2 : b.size = 64
    · have HE : Hid (stpR s b = stpB s b) := Lib.hid (by unfold stpR; rw [if_pos ⟨h1, h2⟩])
      have HS := Lib.hid (l5Step_any s b · h1 h2)
      rw [HE.out]
      generalize stpB s b = out at HS ⊢
      have hd1 : ((s.size : Int) != 32) = false := by simp [h1]
      have hd2 : ((b.size : Int) != 64) = false := by simp [h2]
      clear h1 h2 HE
      go_enter Tryd.func19, Tryd.ntmps19
      go_wp2_with fail
      refine (HS.out _).mono ?_
      rintro e w1 ⟨rfl, hb1⟩
      go_wp2
      go_ret
      exact ⟨rfl, hb1⟩
    · have HE : Hid (stpR s b = ⟨#[]⟩) := Lib.hid (by unfold stpR; rw [if_neg (fun h => h2 h.2)])
      have hd1 : ((s.size : Int) != 32) = false := by simp [h1]
      have hd2 : ((b.size : Int) != 64) = true := by simp; omega
      rw [HE.out]
      clear h1 h2 HE
      go_enter Tryd.func19, Tryd.ntmps19
      go_wp2
      go_ret
      exact ⟨rfl, Below.refl _ _⟩
  · have HE : Hid (stpR s b = ⟨#[]⟩) := Lib.hid (by unfold stpR; rw [if_neg (fun h => h1 h.1)])
    have hd1 : ((s.size : Int) != 32) = true := by simp; omega
    rw [HE.out]
    clear h1 HE
    go_enter Tryd.func19, Tryd.ntmps19
    go_wp2
    go_ret
    exact ⟨rfl, Below.refl _ _⟩
end Go.Proofs.YtdcbideddlpodaaDoor
