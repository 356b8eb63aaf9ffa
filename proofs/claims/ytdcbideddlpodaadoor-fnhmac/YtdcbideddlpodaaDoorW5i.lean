/- Contract: ShaStep, digestOf and Sha256 of the program (chapter 5). -/
import Derived.Test.YtdcbideddlpodaaDoorW5h
namespace Go.Proofs.YtdcbideddlpodaaDoor
open Go.ChangeShapes Go.WideShapes Go.ChangeAt Go.RowKit Go.Shelf
set_option linter.unusedVariables false

set_option maxRecDepth 100000 in
set_option maxHeartbeats 2000000 in
theorem implShaStep_any (s b : ByteArray) (w : World) (hK : KTab w) :
    Calls Tryd.prog 18 #[.string s, .string b] w fun e w' => e = .returned (.string (stpR s b)) ∧ Below w.heap.size w w' := by
  by_cases h1 : s.size = 32
  · by_cases h2 : b.size = 64
    · have HE : Hid (stpR s b = stpB s b) := Lib.hid (by unfold stpR; rw [if_pos ⟨h1, h2⟩])
      have HSO := Lib.hid (stateOf_any s · h1)
      have hl : (beL s.data.toList).length = 8 := by rw [beL_len]; simp; omega
      have HST := Lib.hid (fun w hK => stepped_any (beL s.data.toList) b w hl h2 hK)
      have HTX := Lib.hid (fun w => stateText_any (stepL (beL s.data.toList) (beL b.data.toList)) w (stepL_len _ _ hl) (stepL_words _ _))
      have HBB : Hid (stpB s b = ⟨(stoB (stepL (beL s.data.toList) (beL b.data.toList))).toArray⟩) := Lib.hid rfl
      generalize stepL (beL s.data.toList) (beL b.data.toList) = l2 at HST HTX HBB
      generalize beL s.data.toList = l1 at HSO HST
      rw [HE.out, HBB.out]
      have hd1 : ((s.size : Int) != 32) = false := by simp [h1]
      have hd2 : ((b.size : Int) != 64) = false := by simp [h2]
      clear h1 h2 hl HE HBB
      go_enter Tryd.func18, Tryd.ntmps18
      go_wp2_with fail
      refine (HSO.out _).mono ?_
      rintro e w1 ⟨rfl, hb1⟩
      have hK1 := hK.below hb1 (Nat.le_refl _)
      go_wp2_with fail
      refine (HST.out _ hK1).mono ?_
      rintro e w2 ⟨rfl, hb2⟩
      have hB2 := hb1.trans (hb2.mono hb1.size)
      go_wp2_with fail
      refine (HTX.out _).mono ?_
      rintro e w3 ⟨rfl, hb3⟩
      have hB3 := hB2.trans (hb3.mono hB2.size)
      go_wp2
      go_ret
      exact ⟨rfl, hB3⟩
    · have HE : Hid (stpR s b = ⟨#[]⟩) := Lib.hid (by unfold stpR; rw [if_neg (fun h => h2 h.2)])
      have hd1 : ((s.size : Int) != 32) = false := by simp [h1]
      have hd2 : ((b.size : Int) != 64) = true := by simp; omega
      rw [HE.out]
      clear h1 h2 HE
      go_enter Tryd.func18, Tryd.ntmps18
      go_wp2
      go_ret
      exact ⟨rfl, Below.refl _ _⟩
  · have HE : Hid (stpR s b = ⟨#[]⟩) := Lib.hid (by unfold stpR; rw [if_neg (fun h => h1 h.1)])
    have hd1 : ((s.size : Int) != 32) = true := by simp; omega
    rw [HE.out]
    clear h1 HE
    go_enter Tryd.func18, Tryd.ntmps18
    go_wp2
    go_ret
    exact ⟨rfl, Below.refl _ _⟩
end Go.Proofs.YtdcbideddlpodaaDoor
