/- Walk of the law FnExactLoadLe. -/
import Derived.Test.YtbjcgcjdlnoejaaW1e
import Derived.Test.YtbjcgcjdlnoejaaW1g
namespace Go.Proofs.Ytbjcgcjdlnoejaa
open Go.ChangeShapes Go.WideShapes Go.ChangeAt Go.RowKit
set_option linter.unusedVariables false

theorem ldR_len (s : ByteArray) : (ldR s).length ≤ 1000 := by
  unfold ldR; split
  · rw [loadL_len]; simp; omega
  · simp

set_option maxHeartbeats 1600000 in
theorem walk_FnExactLoadLe (s : ByteArray) (w : World) (hs : s.size ≤ maxLen) :
    Calls Try.prog 4 #[.string s] w fun e w' => e = .returned (.bool true) ∧ Below w.heap.size w w' := by
  have hs' := hs
  unfold maxLen at hs'
  by_cases hbig : s.size ≤ 1048576
  · have hn := ldR_len s
    go_enter Try.func4, Try.ntmps4
    go_wp2_with fail
    refine (specLoadLe_any s _ hs).mono ?_
    rintro e w1 ⟨v1, rfl, ho1, hb1⟩
    obtain ⟨zs, hzs⟩ : ∃ zs, zs = ldR s := ⟨_, rfl⟩
    rw [← hzs] at ho1 hn
    have HZ := Lib.hid hzs
    clear hzs
    have hr1 := ho1.row
    go_wp2_with fail
    refine (implLoadLe_any s _ hs).mono ?_
    rintro e w2 ⟨v2, rfl, ho2, hb2⟩
    rw [← HZ.out] at ho2
    have hr2 := hr1.below hb2
    have hb02 := hb1.trans (hb2.mono hb1.size)
    clear ho1 hr1
    go_wp2_with fail
    refine (eqInts_any _ _ zs zs _ _ _ ho2.row hr2).mono ?_
    rintro e w3 ⟨rfl, hb3⟩
    have hb03 := hb02.trans (hb3.mono hb02.size)
    have hr3 := hr2.below (hb3.mono hb2.size)
    have ho3 := ho2.keep hb3 (Nat.le_refl _)
    clear ho2 hr2 hb02
    go_wp2_with fail
    refine (markInts_any _ zs _ 1 _ ho3 (by omega) (by omega) (by omega)).mono ?_
    rintro e w4 ⟨rfl, ho4, hb4⟩
    have hb04 := hb03.trans (hb4.mono hb1.size)
    have hr4 := hr3.below hb4
    have hsz4 : w1.heap.size ≤ w4.heap.size := Nat.le_trans hb2.size (Nat.le_trans hb3.size hb4.size)
    clear ho3 hr3 hb03 hb3 hb2
    go_wp2_with fail
    refine (heldInts_any _ zs.length _ 1 _ ho4.row (by omega) (by omega) (by omega)).mono ?_
    rintro e w5 ⟨rfl, rfl⟩
    go_wp2_with fail
    refine (implLoadLe_any s _ hs).mono ?_
    rintro e w6 ⟨v6, rfl, ho6, hb6⟩
    rw [← HZ.out] at ho6
    have hb06 := hb04.trans (hb6.mono hb04.size)
    have hr6 := hr4.below (hb6.mono hsz4)
    have ho46 := ho4.keep hb6 (Nat.le_refl _)
    clear hr4 ho4 hb04
    go_wp2_with fail
    refine (eqInts_any _ _ zs zs _ _ _ ho6.row hr6).mono ?_
    rintro e w7 ⟨rfl, hb7⟩
    have hb07 := hb06.trans (hb7.mono hb06.size)
    have ho47 := ho46.keep hb7 (Nat.le_refl _)
    clear hr6 ho46 ho6 hb06 hb7 hb6
    go_wp2_with fail
    refine (heldInts_any _ zs.length _ 1 _ ho47.row (by omega) (by omega) (by omega)).mono ?_
    rintro e w8 ⟨rfl, rfl⟩
    go_wp2
    go_ret
    exact ⟨rfl, hb07⟩
  · go_enter Try.func4, Try.ntmps4
    go_wp2
    go_ret
    exact ⟨rfl, Below.refl _ _⟩
end Go.Proofs.Ytbjcgcjdlnoejaa
