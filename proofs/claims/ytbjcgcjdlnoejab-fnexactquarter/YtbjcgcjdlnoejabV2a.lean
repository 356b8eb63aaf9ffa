/- Walk of the law FnExactQuarter. -/
import Derived.Test.YtbjcgcjdlnoejabW1e
import Derived.Test.YtbjcgcjdlnoejabW2c
import Derived.Test.YtbjcgcjdlnoejabW2d
namespace Go.Proofs.Ytbjcgcjdlnoejab
open Go.ChangeShapes Go.WideShapes Go.ChangeAt Go.RowKit
set_option linter.unusedVariables false

theorem quR_len (zs : List Int) : (quR zs).length ≤ 4 := by
  unfold quR; split
  · simp [listOf]
  · simp

set_option maxHeartbeats 3200000 in
theorem walk_FnExactQuarter (a : Option Addr) (len cap : Nat) (z : List Int) (w : World) (h : IsRow .i64 w a len cap z) :
    Calls Try.prog 6 #[.slice a len cap] w fun e w' => e = .returned (.bool true) ∧ Below w.heap.size w w' := by
  obtain ⟨hlen, hrow, _⟩ := h.row
  obtain ⟨zs, hzs⟩ : ∃ zs, zs = z.take len := ⟨_, rfl⟩
  rw [← hzs] at hlen hrow
  have HR := Lib.hid hrow
  have hmx : len ≤ 9223372036854775807 := by
    obtain ⟨_, _, _, h1, h2, _⟩ := hrow
    unfold maxLen at h2; omega
  have HL := Lib.hid hlen
  clear h hrow hzs hlen
  by_cases hbig : len ≤ 1048576
  · have hq4 := quR_len zs
    obtain ⟨ys, hys⟩ : ∃ ys, ys = quR zs := ⟨_, rfl⟩
    rw [← hys] at hq4
    have HY := Lib.hid hys
    clear hys
    go_enter Try.func6, Try.ntmps6
    go_wp2_with fail
    refine (toInts_any _ zs _ _ HR.out (by have := HL.out; omega)).mono ?_
    rintro e w1 ⟨v1, rfl, ho1, hb1⟩
    go_wp2_with fail
    refine (specQuarter_any _ zs _ _ ho1.row (by have := HL.out; omega)).mono ?_
    rintro e w2 ⟨v2, rfl, ho2, hb2⟩
    rw [← HY.out] at ho2
    have hb02 := hb1.trans (hb2.mono hb1.size)
    have hr2 := ho2.row
    clear ho1 hb1 hb2 ho2
    have HR2 := Lib.hid (HR.out.below hb02)
    go_wp2_with fail
    refine (toInts_any _ zs _ _ HR2.out (by have := HL.out; omega)).mono ?_
    rintro e w3 ⟨v3, rfl, ho3, hb3⟩
    have hb03 := hb02.trans (hb3.mono hb02.size)
    have hr3 := hr2.below hb3
    clear hr2 HR2
    go_wp2_with fail
    refine (implQuarter_any _ zs _ _ ho3.row).mono ?_
    rintro e w4 ⟨v4, rfl, ho4, hb4⟩
    rw [← HY.out] at ho4
    have hx3 := ho3.blockLt
    have hx4 := ho3.keep hb4 (Nat.le_refl _)
    have hb04 := hb03.trans (hb4.mono hb03.size)
    have hr4 := hr3.below (hb4.mono hb3.size)
    have hs23 := hb3.size
    have hs34 := hb4.size
    have HX := Lib.hid hx3
    clear ho3 hb3 hb4 hr3 hb03 hx3
    go_wp2_with fail
    refine (eqInts_any _ _ ys ys _ _ _ ho4.row hr4).mono ?_
    rintro e w5 ⟨rfl, hb5⟩
    have hb05 := hb04.trans (hb5.mono hb04.size)
    have hr5 := hr4.below (hb5.mono (Nat.le_trans hs23 hs34))
    have ho5 := ho4.keep hb5 (Nat.le_refl _)
    have hx5 := hx4.keep hb5 (Nat.le_refl _)
    have hs45 := hb5.size
    clear ho4 hr4 hx4 hb5 hb04
    have HR5 := Lib.hid (HR.out.below hb05)
    go_wp2_with fail
    refine (toInts_any _ zs _ _ HR5.out (by have := HL.out; omega)).mono ?_
    rintro e w6 ⟨v6, rfl, ho6, hb6⟩
    have hb06 := hb05.trans (hb6.mono hb05.size)
    have hr6 := hr5.below (hb6.mono (by omega))
    have hg6 := ho5.keep hb6 (Nat.le_refl _)
    have hx6 := hx5.keep hb6 (Nat.le_refl _)
    have hs56 := hb6.size
    clear ho5 hr5 hx5 hb6 hb05 HR5
    go_wp2_with fail
    refine (eqInts_any _ _ zs zs _ _ _ hx6.row ho6.row).mono ?_
    rintro e w7 ⟨rfl, hb7⟩
    have hb07 := hb06.trans (hb7.mono hb06.size)
    have hr7 := hr6.below (hb7.mono (by omega))
    have hg7 := hg6.keep hb7 (Nat.le_refl _)
    have hx7 := hx6.keep hb7 (Nat.le_refl _)
    have hs67 := hb7.size
    clear hg6 hr6 hx6 ho6 hb7 hb06
    go_wp2_with fail
    refine (markInts_by _ zs _ 1 _ hx7 (by omega) (by omega) (by have := HL.out; omega)).mono ?_
    rintro e w8 ⟨rfl, hx8, hb8, hgr8⟩
    have hb08 := hb07.trans (hb8.mono hb02.size)
    have hr8 := hr7.below hb8
    have hg8 := hg7.keepBy hgr8 HX.out
    have hs78 := hb8.size
    have HL2 : Hid ((zs.length : Int) ≤ 1048576) := Lib.hid (by have := HL.out; omega)
    have hl2 := HL2.out
    clear hg7 hr7 hx7 hx8 hb8 hb07 hgr8
    go_wp2_with fail
    refine (eqInts_any _ _ ys ys _ _ _ hg8.row hr8).mono ?_
    rintro e w9 ⟨rfl, hb9⟩
    have hb09 := hb08.trans (hb9.mono hb08.size)
    have hr9 := hr8.below (hb9.mono (by omega))
    have hg9 := hg8.keep hb9 (Nat.le_refl _)
    have hs89 := hb9.size
    clear hg8 hr8 hb9 hb08
    go_wp2_with fail
    refine (markInts_by _ ys _ 1 _ hg9 (by omega) (by omega) (by omega)).mono ?_
    rintro e w10 ⟨rfl, hg10, hb10, hgr10⟩
    have hb010 := hb09.trans (hb10.mono (Nat.le_trans hb02.size hs23))
    have hr10 := hr9.below (hb10.mono hs23)
    have hs910 := hb10.size
    clear hg9 hr9 hb10 hb09 hgr10
    go_wp2_with fail
    refine (heldInts_any _ ys.length _ 1 _ hg10.row (by omega) (by omega) (by omega)).mono ?_
    rintro e w11 ⟨rfl, rfl⟩
    have HR10 := Lib.hid (HR.out.below hb010)
    go_wp2_with fail
    refine (toInts_any _ zs _ _ HR10.out (by have := HL.out; omega)).mono ?_
    rintro e w12 ⟨v12, rfl, ho12, hb12⟩
    have hb012 := hb010.trans (hb12.mono hb010.size)
    have hr12 := hr10.below (hb12.mono (by omega))
    have hg12 := hg10.keep hb12 (Nat.le_refl _)
    have hs1012 := hb12.size
    clear hg10 hr10 hb12 hb010 HR10
    go_wp2_with fail
    refine (implQuarter_any _ zs _ _ ho12.row).mono ?_
    rintro e w13 ⟨v13, rfl, ho13, hb13⟩
    rw [← HY.out] at ho13
    have hb013 := hb012.trans (hb13.mono hb012.size)
    have hr13 := hr12.below (hb13.mono (by omega))
    have hg13 := hg12.keep hb13 (Nat.le_refl _)
    clear hg12 hr12 hb13 hb012 ho12
    go_wp2_with fail
    refine (eqInts_any _ _ ys ys _ _ _ ho13.row hr13).mono ?_
    rintro e w14 ⟨rfl, hb14⟩
    have hb014 := hb013.trans (hb14.mono hb013.size)
    have hg14 := hg13.keep hb14 (Nat.le_refl _)
    clear hg13 hr13 hb14 hb013 ho13
    go_wp2_with fail
    refine (heldInts_any _ ys.length _ 1 _ hg14.row (by omega) (by omega) (by omega)).mono ?_
    rintro e w15 ⟨rfl, rfl⟩
    go_wp2
    go_ret
    exact ⟨rfl, hb014⟩
  · go_enter Try.func6, Try.ntmps6
    go_wp2
    go_ret
    exact ⟨rfl, Below.refl _ _⟩
end Go.Proofs.Ytbjcgcjdlnoejab
