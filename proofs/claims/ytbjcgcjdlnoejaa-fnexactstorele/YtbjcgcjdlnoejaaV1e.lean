/- Walk of the law FnExactStoreLe. -/
import Derived.Test.YtbjcgcjdlnoejaaW1e
import Derived.Test.YtbjcgcjdlnoejaaW1f
namespace Go.Proofs.Ytbjcgcjdlnoejaa
open Go.ChangeShapes Go.WideShapes Go.ChangeAt Go.RowKit
set_option linter.unusedVariables false

set_option maxHeartbeats 800000 in
theorem walk_FnExactStoreLe (a : Option Addr) (len cap : Nat) (z : List Int) (w : World) (h : IsRow .i64 w a len cap z) :
    Calls Try.prog 5 #[.slice a len cap] w fun e w' => e = .returned (.bool true) ∧ Below w.heap.size w w' := by
  obtain ⟨hlen, hrow, _⟩ := h.row
  obtain ⟨zs, hzs⟩ : ∃ zs, zs = z.take len := ⟨_, rfl⟩
  rw [← hzs] at hlen hrow
  have HR := Lib.hid hrow
  have hmx : len ≤ 9223372036854775807 := by
    obtain ⟨_, _, _, h1, h2, _⟩ := hrow
    unfold maxLen at h2; omega
  have HL := Lib.hid hlen
  clear h hrow hzs hlen
  by_cases hbig : len ≤ 1048576
  · go_enter Try.func5, Try.ntmps5
    go_wp2_with fail
    refine (toInts_any _ zs _ _ HR.out (by have := HL.out; omega)).mono ?_
    rintro e w1 ⟨v1, rfl, ho1, hb1⟩
    go_wp2_with fail
    refine (specStoreLe_any _ zs _ _ ho1.row).mono ?_
    rintro e w2 ⟨rfl, hb2⟩
    have hb12 := hb1.trans (hb2.mono hb1.size)
    clear ho1 hb1 hb2
    have HR2 := Lib.hid (HR.out.below hb12)
    go_wp2_with fail
    refine (toInts_any _ zs _ _ HR2.out (by have := HL.out; omega)).mono ?_
    rintro e w3 ⟨v3, rfl, ho3, hb3⟩
    have hb13 := hb12.trans (hb3.mono hb12.size)
    go_wp2_with fail
    refine (implStoreLe_any _ zs _ _ ho3.row).mono ?_
    rintro e w4 ⟨rfl, hb4⟩
    have ho4 := ho3.keep hb4 (Nat.le_refl _)
    have hb14 := hb13.trans (hb4.mono hb13.size)
    clear ho3 hb3 hb4 hb12 hb13
    have HR4 := Lib.hid (HR.out.below hb14)
    go_wp2_with fail
    refine (toInts_any _ zs _ _ HR4.out (by have := HL.out; omega)).mono ?_
    rintro e w5 ⟨v5, rfl, ho5, hb5⟩
    have ho4' := ho4.keep hb5 (Nat.le_refl _)
    have hb15 := hb14.trans (hb5.mono hb14.size)
    clear ho4 hb5 hb14
    go_wp2_with fail
    refine (eqInts_any _ _ zs zs _ _ _ ho4'.row ho5.row).mono ?_
    rintro e w6 ⟨rfl, hb6⟩
    have hb16 := hb15.trans (hb6.mono hb15.size)
    clear ho4' ho5 hb6 hb15
    go_wp2
    go_ret
    exact ⟨rfl, hb16⟩
  · go_enter Try.func5, Try.ntmps5
    go_wp2
    go_ret
    exact ⟨rfl, Below.refl _ _⟩
end Go.Proofs.Ytbjcgcjdlnoejaa
