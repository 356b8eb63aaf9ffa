/- Walk of the law FnExactReadDate. -/
import Derived.Test.YtbbfcpkmfaophaaDoorW7l
import Derived.Test.YtbbfcpkmfaophaaDoorV7a
namespace Go.Proofs.YtbbfcpkmfaophaaDoor
open Go.ChangeShapes Go.WideShapes Go.ChangeAt Go.RowKit
set_option linter.unusedVariables false

theorem rdV_form (s : ByteArray) : ∃ y m d b, rdV s = .tuple #[dV y m d, .bool b] := by
  unfold rdV
  split
  · exact ⟨_, _, _, _, rfl⟩
  · exact ⟨_, _, _, _, rfl⟩

set_option maxRecDepth 100000 in
set_option maxHeartbeats 1600000 in
theorem walk_FnExactReadDate (s : ByteArray) (w : World) (hs : s.size ≤ maxLen) (hk : MTab w) :
    Calls Tryd.prog 7 #[.string s] w fun e w' => e = .returned (.bool true) ∧ Below w.heap.size w w' := by
  have HS := Lib.hid (fun w => specReadDate_any s w)
  have HI := Lib.hid (fun w hM => implReadDate_any s w hM)
  have HM := Lib.hid hk
  obtain ⟨y, m, d, b, hv⟩ := rdV_form s
  rw [hv] at HS HI
  have HQ := Lib.hid (fun w => eqDate_same y m d w)
  unfold maxLen at hs
  clear hk hv
  by_cases h1 : s.size ≤ 1048576
  · go_enter Tryd.func7, Tryd.ntmps7
    go_wp2_with fail
    refine (HS.out _).mono ?_
    rintro e w1 ⟨rfl, hb1⟩
    have HA1 := Lib.hid (DAt.new w1 y m d)
    have HB1 := Lib.hid (hb1.alloc hb1.size (dC y m d))
    clear hb1
    go_wp2_with fail
    refine (HI.out _ (HM.out.below HB1.out (Nat.le_refl _))).mono ?_
    rintro e w2 ⟨rfl, hb2⟩
    have hA2 := HA1.out.keep hb2 (Nat.le_refl _)
    have hB2 := HB1.out.trans (hb2.mono HB1.out.size)
    have hs2 := hB2.size
    have k0 := hA2.c0
    have k1 := hA2.c1
    have k2 := hA2.c2
    have hne := Arr.lt hA2
    have hB3 := hB2.alloc hs2 (dC y m d)
    clear hb2 hA2 hB2
    go_wp2_with fail
    refine (HQ.out _).mono ?_
    rintro e w3 ⟨rfl, hb3⟩
    have hB4 := hB3.trans (hb3.mono hB3.size)
    clear hb3 hB3
    go_wp2
    go_ret
    exact ⟨rfl, hB4⟩
  · go_enter Tryd.func7, Tryd.ntmps7
    go_wp2
    go_ret
    exact ⟨rfl, Below.refl _ _⟩
end Go.Proofs.YtbbfcpkmfaophaaDoor
