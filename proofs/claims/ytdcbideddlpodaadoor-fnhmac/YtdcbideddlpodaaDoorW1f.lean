/- Contracts: words as bytes (l01 StoreLe, both sides). -/
import Derived.Test.YtdcbideddlpodaaDoorRows1
import Derived.Test.YtdcbideddlpodaaDoorPlainA
namespace Go.Proofs.YtdcbideddlpodaaDoor
open Go.ChangeShapes Go.WideShapes Go.ChangeAt Go.RowKit
set_option linter.unusedVariables false

set_option maxHeartbeats 800000 in
theorem appendLe_any (v : Value) (l : List UInt8) (x : Int) (base : Nat) (w : World) (h : OwnB w base v l) (hx0 : 0 ≤ x) (hx : x ≤ 4294967295) (hn : l.length ≤ 100000000) (hbase : base ≤ w.heap.size) :
    Calls Tryd.prog 74 #[v, .int .u32 x] w fun e w' => ∃ v', e = .returned v' ∧ OwnB w' base v' (l ++ le4 x) ∧ Below base w w' := by
  go_enter Tryd.func74, Tryd.ntmps74
  go_wp2
  go_loopw [0, 6] (fun u i wr => ∃ k : Nat, k ≤ 4 ∧ i = .int .i64 k ∧ OwnB wr base u (l ++ (le4 x).take k) ∧ Below base w wr)
    (fun _ i _ => 4 - (intOf i).toNat)
  case atStart => exact ⟨0, Nat.zero_le _, rfl, by simpa using h, Below.refl _ _⟩
  case round =>
    obtain ⟨k, hk, rfl, hown, hbel⟩ := hrel
    clear h
    by_cases hlt : k < 4
    · have hsz := hbel.size
      have HL : Hid ((l ++ (le4 x).take k).length ≤ l.length + 4) := Lib.hid (by simp; omega)
      go_wp2_with (at_builtin; (refine wpList_appB rfl (.tmp 9) (.tmp 15) rfl base _ _ rfl (hown.alloc _) wr.heap.size 1 _ _ [lowB (x / 2 ^ (8 * k))] rfl (heap_alloc_new wr _) (by simp only [List.map_cons, List.map_nil, bc_lowB]) rfl (by decide) (by have := HL.out; omega) (by simp; omega) ?_); intro v1 w1 hown1 hb1)
      rw [List.append_assoc, ← le4_snoc x k hlt] at hown1
      have hb2 := (hbel.alloc (by omega) _).trans hb1
      clear hb1 hown
      go_wp2
      go_roundw
      case rel => exact ⟨k + 1, by omega, by go_num, hown1, hb2⟩
      case measure => simp [intOf]; omega
    · go_wp2
      go_ret
      have : k = 4 := by omega
      subst this
      exact ⟨_, rfl, hown, hbel⟩

end Go.Proofs.YtdcbideddlpodaaDoor
