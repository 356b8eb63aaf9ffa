/- Contracts: words turned to the right; a round of a digest (chapter 5). -/
import Derived.Test.YtfjaincogbdeiaaGreatDoorW5a
import Derived.Test.YtfjaincogbdeiaaGreatDoorArr
import Derived.Test.YtfjaincogbdeiaaGreatDoorFreeA
namespace Go.Proofs.YtfjaincogbdeiaaGreatDoor
open Go.ChangeShapes Go.WideShapes Go.ChangeAt Go.RowKit
set_option linter.unusedVariables false

theorem and31neg (k : Nat) (h1 : 1 ≤ k) (h2 : k ≤ 31) : bits BinOp.and IntKind.u64 (IntKind.u64.wrap (-(k : Int))) 31 = ((32 - k : Nat) : Int) := by
  have e : IntKind.u64.wrap (-(k : Int)) = 18446744073709551616 - (k : Int) := by simp [IntKind.wrap, IntKind.signed, IntKind.bits]; omega
  rw [e, u64_and _ _ (by omega) (by omega) (by omega) (by omega)]
  have : (18446744073709551616 - (k : Int)).toNat &&& (31 : Int).toNat = (18446744073709551616 - (k : Int)).toNat % 2 ^ 5 := by
    rw [show (31 : Int).toNat = 2 ^ 5 - 1 from rfl, Nat.and_two_pow_sub_one_eq_mod]
  rw [this]; omega
theorem rot_nat (x : Int) (m : Nat) (h : m ≤ 31) : rot x (m : Int) = bits .or .u32 (x * 2 ^ m % 4294967296) (x / 2 ^ (32 - m)) := by
  unfold rot
  rw [IntKind.wrap_u32', Int.toNat_natCast, show (32 - (m : Int)).toNat = 32 - m by omega]
theorem rotr_any (x : Int) (k : Nat) (w : World) (h1 : 1 ≤ k) (h2 : k ≤ 31) :
    Calls Tryz.prog 143 #[.int .u32 x, .int .i64 (k : Int)] w fun e w' => e = .returned (.int .u32 (rot x ((32 - k : Nat) : Int))) ∧ w = w' := by
  have h := and31neg k h1 h2
  obtain ⟨m, hm⟩ : ∃ m : Nat, m = 32 - k := ⟨_, rfl⟩
  rw [← hm] at h ⊢
  have hm1 : m ≤ 31 := by omega
  clear hm
  go_enter Tryz.func143, Tryz.ntmps143
  go_wp2
  go_ret
  exact ⟨ret_int (rot_nat x m hm1).symm, rfl⟩

end Go.Proofs.YtfjaincogbdeiaaGreatDoor
