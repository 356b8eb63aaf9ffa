/- Plain facts on words and bytes that the walks of this seat use: no program is named here. -/
import Derived.WalkKit
import Derived.Laws.BitsAllLaws
import Derived.Laws.IdiomStrings
namespace Go.Proofs.Ytijoancnlpkcoab
open Go.RowKit

/-- A byte as a cell of a row of bytes. -/
def bc (c : UInt8) : Value := .int .u8 (c.toNat : Int)

theorem ret_int {k : IntKind} {a b : Int} (h : a = b) : Ending.returned (.int k a) = .returned (.int k b) := by rw [h]

theorem ret_str {a b : ByteArray} (h : a = b) : Ending.returned (.string a) = .returned (.string b) := by rw [h]
theorem ret_bool {a b : Bool} (h : a = b) : Ending.returned (.bool a) = .returned (.bool b) := by rw [h]

/-- A word turned to the left. -/
def rot (x k : Int) : Int := bits .or .u32 (IntKind.u32.wrap (x * 2 ^ k.toNat)) (x / 2 ^ (32 - k).toNat)

theorem and31 (k : Int) (hk0 : 0 ≤ k) (hk : k ≤ 31) : bits BinOp.and IntKind.u64 k 31 = k := by
  rw [u64_and _ _ hk0 (by omega) (by omega) (by omega)]
  have : k.toNat &&& (31 : Int).toNat = k.toNat % 2 ^ 5 := by
    rw [show (31 : Int).toNat = 2 ^ 5 - 1 from rfl, Nat.and_two_pow_sub_one_eq_mod]
  rw [this]; omega

theorem u32_or_bd (x y : Int) (hx0 : 0 ≤ x) (hx : x < 4294967296) (hy0 : 0 ≤ y) (hy : y < 4294967296) : 0 ≤ bits .or .u32 x y ∧ bits .or .u32 x y < 4294967296 := by
  rw [u32_or x y hx0 hx hy0 hy]
  have h := Nat.or_lt_two_pow (x := x.toNat) (y := y.toNat) (n := 32) (by omega) (by omega)
  omega

theorem rot_bd (x k : Int) (hx0 : 0 ≤ x) (hx : x ≤ 4294967295) : 0 ≤ rot x k ∧ rot x k < 4294967296 := by
  unfold rot
  have e : IntKind.u32.wrap (x * 2 ^ k.toNat) = x * 2 ^ k.toNat % 4294967296 := by rw [IntKind.wrap_u32']
  rw [e]
  refine u32_or_bd _ _ (by omega) (by omega) (Int.ediv_nonneg hx0 (Int.le_of_lt (Int.pow_pos (by decide)))) ?_
  have := Int.ediv_le_self (b := 2 ^ (32 - k).toNat) hx0
  omega

theorem wrap_rot (x k : Int) (hx0 : 0 ≤ x) (hx : x ≤ 4294967295) (_ : 0 ≤ k) (_ : k ≤ 31) : wrap64 (rot x k) = rot x k := by
  have := rot_bd x k hx0 hx
  simp only [wrap64]; omega

/-- Two texts, byte by byte. -/
def xorL (a b : List UInt8) : List UInt8 := List.zipWith (fun x y => x ^^^ y) a b
def xorB (a b : ByteArray) : ByteArray := ⟨(xorL a.data.toList b.data.toList).toArray⟩

theorem xor8 (x y : UInt8) : bits .xor .u8 (x.toNat : Int) (y.toNat : Int) = ((x ^^^ y).toNat : Int) := by
  have := x.toNat_lt; have := y.toNat_lt
  rw [u8_xor_nat _ _ (by omega) (by omega)]; simp

theorem xorL_len (a b : List UInt8) (h : a.length ≤ b.length) : (xorL a b).length = a.length := by
  unfold xorL; simp; omega

theorem xorL_snoc (a b : ByteArray) (k : Nat) (ha : k < a.size) (hb : k < b.size) :
    (xorL a.data.toList b.data.toList).take (k + 1) = (xorL a.data.toList b.data.toList).take k ++ [a[k] ^^^ b[k]] := by
  have hk : k < (xorL a.data.toList b.data.toList).length := by
    unfold xorL; simp; omega
  rw [List.take_succ_eq_append_getElem hk]
  congr 1
  simp [xorL]; rfl
end Go.Proofs.Ytijoancnlpkcoab
