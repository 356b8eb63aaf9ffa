/- Contracts: digits (l01 Hex, Unhex, both sides). -/
import Derived.Test.YtlipgmaiooljkaaOwn
import Derived.Test.YtlipgmaiooljkaaPlainA
namespace Go.Proofs.Ytlipgmaiooljkaa
open Go.ChangeShapes Go.WideShapes Go.ChangeAt Go.RowKit

/-- Hex, as the document says it. -/
def hexR (a : ByteArray) : ByteArray := if a.size ≤ 4000 then hexB a else ⟨#[]⟩

theorem hex_end {a : ByteArray} {k : Nat} (h : a.size ≤ k) : (⟨(hexL (a.data.toList.take k)).toArray⟩ : ByteArray) = hexB a := by rw [take_all a k h]; rfl
theorem hex_room {a : ByteArray} {k : Nat} (h : k ≤ a.size) : (hexL (a.data.toList.take k)).length = 2 * k := by rw [hexL_len]; simp; omega

theorem hx_cells (c : UInt8) (i j : Int) (hi : i = (c.toNat : Int) / 16) (hj : j = (c.toNat : Int) % 16) (h1 : i.toNat < 16) (h2 : j.toNat < 16) :
    (#[Value.int .u8 (((⟨#[48, 49, 50, 51, 52, 53, 54, 55, 56, 57, 97, 98, 99, 100, 101, 102]⟩ : ByteArray)[i.toNat]'h1).toNat : Int), Value.int .u8 (((⟨#[48, 49, 50, 51, 52, 53, 54, 55, 56, 57, 97, 98, 99, 100, 101, 102]⟩ : ByteArray)[j.toNat]'h2).toNat : Int)] : Array Value).toList
      = [hd (c.toNat / 16), hd (c.toNat % 16)].map bc := by
  rw [hd_at i (c.toNat / 16) h1 (by omega), hd_at j (c.toNat % 16) h2 (by omega)]; rfl

theorem and15 (c : UInt8) : bits .and .u8 (c.toNat : Int) 15 = (c.toNat : Int) % 16 := by
  have hlt : c.toNat < 256 := c.toNat_lt
  rw [u8_and _ _ (by omega) (by omega) (by omega) (by omega)]
  have : (c.toNat : Int).toNat &&& (15 : Int).toNat = c.toNat % 2 ^ 4 := by
    rw [show (15 : Int).toNat = 2 ^ 4 - 1 from rfl, Nat.and_two_pow_sub_one_eq_mod]; rfl
  rw [this]; omega

end Go.Proofs.Ytlipgmaiooljkaa
