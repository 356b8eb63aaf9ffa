/- Plain facts on tags: keys without some bits, sums of bytes, blocks. No program is named here. -/
import Derived.Test.YtijoancnlpkcoabPlainNum4
namespace Go.Proofs.Ytijoancnlpkcoab
open Go.RowKit

/-- Bytes as numbers, and back. -/
def intsOf (l : List UInt8) : List Int := l.map fun c => (c.toNat : Int)
def bytesOf (zs : List Int) : List UInt8 := zs.map fun z => UInt8.ofNat z.toNat
theorem bytesOf_intsOf (l : List UInt8) : bytesOf (intsOf l) = l := by
  unfold bytesOf intsOf; rw [List.map_map]
  conv => rhs; rw [← List.map_id l]
  apply List.map_congr_left
  intro c _
  simp
def ByteZ (zs : List Int) : Prop := ∀ k, 0 ≤ zs.getD k 0 ∧ zs.getD k 0 < 256
theorem byteZ_intsOf (l : List UInt8) : ByteZ (intsOf l) := by
  intro k
  unfold intsOf
  rw [List.getD_eq_getElem?_getD, List.getElem?_map]
  cases h : l[k]? with
  | none => exact ⟨by simp, by simp⟩
  | some c => have := c.toNat_lt; simp; omega
theorem byteZ_set {zs : List Int} (h : ByteZ zs) (i : Nat) (x : Int) (h0 : 0 ≤ x) (h1 : x < 256) : ByteZ (zs.set i x) := by
  intro k
  have hk := h k
  rw [List.getD_eq_getElem?_getD, List.getElem?_set]
  rw [List.getD_eq_getElem?_getD] at hk
  split
  · split
    · exact ⟨h0, h1⟩
    · exact ⟨by simp, by simp⟩
  · exact hk
theorem intsOf_bytesOf {zs : List Int} (h : ByteZ zs) : intsOf (bytesOf zs) = zs := by
  apply List.ext_getElem
  · simp [intsOf, bytesOf]
  · intro k h1 h2
    have hk := h k
    rw [List.getD_eq_getElem?_getD, List.getElem?_eq_getElem h2] at hk
    simp only [Option.getD_some] at hk
    simp only [intsOf, bytesOf, List.getElem_map]
    rw [ofNat_toNat8 _ (by omega)]; omega

/-- The first half of a key, step by step without some of its bits. -/
def cl1 (zs : List Int) : Nat → List Int
  | 0 => zs
  | k + 1 => (cl1 zs k).set (4 * k + 3) ((cl1 zs k).getD (4 * k + 3) 0 % 16)
def cl2 (zs : List Int) : Nat → List Int
  | 0 => zs
  | k + 1 => (cl2 zs k).set (4 * k + 4) ((cl2 zs k).getD (4 * k + 4) 0 / 4 * 4)
def clZ (zs : List Int) : List Int := cl2 (cl1 zs 4) 3
theorem cl1_len (zs : List Int) : ∀ k, (cl1 zs k).length = zs.length
  | 0 => rfl
  | k + 1 => by rw [cl1, List.length_set, cl1_len zs k]
theorem cl2_len (zs : List Int) : ∀ k, (cl2 zs k).length = zs.length
  | 0 => rfl
  | k + 1 => by rw [cl2, List.length_set, cl2_len zs k]
theorem cl1_byte {zs : List Int} (h : ByteZ zs) : ∀ k, ByteZ (cl1 zs k)
  | 0 => h
  | k + 1 => by
    have := cl1_byte h k (4 * k + 3)
    exact byteZ_set (cl1_byte h k) _ _ (by omega) (by omega)
theorem cl2_byte {zs : List Int} (h : ByteZ zs) : ∀ k, ByteZ (cl2 zs k)
  | 0 => h
  | k + 1 => by
    have := cl2_byte h k (4 * k + 4)
    exact byteZ_set (cl2_byte h k) _ _ (by omega) (by omega)
theorem clZ_byte {zs : List Int} (h : ByteZ zs) : ByteZ (clZ zs) := cl2_byte (cl1_byte h 4) 3
theorem clZ_len (zs : List Int) : (clZ zs).length = zs.length := by unfold clZ; rw [cl2_len, cl1_len]
theorem and15' (x : Int) (h0 : 0 ≤ x) (h1 : x < 256) : bits .and .u8 x 15 = x % 16 := by
  rw [u8_and _ _ h0 (by omega) (by omega) (by omega)]
  have : x.toNat &&& (15 : Int).toNat = x.toNat % 2 ^ 4 := by
    rw [show (15 : Int).toNat = 2 ^ 4 - 1 from rfl, Nat.and_two_pow_sub_one_eq_mod]
  rw [this]; omega
theorem nat252 : ∀ x : Fin 256, x.val &&& 252 = x.val / 4 * 4 := by decide +kernel
theorem and252 (x : Int) (h0 : 0 ≤ x) (h1 : x < 256) : bits .and .u8 x 252 = x / 4 * 4 := by
  rw [u8_and _ _ h0 (by omega) (by omega) (by omega)]
  have := nat252 ⟨x.toNat, by omega⟩
  simp only at this
  rw [show (252 : Int).toNat = 252 from rfl, this]; omega

/-- The factor of a tag. -/
def facN (key : ByteArray) : Nat := leNat (bytesOf (clZ (intsOf (key.data.toList.take 16))))
theorem facN_lt (key : ByteArray) : facN key < 1361129467683753853853498429727072845824 := by
  unfold facN
  have := leNat_lt (bytesOf (clZ (intsOf (key.data.toList.take 16))))
  have hl : (bytesOf (clZ (intsOf (key.data.toList.take 16)))).length ≤ 16 := by
    unfold bytesOf; rw [List.length_map, clZ_len]; unfold intsOf; rw [List.length_map, List.length_take]; omega
  have h2 : 256 ^ (bytesOf (clZ (intsOf (key.data.toList.take 16)))).length ≤ 256 ^ 16 := Nat.pow_le_pow_right (by decide) hl
  have h3 : (256 : Nat) ^ 16 < 1361129467683753853853498429727072845824 := by decide
  omega
/-- The number of a block: its bytes, with a byte 1 behind. -/
def blkN (t : ByteArray) (k : Nat) : Nat := leNat ((t.data.toList.drop (16 * k)).take 16 ++ [1])
theorem blkN_lt (t : ByteArray) (k : Nat) : blkN t k < 1361129467683753853853498429727072845824 := by
  unfold blkN
  rw [leNat_append]
  have h1 := leNat_lt ((t.data.toList.drop (16 * k)).take 16)
  have hl : ((t.data.toList.drop (16 * k)).take 16).length ≤ 16 := by rw [List.length_take]; omega
  have h2 : 256 ^ ((t.data.toList.drop (16 * k)).take 16).length ≤ 256 ^ 16 := Nat.pow_le_pow_right (by decide) hl
  have h3 : 2 * (256 : Nat) ^ 16 < 1361129467683753853853498429727072845824 := by decide
  have h4 : leNat [1] = 1 := by decide
  rw [h4, Nat.mul_one]
  omega
/-- What so many blocks make. -/
def accN (r : Nat) (t : ByteArray) : Nat → Nat
  | 0 => 0
  | k + 1 => (accN r t k + blkN t k) % prm * r % prm
theorem accN_lt (r : Nat) (t : ByteArray) : ∀ k, accN r t k < prm
  | 0 => prm_pos
  | _ + 1 => Nat.mod_lt _ prm_pos
def nBlk (t : ByteArray) : Nat := (t.size + 15) / 16
/-- Two texts of as many bytes, added; what passes the last byte is lost. -/
def sumR (n : Nat) (a b : List UInt8) : List UInt8 := leBy n (leNat a + leNat b)
/-- TagOf, as the document says it. -/
def tagR (key t : ByteArray) : ByteArray := if key.size = 32 ∧ t.size ≤ 8000 then ⟨(sumR 16 ((leBy 17 (accN (facN key) t (nBlk t))).take 16) (key.data.toList.drop 16)).toArray⟩ else ⟨#[]⟩

/-- Sums of bytes: what goes over, and the byte that stays. -/
def ovN (a b : List UInt8) (k : Nat) : Nat := (leNat (a.take k) + leNat (b.take k)) / 256 ^ k
theorem leNat_take_step (a : List UInt8) (k : Nat) (h : k < a.length) : leNat (a.take (k + 1)) = leNat (a.take k) + 256 ^ k * a[k].toNat := by
  rw [List.take_succ_eq_append_getElem h, leNat_append]
  have hl : (a.take k).length = k := by simp; omega
  rw [hl]; simp [leNat]
theorem ov_step (a b : List UInt8) (k : Nat) (ha : k < a.length) (hb : k < b.length) : ovN a b (k + 1) = (ovN a b k + (a[k].toNat + b[k].toNat)) / 256 ∧
    leBy (k + 1) (leNat (a.take (k + 1)) + leNat (b.take (k + 1))) = leBy k (leNat (a.take k) + leNat (b.take k)) ++ [UInt8.ofNat ((ovN a b k + (a[k].toNat + b[k].toNat)) % 256)] ∧ ovN a b k ≤ 1 := by
  have hp : 0 < 256 ^ k := Nat.pow_pos (by decide)
  have e : leNat (a.take (k + 1)) + leNat (b.take (k + 1)) = (leNat (a.take k) + leNat (b.take k)) + 256 ^ k * (a[k].toNat + b[k].toNat) := by
    rw [leNat_take_step a k ha, leNat_take_step b k hb, Nat.mul_add]; omega
  have ed : (leNat (a.take (k + 1)) + leNat (b.take (k + 1))) / 256 ^ k = ovN a b k + (a[k].toNat + b[k].toNat) := by
    rw [e, Nat.add_mul_div_left _ _ hp]; rfl
  refine ⟨?_, ?_, ?_⟩
  · unfold ovN
    rw [Nat.pow_succ, ← Nat.div_div_eq_div_mul, ed]; rfl
  · rw [leBy_snoc, ed]
    congr 1
    rw [← leBy_mod k (leNat (a.take (k + 1)) + leNat (b.take (k + 1))), e, Nat.add_mul_mod_self_left, leBy_mod]
  · unfold ovN
    have h1 := leNat_lt (a.take k)
    have h2 := leNat_lt (b.take k)
    have hl : (a.take k).length = k := by simp; omega
    have hl2 : (b.take k).length = k := by simp; omega
    rw [hl] at h1
    rw [hl2] at h2
    have : (leNat (a.take k) + leNat (b.take k)) / 256 ^ k < 2 := by rw [Nat.div_lt_iff_lt_mul hp]; omega
    omega
end Go.Proofs.Ytijoancnlpkcoab
