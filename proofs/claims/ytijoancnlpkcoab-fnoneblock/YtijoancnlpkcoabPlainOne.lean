/- Plain facts on a tag over one block: the key's bits taken out byte by byte; the block as a number. No program is named here. -/
import Derived.Test.YtijoancnlpkcoabPlainTag
import Derived.Test.YtijoancnlpkcoabW3h
import Derived.Test.YtijoancnlpkcoabStr
namespace Go.Proofs.Ytijoancnlpkcoab
open Go.RowKit
set_option linter.unusedVariables false

/-- One byte's turn. -/
def clS1 (zs : List Int) (i : Nat) : List Int := if i % 4 = 3 then zs.set i (zs.getD i 0 % 16) else zs
def clS (zs : List Int) (i : Nat) : List Int := if i % 4 = 0 ∧ 0 < i then (clS1 zs i).set i ((clS1 zs i).getD i 0 / 4 * 4) else clS1 zs i
def clO (zs : List Int) : Nat → List Int
  | 0 => zs
  | k + 1 => clS (clO zs k) k
theorem clS1_len (zs : List Int) (i : Nat) : (clS1 zs i).length = zs.length := by unfold clS1; split <;> simp
theorem clS_len (zs : List Int) (i : Nat) : (clS zs i).length = zs.length := by unfold clS; split <;> simp [clS1_len]
theorem clO_len (zs : List Int) : ∀ k, (clO zs k).length = zs.length
  | 0 => rfl
  | k + 1 => by rw [clO, clS_len, clO_len zs k]
theorem clS1_byte {zs : List Int} (h : ByteZ zs) (i : Nat) : ByteZ (clS1 zs i) := by
  unfold clS1
  have := h i
  split
  · exact byteZ_set h _ _ (by omega) (by omega)
  · exact h
theorem clS_byte {zs : List Int} (h : ByteZ zs) (i : Nat) : ByteZ (clS zs i) := by
  unfold clS
  have := clS1_byte h i i
  split
  · exact byteZ_set (clS1_byte h i) _ _ (by omega) (by omega)
  · exact clS1_byte h i
theorem clO_byte {zs : List Int} (h : ByteZ zs) : ∀ k, ByteZ (clO zs k)
  | 0 => h
  | k + 1 => clS_byte (clO_byte h k) k
theorem clZ_form (a0 a1 a2 a3 a4 a5 a6 a7 a8 a9 a10 a11 a12 a13 a14 a15 : Int) : clZ [a0, a1, a2, a3, a4, a5, a6, a7, a8, a9, a10, a11, a12, a13, a14, a15] =
    [a0, a1, a2, a3 % 16, a4 / 4 * 4, a5, a6, a7 % 16, a8 / 4 * 4, a9, a10, a11 % 16, a12 / 4 * 4, a13, a14, a15 % 16] := rfl
theorem clO_form (a0 a1 a2 a3 a4 a5 a6 a7 a8 a9 a10 a11 a12 a13 a14 a15 : Int) : clO [a0, a1, a2, a3, a4, a5, a6, a7, a8, a9, a10, a11, a12, a13, a14, a15] 16 =
    [a0, a1, a2, a3 % 16, a4 / 4 * 4, a5, a6, a7 % 16, a8 / 4 * 4, a9, a10, a11 % 16, a12 / 4 * 4, a13, a14, a15 % 16] := rfl
theorem clO_all : ∀ (zs : List Int), zs.length = 16 → clO zs 16 = clZ zs
  | [a0, a1, a2, a3, a4, a5, a6, a7, a8, a9, a10, a11, a12, a13, a14, a15], _ => (clO_form ..).trans (clZ_form ..).symm
theorem mod16 (x : Int) : x % 16 % 16 = x % 16 := by omega
theorem div4 (x : Int) : x / 4 * 4 / 4 * 4 = x / 4 * 4 := by omega
theorem clZ_twice : ∀ (zs : List Int), zs.length = 16 → clZ (clZ zs) = clZ zs
  | [a0, a1, a2, a3, a4, a5, a6, a7, a8, a9, a10, a11, a12, a13, a14, a15], _ => by
    rw [clZ_form, clZ_form]
    simp only [mod16, div4]

/-- The factor as a text. -/
def facB (key : ByteArray) : ByteArray := ⟨(bytesOf (clZ (intsOf (key.data.toList.take 16)))).toArray⟩
theorem facB_list (key : ByteArray) : (facB key).data.toList = bytesOf (clZ (intsOf (key.data.toList.take 16))) := rfl
theorem len16 (key : ByteArray) (hk : key.size = 32) : (key.data.toList.take 16).length = 16 := by
  rw [List.length_take]
  have : key.data.toList.length = key.size := by simp
  omega
theorem facB_len (key : ByteArray) (hk : key.size = 32) : (facB key).data.toList.length = 16 := by
  rw [facB_list]; unfold bytesOf; rw [List.length_map, clZ_len]; unfold intsOf; rw [List.length_map, len16 key hk]
theorem facB_size (key : ByteArray) (hk : key.size = 32) : (facB key).size = 16 := by
  have h := facB_len key hk
  have h2 : (facB key).data.toList.length = (facB key).size := by simp
  omega
theorem facB_num (key : ByteArray) : leNat ((facB key ++ ⟨#[0]⟩ : ByteArray).data.toList) = facN key := by
  rw [ByteArray.data_append, Array.toList_append, leNat_append]
  show leNat (facB key).data.toList + 256 ^ (facB key).data.toList.length * leNat [0] = facN key
  rw [show leNat [0] = 0 from rfl, Nat.mul_zero, Nat.add_zero]; rfl
theorem small_prm {v : Nat} (h : v < 2 * 256 ^ 16) : v < prm := Nat.lt_of_lt_of_le h (by unfold prm; decide)
theorem facN_prm (key : ByteArray) (hk : key.size = 32) : facN key < prm := by
  have h := leNat_lt (facB key).data.toList
  rw [facB_len key hk] at h
  have e : facN key = leNat (facB key).data.toList := rfl
  refine small_prm ?_
  rw [e]; omega
theorem half_list (key : ByteArray) (hk : key.size = 32) : (facB key ++ key.extract 16 key.size).data.toList = (facB key).data.toList ++ key.data.toList.drop 16 := by
  rw [ByteArray.data_append, Array.toList_append, ByteArray.data_extract, Array.toList_extract, List.extract_eq_take_drop, List.take_of_length_le (by simp)]
theorem half_size (key : ByteArray) (hk : key.size = 32) : (facB key ++ key.extract 16 key.size).size = 32 := by
  rw [ByteArray.size_append, facB_size key hk, ByteArray.size_extract]; omega
theorem half_fac (key : ByteArray) (hk : key.size = 32) : facN (facB key ++ key.extract 16 key.size) = facN key := by
  unfold facN
  rw [half_list key hk, List.take_append_of_le_length (by rw [facB_len key hk]; omega), List.take_of_length_le (by rw [facB_len key hk]; omega), facB_list,
    intsOf_bytesOf (clZ_byte (byteZ_intsOf _)), clZ_twice _ (by unfold intsOf; rw [List.length_map, len16 key hk])]
theorem half_rest (key : ByteArray) (hk : key.size = 32) : (facB key ++ key.extract 16 key.size).data.toList.drop 16 = key.data.toList.drop 16 := by
  rw [half_list key hk, List.drop_append_of_le_length (by rw [facB_len key hk]; omega), List.drop_of_length_le (by rw [facB_len key hk]; omega), List.nil_append]

/-- The block as a text of seventeen bytes. -/
def ngh17 : ByteArray := ⟨(List.replicate 17 0).toArray⟩
def blkT (t : ByteArray) : ByteArray := (t ++ ⟨#[1]⟩ ++ ngh17 : ByteArray).extract 0 17
theorem leNat_noughts : ∀ n, leNat (List.replicate n 0) = 0
  | 0 => rfl
  | n + 1 => by rw [List.replicate_succ, leNat, leNat_noughts n]; rfl
theorem blkT_list (t : ByteArray) (ht : t.size ≤ 16) : (blkT t).data.toList = t.data.toList ++ ([1] ++ List.replicate (16 - t.size) 0) := by
  unfold blkT
  have hl : t.data.toList.length = t.size := by simp
  rw [ByteArray.data_extract, Array.toList_extract, List.extract_eq_take_drop, List.drop_zero, ByteArray.data_append, Array.toList_append, ByteArray.data_append, Array.toList_append]
  show (t.data.toList ++ [1] ++ List.replicate 17 0).take 17 = _
  rw [List.take_append, List.take_of_length_le (by simp; omega), List.take_replicate, List.append_assoc]
  congr 3
  simp; omega
theorem blkT_size (t : ByteArray) (ht : t.size ≤ 16) : (blkT t).size = 17 := by
  have h2 : (blkT t).data.toList.length = (blkT t).size := by simp
  rw [← h2, blkT_list t ht]; simp; omega
theorem blkT_num (t : ByteArray) (ht : t.size ≤ 16) : leNat (blkT t).data.toList = blkN t 0 := by
  have hl : t.data.toList.length = t.size := by simp
  rw [blkT_list t ht, ← List.append_assoc, leNat_append, leNat_noughts, Nat.mul_zero, Nat.add_zero]
  unfold blkN
  rw [Nat.mul_zero, List.drop_zero, List.take_of_length_le (by omega)]
theorem blkN_prm (t : ByteArray) (ht : t.size ≤ 16) : blkN t 0 < prm := by
  refine small_prm ?_
  unfold blkN
  rw [leNat_append]
  have h1 := leNat_lt ((t.data.toList.drop (16 * 0)).take 16)
  have hl : ((t.data.toList.drop (16 * 0)).take 16).length ≤ 16 := by rw [List.length_take]; omega
  have h2 : 256 ^ ((t.data.toList.drop (16 * 0)).take 16).length ≤ 256 ^ 16 := Nat.pow_le_pow_right (by decide) hl
  have h4 : leNat [1] = 1 := by decide
  rw [h4, Nat.mul_one]
  omega
theorem blkT_ok (t : ByteArray) (ht : t.size ≤ 16) : okR (blkT t) = true := by
  unfold okR; rw [blkT_num t ht]; exact decide_eq_true ⟨blkT_size t ht, blkN_prm t ht⟩
theorem facB_ok (key : ByteArray) (hk : key.size = 32) : okR (facB key ++ ⟨#[0]⟩) = true := by
  unfold okR; rw [facB_num key]; exact decide_eq_true ⟨by rw [ByteArray.size_append, facB_size key hk]; rfl, facN_prm key hk⟩
theorem one_mul (key t : ByteArray) (hk : key.size = 32) (ht : t.size ≤ 16) : mulR (blkT t) (facB key ++ ⟨#[0]⟩) = txtR (blkN t 0 * facN key % prm) := by
  unfold mulR; rw [if_pos ⟨blkT_ok t ht, facB_ok key hk⟩, blkT_num t ht, facB_num key]
theorem one_tag (key t : ByteArray) (hk : key.size = 32) (ht : t.size ≤ 16) (h1 : 1 ≤ t.size) : tagR (facB key ++ key.extract 16 key.size) t =
    ⟨(sumR 16 ((leBy 17 (blkN t 0 * facN key % prm)).take 16) (key.data.toList.drop 16)).toArray⟩ := by
  unfold tagR
  have hb : nBlk t = 1 := by unfold nBlk; omega
  have ha : accN (facN key) t 1 = blkN t 0 * facN key % prm := by
    show (0 + blkN t 0) % prm * facN key % prm = _
    rw [Nat.zero_add, Nat.mod_eq_of_lt (blkN_prm t ht)]
  rw [if_pos ⟨half_size key hk, by omega⟩, half_fac key hk, half_rest key hk, hb, ha]

/-- A byte of a sum. -/
theorem leBy_get : ∀ (n v j : Nat) (h : j < (leBy n v).length), (leBy n v)[j] = UInt8.ofNat (v / 256 ^ j % 256)
  | 0, v, j, h => by simp [leBy] at h
  | n + 1, v, 0, h => by simp [leBy]
  | n + 1, v, j + 1, h => by
    have ih := leBy_get n (v / 256) j (by simpa [leBy] using h)
    simp only [leBy, List.getElem_cons_succ]
    rw [ih, Nat.div_div_eq_div_mul, Nat.pow_succ, Nat.mul_comm]
theorem sum_byte (A B : List UInt8) (n j : Nat) (ha : j < A.length) (hb : j < B.length) (h : j < (sumR n A B).length) : (sumR n A B)[j] = UInt8.ofNat ((ovN A B j + (A[j].toNat + B[j].toNat)) % 256) := by
  have hp : 0 < 256 ^ j := Nat.pow_pos (by decide)
  have e1 := leNat_split A j ha
  have e2 := leNat_split B j hb
  unfold sumR at h ⊢
  rw [leBy_get]
  congr 1
  have e : leNat A + leNat B = (leNat (A.take j) + leNat (B.take j)) + 256 ^ j * (A[j].toNat + B[j].toNat + 256 * (leNat (A.drop (j + 1)) + leNat (B.drop (j + 1)))) := by
    rw [e1, e2, Nat.mul_add, Nat.mul_add, Nat.mul_add, Nat.mul_add, Nat.mul_add, Nat.mul_add]; omega
  rw [e, Nat.add_mul_div_left _ _ hp]
  unfold ovN
  omega
end Go.Proofs.Ytijoancnlpkcoab
