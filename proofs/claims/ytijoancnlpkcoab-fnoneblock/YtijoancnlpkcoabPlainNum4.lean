/- Plain facts on numbers, byte by byte as the program takes and tells them: no program is named here. -/
import Derived.Test.YtijoancnlpkcoabPlainNum2
namespace Go.Proofs.Ytijoancnlpkcoab
open Go.RowKit

/-- What one byte more makes of a part. -/
def byteAdd (k b j : Nat) : Nat := if j = 8 * k / 26 then b * 2 ^ (8 * k % 26) % 67108864 else if j = 8 * k / 26 + 1 then b * 2 ^ (8 * k % 26) / 67108864 else 0
theorem part_byte (v b k j : Nat) (hk : k < 17) (hj : j < 5) (hv : v < 2 ^ (8 * k)) (hb : b < 256) : part j (v + b * 2 ^ (8 * k)) = part j v + byteAdd k b j := by
  have hk' : k = 0 ∨ k = 1 ∨ k = 2 ∨ k = 3 ∨ k = 4 ∨ k = 5 ∨ k = 6 ∨ k = 7 ∨ k = 8 ∨ k = 9 ∨ k = 10 ∨ k = 11 ∨ k = 12 ∨ k = 13 ∨ k = 14 ∨ k = 15 ∨ k = 16 := by omega
  have hj' : j = 0 ∨ j = 1 ∨ j = 2 ∨ j = 3 ∨ j = 4 := by omega
  unfold part byteAdd
  rcases hk' with rfl | rfl | rfl | rfl | rfl | rfl | rfl | rfl | rfl | rfl | rfl | rfl | rfl | rfl | rfl | rfl | rfl <;>
    rcases hj' with rfl | rfl | rfl | rfl | rfl <;> simp at hv ⊢ <;> omega
theorem part_low (v k : Nat) (hk : k < 17) (hv : v < 2 ^ (8 * k)) : part (8 * k / 26) v < 2 ^ (8 * k % 26) ∧ part (8 * k / 26 + 1) v = 0 := by
  have hk' : k = 0 ∨ k = 1 ∨ k = 2 ∨ k = 3 ∨ k = 4 ∨ k = 5 ∨ k = 6 ∨ k = 7 ∨ k = 8 ∨ k = 9 ∨ k = 10 ∨ k = 11 ∨ k = 12 ∨ k = 13 ∨ k = 14 ∨ k = 15 ∨ k = 16 := by omega
  unfold part
  rcases hk' with rfl | rfl | rfl | rfl | rfl | rfl | rfl | rfl | rfl | rfl | rfl | rfl | rfl | rfl | rfl | rfl | rfl <;> simp at hv ⊢ <;> omega
theorem wide_mod (b sh : Nat) (hs : sh < 26) : b * 2 ^ sh % 67108864 = b % 2 ^ (26 - sh) * 2 ^ sh := by
  have e : (67108864 : Nat) = 2 ^ (26 - sh) * 2 ^ sh := by rw [← Nat.pow_add, show 26 - sh + sh = 26 by omega]
  rw [e, Nat.mul_mod_mul_right]
theorem byte_last (v b k : Nat) (hk : k < 17) (hv : v + b * 2 ^ (8 * k) < 1361129467683753853853498429727072845824) (hb : b < 256) (ho : b * 2 ^ (8 * k % 26) / 67108864 ≠ 0) : 8 * k / 26 + 1 < 5 := by
  have hk' : k = 0 ∨ k = 1 ∨ k = 2 ∨ k = 3 ∨ k = 4 ∨ k = 5 ∨ k = 6 ∨ k = 7 ∨ k = 8 ∨ k = 9 ∨ k = 10 ∨ k = 11 ∨ k = 12 ∨ k = 13 ∨ k = 14 ∨ k = 15 ∨ k = 16 := by omega
  rcases hk' with rfl | rfl | rfl | rfl | rfl | rfl | rfl | rfl | rfl | rfl | rfl | rfl | rfl | rfl | rfl | rfl | rfl <;> simp at hv ho ⊢ <;> omega
theorem partsL_byte (v b k : Nat) (hk : k < 17) (hv : v < 2 ^ (8 * k)) (hb : b < 256) :
    partsL (v + b * 2 ^ (8 * k)) = ((partsL v).set (8 * k / 26) (((part (8 * k / 26) v + b * 2 ^ (8 * k % 26) % 67108864 : Nat)) : Int)).set (8 * k / 26 + 1) ((b * 2 ^ (8 * k % 26) / 67108864 : Nat) : Int) := by
  have h := fun j hj => part_byte v b k j hk hj hv hb
  have hl := (part_low v k hk hv).2
  have h0 := h 0 (by decide); have h1 := h 1 (by decide); have h2 := h 2 (by decide); have h3 := h 3 (by decide); have h4 := h 4 (by decide)
  have hp : 8 * k / 26 = 0 ∨ 8 * k / 26 = 1 ∨ 8 * k / 26 = 2 ∨ 8 * k / 26 = 3 ∨ 8 * k / 26 = 4 := by omega
  unfold partsL
  rw [h0, h1, h2, h3, h4]
  unfold byteAdd
  rcases hp with e | e | e | e | e <;> rw [e] at hl ⊢ <;> simp [hl]
theorem partsL_byte0 (v b k : Nat) (hk : k < 17) (hv : v < 2 ^ (8 * k)) (hb : b < 256) (ho : b * 2 ^ (8 * k % 26) / 67108864 = 0) :
    partsL (v + b * 2 ^ (8 * k)) = (partsL v).set (8 * k / 26) (((part (8 * k / 26) v + b * 2 ^ (8 * k % 26) % 67108864 : Nat)) : Int) := by
  have h := fun j hj => part_byte v b k j hk hj hv hb
  have h0 := h 0 (by decide); have h1 := h 1 (by decide); have h2 := h 2 (by decide); have h3 := h 3 (by decide); have h4 := h 4 (by decide)
  have hp : 8 * k / 26 = 0 ∨ 8 * k / 26 = 1 ∨ 8 * k / 26 = 2 ∨ 8 * k / 26 = 3 ∨ 8 * k / 26 = 4 := by omega
  unfold partsL
  rw [h0, h1, h2, h3, h4]
  unfold byteAdd
  rcases hp with e | e | e | e | e <;> rw [e] <;> simp [ho]
/-- A byte out of two parts. -/
theorem byte_of_parts (v i : Nat) (hi : i < 17) (hv : v < 1361129467683753853853498429727072845824) :
    (if 8 * i / 26 + 1 < 5 then part (8 * i / 26) v / 2 ^ (8 * i % 26) + part (8 * i / 26 + 1) v * 2 ^ (26 - 8 * i % 26) else part (8 * i / 26) v / 2 ^ (8 * i % 26)) % 256 = dig 8 i v := by
  have hk' : i = 0 ∨ i = 1 ∨ i = 2 ∨ i = 3 ∨ i = 4 ∨ i = 5 ∨ i = 6 ∨ i = 7 ∨ i = 8 ∨ i = 9 ∨ i = 10 ∨ i = 11 ∨ i = 12 ∨ i = 13 ∨ i = 14 ∨ i = 15 ∨ i = 16 := by omega
  unfold part dig
  rcases hk' with rfl | rfl | rfl | rfl | rfl | rfl | rfl | rfl | rfl | rfl | rfl | rfl | rfl | rfl | rfl | rfl | rfl <;> simp <;> omega
theorem part_shift_lt (v j sh : Nat) (hs : sh < 26) : part j v / 2 ^ sh < 2 ^ (26 - sh) := by
  have h := part_lt j v
  rw [Nat.div_lt_iff_lt_mul (Nat.pow_pos (by decide)), ← Nat.pow_add, show 26 - sh + sh = 26 by omega]
  exact h
end Go.Proofs.Ytijoancnlpkcoab
