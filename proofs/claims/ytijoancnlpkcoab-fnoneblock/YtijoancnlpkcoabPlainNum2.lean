/- Plain facts on numbers, bit by bit and byte by byte: no program is named here. -/
import Derived.Test.YtijoancnlpkcoabPlainNum
namespace Go.Proofs.Ytijoancnlpkcoab
open Go.RowKit

/-- The digit of a number, in digits of so many bits. -/
def dig (wd j v : Nat) : Nat := v / 2 ^ (wd * j) % 2 ^ wd
theorem dig_lt (wd j v : Nat) : dig wd j v < 2 ^ wd := Nat.mod_lt _ (Nat.pow_pos (by decide))
theorem part_dig (j v : Nat) : part j v = dig 26 j v := rfl
/-- One bit more. -/
theorem dig_bit (wd i v j : Nat) (hw : 0 < wd) : dig wd j (v % 2 ^ (i + 1)) = dig wd j (v % 2 ^ i) + (if j = i / wd then v / 2 ^ i % 2 * 2 ^ (i % wd) else 0) := by
  have e0 : v % 2 ^ (i + 1) = v % 2 ^ i + 2 ^ i * (v / 2 ^ i % 2) := Nat.mod_pow_succ
  rw [e0]
  have hu : v % 2 ^ i < 2 ^ i := Nat.mod_lt _ (Nat.pow_pos (by decide))
  have ht : v / 2 ^ i % 2 < 2 := Nat.mod_lt _ (by decide)
  generalize v % 2 ^ i = u at *
  generalize v / 2 ^ i % 2 = t at *
  unfold dig
  have hdm : wd * (i / wd) + i % wd = i := Nat.div_add_mod i wd
  have hr : i % wd < wd := Nat.mod_lt _ hw
  by_cases h1 : j = i / wd
  · rw [if_pos h1]
    subst h1
    have hp : 0 < 2 ^ (wd * (i / wd)) := Nat.pow_pos (by decide)
    have e1 : 2 ^ i * t = 2 ^ (wd * (i / wd)) * (t * 2 ^ (i % wd)) := by
      rw [show 2 ^ i = 2 ^ (wd * (i / wd)) * 2 ^ (i % wd) by rw [← Nat.pow_add, hdm], Nat.mul_assoc, Nat.mul_comm t]
    rw [e1, Nat.add_mul_div_left _ _ hp]
    have hq : u / 2 ^ (wd * (i / wd)) < 2 ^ (i % wd) := by
      rw [Nat.div_lt_iff_lt_mul hp, ← Nat.pow_add, Nat.add_comm, hdm]; exact hu
    have hle : 2 ^ (i % wd + 1) ≤ 2 ^ wd := Nat.pow_le_pow_right (by decide) (by omega)
    rw [Nat.pow_succ] at hle
    have ht2 : t * 2 ^ (i % wd) ≤ 1 * 2 ^ (i % wd) := Nat.mul_le_mul_right _ (by omega)
    generalize u / 2 ^ (wd * (i / wd)) = q at *
    generalize t * 2 ^ (i % wd) = z at *
    rw [Nat.mod_eq_of_lt (by omega), Nat.mod_eq_of_lt (by omega)]
  · rw [if_neg h1, Nat.add_zero]
    rcases Nat.lt_or_gt_of_ne h1 with h2 | h2
    · have hge : wd * (j + 1) ≤ i := by
        have := Nat.mul_le_mul_left wd (show j + 1 ≤ i / wd by omega)
        omega
      obtain ⟨m, hm⟩ : ∃ m, i = wd * j + (wd + m) := ⟨i - wd * (j + 1), by rw [Nat.mul_add, Nat.mul_one] at hge ⊢; omega⟩
      have e1 : 2 ^ i * t = 2 ^ (wd * j) * (2 ^ wd * (2 ^ m * t)) := by rw [hm, Nat.pow_add, Nat.pow_add, Nat.mul_assoc, Nat.mul_assoc]
      rw [e1, Nat.add_mul_div_left _ _ (Nat.pow_pos (by decide)), Nat.add_mul_mod_self_left]
    · have hge : i + 1 ≤ wd * j := by
        have := Nat.mul_le_mul_left wd (show i / wd + 1 ≤ j by omega)
        rw [Nat.mul_add] at this
        omega
      have hle : 2 ^ (i + 1) ≤ 2 ^ (wd * j) := Nat.pow_le_pow_right (by decide) hge
      rw [Nat.pow_succ] at hle
      have ht2 : 2 ^ i * t ≤ 2 ^ i * 1 := Nat.mul_le_mul_left _ (by omega)
      rw [Nat.div_eq_of_lt (by omega), Nat.div_eq_of_lt (by omega)]
/-- A bit of a digit is a bit of the number. -/
theorem dig_at (wd i v : Nat) (hw : 0 < wd) : dig wd (i / wd) v / 2 ^ (i % wd) % 2 = v / 2 ^ i % 2 := by
  unfold dig
  have hr : i % wd < wd := Nat.mod_lt _ hw
  have h := Nat.testBit_mod_two_pow (v / 2 ^ (wd * (i / wd))) wd (i % wd)
  rw [decide_eq_true hr, Bool.true_and, Nat.testBit_div_two_pow, Nat.add_comm, Nat.div_add_mod] at h
  have h2 := congrArg Bool.toNat h
  rw [Nat.toNat_testBit, Nat.toNat_testBit] at h2
  exact h2
theorem partsL_bit (v i : Nat) (hi : i < 130) : partsL (v % 2 ^ (i + 1)) = (partsL (v % 2 ^ i)).set (i / 26) ((part (i / 26) (v % 2 ^ i) : Int) + ((v / 2 ^ i % 2 * 2 ^ (i % 26) : Nat) : Int)) := by
  have h := fun j => dig_bit 26 i v j (by decide)
  have hj : i / 26 = 0 ∨ i / 26 = 1 ∨ i / 26 = 2 ∨ i / 26 = 3 ∨ i / 26 = 4 := by omega
  have h0 := h 0; have h1 := h 1; have h2 := h 2; have h3 := h 3; have h4 := h 4
  unfold partsL
  simp only [part_dig, h0, h1, h2, h3, h4]
  rcases hj with e | e | e | e | e <;> simp [e, List.set]
theorem partsL_get (v j : Nat) (h : j < 5) : (partsL v)[j]'(by simpa [partsL] using h) = (part j v : Int) := by
  match j, h with
  | 0, _ => rfl
  | 1, _ => rfl
  | 2, _ => rfl
  | 3, _ => rfl
  | 4, _ => rfl

/-- So many bytes of a number. -/
def bytesL (n v : Nat) : List Int := (List.range n).map fun j => ((dig 8 j v : Nat) : Int)
theorem bytesL_len (n v : Nat) : (bytesL n v).length = n := by simp [bytesL]
theorem bytesL_get (n v j : Nat) (h : j < n) : (bytesL n v)[j]'(by rw [bytesL_len]; exact h) = ((dig 8 j v : Nat) : Int) := by simp [bytesL]
theorem bytesL_bit (n v i : Nat) : bytesL n (v % 2 ^ (i + 1)) = (bytesL n (v % 2 ^ i)).set (i / 8) ((dig 8 (i / 8) (v % 2 ^ i) : Int) + ((v / 2 ^ i % 2 * 2 ^ (i % 8) : Nat) : Int)) := by
  apply List.ext_getElem
  · simp [bytesL]
  · intro j h1 h2
    have hj : j < n := by simpa [bytesL] using h1
    rw [bytesL_get n _ j hj, List.getElem_set, dig_bit 8 i v j (by decide)]
    by_cases e : i / 8 = j
    · rw [if_pos e, if_pos e.symm, e]; simp
    · rw [if_neg e, if_neg (fun h => e h.symm), bytesL_get n _ j hj]; simp
theorem pow256 (j : Nat) : 256 ^ j = 2 ^ (8 * j) := by rw [Nat.pow_mul]
theorem leBy_dig : ∀ (n v : Nat), (leBy n v).map (fun c => (c.toNat : Int)) = bytesL n v
  | 0, v => rfl
  | n + 1, v => by
    rw [leBy_snoc, List.map_append, leBy_dig n v, bytesL, bytesL, List.range_succ, List.map_append, pow256]
    congr 1
    simp only [List.map_cons, List.map_nil]
    rw [ofNat_toNat8 _ (by omega)]
    rfl
theorem leNat_dig (l : List UInt8) (j : Nat) (h : j < l.length) : dig 8 j (leNat l) = l[j].toNat := by
  have e := leBy_dig l.length (leNat l)
  rw [leBy_leNat] at e
  have h1 := bytesL_get l.length (leNat l) j h
  have h2 : (bytesL l.length (leNat l))[j]'(by rw [bytesL_len]; exact h) = (l[j].toNat : Int) := by simp only [← e, List.getElem_map]
  rw [h1] at h2
  omega
end Go.Proofs.Ytijoancnlpkcoab
