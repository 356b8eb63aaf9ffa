/- Plain facts on streams of blocks of 64 bytes: no program is named here. -/
import Derived.Test.YtijoancnlpkcoaaPlain
namespace Go.Proofs.Ytijoancnlpkcoaa
open Go.RowKit

/-- The byte of a stream of blocks at a place. -/
def ksB (f : Nat → List UInt8) (i : Nat) : UInt8 := (f (i / 64)).getD (i % 64) 0
/-- A text, with what the blocks make of it. -/
def strmL (f : Nat → List UInt8) (t : List UInt8) : List UInt8 := t.mapIdx fun i b => b ^^^ ksB f i
theorem strmL_len (f : Nat → List UInt8) (t : List UInt8) : (strmL f t).length = t.length := by simp [strmL]
theorem strmL_get (f : Nat → List UInt8) (t : List UInt8) (i : Nat) (h : i < t.length) : (strmL f t)[i]'(by rw [strmL_len]; exact h) = t[i] ^^^ ksB f i := by simp [strmL]
theorem strmL_step (f : Nat → List UInt8) (t : List UInt8) (k : Nat) (hf : (f k).length = 64) (h : 64 * k < t.length) :
    (strmL f t).take (64 * (k + 1)) = (strmL f t).take (64 * k) ++ xorL ((t.drop (64 * k)).take 64) (f k) := by
  apply List.ext_getElem
  · simp [strmL, xorL, hf]; omega
  · intro i h1 h2
    have hi : i < t.length := by simp [strmL] at h1; omega
    have hi2 : i < 64 * (k + 1) := by simp [strmL] at h1; omega
    rw [List.getElem_take, strmL_get f t i hi]
    by_cases hlt : i < 64 * k
    · rw [List.getElem_append_left (by simp [strmL]; omega), List.getElem_take, strmL_get f t i hi]
    · have hl : ((strmL f t).take (64 * k)).length = 64 * k := by simp [strmL]; omega
      rw [List.getElem_append_right (by omega)]
      have e1 : i / 64 = k := by omega
      have e2 : i % 64 = i - 64 * k := by omega
      have e3 : i - 64 * k < (f k).length := by omega
      simp only [xorL, List.getElem_zipWith, List.getElem_take, List.getElem_drop, hl]
      unfold ksB
      rw [e1, e2, List.getD_eq_getElem?_getD, List.getElem?_eq_getElem e3]
      simp only [show 64 * k + (i - 64 * k) = i by omega, Option.getD_some]
theorem xor_twice8 (x y : UInt8) : x ^^^ y ^^^ y = x := by rw [UInt8.xor_assoc, UInt8.xor_self, UInt8.xor_zero]
theorem strmL_twice (f : Nat → List UInt8) (t : List UInt8) : strmL f (strmL f t) = t := by
  apply List.ext_getElem
  · simp [strmL]
  · intro i h1 h2
    rw [strmL_get f _ i (by rw [strmL_len]; exact h2), strmL_get f t i h2, xor_twice8]
theorem strmL_drop (f : Nat → List UInt8) (t : List UInt8) : (strmL f t).drop 64 = strmL (fun j => f (j + 1)) (t.drop 64) := by
  apply List.ext_getElem
  · simp [strmL]
  · intro i h1 h2
    have hi : 64 + i < t.length := by simp [strmL] at h1; omega
    rw [List.getElem_drop, strmL_get f t _ hi, strmL_get _ _ i (by simp; omega), List.getElem_drop]
    unfold ksB
    rw [show (64 + i) / 64 = i / 64 + 1 by omega, show (64 + i) % 64 = i % 64 by omega]
theorem strmL_noughts (f : Nat → List UInt8) (hf : (f 0).length = 64) : strmL f (List.replicate 64 0) = f 0 := by
  apply List.ext_getElem
  · simp [strmL, hf]
  · intro i h1 h2
    have hi : i < 64 := by omega
    rw [strmL_get f _ i (by simp; omega)]
    unfold ksB
    rw [show i / 64 = 0 by omega, show i % 64 = i by omega, List.getD_eq_getElem?_getD, List.getElem?_eq_getElem h2, List.getElem_replicate, Option.getD_some, UInt8.zero_xor]
theorem strmL_xor (f : Nat → List UInt8) (t u : List UInt8) (h : t.length = u.length) : strmL f (xorL t u) = xorL (strmL f t) u := by
  apply List.ext_getElem
  · simp [strmL, xorL]
  · intro i h1 h2
    have hi : i < t.length := by simp [strmL, xorL] at h1; omega
    have hu : i < u.length := by omega
    rw [strmL_get f _ i (by simp [xorL]; omega)]
    simp only [xorL, List.getElem_zipWith]
    rw [strmL_get f t i hi, UInt8.xor_assoc, UInt8.xor_comm u[i], ← UInt8.xor_assoc]
theorem xorL_take (a b : List UInt8) : xorL a (b.take a.length) = xorL a b := by
  apply List.ext_getElem
  · simp [xorL]
  · intro i h1 h2
    simp [xorL]
end Go.Proofs.Ytijoancnlpkcoaa
