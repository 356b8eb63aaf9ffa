/- Plain facts on numbers below 2 to the 130th: their bytes, their five parts, what is left by the prime. No program is named here. Plain facts on numbers, bit by bit and byte by byte: no program is named here. Plain facts on sums and products of numbers, part by part: no program is named here. Plain facts on numbers, byte by byte as the program takes and tells them: no program is named here. Plain facts on tags: keys without some bits, sums of bytes, blocks. No program is named here. -/
import Derived.Test.YtfjaincogbdeiaaGreatDoorPlainA
namespace Go.Proofs.YtfjaincogbdeiaaGreatDoor
open Go.RowKit

/-- The number of bytes, the lowest first. -/
def leNat : List UInt8 → Nat
  | [] => 0
  | c :: l => c.toNat + 256 * leNat l
/-- So many bytes of a number, the lowest first. -/
def leBy : Nat → Nat → List UInt8
  | 0, _ => []
  | n + 1, v => UInt8.ofNat (v % 256) :: leBy n (v / 256)
theorem leBy_len : ∀ (n v : Nat), (leBy n v).length = n
  | 0, _ => rfl
  | n + 1, v => by simp [leBy, leBy_len n]
theorem leNat_lt : ∀ (l : List UInt8), leNat l < 256 ^ l.length
  | [] => by simp [leNat]
  | c :: l => by
    have := leNat_lt l
    have := c.toNat_lt
    simp only [leNat, List.length_cons, Nat.pow_succ]
    omega
theorem ofNat_toNat8 (x : Nat) (h : x < 256) : (UInt8.ofNat x).toNat = x := by
  rw [UInt8.toNat_ofNat', Nat.mod_eq_of_lt (by simpa using h)]
theorem leNat_leBy : ∀ (n v : Nat), leNat (leBy n v) = v % 256 ^ n
  | 0, v => by simp [leNat, leBy, Nat.mod_one]
  | n + 1, v => by
    have ih := leNat_leBy n (v / 256)
    simp only [leBy, leNat, ih]
    rw [ofNat_toNat8 _ (by omega), Nat.pow_succ, Nat.mul_comm (256 ^ n) 256, Nat.mod_mul]
theorem leBy_leNat : ∀ (l : List UInt8), leBy l.length (leNat l) = l
  | [] => rfl
  | c :: l => by
    have h := c.toNat_lt
    simp only [List.length_cons, leBy, leNat]
    rw [show (c.toNat + 256 * leNat l) % 256 = c.toNat by omega, show (c.toNat + 256 * leNat l) / 256 = leNat l by omega, leBy_leNat l]
    simp
theorem leNat_append : ∀ (a b : List UInt8), leNat (a ++ b) = leNat a + 256 ^ a.length * leNat b
  | [], b => by simp [leNat]
  | c :: a, b => by
    have ih := leNat_append a b
    simp only [List.cons_append, leNat, ih, List.length_cons, Nat.pow_succ]
    rw [Nat.mul_comm (256 ^ a.length) 256, Nat.mul_add, Nat.mul_assoc]; omega
theorem leBy_snoc : ∀ (n v : Nat), leBy (n + 1) v = leBy n v ++ [UInt8.ofNat (v / 256 ^ n % 256)]
  | 0, v => by simp [leBy]
  | n + 1, v => by
    have ih := leBy_snoc n (v / 256)
    rw [leBy, ih]
    simp only [leBy, List.cons_append]
    rw [Nat.div_div_eq_div_mul, Nat.pow_succ, Nat.mul_comm 256 (256 ^ n)]
theorem leBy_mod (n v : Nat) : leBy n (v % 256 ^ n) = leBy n v := by
  have h := leBy_leNat (leBy n v)
  rw [leBy_len, leNat_leBy] at h
  exact h
theorem leNat_inj {a b : List UInt8} (hl : a.length = b.length) (h : leNat a = leNat b) : a = b := by
  rw [← leBy_leNat a, ← leBy_leNat b, hl, h]

/-- The prime. -/
def prm : Nat := 1361129467683753853853498429727072845819
theorem prm_pos : 0 < prm := by unfold prm; omega
/-- One of the five parts of a number. -/
def part (j v : Nat) : Nat := v / 2 ^ (26 * j) % 67108864
def val5 (a b c d e : Nat) : Nat := a + 67108864 * b + 4503599627370496 * c + 302231454903657293676544 * d + 20282409603651670423947251286016 * e
def partsL (v : Nat) : List Int := [(part 0 v : Int), (part 1 v : Int), (part 2 v : Int), (part 3 v : Int), (part 4 v : Int)]
theorem part_lt (j v : Nat) : part j v < 67108864 := Nat.mod_lt _ (by decide)
theorem val_parts (v : Nat) (h : v < 1361129467683753853853498429727072845824) : val5 (part 0 v) (part 1 v) (part 2 v) (part 3 v) (part 4 v) = v := by
  unfold val5 part
  simp only [Nat.reduceMul, Nat.reducePow]
  omega
theorem parts_val (a b c d e : Nat) (ha : a < 67108864) (hb : b < 67108864) (hc : c < 67108864) (hd : d < 67108864) (he : e < 67108864) :
    part 0 (val5 a b c d e) = a ∧ part 1 (val5 a b c d e) = b ∧ part 2 (val5 a b c d e) = c ∧ part 3 (val5 a b c d e) = d ∧ part 4 (val5 a b c d e) = e := by
  unfold val5 part
  simp only [Nat.reduceMul, Nat.reducePow]
  refine ⟨?_, ?_, ?_, ?_, ?_⟩ <;> omega
theorem val_lt (a b c d e : Nat) (ha : a < 67108864) (hb : b < 67108864) (hc : c < 67108864) (hd : d < 67108864) (he : e < 67108864) : val5 a b c d e < 1361129467683753853853498429727072845824 := by
  unfold val5; omega

/-- What goes beyond 26 bits of each part, added to the next one; of the last one five times to the first. -/
structure Num5 where
  a : Nat
  b : Nat
  c : Nat
  d : Nat
  e : Nat
def Num5.val (x : Num5) : Nat := val5 x.a x.b x.c x.d x.e
def cb (x : Num5) : Nat := x.b + x.a / 67108864
def cc (x : Num5) : Nat := x.c + cb x / 67108864
def cd (x : Num5) : Nat := x.d + cc x / 67108864
def ce (x : Num5) : Nat := x.e + cd x / 67108864
def carry (x : Num5) : Num5 := ⟨x.a % 67108864 + 5 * (ce x / 67108864), cb x % 67108864, cc x % 67108864, cd x % 67108864, ce x % 67108864⟩
theorem carry_val (x : Num5) : (carry x).val + prm * (ce x / 67108864) = x.val := by
  unfold Num5.val val5 carry prm ce cd cc cb
  dsimp only
  omega
theorem carry_mod (x : Num5) : (carry x).val % prm = x.val % prm := by
  rw [← carry_val x, Nat.add_mul_mod_self_left]
/-- Each part below a bound. -/
def Num5.bd (x : Num5) (A B : Nat) : Prop := x.a < A ∧ x.b < B ∧ x.c < B ∧ x.d < B ∧ x.e < B
theorem carry_bd1 {x : Num5} (h : x.bd 576460752303423488 576460752303423488) : (carry x).bd 85966454784 67108864 := by
  obtain ⟨h1, h2, h3, h4, h5⟩ := h
  unfold Num5.bd carry
  dsimp only
  have e1 : cb x < 576460760893358080 := by unfold cb; omega
  have e2 : cc x < 576460760893358209 := by unfold cc; omega
  have e3 : cd x < 576460760893358209 := by unfold cd; omega
  have e4 : ce x < 576460760893358209 := by unfold ce; omega
  omega
theorem carry_bd2 {x : Num5} (h : x.bd 85966454784 67108864) : (carry x).bd 67108869 67108864 := by
  obtain ⟨h1, h2, h3, h4, h5⟩ := h
  unfold Num5.bd carry
  dsimp only
  have e1 : cb x < 67110145 := by unfold cb; omega
  have e2 : cc x < 67108865 := by unfold cc; omega
  have e3 : cd x < 67108865 := by unfold cd; omega
  have e4 : ce x < 67108865 := by unfold ce; omega
  omega
theorem carry_bd3 {x : Num5} (h : x.bd 67108869 67108864) : (carry x).bd 67108864 67108864 := by
  obtain ⟨h1, h2, h3, h4, h5⟩ := h
  unfold Num5.bd carry
  dsimp only
  have e1 : cb x < 67108865 := by unfold cb; omega
  have e2 : cc x < 67108865 := by unfold cc; omega
  have e3 : cd x < 67108865 := by unfold cd; omega
  have e4 : ce x < 67108865 := by unfold ce; omega
  by_cases h6 : x.a < 67108864
  · have : x.a / 67108864 = 0 := by omega
    have g1 : cb x < 67108864 := by unfold cb; omega
    have g2 : cc x < 67108864 := by unfold cc; omega
    have g3 : cd x < 67108864 := by unfold cd; omega
    have g4 : ce x < 67108864 := by unfold ce; omega
    omega
  · omega
def carry3 (x : Num5) : Num5 := carry (carry (carry x))
theorem carry3_bd {x : Num5} (h : x.bd 576460752303423488 576460752303423488) : (carry3 x).bd 67108864 67108864 := carry_bd3 (carry_bd2 (carry_bd1 h))
theorem carry3_mod (x : Num5) : (carry3 x).val % prm = x.val % prm := by unfold carry3; rw [carry_mod, carry_mod, carry_mod]
theorem bd_val {x : Num5} (h : x.bd 67108864 67108864) : x.val < 1361129467683753853853498429727072845824 := val_lt _ _ _ _ _ h.1 h.2.1 h.2.2.1 h.2.2.2.1 h.2.2.2.2
def Num5.list (x : Num5) : List Int := [(x.a : Int), (x.b : Int), (x.c : Int), (x.d : Int), (x.e : Int)]
theorem partsL_val {x : Num5} (h : x.bd 67108864 67108864) : partsL x.val = x.list := by
  obtain ⟨h1, h2, h3, h4, h5⟩ := h
  obtain ⟨g1, g2, g3, g4, g5⟩ := parts_val x.a x.b x.c x.d x.e h1 h2 h3 h4 h5
  unfold partsL Num5.list Num5.val
  rw [g1, g2, g3, g4, g5]
/-- A number and its parts. -/
def num5 (v : Nat) : Num5 := ⟨part 0 v, part 1 v, part 2 v, part 3 v, part 4 v⟩
theorem num5_val (v : Nat) (h : v < 1361129467683753853853498429727072845824) : (num5 v).val = v := val_parts v h
theorem num5_bd (v : Nat) : (num5 v).bd 67108864 67108864 := ⟨part_lt _ _, part_lt _ _, part_lt _ _, part_lt _ _, part_lt _ _⟩
theorem num5_list (v : Nat) : (num5 v).list = partsL v := rfl
/-- What is left by the prime. -/
theorem small_mod {x : Num5} (h : x.bd 67108864 67108864) (h1 : ¬ (67108859 ≤ x.a ∧ x.b = 67108863 ∧ x.c = 67108863 ∧ x.d = 67108863 ∧ x.e = 67108863)) : x.val < prm := by
  obtain ⟨g1, g2, g3, g4, g5⟩ := h
  unfold Num5.val val5 prm
  omega
theorem great_mod {x : Num5} (h : x.bd 67108864 67108864) (ha : 67108859 ≤ x.a) (hb : x.b = 67108863) (hc : x.c = 67108863) (hd : x.d = 67108863) (he : x.e = 67108863) : x.val % prm = x.a - 67108859 := by
  obtain ⟨g1, g2, g3, g4, g5⟩ := h
  unfold Num5.val val5 prm
  omega
end Go.Proofs.YtfjaincogbdeiaaGreatDoor

namespace Go.Proofs.YtfjaincogbdeiaaGreatDoor
open Go.RowKit

/-- The digit of a number, in digits of so many bits. -/
def dig (wd j v : Nat) : Nat := v / 2 ^ (wd * j) % 2 ^ wd
theorem dig_lt (wd j v : Nat) : dig wd j v < 2 ^ wd := Nat.mod_lt _ (Nat.pow_pos (by decide))
theorem part_dig (j v : Nat) : part j v = dig 26 j v := rfl
/-- One bit more. -/
theorem dig_bit (wd i v j : Nat) (hw : 0 < wd) : dig wd j (v % 2 ^ (i + 1)) = dig wd j (v % 2 ^ i) + (if j = i / wd then v / 2 ^ i % 2 * 2 ^ (i % wd) else 0) := by
  have e0 : v % 2 ^ (i + 1) = v % 2 ^ i + 2 ^ i * (v / 2 ^ i % 2) := Nat.mod_pow_succ
  rw [e0]
  have hu : v % 2 ^ i < 2 ^ i := Nat.mod_lt _ (Nat.pow_pos (by decide))
  have ht : v / 2 ^ i % 2 < 2 := Nat.mod_lt _ (by decide)
  generalize v % 2 ^ i = u at *
  generalize v / 2 ^ i % 2 = t at *
  unfold dig
  have hdm : wd * (i / wd) + i % wd = i := Nat.div_add_mod i wd
  have hr : i % wd < wd := Nat.mod_lt _ hw
  by_cases h1 : j = i / wd
  · rw [if_pos h1]
    subst h1
    have hp : 0 < 2 ^ (wd * (i / wd)) := Nat.pow_pos (by decide)
    have e1 : 2 ^ i * t = 2 ^ (wd * (i / wd)) * (t * 2 ^ (i % wd)) := by
      rw [show 2 ^ i = 2 ^ (wd * (i / wd)) * 2 ^ (i % wd) by rw [← Nat.pow_add, hdm], Nat.mul_assoc, Nat.mul_comm t]
    rw [e1, Nat.add_mul_div_left _ _ hp]
    have hq : u / 2 ^ (wd * (i / wd)) < 2 ^ (i % wd) := by
      rw [Nat.div_lt_iff_lt_mul hp, ← Nat.pow_add, Nat.add_comm, hdm]; exact hu
    have hle : 2 ^ (i % wd + 1) ≤ 2 ^ wd := Nat.pow_le_pow_right (by decide) (by omega)
    rw [Nat.pow_succ] at hle
    have ht2 : t * 2 ^ (i % wd) ≤ 1 * 2 ^ (i % wd) := Nat.mul_le_mul_right _ (by omega)
    generalize u / 2 ^ (wd * (i / wd)) = q at *
    generalize t * 2 ^ (i % wd) = z at *
    rw [Nat.mod_eq_of_lt (by omega), Nat.mod_eq_of_lt (by omega)]
  · rw [if_neg h1, Nat.add_zero]
    rcases Nat.lt_or_gt_of_ne h1 with h2 | h2
    · have hge : wd * (j + 1) ≤ i := by
        have := Nat.mul_le_mul_left wd (show j + 1 ≤ i / wd by omega)
        omega
      obtain ⟨m, hm⟩ : ∃ m, i = wd * j + (wd + m) := ⟨i - wd * (j + 1), by rw [Nat.mul_add, Nat.mul_one] at hge ⊢; omega⟩
      have e1 : 2 ^ i * t = 2 ^ (wd * j) * (2 ^ wd * (2 ^ m * t)) := by rw [hm, Nat.pow_add, Nat.pow_add, Nat.mul_assoc, Nat.mul_assoc]
      rw [e1, Nat.add_mul_div_left _ _ (Nat.pow_pos (by decide)), Nat.add_mul_mod_self_left]
    · have hge : i + 1 ≤ wd * j := by
        have := Nat.mul_le_mul_left wd (show i / wd + 1 ≤ j by omega)
        rw [Nat.mul_add] at this
        omega
      have hle : 2 ^ (i + 1) ≤ 2 ^ (wd * j) := Nat.pow_le_pow_right (by decide) hge
      rw [Nat.pow_succ] at hle
      have ht2 : 2 ^ i * t ≤ 2 ^ i * 1 := Nat.mul_le_mul_left _ (by omega)
      rw [Nat.div_eq_of_lt (by omega), Nat.div_eq_of_lt (by omega)]
/-- A bit of a digit is a bit of the number. -/
theorem dig_at (wd i v : Nat) (hw : 0 < wd) : dig wd (i / wd) v / 2 ^ (i % wd) % 2 = v / 2 ^ i % 2 := by
  unfold dig
  have hr : i % wd < wd := Nat.mod_lt _ hw
  have h := Nat.testBit_mod_two_pow (v / 2 ^ (wd * (i / wd))) wd (i % wd)
  rw [decide_eq_true hr, Bool.true_and, Nat.testBit_div_two_pow, Nat.add_comm, Nat.div_add_mod] at h
  have h2 := congrArg Bool.toNat h
  rw [Nat.toNat_testBit, Nat.toNat_testBit] at h2
  exact h2
theorem partsL_bit (v i : Nat) (hi : i < 130) : partsL (v % 2 ^ (i + 1)) = (partsL (v % 2 ^ i)).set (i / 26) ((part (i / 26) (v % 2 ^ i) : Int) + ((v / 2 ^ i % 2 * 2 ^ (i % 26) : Nat) : Int)) := by
  have h := fun j => dig_bit 26 i v j (by decide)
  have hj : i / 26 = 0 ∨ i / 26 = 1 ∨ i / 26 = 2 ∨ i / 26 = 3 ∨ i / 26 = 4 := by omega
  have h0 := h 0; have h1 := h 1; have h2 := h 2; have h3 := h 3; have h4 := h 4
  unfold partsL
  simp only [part_dig, h0, h1, h2, h3, h4]
  rcases hj with e | e | e | e | e <;> simp [e, List.set]
theorem partsL_get (v j : Nat) (h : j < 5) : (partsL v)[j]'(by simpa [partsL] using h) = (part j v : Int) := by
  match j, h with
  | 0, _ => rfl
  | 1, _ => rfl
  | 2, _ => rfl
  | 3, _ => rfl
  | 4, _ => rfl

/-- So many bytes of a number. -/
def bytesL (n v : Nat) : List Int := (List.range n).map fun j => ((dig 8 j v : Nat) : Int)
theorem bytesL_len (n v : Nat) : (bytesL n v).length = n := by simp [bytesL]
theorem bytesL_get (n v j : Nat) (h : j < n) : (bytesL n v)[j]'(by rw [bytesL_len]; exact h) = ((dig 8 j v : Nat) : Int) := by simp [bytesL]
theorem bytesL_bit (n v i : Nat) : bytesL n (v % 2 ^ (i + 1)) = (bytesL n (v % 2 ^ i)).set (i / 8) ((dig 8 (i / 8) (v % 2 ^ i) : Int) + ((v / 2 ^ i % 2 * 2 ^ (i % 8) : Nat) : Int)) := by
  apply List.ext_getElem
  · simp [bytesL]
  · intro j h1 h2
    have hj : j < n := by simpa [bytesL] using h1
    rw [bytesL_get n _ j hj, List.getElem_set, dig_bit 8 i v j (by decide)]
    by_cases e : i / 8 = j
    · rw [if_pos e, if_pos e.symm, e]; simp
    · rw [if_neg e, if_neg (fun h => e h.symm), bytesL_get n _ j hj]; simp
theorem pow256 (j : Nat) : 256 ^ j = 2 ^ (8 * j) := by rw [Nat.pow_mul]
theorem leBy_dig : ∀ (n v : Nat), (leBy n v).map (fun c => (c.toNat : Int)) = bytesL n v
  | 0, v => rfl
  | n + 1, v => by
    rw [leBy_snoc, List.map_append, leBy_dig n v, bytesL, bytesL, List.range_succ, List.map_append, pow256]
    congr 1
    simp only [List.map_cons, List.map_nil]
    rw [ofNat_toNat8 _ (by omega)]
    rfl
theorem leNat_dig (l : List UInt8) (j : Nat) (h : j < l.length) : dig 8 j (leNat l) = l[j].toNat := by
  have e := leBy_dig l.length (leNat l)
  rw [leBy_leNat] at e
  have h1 := bytesL_get l.length (leNat l) j h
  have h2 : (bytesL l.length (leNat l))[j]'(by rw [bytesL_len]; exact h) = (l[j].toNat : Int) := by simp only [← e, List.getElem_map]
  rw [h1] at h2
  omega
end Go.Proofs.YtfjaincogbdeiaaGreatDoor

namespace Go.Proofs.YtfjaincogbdeiaaGreatDoor
open Go.RowKit

def addN (x y : Num5) : Num5 := ⟨x.a + y.a, x.b + y.b, x.c + y.c, x.d + y.d, x.e + y.e⟩
theorem addN_val (x y : Num5) : (addN x y).val = x.val + y.val := by unfold addN Num5.val val5; dsimp only; omega
theorem addN_bd {x y : Num5} (hx : x.bd 67108864 67108864) (hy : y.bd 67108864 67108864) : (addN x y).bd 576460752303423488 576460752303423488 := by
  obtain ⟨h1, h2, h3, h4, h5⟩ := hx
  obtain ⟨g1, g2, g3, g4, g5⟩ := hy
  unfold addN Num5.bd
  dsimp only
  omega
/-- The first parts summed. -/
def addL (xs ys : List Int) (k : Nat) : List Int := (List.zipWith (fun x y => x + y) xs ys).take k ++ xs.drop k
theorem addL_len {xs ys : List Int} (hx : xs.length = 5) (hy : ys.length = 5) (k : Nat) (hk : k ≤ 5) : (addL xs ys k).length = 5 := by
  unfold addL; simp [hx, hy]; omega
theorem addL_get {xs ys : List Int} (hx : xs.length = 5) (hy : ys.length = 5) (k : Nat) (hk : k < 5) (h : k < (addL xs ys k).length) : (addL xs ys k)[k] = xs[k] := by
  unfold addL at h ⊢
  rw [List.getElem_append_right (by simp; omega)]
  simp [hx, hy]
  congr 1
  omega
theorem addL_step {xs ys : List Int} (hx : xs.length = 5) (hy : ys.length = 5) (k : Nat) (hk : k < 5) : (addL xs ys k).set k (xs[k] + ys[k]) = addL xs ys (k + 1) := by
  unfold addL
  have hl : ((List.zipWith (fun x y => x + y) xs ys).take k).length = k := by simp [hx, hy]; omega
  have hz : k < (List.zipWith (fun x y => x + y) xs ys).length := by simp [hx, hy]; omega
  rw [List.set_append_right _ _ (by omega), hl, Nat.sub_self, List.drop_eq_getElem_cons (by omega : k < xs.length), List.set_cons_zero, List.take_succ_eq_append_getElem hz, List.append_assoc]
  simp
theorem addL_end (x y : Num5) : addL x.list y.list 5 = (addN x y).list := by
  simp [addL, Num5.list, addN]
theorem list_get_bd {x : Num5} (hx : x.bd 67108864 67108864) (k : Nat) (h : k < x.list.length) : 0 ≤ x.list[k] ∧ x.list[k] < 67108864 := by
  obtain ⟨h1, h2, h3, h4, h5⟩ := hx
  have h' : k < 5 := h
  match k, h' with
  | 0, _ => exact ⟨by simp [Num5.list], by simp [Num5.list]; omega⟩
  | 1, _ => exact ⟨by simp [Num5.list], by simp [Num5.list]; omega⟩
  | 2, _ => exact ⟨by simp [Num5.list], by simp [Num5.list]; omega⟩
  | 3, _ => exact ⟨by simp [Num5.list], by simp [Num5.list]; omega⟩
  | 4, _ => exact ⟨by simp [Num5.list], by simp [Num5.list]; omega⟩

/-- A product of two parts, as it counts. -/
def mulAt (xs ys : List Int) (i j : Nat) : Int := if 5 ≤ i + j then xs.getD i 0 * ys.getD j 0 * 5 else xs.getD i 0 * ys.getD j 0
def mulRow (xs ys : List Int) (i : Nat) : Nat → List Int → List Int
  | 0, o => o
  | j + 1, o => (mulRow xs ys i j o).set ((i + j) % 5) ((mulRow xs ys i j o).getD ((i + j) % 5) 0 + mulAt xs ys i j)
def mulN (xs ys : List Int) : Nat → List Int
  | 0 => List.replicate 5 0
  | i + 1 => mulRow xs ys i 5 (mulN xs ys i)
theorem mulRow_len (xs ys : List Int) (i : Nat) (o : List Int) : ∀ j, (mulRow xs ys i j o).length = o.length
  | 0 => rfl
  | j + 1 => by rw [mulRow, List.length_set, mulRow_len xs ys i o j]
theorem mulN_len (xs ys : List Int) : ∀ i, (mulN xs ys i).length = 5
  | 0 => rfl
  | i + 1 => by rw [mulN, mulRow_len, mulN_len xs ys i]
/-- All of them from 0 up to a bound. -/
def Upto (o : List Int) (n : Nat) : Prop := ∀ k, 0 ≤ o.getD k 0 ∧ o.getD k 0 ≤ 22517998136852480 * (n : Int)
theorem part_mul (x y : Int) (hx0 : 0 ≤ x) (hx : x < 67108864) (hy0 : 0 ≤ y) (hy : y < 67108864) : 0 ≤ x * y ∧ x * y ≤ 4503599627370496 := by
  refine ⟨Int.mul_nonneg hx0 hy0, ?_⟩
  have h1 : x * y ≤ 67108864 * y := Int.mul_le_mul_of_nonneg_right (by omega) hy0
  omega
theorem mulAt_bd {x y : Num5} (hx : x.bd 67108864 67108864) (hy : y.bd 67108864 67108864) (i j : Nat) (hi : i < 5) (hj : j < 5) : 0 ≤ mulAt x.list y.list i j ∧ mulAt x.list y.list i j ≤ 22517998136852480 := by
  have hxi := list_get_bd hx i hi
  have hyj := list_get_bd hy j hj
  have e1 : x.list.getD i 0 = x.list[i]'hi := by rw [List.getD_eq_getElem?_getD, List.getElem?_eq_getElem hi]; rfl
  have e2 : y.list.getD j 0 = y.list[j]'hj := by rw [List.getD_eq_getElem?_getD, List.getElem?_eq_getElem hj]; rfl
  have := part_mul _ _ hxi.1 hxi.2 hyj.1 hyj.2
  unfold mulAt
  rw [e1, e2]
  split <;> omega
theorem upto_set {o : List Int} {n : Nat} (h : Upto o n) (k : Nat) (z : Int) (hz0 : 0 ≤ z) (hz : z ≤ 22517998136852480) : Upto (o.set k (o.getD k 0 + z)) (n + 1) := by
  intro m
  have hk := h k
  have hm := h m
  by_cases e : k = m
  · subst e
    by_cases hl : k < o.length
    · have : (o.set k (o.getD k 0 + z)).getD k 0 = o.getD k 0 + z := by
        rw [List.getD_eq_getElem?_getD, List.getElem?_set_self hl]; rfl
      rw [this]; omega
    · rw [List.set_eq_of_length_le (by omega)]; omega
  · have : (o.set k (o.getD k 0 + z)).getD m 0 = o.getD m 0 := by
      rw [List.getD_eq_getElem?_getD, List.getElem?_set_ne e, ← List.getD_eq_getElem?_getD]
    rw [this]; omega
theorem upto_row {x y : Num5} (hx : x.bd 67108864 67108864) (hy : y.bd 67108864 67108864) (i : Nat) (hi : i < 5) (o : List Int) (n : Nat) (ho : Upto o n) : ∀ j, j ≤ 5 → Upto (mulRow x.list y.list i j o) (n + j)
  | 0, _ => ho
  | j + 1, h => by
    have hb := mulAt_bd hx hy i j hi (by omega)
    exact upto_set (upto_row hx hy i hi o n ho j (by omega)) _ _ hb.1 hb.2
theorem upto_mul {x y : Num5} (hx : x.bd 67108864 67108864) (hy : y.bd 67108864 67108864) : ∀ i, i ≤ 5 → Upto (mulN x.list y.list i) (5 * i)
  | 0, _ => fun k => by
    have : (mulN x.list y.list 0).getD k 0 = 0 := by
      simp only [mulN, List.getD_eq_getElem?_getD, List.getElem?_replicate]
      split <;> rfl
    rw [this]; omega
  | i + 1, h => upto_row hx hy i (by omega) _ _ (upto_mul hx hy i (by omega)) 5 (Nat.le_refl _)

def mul5 (x y : Num5) : Num5 :=
  ⟨x.a * y.a + 5 * (x.b * y.e) + 5 * (x.c * y.d) + 5 * (x.d * y.c) + 5 * (x.e * y.b),
   x.a * y.b + x.b * y.a + 5 * (x.c * y.e) + 5 * (x.d * y.d) + 5 * (x.e * y.c),
   x.a * y.c + x.b * y.b + x.c * y.a + 5 * (x.d * y.e) + 5 * (x.e * y.d),
   x.a * y.d + x.b * y.c + x.c * y.b + x.d * y.a + 5 * (x.e * y.e),
   x.a * y.e + x.b * y.d + x.c * y.c + x.d * y.b + x.e * y.a⟩
theorem mulN_end (x y : Num5) : mulN x.list y.list 5 = (mul5 x y).list := by
  obtain ⟨a, b, c, d, e⟩ := x
  obtain ⟨p, q, r, s, t⟩ := y
  simp only [mulN, mulRow, mulAt, Num5.list, mul5, Nat.reduceAdd, Nat.reduceMod, Nat.reduceLeDiff, if_true, if_false, List.replicate, List.set, List.getD_cons_zero, List.getD_cons_succ]
  congr 1
  · omega
  · congr 1
    · omega
    · congr 1
      · omega
      · congr 1
        · omega
        · congr 1
          omega
theorem mul_lt26 {a b : Nat} (ha : a < 67108864) (hb : b < 67108864) : a * b < 4503599627370496 := by
  have := Nat.mul_lt_mul'' ha hb
  omega
theorem mul5_bd {x y : Num5} (hx : x.bd 67108864 67108864) (hy : y.bd 67108864 67108864) : (mul5 x y).bd 576460752303423488 576460752303423488 := by
  obtain ⟨h1, h2, h3, h4, h5⟩ := hx
  obtain ⟨g1, g2, g3, g4, g5⟩ := hy
  have a1 := mul_lt26 h1 g1; have a2 := mul_lt26 h1 g2; have a3 := mul_lt26 h1 g3; have a4 := mul_lt26 h1 g4; have a5 := mul_lt26 h1 g5
  have b1 := mul_lt26 h2 g1; have b2 := mul_lt26 h2 g2; have b3 := mul_lt26 h2 g3; have b4 := mul_lt26 h2 g4; have b5 := mul_lt26 h2 g5
  have c1 := mul_lt26 h3 g1; have c2 := mul_lt26 h3 g2; have c3 := mul_lt26 h3 g3; have c4 := mul_lt26 h3 g4; have c5 := mul_lt26 h3 g5
  have d1 := mul_lt26 h4 g1; have d2 := mul_lt26 h4 g2; have d3 := mul_lt26 h4 g3; have d4 := mul_lt26 h4 g4; have d5 := mul_lt26 h4 g5
  have e1 := mul_lt26 h5 g1; have e2 := mul_lt26 h5 g2; have e3 := mul_lt26 h5 g3; have e4 := mul_lt26 h5 g4; have e5 := mul_lt26 h5 g5
  unfold mul5 Num5.bd
  dsimp only
  clear h1 h2 h3 h4 h5 g1 g2 g3 g4 g5
  refine ⟨?_, ?_, ?_, ?_, ?_⟩ <;> omega
theorem mul_val5 (n a b c d e : Nat) : n * val5 a b c d e = n * a + 67108864 * (n * b) + 4503599627370496 * (n * c) + 302231454903657293676544 * (n * d) + 20282409603651670423947251286016 * (n * e) := by
  unfold val5
  rw [Nat.mul_add, Nat.mul_add, Nat.mul_add, Nat.mul_add, Nat.mul_left_comm n 67108864, Nat.mul_left_comm n 4503599627370496, Nat.mul_left_comm n 302231454903657293676544, Nat.mul_left_comm n 20282409603651670423947251286016]
theorem val5_mul (Y a b c d e : Nat) : val5 a b c d e * Y = a * Y + 67108864 * (b * Y) + 4503599627370496 * (c * Y) + 302231454903657293676544 * (d * Y) + 20282409603651670423947251286016 * (e * Y) := by
  unfold val5
  rw [Nat.add_mul, Nat.add_mul, Nat.add_mul, Nat.add_mul, Nat.mul_assoc, Nat.mul_assoc, Nat.mul_assoc, Nat.mul_assoc]
theorem mul5_val (x y : Num5) : (mul5 x y).val % prm = x.val * y.val % prm := by
  obtain ⟨a, b, c, d, e⟩ := x
  obtain ⟨p, q, r, s, t⟩ := y
  have h0 : (Num5.mk a b c d e).val * (Num5.mk p q r s t).val = val5 a b c d e * val5 p q r s t := rfl
  rw [h0, val5_mul, mul_val5 a, mul_val5 b, mul_val5 c, mul_val5 d, mul_val5 e]
  have h1 : ∀ K, (mul5 ⟨a, b, c, d, e⟩ ⟨p, q, r, s, t⟩).val % prm = ((mul5 ⟨a, b, c, d, e⟩ ⟨p, q, r, s, t⟩).val + prm * K) % prm := fun K => by rw [Nat.add_mul_mod_self_left]
  rw [h1 ((b * t + c * s + d * r + e * q) + 67108864 * (c * t + d * s + e * r) + 4503599627370496 * (d * t + e * s) + 302231454903657293676544 * (e * t))]
  congr 1
  unfold mul5 Num5.val val5 prm
  dsimp only
  generalize a * p = x1; generalize a * q = x2; generalize a * r = x3; generalize a * s = x4; generalize a * t = x5
  generalize b * p = y1; generalize b * q = y2; generalize b * r = y3; generalize b * s = y4; generalize b * t = y5
  generalize c * p = z1; generalize c * q = z2; generalize c * r = z3; generalize c * s = z4; generalize c * t = z5
  generalize d * p = u1; generalize d * q = u2; generalize d * r = u3; generalize d * s = u4; generalize d * t = u5
  generalize e * p = v1; generalize e * q = v2; generalize e * r = v3; generalize e * s = v4; generalize e * t = v5
  omega
end Go.Proofs.YtfjaincogbdeiaaGreatDoor

namespace Go.Proofs.YtfjaincogbdeiaaGreatDoor
open Go.RowKit

/-- What one byte more makes of a part. -/
def byteAdd (k b j : Nat) : Nat := if j = 8 * k / 26 then b * 2 ^ (8 * k % 26) % 67108864 else if j = 8 * k / 26 + 1 then b * 2 ^ (8 * k % 26) / 67108864 else 0
theorem part_byte (v b k j : Nat) (hk : k < 17) (hj : j < 5) (hv : v < 2 ^ (8 * k)) (hb : b < 256) : part j (v + b * 2 ^ (8 * k)) = part j v + byteAdd k b j := by
  have hk' : k = 0 ∨ k = 1 ∨ k = 2 ∨ k = 3 ∨ k = 4 ∨ k = 5 ∨ k = 6 ∨ k = 7 ∨ k = 8 ∨ k = 9 ∨ k = 10 ∨ k = 11 ∨ k = 12 ∨ k = 13 ∨ k = 14 ∨ k = 15 ∨ k = 16 := by omega
  have hj' : j = 0 ∨ j = 1 ∨ j = 2 ∨ j = 3 ∨ j = 4 := by omega
  unfold part byteAdd
  rcases hk' with rfl | rfl | rfl | rfl | rfl | rfl | rfl | rfl | rfl | rfl | rfl | rfl | rfl | rfl | rfl | rfl | rfl <;>
    rcases hj' with rfl | rfl | rfl | rfl | rfl <;> simp at hv ⊢ <;> omega
theorem part_low (v k : Nat) (hk : k < 17) (hv : v < 2 ^ (8 * k)) : part (8 * k / 26) v < 2 ^ (8 * k % 26) ∧ part (8 * k / 26 + 1) v = 0 := by
  have hk' : k = 0 ∨ k = 1 ∨ k = 2 ∨ k = 3 ∨ k = 4 ∨ k = 5 ∨ k = 6 ∨ k = 7 ∨ k = 8 ∨ k = 9 ∨ k = 10 ∨ k = 11 ∨ k = 12 ∨ k = 13 ∨ k = 14 ∨ k = 15 ∨ k = 16 := by omega
  unfold part
  rcases hk' with rfl | rfl | rfl | rfl | rfl | rfl | rfl | rfl | rfl | rfl | rfl | rfl | rfl | rfl | rfl | rfl | rfl <;> simp at hv ⊢ <;> omega
theorem wide_mod (b sh : Nat) (hs : sh < 26) : b * 2 ^ sh % 67108864 = b % 2 ^ (26 - sh) * 2 ^ sh := by
  have e : (67108864 : Nat) = 2 ^ (26 - sh) * 2 ^ sh := by rw [← Nat.pow_add, show 26 - sh + sh = 26 by omega]
  rw [e, Nat.mul_mod_mul_right]
theorem byte_last (v b k : Nat) (hk : k < 17) (hv : v + b * 2 ^ (8 * k) < 1361129467683753853853498429727072845824) (hb : b < 256) (ho : b * 2 ^ (8 * k % 26) / 67108864 ≠ 0) : 8 * k / 26 + 1 < 5 := by
  have hk' : k = 0 ∨ k = 1 ∨ k = 2 ∨ k = 3 ∨ k = 4 ∨ k = 5 ∨ k = 6 ∨ k = 7 ∨ k = 8 ∨ k = 9 ∨ k = 10 ∨ k = 11 ∨ k = 12 ∨ k = 13 ∨ k = 14 ∨ k = 15 ∨ k = 16 := by omega
  rcases hk' with rfl | rfl | rfl | rfl | rfl | rfl | rfl | rfl | rfl | rfl | rfl | rfl | rfl | rfl | rfl | rfl | rfl <;> simp at hv ho ⊢ <;> omega
theorem partsL_byte (v b k : Nat) (hk : k < 17) (hv : v < 2 ^ (8 * k)) (hb : b < 256) :
    partsL (v + b * 2 ^ (8 * k)) = ((partsL v).set (8 * k / 26) (((part (8 * k / 26) v + b * 2 ^ (8 * k % 26) % 67108864 : Nat)) : Int)).set (8 * k / 26 + 1) ((b * 2 ^ (8 * k % 26) / 67108864 : Nat) : Int) := by
  have h := fun j hj => part_byte v b k j hk hj hv hb
  have hl := (part_low v k hk hv).2
  have h0 := h 0 (by decide); have h1 := h 1 (by decide); have h2 := h 2 (by decide); have h3 := h 3 (by decide); have h4 := h 4 (by decide)
  have hp : 8 * k / 26 = 0 ∨ 8 * k / 26 = 1 ∨ 8 * k / 26 = 2 ∨ 8 * k / 26 = 3 ∨ 8 * k / 26 = 4 := by omega
  unfold partsL
  rw [h0, h1, h2, h3, h4]
  unfold byteAdd
  rcases hp with e | e | e | e | e <;> rw [e] at hl ⊢ <;> simp [hl]
theorem partsL_byte0 (v b k : Nat) (hk : k < 17) (hv : v < 2 ^ (8 * k)) (hb : b < 256) (ho : b * 2 ^ (8 * k % 26) / 67108864 = 0) :
    partsL (v + b * 2 ^ (8 * k)) = (partsL v).set (8 * k / 26) (((part (8 * k / 26) v + b * 2 ^ (8 * k % 26) % 67108864 : Nat)) : Int) := by
  have h := fun j hj => part_byte v b k j hk hj hv hb
  have h0 := h 0 (by decide); have h1 := h 1 (by decide); have h2 := h 2 (by decide); have h3 := h 3 (by decide); have h4 := h 4 (by decide)
  have hp : 8 * k / 26 = 0 ∨ 8 * k / 26 = 1 ∨ 8 * k / 26 = 2 ∨ 8 * k / 26 = 3 ∨ 8 * k / 26 = 4 := by omega
  unfold partsL
  rw [h0, h1, h2, h3, h4]
  unfold byteAdd
  rcases hp with e | e | e | e | e <;> rw [e] <;> simp [ho]
/-- A byte out of two parts. -/
theorem byte_of_parts (v i : Nat) (hi : i < 17) (hv : v < 1361129467683753853853498429727072845824) :
    (if 8 * i / 26 + 1 < 5 then part (8 * i / 26) v / 2 ^ (8 * i % 26) + part (8 * i / 26 + 1) v * 2 ^ (26 - 8 * i % 26) else part (8 * i / 26) v / 2 ^ (8 * i % 26)) % 256 = dig 8 i v := by
  have hk' : i = 0 ∨ i = 1 ∨ i = 2 ∨ i = 3 ∨ i = 4 ∨ i = 5 ∨ i = 6 ∨ i = 7 ∨ i = 8 ∨ i = 9 ∨ i = 10 ∨ i = 11 ∨ i = 12 ∨ i = 13 ∨ i = 14 ∨ i = 15 ∨ i = 16 := by omega
  unfold part dig
  rcases hk' with rfl | rfl | rfl | rfl | rfl | rfl | rfl | rfl | rfl | rfl | rfl | rfl | rfl | rfl | rfl | rfl | rfl <;> simp <;> omega
theorem part_shift_lt (v j sh : Nat) (hs : sh < 26) : part j v / 2 ^ sh < 2 ^ (26 - sh) := by
  have h := part_lt j v
  rw [Nat.div_lt_iff_lt_mul (Nat.pow_pos (by decide)), ← Nat.pow_add, show 26 - sh + sh = 26 by omega]
  exact h
end Go.Proofs.YtfjaincogbdeiaaGreatDoor

namespace Go.Proofs.YtfjaincogbdeiaaGreatDoor
open Go.RowKit

/-- Bytes as numbers, and back. -/
def intsOf (l : List UInt8) : List Int := l.map fun c => (c.toNat : Int)
def bytesOf (zs : List Int) : List UInt8 := zs.map fun z => UInt8.ofNat z.toNat
theorem bytesOf_intsOf (l : List UInt8) : bytesOf (intsOf l) = l := by
  unfold bytesOf intsOf; rw [List.map_map]
  conv => rhs; rw [← List.map_id l]
  apply List.map_congr_left
  intro c _
  simp
def ByteZ (zs : List Int) : Prop := ∀ k, 0 ≤ zs.getD k 0 ∧ zs.getD k 0 < 256
theorem byteZ_intsOf (l : List UInt8) : ByteZ (intsOf l) := by
  intro k
  unfold intsOf
  rw [List.getD_eq_getElem?_getD, List.getElem?_map]
  cases h : l[k]? with
  | none => exact ⟨by simp, by simp⟩
  | some c => have := c.toNat_lt; simp; omega
theorem byteZ_set {zs : List Int} (h : ByteZ zs) (i : Nat) (x : Int) (h0 : 0 ≤ x) (h1 : x < 256) : ByteZ (zs.set i x) := by
  intro k
  have hk := h k
  rw [List.getD_eq_getElem?_getD, List.getElem?_set]
  rw [List.getD_eq_getElem?_getD] at hk
  split
  · split
    · exact ⟨h0, h1⟩
    · exact ⟨by simp, by simp⟩
  · exact hk
theorem intsOf_bytesOf {zs : List Int} (h : ByteZ zs) : intsOf (bytesOf zs) = zs := by
  apply List.ext_getElem
  · simp [intsOf, bytesOf]
  · intro k h1 h2
    have hk := h k
    rw [List.getD_eq_getElem?_getD, List.getElem?_eq_getElem h2] at hk
    simp only [Option.getD_some] at hk
    simp only [intsOf, bytesOf, List.getElem_map]
    rw [ofNat_toNat8 _ (by omega)]; omega

/-- The first half of a key, step by step without some of its bits. -/
def cl1 (zs : List Int) : Nat → List Int
  | 0 => zs
  | k + 1 => (cl1 zs k).set (4 * k + 3) ((cl1 zs k).getD (4 * k + 3) 0 % 16)
def cl2 (zs : List Int) : Nat → List Int
  | 0 => zs
  | k + 1 => (cl2 zs k).set (4 * k + 4) ((cl2 zs k).getD (4 * k + 4) 0 / 4 * 4)
def clZ (zs : List Int) : List Int := cl2 (cl1 zs 4) 3
theorem cl1_len (zs : List Int) : ∀ k, (cl1 zs k).length = zs.length
  | 0 => rfl
  | k + 1 => by rw [cl1, List.length_set, cl1_len zs k]
theorem cl2_len (zs : List Int) : ∀ k, (cl2 zs k).length = zs.length
  | 0 => rfl
  | k + 1 => by rw [cl2, List.length_set, cl2_len zs k]
theorem cl1_byte {zs : List Int} (h : ByteZ zs) : ∀ k, ByteZ (cl1 zs k)
  | 0 => h
  | k + 1 => by
    have := cl1_byte h k (4 * k + 3)
    exact byteZ_set (cl1_byte h k) _ _ (by omega) (by omega)
theorem cl2_byte {zs : List Int} (h : ByteZ zs) : ∀ k, ByteZ (cl2 zs k)
  | 0 => h
  | k + 1 => by
    have := cl2_byte h k (4 * k + 4)
    exact byteZ_set (cl2_byte h k) _ _ (by omega) (by omega)
theorem clZ_byte {zs : List Int} (h : ByteZ zs) : ByteZ (clZ zs) := cl2_byte (cl1_byte h 4) 3
theorem clZ_len (zs : List Int) : (clZ zs).length = zs.length := by unfold clZ; rw [cl2_len, cl1_len]
theorem and15' (x : Int) (h0 : 0 ≤ x) (h1 : x < 256) : bits .and .u8 x 15 = x % 16 := by
  rw [u8_and _ _ h0 (by omega) (by omega) (by omega)]
  have : x.toNat &&& (15 : Int).toNat = x.toNat % 2 ^ 4 := by
    rw [show (15 : Int).toNat = 2 ^ 4 - 1 from rfl, Nat.and_two_pow_sub_one_eq_mod]
  rw [this]; omega
theorem nat252 : ∀ x : Fin 256, x.val &&& 252 = x.val / 4 * 4 := by decide +kernel
theorem and252 (x : Int) (h0 : 0 ≤ x) (h1 : x < 256) : bits .and .u8 x 252 = x / 4 * 4 := by
  rw [u8_and _ _ h0 (by omega) (by omega) (by omega)]
  have := nat252 ⟨x.toNat, by omega⟩
  simp only at this
  rw [show (252 : Int).toNat = 252 from rfl, this]; omega

/-- The factor of a tag. -/
def facN (key : ByteArray) : Nat := leNat (bytesOf (clZ (intsOf (key.data.toList.take 16))))
theorem facN_lt (key : ByteArray) : facN key < 1361129467683753853853498429727072845824 := by
  unfold facN
  have := leNat_lt (bytesOf (clZ (intsOf (key.data.toList.take 16))))
  have hl : (bytesOf (clZ (intsOf (key.data.toList.take 16)))).length ≤ 16 := by
    unfold bytesOf; rw [List.length_map, clZ_len]; unfold intsOf; rw [List.length_map, List.length_take]; omega
  have h2 : 256 ^ (bytesOf (clZ (intsOf (key.data.toList.take 16)))).length ≤ 256 ^ 16 := Nat.pow_le_pow_right (by decide) hl
  have h3 : (256 : Nat) ^ 16 < 1361129467683753853853498429727072845824 := by decide
  omega
/-- The number of a block: its bytes, with a byte 1 behind. -/
def blkN (t : ByteArray) (k : Nat) : Nat := leNat ((t.data.toList.drop (16 * k)).take 16 ++ [1])
theorem blkN_lt (t : ByteArray) (k : Nat) : blkN t k < 1361129467683753853853498429727072845824 := by
  unfold blkN
  rw [leNat_append]
  have h1 := leNat_lt ((t.data.toList.drop (16 * k)).take 16)
  have hl : ((t.data.toList.drop (16 * k)).take 16).length ≤ 16 := by rw [List.length_take]; omega
  have h2 : 256 ^ ((t.data.toList.drop (16 * k)).take 16).length ≤ 256 ^ 16 := Nat.pow_le_pow_right (by decide) hl
  have h3 : 2 * (256 : Nat) ^ 16 < 1361129467683753853853498429727072845824 := by decide
  have h4 : leNat [1] = 1 := by decide
  rw [h4, Nat.mul_one]
  omega
/-- What so many blocks make. -/
def accN (r : Nat) (t : ByteArray) : Nat → Nat
  | 0 => 0
  | k + 1 => (accN r t k + blkN t k) % prm * r % prm
theorem accN_lt (r : Nat) (t : ByteArray) : ∀ k, accN r t k < prm
  | 0 => prm_pos
  | _ + 1 => Nat.mod_lt _ prm_pos
def nBlk (t : ByteArray) : Nat := (t.size + 15) / 16
/-- Two texts of as many bytes, added; what passes the last byte is lost. -/
def sumR (n : Nat) (a b : List UInt8) : List UInt8 := leBy n (leNat a + leNat b)
/-- TagOf, as the document says it. -/
def tagR (key t : ByteArray) : ByteArray := if key.size = 32 ∧ t.size ≤ 8000 then ⟨(sumR 16 ((leBy 17 (accN (facN key) t (nBlk t))).take 16) (key.data.toList.drop 16)).toArray⟩ else ⟨#[]⟩

/-- Sums of bytes: what goes over, and the byte that stays. -/
def ovN (a b : List UInt8) (k : Nat) : Nat := (leNat (a.take k) + leNat (b.take k)) / 256 ^ k
theorem leNat_take_step (a : List UInt8) (k : Nat) (h : k < a.length) : leNat (a.take (k + 1)) = leNat (a.take k) + 256 ^ k * a[k].toNat := by
  rw [List.take_succ_eq_append_getElem h, leNat_append]
  have hl : (a.take k).length = k := by simp; omega
  rw [hl]; simp [leNat]
theorem ov_step (a b : List UInt8) (k : Nat) (ha : k < a.length) (hb : k < b.length) : ovN a b (k + 1) = (ovN a b k + (a[k].toNat + b[k].toNat)) / 256 ∧
    leBy (k + 1) (leNat (a.take (k + 1)) + leNat (b.take (k + 1))) = leBy k (leNat (a.take k) + leNat (b.take k)) ++ [UInt8.ofNat ((ovN a b k + (a[k].toNat + b[k].toNat)) % 256)] ∧ ovN a b k ≤ 1 := by
  have hp : 0 < 256 ^ k := Nat.pow_pos (by decide)
  have e : leNat (a.take (k + 1)) + leNat (b.take (k + 1)) = (leNat (a.take k) + leNat (b.take k)) + 256 ^ k * (a[k].toNat + b[k].toNat) := by
    rw [leNat_take_step a k ha, leNat_take_step b k hb, Nat.mul_add]; omega
  have ed : (leNat (a.take (k + 1)) + leNat (b.take (k + 1))) / 256 ^ k = ovN a b k + (a[k].toNat + b[k].toNat) := by
    rw [e, Nat.add_mul_div_left _ _ hp]; rfl
  refine ⟨?_, ?_, ?_⟩
  · unfold ovN
    rw [Nat.pow_succ, ← Nat.div_div_eq_div_mul, ed]; rfl
  · rw [leBy_snoc, ed]
    congr 1
    rw [← leBy_mod k (leNat (a.take (k + 1)) + leNat (b.take (k + 1))), e, Nat.add_mul_mod_self_left, leBy_mod]
  · unfold ovN
    have h1 := leNat_lt (a.take k)
    have h2 := leNat_lt (b.take k)
    have hl : (a.take k).length = k := by simp; omega
    have hl2 : (b.take k).length = k := by simp; omega
    rw [hl] at h1
    rw [hl2] at h2
    have : (leNat (a.take k) + leNat (b.take k)) / 256 ^ k < 2 := by rw [Nat.div_lt_iff_lt_mul hp]; omega
    omega
end Go.Proofs.YtfjaincogbdeiaaGreatDoor
