/- Plain facts on numbers below 2 to the 130th: their bytes, their five parts, what is left by the prime. No program is named here. -/
import Derived.Test.YtijoancnlpkcoabPlain
namespace Go.Proofs.Ytijoancnlpkcoab
open Go.RowKit

/-- The number of bytes, the lowest first. -/
def leNat : List UInt8 → Nat
  | [] => 0
  | c :: l => c.toNat + 256 * leNat l
/-- So many bytes of a number, the lowest first. -/
def leBy : Nat → Nat → List UInt8
  | 0, _ => []
  | n + 1, v => UInt8.ofNat (v % 256) :: leBy n (v / 256)
theorem leBy_len : ∀ (n v : Nat), (leBy n v).length = n
  | 0, _ => rfl
  | n + 1, v => by simp [leBy, leBy_len n]
theorem leNat_lt : ∀ (l : List UInt8), leNat l < 256 ^ l.length
  | [] => by simp [leNat]
  | c :: l => by
    have := leNat_lt l
    have := c.toNat_lt
    simp only [leNat, List.length_cons, Nat.pow_succ]
    omega
theorem ofNat_toNat8 (x : Nat) (h : x < 256) : (UInt8.ofNat x).toNat = x := by
  rw [UInt8.toNat_ofNat', Nat.mod_eq_of_lt (by simpa using h)]
theorem leNat_leBy : ∀ (n v : Nat), leNat (leBy n v) = v % 256 ^ n
  | 0, v => by simp [leNat, leBy, Nat.mod_one]
  | n + 1, v => by
    have ih := leNat_leBy n (v / 256)
    simp only [leBy, leNat, ih]
    rw [ofNat_toNat8 _ (by omega), Nat.pow_succ, Nat.mul_comm (256 ^ n) 256, Nat.mod_mul]
theorem leBy_leNat : ∀ (l : List UInt8), leBy l.length (leNat l) = l
  | [] => rfl
  | c :: l => by
    have h := c.toNat_lt
    simp only [List.length_cons, leBy, leNat]
    rw [show (c.toNat + 256 * leNat l) % 256 = c.toNat by omega, show (c.toNat + 256 * leNat l) / 256 = leNat l by omega, leBy_leNat l]
    simp
theorem leNat_append : ∀ (a b : List UInt8), leNat (a ++ b) = leNat a + 256 ^ a.length * leNat b
  | [], b => by simp [leNat]
  | c :: a, b => by
    have ih := leNat_append a b
    simp only [List.cons_append, leNat, ih, List.length_cons, Nat.pow_succ]
    rw [Nat.mul_comm (256 ^ a.length) 256, Nat.mul_add, Nat.mul_assoc]; omega
theorem leBy_snoc : ∀ (n v : Nat), leBy (n + 1) v = leBy n v ++ [UInt8.ofNat (v / 256 ^ n % 256)]
  | 0, v => by simp [leBy]
  | n + 1, v => by
    have ih := leBy_snoc n (v / 256)
    rw [leBy, ih]
    simp only [leBy, List.cons_append]
    rw [Nat.div_div_eq_div_mul, Nat.pow_succ, Nat.mul_comm 256 (256 ^ n)]
theorem leBy_mod (n v : Nat) : leBy n (v % 256 ^ n) = leBy n v := by
  have h := leBy_leNat (leBy n v)
  rw [leBy_len, leNat_leBy] at h
  exact h
theorem leNat_inj {a b : List UInt8} (hl : a.length = b.length) (h : leNat a = leNat b) : a = b := by
  rw [← leBy_leNat a, ← leBy_leNat b, hl, h]

/-- The prime. -/
def prm : Nat := 1361129467683753853853498429727072845819
theorem prm_pos : 0 < prm := by unfold prm; omega
/-- One of the five parts of a number. -/
def part (j v : Nat) : Nat := v / 2 ^ (26 * j) % 67108864
def val5 (a b c d e : Nat) : Nat := a + 67108864 * b + 4503599627370496 * c + 302231454903657293676544 * d + 20282409603651670423947251286016 * e
def partsL (v : Nat) : List Int := [(part 0 v : Int), (part 1 v : Int), (part 2 v : Int), (part 3 v : Int), (part 4 v : Int)]
theorem part_lt (j v : Nat) : part j v < 67108864 := Nat.mod_lt _ (by decide)
theorem val_parts (v : Nat) (h : v < 1361129467683753853853498429727072845824) : val5 (part 0 v) (part 1 v) (part 2 v) (part 3 v) (part 4 v) = v := by
  unfold val5 part
  simp only [Nat.reduceMul, Nat.reducePow]
  omega
theorem parts_val (a b c d e : Nat) (ha : a < 67108864) (hb : b < 67108864) (hc : c < 67108864) (hd : d < 67108864) (he : e < 67108864) :
    part 0 (val5 a b c d e) = a ∧ part 1 (val5 a b c d e) = b ∧ part 2 (val5 a b c d e) = c ∧ part 3 (val5 a b c d e) = d ∧ part 4 (val5 a b c d e) = e := by
  unfold val5 part
  simp only [Nat.reduceMul, Nat.reducePow]
  refine ⟨?_, ?_, ?_, ?_, ?_⟩ <;> omega
theorem val_lt (a b c d e : Nat) (ha : a < 67108864) (hb : b < 67108864) (hc : c < 67108864) (hd : d < 67108864) (he : e < 67108864) : val5 a b c d e < 1361129467683753853853498429727072845824 := by
  unfold val5; omega

/-- What goes beyond 26 bits of each part, added to the next one; of the last one five times to the first. -/
structure Num5 where
  a : Nat
  b : Nat
  c : Nat
  d : Nat
  e : Nat
def Num5.val (x : Num5) : Nat := val5 x.a x.b x.c x.d x.e
def cb (x : Num5) : Nat := x.b + x.a / 67108864
def cc (x : Num5) : Nat := x.c + cb x / 67108864
def cd (x : Num5) : Nat := x.d + cc x / 67108864
def ce (x : Num5) : Nat := x.e + cd x / 67108864
def carry (x : Num5) : Num5 := ⟨x.a % 67108864 + 5 * (ce x / 67108864), cb x % 67108864, cc x % 67108864, cd x % 67108864, ce x % 67108864⟩
theorem carry_val (x : Num5) : (carry x).val + prm * (ce x / 67108864) = x.val := by
  unfold Num5.val val5 carry prm ce cd cc cb
  dsimp only
  omega
theorem carry_mod (x : Num5) : (carry x).val % prm = x.val % prm := by
  rw [← carry_val x, Nat.add_mul_mod_self_left]
/-- Each part below a bound. -/
def Num5.bd (x : Num5) (A B : Nat) : Prop := x.a < A ∧ x.b < B ∧ x.c < B ∧ x.d < B ∧ x.e < B
theorem carry_bd1 {x : Num5} (h : x.bd 576460752303423488 576460752303423488) : (carry x).bd 85966454784 67108864 := by
  obtain ⟨h1, h2, h3, h4, h5⟩ := h
  unfold Num5.bd carry
  dsimp only
  have e1 : cb x < 576460760893358080 := by unfold cb; omega
  have e2 : cc x < 576460760893358209 := by unfold cc; omega
  have e3 : cd x < 576460760893358209 := by unfold cd; omega
  have e4 : ce x < 576460760893358209 := by unfold ce; omega
  omega
theorem carry_bd2 {x : Num5} (h : x.bd 85966454784 67108864) : (carry x).bd 67108869 67108864 := by
  obtain ⟨h1, h2, h3, h4, h5⟩ := h
  unfold Num5.bd carry
  dsimp only
  have e1 : cb x < 67110145 := by unfold cb; omega
  have e2 : cc x < 67108865 := by unfold cc; omega
  have e3 : cd x < 67108865 := by unfold cd; omega
  have e4 : ce x < 67108865 := by unfold ce; omega
  omega
theorem carry_bd3 {x : Num5} (h : x.bd 67108869 67108864) : (carry x).bd 67108864 67108864 := by
  obtain ⟨h1, h2, h3, h4, h5⟩ := h
  unfold Num5.bd carry
  dsimp only
  have e1 : cb x < 67108865 := by unfold cb; omega
  have e2 : cc x < 67108865 := by unfold cc; omega
  have e3 : cd x < 67108865 := by unfold cd; omega
  have e4 : ce x < 67108865 := by unfold ce; omega
  by_cases h6 : x.a < 67108864
  · have : x.a / 67108864 = 0 := by omega
    have g1 : cb x < 67108864 := by unfold cb; omega
    have g2 : cc x < 67108864 := by unfold cc; omega
    have g3 : cd x < 67108864 := by unfold cd; omega
    have g4 : ce x < 67108864 := by unfold ce; omega
    omega
  · omega
def carry3 (x : Num5) : Num5 := carry (carry (carry x))
theorem carry3_bd {x : Num5} (h : x.bd 576460752303423488 576460752303423488) : (carry3 x).bd 67108864 67108864 := carry_bd3 (carry_bd2 (carry_bd1 h))
theorem carry3_mod (x : Num5) : (carry3 x).val % prm = x.val % prm := by unfold carry3; rw [carry_mod, carry_mod, carry_mod]
theorem bd_val {x : Num5} (h : x.bd 67108864 67108864) : x.val < 1361129467683753853853498429727072845824 := val_lt _ _ _ _ _ h.1 h.2.1 h.2.2.1 h.2.2.2.1 h.2.2.2.2
def Num5.list (x : Num5) : List Int := [(x.a : Int), (x.b : Int), (x.c : Int), (x.d : Int), (x.e : Int)]
theorem partsL_val {x : Num5} (h : x.bd 67108864 67108864) : partsL x.val = x.list := by
  obtain ⟨h1, h2, h3, h4, h5⟩ := h
  obtain ⟨g1, g2, g3, g4, g5⟩ := parts_val x.a x.b x.c x.d x.e h1 h2 h3 h4 h5
  unfold partsL Num5.list Num5.val
  rw [g1, g2, g3, g4, g5]
/-- A number and its parts. -/
def num5 (v : Nat) : Num5 := ⟨part 0 v, part 1 v, part 2 v, part 3 v, part 4 v⟩
theorem num5_val (v : Nat) (h : v < 1361129467683753853853498429727072845824) : (num5 v).val = v := val_parts v h
theorem num5_bd (v : Nat) : (num5 v).bd 67108864 67108864 := ⟨part_lt _ _, part_lt _ _, part_lt _ _, part_lt _ _, part_lt _ _⟩
theorem num5_list (v : Nat) : (num5 v).list = partsL v := rfl
/-- What is left by the prime. -/
theorem small_mod {x : Num5} (h : x.bd 67108864 67108864) (h1 : ¬ (67108859 ≤ x.a ∧ x.b = 67108863 ∧ x.c = 67108863 ∧ x.d = 67108863 ∧ x.e = 67108863)) : x.val < prm := by
  obtain ⟨g1, g2, g3, g4, g5⟩ := h
  unfold Num5.val val5 prm
  omega
theorem great_mod {x : Num5} (h : x.bd 67108864 67108864) (ha : 67108859 ≤ x.a) (hb : x.b = 67108863) (hc : x.c = 67108863) (hd : x.d = 67108863) (he : x.e = 67108863) : x.val % prm = x.a - 67108859 := by
  obtain ⟨g1, g2, g3, g4, g5⟩ := h
  unfold Num5.val val5 prm
  omega
end Go.Proofs.Ytijoancnlpkcoab
