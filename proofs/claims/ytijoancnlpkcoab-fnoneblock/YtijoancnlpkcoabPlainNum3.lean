/- Plain facts on sums and products of numbers, part by part: no program is named here. -/
import Derived.Test.YtijoancnlpkcoabPlainNum2
namespace Go.Proofs.Ytijoancnlpkcoab
open Go.RowKit

def addN (x y : Num5) : Num5 := ⟨x.a + y.a, x.b + y.b, x.c + y.c, x.d + y.d, x.e + y.e⟩
theorem addN_val (x y : Num5) : (addN x y).val = x.val + y.val := by unfold addN Num5.val val5; dsimp only; omega
theorem addN_bd {x y : Num5} (hx : x.bd 67108864 67108864) (hy : y.bd 67108864 67108864) : (addN x y).bd 576460752303423488 576460752303423488 := by
  obtain ⟨h1, h2, h3, h4, h5⟩ := hx
  obtain ⟨g1, g2, g3, g4, g5⟩ := hy
  unfold addN Num5.bd
  dsimp only
  omega
/-- The first parts summed. -/
def addL (xs ys : List Int) (k : Nat) : List Int := (List.zipWith (fun x y => x + y) xs ys).take k ++ xs.drop k
theorem addL_len {xs ys : List Int} (hx : xs.length = 5) (hy : ys.length = 5) (k : Nat) (hk : k ≤ 5) : (addL xs ys k).length = 5 := by
  unfold addL; simp [hx, hy]; omega
theorem addL_get {xs ys : List Int} (hx : xs.length = 5) (hy : ys.length = 5) (k : Nat) (hk : k < 5) (h : k < (addL xs ys k).length) : (addL xs ys k)[k] = xs[k] := by
  unfold addL at h ⊢
  rw [List.getElem_append_right (by simp; omega)]
  simp [hx, hy]
  congr 1
  omega
theorem addL_step {xs ys : List Int} (hx : xs.length = 5) (hy : ys.length = 5) (k : Nat) (hk : k < 5) : (addL xs ys k).set k (xs[k] + ys[k]) = addL xs ys (k + 1) := by
  unfold addL
  have hl : ((List.zipWith (fun x y => x + y) xs ys).take k).length = k := by simp [hx, hy]; omega
  have hz : k < (List.zipWith (fun x y => x + y) xs ys).length := by simp [hx, hy]; omega
  rw [List.set_append_right _ _ (by omega), hl, Nat.sub_self, List.drop_eq_getElem_cons (by omega : k < xs.length), List.set_cons_zero, List.take_succ_eq_append_getElem hz, List.append_assoc]
  simp
theorem addL_end (x y : Num5) : addL x.list y.list 5 = (addN x y).list := by
  simp [addL, Num5.list, addN]
theorem list_get_bd {x : Num5} (hx : x.bd 67108864 67108864) (k : Nat) (h : k < x.list.length) : 0 ≤ x.list[k] ∧ x.list[k] < 67108864 := by
  obtain ⟨h1, h2, h3, h4, h5⟩ := hx
  have h' : k < 5 := h
  match k, h' with
  | 0, _ => exact ⟨by simp [Num5.list], by simp [Num5.list]; omega⟩
  | 1, _ => exact ⟨by simp [Num5.list], by simp [Num5.list]; omega⟩
  | 2, _ => exact ⟨by simp [Num5.list], by simp [Num5.list]; omega⟩
  | 3, _ => exact ⟨by simp [Num5.list], by simp [Num5.list]; omega⟩
  | 4, _ => exact ⟨by simp [Num5.list], by simp [Num5.list]; omega⟩

/-- A product of two parts, as it counts. -/
def mulAt (xs ys : List Int) (i j : Nat) : Int := if 5 ≤ i + j then xs.getD i 0 * ys.getD j 0 * 5 else xs.getD i 0 * ys.getD j 0
def mulRow (xs ys : List Int) (i : Nat) : Nat → List Int → List Int
  | 0, o => o
  | j + 1, o => (mulRow xs ys i j o).set ((i + j) % 5) ((mulRow xs ys i j o).getD ((i + j) % 5) 0 + mulAt xs ys i j)
def mulN (xs ys : List Int) : Nat → List Int
  | 0 => List.replicate 5 0
  | i + 1 => mulRow xs ys i 5 (mulN xs ys i)
theorem mulRow_len (xs ys : List Int) (i : Nat) (o : List Int) : ∀ j, (mulRow xs ys i j o).length = o.length
  | 0 => rfl
  | j + 1 => by rw [mulRow, List.length_set, mulRow_len xs ys i o j]
theorem mulN_len (xs ys : List Int) : ∀ i, (mulN xs ys i).length = 5
  | 0 => rfl
  | i + 1 => by rw [mulN, mulRow_len, mulN_len xs ys i]
/-- All of them from 0 up to a bound. -/
def Upto (o : List Int) (n : Nat) : Prop := ∀ k, 0 ≤ o.getD k 0 ∧ o.getD k 0 ≤ 22517998136852480 * (n : Int)
theorem part_mul (x y : Int) (hx0 : 0 ≤ x) (hx : x < 67108864) (hy0 : 0 ≤ y) (hy : y < 67108864) : 0 ≤ x * y ∧ x * y ≤ 4503599627370496 := by
  refine ⟨Int.mul_nonneg hx0 hy0, ?_⟩
  have h1 : x * y ≤ 67108864 * y := Int.mul_le_mul_of_nonneg_right (by omega) hy0
  omega
theorem mulAt_bd {x y : Num5} (hx : x.bd 67108864 67108864) (hy : y.bd 67108864 67108864) (i j : Nat) (hi : i < 5) (hj : j < 5) : 0 ≤ mulAt x.list y.list i j ∧ mulAt x.list y.list i j ≤ 22517998136852480 := by
  have hxi := list_get_bd hx i hi
  have hyj := list_get_bd hy j hj
  have e1 : x.list.getD i 0 = x.list[i]'hi := by rw [List.getD_eq_getElem?_getD, List.getElem?_eq_getElem hi]; rfl
  have e2 : y.list.getD j 0 = y.list[j]'hj := by rw [List.getD_eq_getElem?_getD, List.getElem?_eq_getElem hj]; rfl
  have := part_mul _ _ hxi.1 hxi.2 hyj.1 hyj.2
  unfold mulAt
  rw [e1, e2]
  split <;> omega
theorem upto_set {o : List Int} {n : Nat} (h : Upto o n) (k : Nat) (z : Int) (hz0 : 0 ≤ z) (hz : z ≤ 22517998136852480) : Upto (o.set k (o.getD k 0 + z)) (n + 1) := by
  intro m
  have hk := h k
  have hm := h m
  by_cases e : k = m
  · subst e
    by_cases hl : k < o.length
    · have : (o.set k (o.getD k 0 + z)).getD k 0 = o.getD k 0 + z := by
        rw [List.getD_eq_getElem?_getD, List.getElem?_set_self hl]; rfl
      rw [this]; omega
    · rw [List.set_eq_of_length_le (by omega)]; omega
  · have : (o.set k (o.getD k 0 + z)).getD m 0 = o.getD m 0 := by
      rw [List.getD_eq_getElem?_getD, List.getElem?_set_ne e, ← List.getD_eq_getElem?_getD]
    rw [this]; omega
theorem upto_row {x y : Num5} (hx : x.bd 67108864 67108864) (hy : y.bd 67108864 67108864) (i : Nat) (hi : i < 5) (o : List Int) (n : Nat) (ho : Upto o n) : ∀ j, j ≤ 5 → Upto (mulRow x.list y.list i j o) (n + j)
  | 0, _ => ho
  | j + 1, h => by
    have hb := mulAt_bd hx hy i j hi (by omega)
    exact upto_set (upto_row hx hy i hi o n ho j (by omega)) _ _ hb.1 hb.2
theorem upto_mul {x y : Num5} (hx : x.bd 67108864 67108864) (hy : y.bd 67108864 67108864) : ∀ i, i ≤ 5 → Upto (mulN x.list y.list i) (5 * i)
  | 0, _ => fun k => by
    have : (mulN x.list y.list 0).getD k 0 = 0 := by
      simp only [mulN, List.getD_eq_getElem?_getD, List.getElem?_replicate]
      split <;> rfl
    rw [this]; omega
  | i + 1, h => upto_row hx hy i (by omega) _ _ (upto_mul hx hy i (by omega)) 5 (Nat.le_refl _)

def mul5 (x y : Num5) : Num5 :=
  ⟨x.a * y.a + 5 * (x.b * y.e) + 5 * (x.c * y.d) + 5 * (x.d * y.c) + 5 * (x.e * y.b),
   x.a * y.b + x.b * y.a + 5 * (x.c * y.e) + 5 * (x.d * y.d) + 5 * (x.e * y.c),
   x.a * y.c + x.b * y.b + x.c * y.a + 5 * (x.d * y.e) + 5 * (x.e * y.d),
   x.a * y.d + x.b * y.c + x.c * y.b + x.d * y.a + 5 * (x.e * y.e),
   x.a * y.e + x.b * y.d + x.c * y.c + x.d * y.b + x.e * y.a⟩
theorem mulN_end (x y : Num5) : mulN x.list y.list 5 = (mul5 x y).list := by
  obtain ⟨a, b, c, d, e⟩ := x
  obtain ⟨p, q, r, s, t⟩ := y
  simp only [mulN, mulRow, mulAt, Num5.list, mul5, Nat.reduceAdd, Nat.reduceMod, Nat.reduceLeDiff, if_true, if_false, List.replicate, List.set, List.getD_cons_zero, List.getD_cons_succ]
  congr 1
  · omega
  · congr 1
    · omega
    · congr 1
      · omega
      · congr 1
        · omega
        · congr 1
          omega
theorem mul_lt26 {a b : Nat} (ha : a < 67108864) (hb : b < 67108864) : a * b < 4503599627370496 := by
  have := Nat.mul_lt_mul'' ha hb
  omega
theorem mul5_bd {x y : Num5} (hx : x.bd 67108864 67108864) (hy : y.bd 67108864 67108864) : (mul5 x y).bd 576460752303423488 576460752303423488 := by
  obtain ⟨h1, h2, h3, h4, h5⟩ := hx
  obtain ⟨g1, g2, g3, g4, g5⟩ := hy
  have a1 := mul_lt26 h1 g1; have a2 := mul_lt26 h1 g2; have a3 := mul_lt26 h1 g3; have a4 := mul_lt26 h1 g4; have a5 := mul_lt26 h1 g5
  have b1 := mul_lt26 h2 g1; have b2 := mul_lt26 h2 g2; have b3 := mul_lt26 h2 g3; have b4 := mul_lt26 h2 g4; have b5 := mul_lt26 h2 g5
  have c1 := mul_lt26 h3 g1; have c2 := mul_lt26 h3 g2; have c3 := mul_lt26 h3 g3; have c4 := mul_lt26 h3 g4; have c5 := mul_lt26 h3 g5
  have d1 := mul_lt26 h4 g1; have d2 := mul_lt26 h4 g2; have d3 := mul_lt26 h4 g3; have d4 := mul_lt26 h4 g4; have d5 := mul_lt26 h4 g5
  have e1 := mul_lt26 h5 g1; have e2 := mul_lt26 h5 g2; have e3 := mul_lt26 h5 g3; have e4 := mul_lt26 h5 g4; have e5 := mul_lt26 h5 g5
  unfold mul5 Num5.bd
  dsimp only
  clear h1 h2 h3 h4 h5 g1 g2 g3 g4 g5
  refine ⟨?_, ?_, ?_, ?_, ?_⟩ <;> omega
theorem mul_val5 (n a b c d e : Nat) : n * val5 a b c d e = n * a + 67108864 * (n * b) + 4503599627370496 * (n * c) + 302231454903657293676544 * (n * d) + 20282409603651670423947251286016 * (n * e) := by
  unfold val5
  rw [Nat.mul_add, Nat.mul_add, Nat.mul_add, Nat.mul_add, Nat.mul_left_comm n 67108864, Nat.mul_left_comm n 4503599627370496, Nat.mul_left_comm n 302231454903657293676544, Nat.mul_left_comm n 20282409603651670423947251286016]
theorem val5_mul (Y a b c d e : Nat) : val5 a b c d e * Y = a * Y + 67108864 * (b * Y) + 4503599627370496 * (c * Y) + 302231454903657293676544 * (d * Y) + 20282409603651670423947251286016 * (e * Y) := by
  unfold val5
  rw [Nat.add_mul, Nat.add_mul, Nat.add_mul, Nat.add_mul, Nat.mul_assoc, Nat.mul_assoc, Nat.mul_assoc, Nat.mul_assoc]
theorem mul5_val (x y : Num5) : (mul5 x y).val % prm = x.val * y.val % prm := by
  obtain ⟨a, b, c, d, e⟩ := x
  obtain ⟨p, q, r, s, t⟩ := y
  have h0 : (Num5.mk a b c d e).val * (Num5.mk p q r s t).val = val5 a b c d e * val5 p q r s t := rfl
  rw [h0, val5_mul, mul_val5 a, mul_val5 b, mul_val5 c, mul_val5 d, mul_val5 e]
  have h1 : ∀ K, (mul5 ⟨a, b, c, d, e⟩ ⟨p, q, r, s, t⟩).val % prm = ((mul5 ⟨a, b, c, d, e⟩ ⟨p, q, r, s, t⟩).val + prm * K) % prm := fun K => by rw [Nat.add_mul_mod_self_left]
  rw [h1 ((b * t + c * s + d * r + e * q) + 67108864 * (c * t + d * s + e * r) + 4503599627370496 * (d * t + e * s) + 302231454903657293676544 * (e * t))]
  congr 1
  unfold mul5 Num5.val val5 prm
  dsimp only
  generalize a * p = x1; generalize a * q = x2; generalize a * r = x3; generalize a * s = x4; generalize a * t = x5
  generalize b * p = y1; generalize b * q = y2; generalize b * r = y3; generalize b * s = y4; generalize b * t = y5
  generalize c * p = z1; generalize c * q = z2; generalize c * r = z3; generalize c * s = z4; generalize c * t = z5
  generalize d * p = u1; generalize d * q = u2; generalize d * r = u3; generalize d * s = u4; generalize d * t = u5
  generalize e * p = v1; generalize e * q = v2; generalize e * r = v3; generalize e * s = v4; generalize e * t = v5
  omega
end Go.Proofs.Ytijoancnlpkcoab
