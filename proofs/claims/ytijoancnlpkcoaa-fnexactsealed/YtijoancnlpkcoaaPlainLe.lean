/- Plain facts on words and their bytes: no program is named here. -/
import Derived.Test.YtijoancnlpkcoaaPlain
namespace Go.Proofs.Ytijoancnlpkcoaa
open Go.RowKit

/-- The lowest eight bits. -/
def lowB (y : Int) : UInt8 := UInt8.ofNat (y % 256).toNat
theorem lowB_toNat (y : Int) : ((lowB y).toNat : Int) = y % 256 := by
  unfold lowB
  have : (y % 256).toNat < 256 := by omega
  rw [UInt8.toNat_ofNat', Nat.mod_eq_of_lt (by simpa using this)]; omega
theorem bc_lowB (y : Int) : bc (lowB y) = .int .u8 (y % 256) := by unfold bc; rw [lowB_toNat]

def isW (n : Int) : Bool := decide (0 ≤ n ∧ n ≤ 4294967295)

/-- The four bytes of a word, the lowest first. -/
def le4 (x : Int) : List UInt8 := [lowB x, lowB (x / 256), lowB (x / 65536), lowB (x / 16777216)]
theorem le4_cells (x : Int) : [Value.int .u8 (IntKind.u8.wrap x), .int .u8 (IntKind.u8.wrap (x / 256)), .int .u8 (IntKind.u8.wrap (x / 65536)), .int .u8 (IntKind.u8.wrap (x / 16777216))] = (le4 x).map bc := by
  simp only [le4, List.map_cons, List.map_nil, bc_lowB, IntKind.wrap_u8']
theorem le4_snoc (x : Int) (k : Nat) (h : k < 4) : (le4 x).take (k + 1) = (le4 x).take k ++ [lowB (x / 2 ^ (8 * k))] := by
  match k, h with
  | 0, _ => simp [le4]
  | 1, _ => rfl
  | 2, _ => rfl
  | 3, _ => rfl

def storeL (zs : List Int) : List UInt8 := zs.flatMap le4
theorem storeL_len (zs : List Int) : (storeL zs).length = 4 * zs.length := by
  induction zs with
  | nil => rfl
  | cons z zs ih => simp only [storeL, List.flatMap_cons, List.length_append] at *; rw [ih]; simp [le4]; omega
theorem storeL_append (xs ys : List Int) : storeL (xs ++ ys) = storeL xs ++ storeL ys := by simp [storeL]
theorem storeL_snoc (zs : List Int) (k : Nat) (h : k < zs.length) : storeL (zs.take (k + 1)) = storeL (zs.take k) ++ le4 zs[k] := by
  rw [List.take_succ_eq_append_getElem h, storeL_append]; simp [storeL]

/-- StoreLe, as the document says it. -/
def stR (zs : List Int) : ByteArray := if zs.length ≤ 1000 ∧ zs.all isW = true then ⟨(storeL zs).toArray⟩ else ⟨#[]⟩

/-- The word of four bytes. -/
def le1 (a b c d : UInt8) : Int := (a.toNat : Int) + 256 * (b.toNat : Int) + 65536 * (c.toNat : Int) + 16777216 * (d.toNat : Int)
theorem le1_bd (a b c d : UInt8) : 0 ≤ le1 a b c d ∧ le1 a b c d ≤ 4294967295 := by
  have := a.toNat_lt; have := b.toNat_lt; have := c.toNat_lt; have := d.toNat_lt
  unfold le1; omega
def loadL : List UInt8 → List Int
  | a :: b :: c :: d :: r => le1 a b c d :: loadL r
  | _ => []
theorem loadL_len : ∀ (l : List UInt8), (loadL l).length = l.length / 4
  | [] => rfl
  | [_] => by simp [loadL]
  | [_, _] => by simp [loadL]
  | [_, _, _] => by simp [loadL]
  | a :: b :: c :: d :: r => by
    have := loadL_len r
    simp only [loadL, List.length_cons, this]; omega
theorem loadL_words : ∀ (l : List UInt8), ∀ n ∈ loadL l, 0 ≤ n ∧ n ≤ 4294967295
  | [], n, h => by simp [loadL] at h
  | [_], n, h => by simp [loadL] at h
  | [_, _], n, h => by simp [loadL] at h
  | [_, _, _], n, h => by simp [loadL] at h
  | a :: b :: c :: d :: r, n, h => by
    simp only [loadL, List.mem_cons] at h
    rcases h with rfl | h
    · exact le1_bd a b c d
    · exact loadL_words r n h

theorem lowB_eq (y : Int) (c : UInt8) (h : y % 256 = (c.toNat : Int)) : lowB y = c := by
  unfold lowB; rw [h]; simp
theorem le4_le1 (a b c d : UInt8) : le4 (le1 a b c d) = [a, b, c, d] := by
  have h1 := a.toNat_lt; have h2 := b.toNat_lt; have h3 := c.toNat_lt; have h4 := d.toNat_lt
  unfold le4
  rw [lowB_eq (le1 a b c d) a (by unfold le1; omega), lowB_eq (le1 a b c d / 256) b (by unfold le1; omega), lowB_eq (le1 a b c d / 65536) c (by unfold le1; omega), lowB_eq (le1 a b c d / 16777216) d (by unfold le1; omega)]
theorem le1_le4 (x : Int) (h0 : 0 ≤ x) (h1 : x ≤ 4294967295) : le1 (lowB x) (lowB (x / 256)) (lowB (x / 65536)) (lowB (x / 16777216)) = x := by
  unfold le1; simp only [lowB_toNat]; omega
/-- Words come back from their bytes. -/
theorem loadL_storeL : ∀ (zs : List Int), (∀ n ∈ zs, 0 ≤ n ∧ n ≤ 4294967295) → loadL (storeL zs) = zs
  | [], _ => rfl
  | z :: zs, h => by
    have hz := h z (by simp)
    have e : storeL (z :: zs) = lowB z :: lowB (z / 256) :: lowB (z / 65536) :: lowB (z / 16777216) :: storeL zs := rfl
    rw [e]
    simp only [loadL]
    rw [le1_le4 z hz.1 hz.2, loadL_storeL zs (fun n hn => h n (by simp [hn]))]
theorem storeL_loadL : ∀ (l : List UInt8), l.length % 4 = 0 → storeL (loadL l) = l
  | [], _ => rfl
  | [_], h => by simp at h
  | [_, _], h => by simp at h
  | [_, _, _], h => by simp at h
  | a :: b :: c :: d :: r, h => by
    have ih := storeL_loadL r (by simp at h; omega)
    have e : storeL (loadL (a :: b :: c :: d :: r)) = le4 (le1 a b c d) ++ storeL (loadL r) := rfl
    rw [e, le4_le1, ih]; rfl

/-- LoadLe, as the document says it. -/
def ldR (s : ByteArray) : List Int := if s.size % 4 = 0 ∧ s.size ≤ 4000 then loadL s.data.toList else []

theorem loadL_get : ∀ (l : List UInt8) (k : Nat) (h : 4 * k + 3 < l.length), (loadL l)[k]? = some (le1 l[4 * k] l[4 * k + 1] l[4 * k + 2] l[4 * k + 3])
  | [], k, h => by simp at h
  | [_], k, h => by simp at h
  | [_, _], k, h => by simp at h; omega
  | [_, _, _], k, h => by simp at h; omega
  | a :: b :: c :: d :: r, 0, h => by simp [loadL]
  | a :: b :: c :: d :: r, k + 1, h => by
    have ih := loadL_get r k (by simp at h; omega)
    simp only [loadL, List.getElem?_cons_succ, ih]
    rfl

theorem or_shift (x y : Nat) (j : Nat) (hx : x < 2 ^ j) : x ||| (y * 2 ^ j) = x + y * 2 ^ j := by
  rw [Nat.or_comm, Nat.mul_comm, ← Nat.two_pow_add_eq_or_of_lt hx]; omega

theorem or32 (x y : Int) (X Y j : Nat) (hx : x = X) (hy : y = Y * 2 ^ j) (hX : X < 2 ^ j) (hj : X + Y * 2 ^ j < 4294967296) : bits .or .u32 x y = ((X + Y * 2 ^ j : Nat) : Int) := by
  subst hx hy
  have e : ((Y : Int) * 2 ^ j) = ((Y * 2 ^ j : Nat) : Int) := by simp
  rw [e, u32_or _ _ (by omega) (by omega) (by omega) (by omega)]
  rw [Int.toNat_natCast, Int.toNat_natCast, or_shift X Y j hX]

theorem or4 (a b c d : UInt8) : bits .or .u32 (bits .or .u32 (bits .or .u32 ((a.toNat : Int) % 4294967296) ((b.toNat : Int) % 4294967296 * 256 % 4294967296)) ((c.toNat : Int) % 4294967296 * 65536 % 4294967296)) ((d.toNat : Int) % 4294967296 * 16777216 % 4294967296) = le1 a b c d := by
  have h1 := a.toNat_lt; have h2 := b.toNat_lt; have h3 := c.toNat_lt; have h4 := d.toNat_lt
  rw [or32 ((a.toNat : Int) % 4294967296) ((b.toNat : Int) % 4294967296 * 256 % 4294967296) a.toNat b.toNat 8 (by omega) (by omega) (by omega) (by omega)]
  rw [or32 _ ((c.toNat : Int) % 4294967296 * 65536 % 4294967296) (a.toNat + b.toNat * 2 ^ 8) c.toNat 16 rfl (by omega) (by omega) (by omega)]
  rw [or32 _ _ (a.toNat + b.toNat * 2 ^ 8 + c.toNat * 2 ^ 16) d.toNat 24 rfl (by omega) (by omega) (by omega)]
  unfold le1; omega

/-- The word of the first k of four bytes. -/
def wpart (f : Nat → Nat) : Nat → Nat
  | 0 => 0
  | k + 1 => wpart f k + f k * 2 ^ (8 * k)
theorem wpart_lt (f : Nat → Nat) (hf : ∀ j, f j < 256) : ∀ k, wpart f k < 2 ^ (8 * k)
  | 0 => by simp [wpart]
  | k + 1 => by
    have ih := wpart_lt f hf k
    have h := hf k
    have e : 2 ^ (8 * (k + 1)) = 256 * 2 ^ (8 * k) := by rw [show 8 * (k + 1) = 8 + 8 * k by omega, Nat.pow_add]
    have h1 : f k * 2 ^ (8 * k) ≤ 255 * 2 ^ (8 * k) := Nat.mul_le_mul_right _ (by omega)
    simp only [wpart]; rw [e]; omega
theorem wpart_step (f : Nat → Nat) (hf : ∀ j, f j < 256) (k : Nat) (hk : k < 4) :
    bits .or .u32 (wpart f k : Int) (((f k : Nat) : Int) % 4294967296 * 2 ^ (8 * k) % 4294967296) = (wpart f (k + 1) : Int) := by
  have h := hf k
  have hw := wpart_lt f hf k
  have hw1 := wpart_lt f hf (k + 1)
  have hp : 2 ^ (8 * (k + 1)) ≤ 2 ^ 32 := Nat.pow_le_pow_right (by decide) (by omega)
  have h2 : wpart f (k + 1) < 4294967296 := Nat.lt_of_lt_of_le hw1 hp
  simp only [wpart] at h2
  have e1 : ((f k : Nat) : Int) % 4294967296 = ((f k : Nat) : Int) := by omega
  have e2 : ((f k : Nat) : Int) * 2 ^ (8 * k) = ((f k * 2 ^ (8 * k) : Nat) : Int) := by simp
  have e3 : ((f k * 2 ^ (8 * k) : Nat) : Int) % 4294967296 = ((f k * 2 ^ (8 * k) : Nat) : Int) := by omega
  rw [e1, e2, e3]
  exact or32 _ _ (wpart f k) (f k) (8 * k) rfl (by simp) hw h2
def byteAt (s : ByteArray) (n : Nat) : Nat := if h : n < s.size then s[n].toNat else 0
theorem byteAt_lt (s : ByteArray) (n : Nat) : byteAt s n < 256 := by
  unfold byteAt; split
  · exact s[n].toNat_lt
  · omega
theorem wpart_four (s : ByteArray) (p : Nat) (hp : 4 * p + 3 < s.size) : (wpart (fun j => byteAt s (p * 4 + j)) 4 : Int) = le1 s[4 * p] s[4 * p + 1] s[4 * p + 2] s[4 * p + 3] := by
  have e : p * 4 = 4 * p := by omega
  simp only [wpart, byteAt, e]
  rw [dif_pos (by omega), dif_pos (by omega), dif_pos (by omega), dif_pos (by omega)]
  unfold le1
  simp
  omega

theorem all_take_step (zs : List Int) (k : Nat) (h : k < zs.length) : (zs.take (k + 1)).all isW = ((zs.take k).all isW && isW zs[k]) := by
  rw [List.take_succ_eq_append_getElem h, List.all_append]; simp
theorem all_of_bad (zs : List Int) (k : Nat) (h : k < zs.length) (hb : isW zs[k] = false) : zs.all isW = false := by
  rw [List.all_eq_false]; exact ⟨zs[k], List.getElem_mem h, by simp [hb]⟩
theorem isW_true {n : Int} (h0 : 0 ≤ n) (h1 : n ≤ 4294967295) : isW n = true := by simp [isW, h0, h1]
theorem isW_false {n : Int} (h : ¬ (0 ≤ n ∧ n ≤ 4294967295)) : isW n = false := by simp [isW]; omega
theorem of_all {zs : List Int} (h : zs.all isW = true) : ∀ n ∈ zs, 0 ≤ n ∧ n ≤ 4294967295 := by
  intro n hn
  have := List.all_eq_true.1 h n hn
  simpa [isW] using this
end Go.Proofs.Ytijoancnlpkcoaa
