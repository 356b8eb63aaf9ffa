/- Joined: PlainA. -/
import Derived.WalkKit
import Derived.Laws.BitsAllLaws
import Derived.Laws.IdiomStrings
/- PlainA -/
namespace Go.Proofs.Ytffkakpbelknaaa
open Go.RowKit

/-- A byte as a cell of a row of bytes. -/
def bc (c : UInt8) : Value := .int .u8 (c.toNat : Int)

theorem ret_int {k : IntKind} {a b : Int} (h : a = b) : Ending.returned (.int k a) = .returned (.int k b) := by rw [h]

theorem ret_str {a b : ByteArray} (h : a = b) : Ending.returned (.string a) = .returned (.string b) := by rw [h]
theorem ret_bool {a b : Bool} (h : a = b) : Ending.returned (.bool a) = .returned (.bool b) := by rw [h]

/-- A word turned to the left. -/
def rot (x k : Int) : Int := bits .or .u32 (IntKind.u32.wrap (x * 2 ^ k.toNat)) (x / 2 ^ (32 - k).toNat)

theorem and31 (k : Int) (hk0 : 0 ≤ k) (hk : k ≤ 31) : bits BinOp.and IntKind.u64 k 31 = k := by
  rw [u64_and _ _ hk0 (by omega) (by omega) (by omega)]
  have : k.toNat &&& (31 : Int).toNat = k.toNat % 2 ^ 5 := by
    rw [show (31 : Int).toNat = 2 ^ 5 - 1 from rfl, Nat.and_two_pow_sub_one_eq_mod]
  rw [this]; omega

theorem u32_or_bd (x y : Int) (hx0 : 0 ≤ x) (hx : x < 4294967296) (hy0 : 0 ≤ y) (hy : y < 4294967296) : 0 ≤ bits .or .u32 x y ∧ bits .or .u32 x y < 4294967296 := by
  rw [u32_or x y hx0 hx hy0 hy]
  have h := Nat.or_lt_two_pow (x := x.toNat) (y := y.toNat) (n := 32) (by omega) (by omega)
  omega

theorem rot_bd (x k : Int) (hx0 : 0 ≤ x) (hx : x ≤ 4294967295) : 0 ≤ rot x k ∧ rot x k < 4294967296 := by
  unfold rot
  have e : IntKind.u32.wrap (x * 2 ^ k.toNat) = x * 2 ^ k.toNat % 4294967296 := by rw [IntKind.wrap_u32']
  rw [e]
  refine u32_or_bd _ _ (by omega) (by omega) (Int.ediv_nonneg hx0 (Int.le_of_lt (Int.pow_pos (by decide)))) ?_
  have := Int.ediv_le_self (b := 2 ^ (32 - k).toNat) hx0
  omega

theorem wrap_rot (x k : Int) (hx0 : 0 ≤ x) (hx : x ≤ 4294967295) (_ : 0 ≤ k) (_ : k ≤ 31) : wrap64 (rot x k) = rot x k := by
  have := rot_bd x k hx0 hx
  simp only [wrap64]; omega

/-- Two texts, byte by byte. -/
def xorL (a b : List UInt8) : List UInt8 := List.zipWith (fun x y => x ^^^ y) a b
def xorB (a b : ByteArray) : ByteArray := ⟨(xorL a.data.toList b.data.toList).toArray⟩

theorem xor8 (x y : UInt8) : bits .xor .u8 (x.toNat : Int) (y.toNat : Int) = ((x ^^^ y).toNat : Int) := by
  have := x.toNat_lt; have := y.toNat_lt
  rw [u8_xor_nat _ _ (by omega) (by omega)]; simp

theorem xorL_len (a b : List UInt8) (h : a.length ≤ b.length) : (xorL a b).length = a.length := by
  unfold xorL; simp; omega

theorem xorL_snoc (a b : ByteArray) (k : Nat) (ha : k < a.size) (hb : k < b.size) :
    (xorL a.data.toList b.data.toList).take (k + 1) = (xorL a.data.toList b.data.toList).take k ++ [a[k] ^^^ b[k]] := by
  have hk : k < (xorL a.data.toList b.data.toList).length := by
    unfold xorL; simp; omega
  rw [List.take_succ_eq_append_getElem hk]
  congr 1
  simp [xorL]; rfl
end Go.Proofs.Ytffkakpbelknaaa

namespace Go.Proofs.Ytffkakpbelknaaa
open Go.RowKit

/-- The digits 0 .. 9, a .. f. -/
def hexS : ByteArray := ⟨#[48, 49, 50, 51, 52, 53, 54, 55, 56, 57, 97, 98, 99, 100, 101, 102]⟩
def hd (n : Nat) : UInt8 := if h : n < 16 then hexS[n]'h else 0

theorem hd_at (i : Int) (n : Nat) (h : i.toNat < 16) (hn : i.toNat = n) : ((⟨#[48, 49, 50, 51, 52, 53, 54, 55, 56, 57, 97, 98, 99, 100, 101, 102]⟩ : ByteArray)[i.toNat]'h) = hd n := by
  subst hn; unfold hd; rw [dif_pos h]; rfl

def hexL (l : List UInt8) : List UInt8 := l.flatMap fun c => [hd (c.toNat / 16), hd (c.toNat % 16)]
def hexB (a : ByteArray) : ByteArray := ⟨(hexL a.data.toList).toArray⟩

theorem hexL_len (l : List UInt8) : (hexL l).length = 2 * l.length := by
  induction l with
  | nil => rfl
  | cons c l ih => simp only [hexL, List.flatMap_cons, List.length_append] at *; rw [ih]; simp; omega

theorem hexL_append (l m : List UInt8) : hexL (l ++ m) = hexL l ++ hexL m := by simp [hexL]

theorem take_snoc (s : ByteArray) (k : Nat) (h : k < s.size) : s.data.toList.take (k + 1) = s.data.toList.take k ++ [s[k]] := by
  rw [List.take_succ_eq_append_getElem (by simpa using h)]; rfl

theorem take_all (s : ByteArray) (k : Nat) (h : s.size ≤ k) : s.data.toList.take k = s.data.toList := List.take_of_length_le (by simpa using h)

theorem hexL_snoc (s : ByteArray) (k : Nat) (h : k < s.size) : hexL (s.data.toList.take (k + 1)) = hexL (s.data.toList.take k) ++ [hd (s[k].toNat / 16), hd (s[k].toNat % 16)] := by
  rw [take_snoc s k h, hexL_append]; rfl

/-- The value of a digit; -1: it is none. -/
def digV (c : UInt8) : Int := if 48 ≤ (c.toNat : Int) ∧ (c.toNat : Int) ≤ 57 then (c.toNat : Int) - 48 else if 97 ≤ (c.toNat : Int) ∧ (c.toNat : Int) ≤ 102 then (c.toNat : Int) - 87 else -1

theorem digV_bd (c : UInt8) : -1 ≤ digV c ∧ digV c ≤ 15 := by
  unfold digV; split
  · omega
  · split <;> omega

def pairB (c d : UInt8) : UInt8 := UInt8.ofNat (16 * digV c + digV d).toNat

def unhexL : List UInt8 → Option (List UInt8)
  | [] => some []
  | [_] => none
  | c :: d :: r => if digV c < 0 ∨ digV d < 0 then none else (unhexL r).map (pairB c d :: ·)

/-- Unhex, as the document says it. -/
def unV (s : ByteArray) : Option (List UInt8) := if s.size % 2 = 0 ∧ s.size ≤ 8000 then unhexL s.data.toList else none
def unS (s : ByteArray) : ByteArray := ⟨((unV s).getD []).toArray⟩

theorem drop_two (s : ByteArray) (k : Nat) (h : k + 1 < s.size) : s.data.toList.drop k = s[k] :: s[k + 1] :: s.data.toList.drop (k + 2) := by
  have h1 : k < s.data.toList.length := by simp; omega
  have h2 : k + 1 < s.data.toList.length := by simp; omega
  rw [List.drop_eq_getElem_cons h1, List.drop_eq_getElem_cons h2]; rfl

theorem unhexL_step (s : ByteArray) (k : Nat) (l : List UInt8) (h : k + 1 < s.size) (hc : 0 ≤ digV s[k]) (hd : 0 ≤ digV s[k + 1])
    (hi : unhexL s.data.toList = (unhexL (s.data.toList.drop k)).map (l ++ ·)) :
    unhexL s.data.toList = (unhexL (s.data.toList.drop (k + 2))).map (l ++ [pairB s[k] s[k + 1]] ++ ·) := by
  rw [hi, drop_two s k h]
  simp only [unhexL]
  rw [if_neg (by omega)]
  cases unhexL (s.data.toList.drop (k + 2)) <;> simp

theorem unhexL_bad (s : ByteArray) (k : Nat) (l : List UInt8) (h : k + 1 < s.size) (hc : digV s[k] < 0 ∨ digV s[k + 1] < 0)
    (hi : unhexL s.data.toList = (unhexL (s.data.toList.drop k)).map (l ++ ·)) : unhexL s.data.toList = none := by
  rw [hi, drop_two s k h]
  simp only [unhexL]
  rw [if_pos hc]; rfl

theorem unhexL_end (s : ByteArray) (k : Nat) (l : List UInt8) (h : s.size ≤ k)
    (hi : unhexL s.data.toList = (unhexL (s.data.toList.drop k)).map (l ++ ·)) : unhexL s.data.toList = some l := by
  rw [hi, List.drop_of_length_le (by simpa using h)]; simp [unhexL]

theorem pair_mul (c d : UInt8) (hc : 0 ≤ digV c) (hd : 0 ≤ digV d) : (16 * digV c + digV d) % 256 = ((pairB c d).toNat : Int) := by
  have h1 := digV_bd c; have h2 := digV_bd d
  unfold pairB
  have : (16 * digV c + digV d).toNat < 256 := by omega
  rw [UInt8.toNat_ofNat', Nat.mod_eq_of_lt (by simpa using this)]; omega

theorem or_pair (x y : Int) (hx0 : 0 ≤ x) (hx : x ≤ 15) (hy0 : 0 ≤ y) (hy : y ≤ 15) : bits .or .i64 (x * 16) y = 16 * x + y := by
  obtain ⟨X, rfl⟩ := Int.eq_ofNat_of_zero_le hx0
  obtain ⟨Y, rfl⟩ := Int.eq_ofNat_of_zero_le hy0
  have hX : X ≤ 15 := by omega
  have hY : Y ≤ 15 := by omega
  have key : ∀ a, a ≤ 15 → ∀ b, b ≤ 15 → bits .or .i64 ((a : Nat) * 16 : Int) (b : Nat) = 16 * (a : Nat) + (b : Nat) := by decide +kernel
  exact key X hX Y hY

theorem digV_hd (n : Nat) (h : n < 16) : digV (hd n) = n := by
  have key : ∀ n, n < 16 → digV (hd n) = (n : Nat) := by decide +kernel
  exact key n h

theorem hd_digV (c : UInt8) (h : 0 ≤ digV c) : hd (digV c).toNat = c := by
  have key : ∀ n, n < 256 → 0 ≤ digV (UInt8.ofNat n) → hd (digV (UInt8.ofNat n)).toNat = UInt8.ofNat n := by decide +kernel
  have := key c.toNat c.toNat_lt
  rw [UInt8.ofNat_toNat] at this
  exact this h

theorem pair_hd (c : UInt8) : pairB (hd (c.toNat / 16)) (hd (c.toNat % 16)) = c := by
  have hlt : c.toNat < 256 := c.toNat_lt
  unfold pairB
  rw [digV_hd _ (by omega), digV_hd _ (by omega)]
  have : ((16 : Int) * ((c.toNat / 16 : Nat) : Int) + ((c.toNat % 16 : Nat) : Int)).toNat = c.toNat := by omega
  rw [this, UInt8.ofNat_toNat]

/-- A text comes back from its digits. -/
theorem unhexL_hexL (l : List UInt8) : unhexL (hexL l) = some l := by
  induction l with
  | nil => rfl
  | cons c l ih =>
    have hlt : c.toNat < 256 := c.toNat_lt
    have e : hexL (c :: l) = hd (c.toNat / 16) :: hd (c.toNat % 16) :: hexL l := rfl
    rw [e]
    simp only [unhexL]
    have h1 := digV_hd (c.toNat / 16) (by omega)
    have h2 := digV_hd (c.toNat % 16) (by omega)
    rw [if_neg (by omega), ih, pair_hd]; rfl

theorem hd_pair (c d : UInt8) (hc : 0 ≤ digV c) (hd' : 0 ≤ digV d) : hd ((pairB c d).toNat / 16) = c ∧ hd ((pairB c d).toNat % 16) = d := by
  have h1 := digV_bd c; have h2 := digV_bd d
  have hp := pair_mul c d hc hd'
  have e1 : (pairB c d).toNat / 16 = (digV c).toNat := by omega
  have e2 : (pairB c d).toNat % 16 = (digV d).toNat := by omega
  rw [e1, e2]
  exact ⟨hd_digV c hc, hd_digV d hd'⟩

/-- What is read, written again, has just its digits. -/
theorem hexL_unhexL : ∀ (t l : List UInt8), unhexL t = some l → hexL l = t
  | [], l, h => by simp [unhexL] at h; subst h; rfl
  | [_], l, h => by simp [unhexL] at h
  | c :: d :: r, l, h => by
    simp only [unhexL] at h
    by_cases hb : digV c < 0 ∨ digV d < 0
    · rw [if_pos hb] at h; cases h
    · rw [if_neg hb] at h
      obtain ⟨m, hm, rfl⟩ := Option.map_eq_some_iff.1 h
      have ih := hexL_unhexL r m hm
      have hp := hd_pair c d (by omega) (by omega)
      have e : hexL (pairB c d :: m) = hd ((pairB c d).toNat / 16) :: hd ((pairB c d).toNat % 16) :: hexL m := rfl
      rw [e, hp.1, hp.2, ih]

theorem unhexL_len : ∀ (t l : List UInt8), unhexL t = some l → t.length = 2 * l.length := by
  intro t l h
  rw [← hexL_unhexL t l h, hexL_len]
end Go.Proofs.Ytffkakpbelknaaa

namespace Go.Proofs.Ytffkakpbelknaaa
open Go.RowKit

/-- The lowest eight bits. -/
def lowB (y : Int) : UInt8 := UInt8.ofNat (y % 256).toNat
theorem lowB_toNat (y : Int) : ((lowB y).toNat : Int) = y % 256 := by
  unfold lowB
  have : (y % 256).toNat < 256 := by omega
  rw [UInt8.toNat_ofNat', Nat.mod_eq_of_lt (by simpa using this)]; omega
theorem bc_lowB (y : Int) : bc (lowB y) = .int .u8 (y % 256) := by unfold bc; rw [lowB_toNat]

def isW (n : Int) : Bool := decide (0 ≤ n ∧ n ≤ 4294967295)

/-- The four bytes of a word, the lowest first. -/
def le4 (x : Int) : List UInt8 := [lowB x, lowB (x / 256), lowB (x / 65536), lowB (x / 16777216)]
theorem le4_cells (x : Int) : [Value.int .u8 (IntKind.u8.wrap x), .int .u8 (IntKind.u8.wrap (x / 256)), .int .u8 (IntKind.u8.wrap (x / 65536)), .int .u8 (IntKind.u8.wrap (x / 16777216))] = (le4 x).map bc := by
  simp only [le4, List.map_cons, List.map_nil, bc_lowB, IntKind.wrap_u8']
theorem le4_snoc (x : Int) (k : Nat) (h : k < 4) : (le4 x).take (k + 1) = (le4 x).take k ++ [lowB (x / 2 ^ (8 * k))] := by
  match k, h with
  | 0, _ => simp [le4]
  | 1, _ => rfl
  | 2, _ => rfl
  | 3, _ => rfl

def storeL (zs : List Int) : List UInt8 := zs.flatMap le4
theorem storeL_len (zs : List Int) : (storeL zs).length = 4 * zs.length := by
  induction zs with
  | nil => rfl
  | cons z zs ih => simp only [storeL, List.flatMap_cons, List.length_append] at *; rw [ih]; simp [le4]; omega
theorem storeL_append (xs ys : List Int) : storeL (xs ++ ys) = storeL xs ++ storeL ys := by simp [storeL]
theorem storeL_snoc (zs : List Int) (k : Nat) (h : k < zs.length) : storeL (zs.take (k + 1)) = storeL (zs.take k) ++ le4 zs[k] := by
  rw [List.take_succ_eq_append_getElem h, storeL_append]; simp [storeL]

/-- StoreLe, as the document says it. -/
def stR (zs : List Int) : ByteArray := if zs.length ≤ 1000 ∧ zs.all isW = true then ⟨(storeL zs).toArray⟩ else ⟨#[]⟩

/-- The word of four bytes. -/
def le1 (a b c d : UInt8) : Int := (a.toNat : Int) + 256 * (b.toNat : Int) + 65536 * (c.toNat : Int) + 16777216 * (d.toNat : Int)
theorem le1_bd (a b c d : UInt8) : 0 ≤ le1 a b c d ∧ le1 a b c d ≤ 4294967295 := by
  have := a.toNat_lt; have := b.toNat_lt; have := c.toNat_lt; have := d.toNat_lt
  unfold le1; omega
def loadL : List UInt8 → List Int
  | a :: b :: c :: d :: r => le1 a b c d :: loadL r
  | _ => []
theorem loadL_len : ∀ (l : List UInt8), (loadL l).length = l.length / 4
  | [] => rfl
  | [_] => by simp [loadL]
  | [_, _] => by simp [loadL]
  | [_, _, _] => by simp [loadL]
  | a :: b :: c :: d :: r => by
    have := loadL_len r
    simp only [loadL, List.length_cons, this]; omega
theorem loadL_words : ∀ (l : List UInt8), ∀ n ∈ loadL l, 0 ≤ n ∧ n ≤ 4294967295
  | [], n, h => by simp [loadL] at h
  | [_], n, h => by simp [loadL] at h
  | [_, _], n, h => by simp [loadL] at h
  | [_, _, _], n, h => by simp [loadL] at h
  | a :: b :: c :: d :: r, n, h => by
    simp only [loadL, List.mem_cons] at h
    rcases h with rfl | h
    · exact le1_bd a b c d
    · exact loadL_words r n h

theorem lowB_eq (y : Int) (c : UInt8) (h : y % 256 = (c.toNat : Int)) : lowB y = c := by
  unfold lowB; rw [h]; simp
theorem le4_le1 (a b c d : UInt8) : le4 (le1 a b c d) = [a, b, c, d] := by
  have h1 := a.toNat_lt; have h2 := b.toNat_lt; have h3 := c.toNat_lt; have h4 := d.toNat_lt
  unfold le4
  rw [lowB_eq (le1 a b c d) a (by unfold le1; omega), lowB_eq (le1 a b c d / 256) b (by unfold le1; omega), lowB_eq (le1 a b c d / 65536) c (by unfold le1; omega), lowB_eq (le1 a b c d / 16777216) d (by unfold le1; omega)]
theorem le1_le4 (x : Int) (h0 : 0 ≤ x) (h1 : x ≤ 4294967295) : le1 (lowB x) (lowB (x / 256)) (lowB (x / 65536)) (lowB (x / 16777216)) = x := by
  unfold le1; simp only [lowB_toNat]; omega
/-- Words come back from their bytes. -/
theorem loadL_storeL : ∀ (zs : List Int), (∀ n ∈ zs, 0 ≤ n ∧ n ≤ 4294967295) → loadL (storeL zs) = zs
  | [], _ => rfl
  | z :: zs, h => by
    have hz := h z (by simp)
    have e : storeL (z :: zs) = lowB z :: lowB (z / 256) :: lowB (z / 65536) :: lowB (z / 16777216) :: storeL zs := rfl
    rw [e]
    simp only [loadL]
    rw [le1_le4 z hz.1 hz.2, loadL_storeL zs (fun n hn => h n (by simp [hn]))]
theorem storeL_loadL : ∀ (l : List UInt8), l.length % 4 = 0 → storeL (loadL l) = l
  | [], _ => rfl
  | [_], h => by simp at h
  | [_, _], h => by simp at h
  | [_, _, _], h => by simp at h
  | a :: b :: c :: d :: r, h => by
    have ih := storeL_loadL r (by simp at h; omega)
    have e : storeL (loadL (a :: b :: c :: d :: r)) = le4 (le1 a b c d) ++ storeL (loadL r) := rfl
    rw [e, le4_le1, ih]; rfl

/-- LoadLe, as the document says it. -/
def ldR (s : ByteArray) : List Int := if s.size % 4 = 0 ∧ s.size ≤ 4000 then loadL s.data.toList else []

theorem loadL_get : ∀ (l : List UInt8) (k : Nat) (h : 4 * k + 3 < l.length), (loadL l)[k]? = some (le1 l[4 * k] l[4 * k + 1] l[4 * k + 2] l[4 * k + 3])
  | [], k, h => by simp at h
  | [_], k, h => by simp at h
  | [_, _], k, h => by simp at h; omega
  | [_, _, _], k, h => by simp at h; omega
  | a :: b :: c :: d :: r, 0, h => by simp [loadL]
  | a :: b :: c :: d :: r, k + 1, h => by
    have ih := loadL_get r k (by simp at h; omega)
    simp only [loadL, List.getElem?_cons_succ, ih]
    rfl

theorem or_shift (x y : Nat) (j : Nat) (hx : x < 2 ^ j) : x ||| (y * 2 ^ j) = x + y * 2 ^ j := by
  rw [Nat.or_comm, Nat.mul_comm, ← Nat.two_pow_add_eq_or_of_lt hx]; omega

theorem or32 (x y : Int) (X Y j : Nat) (hx : x = X) (hy : y = Y * 2 ^ j) (hX : X < 2 ^ j) (hj : X + Y * 2 ^ j < 4294967296) : bits .or .u32 x y = ((X + Y * 2 ^ j : Nat) : Int) := by
  subst hx hy
  have e : ((Y : Int) * 2 ^ j) = ((Y * 2 ^ j : Nat) : Int) := by simp
  rw [e, u32_or _ _ (by omega) (by omega) (by omega) (by omega)]
  rw [Int.toNat_natCast, Int.toNat_natCast, or_shift X Y j hX]

theorem or4 (a b c d : UInt8) : bits .or .u32 (bits .or .u32 (bits .or .u32 ((a.toNat : Int) % 4294967296) ((b.toNat : Int) % 4294967296 * 256 % 4294967296)) ((c.toNat : Int) % 4294967296 * 65536 % 4294967296)) ((d.toNat : Int) % 4294967296 * 16777216 % 4294967296) = le1 a b c d := by
  have h1 := a.toNat_lt; have h2 := b.toNat_lt; have h3 := c.toNat_lt; have h4 := d.toNat_lt
  rw [or32 ((a.toNat : Int) % 4294967296) ((b.toNat : Int) % 4294967296 * 256 % 4294967296) a.toNat b.toNat 8 (by omega) (by omega) (by omega) (by omega)]
  rw [or32 _ ((c.toNat : Int) % 4294967296 * 65536 % 4294967296) (a.toNat + b.toNat * 2 ^ 8) c.toNat 16 rfl (by omega) (by omega) (by omega)]
  rw [or32 _ _ (a.toNat + b.toNat * 2 ^ 8 + c.toNat * 2 ^ 16) d.toNat 24 rfl (by omega) (by omega) (by omega)]
  unfold le1; omega

/-- The word of the first k of four bytes. -/
def wpart (f : Nat → Nat) : Nat → Nat
  | 0 => 0
  | k + 1 => wpart f k + f k * 2 ^ (8 * k)
theorem wpart_lt (f : Nat → Nat) (hf : ∀ j, f j < 256) : ∀ k, wpart f k < 2 ^ (8 * k)
  | 0 => by simp [wpart]
  | k + 1 => by
    have ih := wpart_lt f hf k
    have h := hf k
    have e : 2 ^ (8 * (k + 1)) = 256 * 2 ^ (8 * k) := by rw [show 8 * (k + 1) = 8 + 8 * k by omega, Nat.pow_add]
    have h1 : f k * 2 ^ (8 * k) ≤ 255 * 2 ^ (8 * k) := Nat.mul_le_mul_right _ (by omega)
    simp only [wpart]; rw [e]; omega
theorem wpart_step (f : Nat → Nat) (hf : ∀ j, f j < 256) (k : Nat) (hk : k < 4) :
    bits .or .u32 (wpart f k : Int) (((f k : Nat) : Int) % 4294967296 * 2 ^ (8 * k) % 4294967296) = (wpart f (k + 1) : Int) := by
  have h := hf k
  have hw := wpart_lt f hf k
  have hw1 := wpart_lt f hf (k + 1)
  have hp : 2 ^ (8 * (k + 1)) ≤ 2 ^ 32 := Nat.pow_le_pow_right (by decide) (by omega)
  have h2 : wpart f (k + 1) < 4294967296 := Nat.lt_of_lt_of_le hw1 hp
  simp only [wpart] at h2
  have e1 : ((f k : Nat) : Int) % 4294967296 = ((f k : Nat) : Int) := by omega
  have e2 : ((f k : Nat) : Int) * 2 ^ (8 * k) = ((f k * 2 ^ (8 * k) : Nat) : Int) := by simp
  have e3 : ((f k * 2 ^ (8 * k) : Nat) : Int) % 4294967296 = ((f k * 2 ^ (8 * k) : Nat) : Int) := by omega
  rw [e1, e2, e3]
  exact or32 _ _ (wpart f k) (f k) (8 * k) rfl (by simp) hw h2
def byteAt (s : ByteArray) (n : Nat) : Nat := if h : n < s.size then s[n].toNat else 0
theorem byteAt_lt (s : ByteArray) (n : Nat) : byteAt s n < 256 := by
  unfold byteAt; split
  · exact s[n].toNat_lt
  · omega
theorem wpart_four (s : ByteArray) (p : Nat) (hp : 4 * p + 3 < s.size) : (wpart (fun j => byteAt s (p * 4 + j)) 4 : Int) = le1 s[4 * p] s[4 * p + 1] s[4 * p + 2] s[4 * p + 3] := by
  have e : p * 4 = 4 * p := by omega
  simp only [wpart, byteAt, e]
  rw [dif_pos (by omega), dif_pos (by omega), dif_pos (by omega), dif_pos (by omega)]
  unfold le1
  simp
  omega

theorem all_take_step (zs : List Int) (k : Nat) (h : k < zs.length) : (zs.take (k + 1)).all isW = ((zs.take k).all isW && isW zs[k]) := by
  rw [List.take_succ_eq_append_getElem h, List.all_append]; simp
theorem all_of_bad (zs : List Int) (k : Nat) (h : k < zs.length) (hb : isW zs[k] = false) : zs.all isW = false := by
  rw [List.all_eq_false]; exact ⟨zs[k], List.getElem_mem h, by simp [hb]⟩
theorem isW_true {n : Int} (h0 : 0 ≤ n) (h1 : n ≤ 4294967295) : isW n = true := by simp [isW, h0, h1]
theorem isW_false {n : Int} (h : ¬ (0 ≤ n ∧ n ≤ 4294967295)) : isW n = false := by simp [isW]; omega
theorem of_all {zs : List Int} (h : zs.all isW = true) : ∀ n ∈ zs, 0 ≤ n ∧ n ≤ 4294967295 := by
  intro n hn
  have := List.all_eq_true.1 h n hn
  simpa [isW] using this
end Go.Proofs.Ytffkakpbelknaaa

namespace Go.Proofs.Ytffkakpbelknaaa
open Go.RowKit

/-- The byte of a stream of blocks at a place. -/
def ksB (f : Nat → List UInt8) (i : Nat) : UInt8 := (f (i / 64)).getD (i % 64) 0
/-- A text, with what the blocks make of it. -/
def strmL (f : Nat → List UInt8) (t : List UInt8) : List UInt8 := t.mapIdx fun i b => b ^^^ ksB f i
theorem strmL_len (f : Nat → List UInt8) (t : List UInt8) : (strmL f t).length = t.length := by simp [strmL]
theorem strmL_get (f : Nat → List UInt8) (t : List UInt8) (i : Nat) (h : i < t.length) : (strmL f t)[i]'(by rw [strmL_len]; exact h) = t[i] ^^^ ksB f i := by simp [strmL]
theorem strmL_step (f : Nat → List UInt8) (t : List UInt8) (k : Nat) (hf : (f k).length = 64) (h : 64 * k < t.length) :
    (strmL f t).take (64 * (k + 1)) = (strmL f t).take (64 * k) ++ xorL ((t.drop (64 * k)).take 64) (f k) := by
  apply List.ext_getElem
  · simp [strmL, xorL, hf]; omega
  · intro i h1 h2
    have hi : i < t.length := by simp [strmL] at h1; omega
    have hi2 : i < 64 * (k + 1) := by simp [strmL] at h1; omega
    rw [List.getElem_take, strmL_get f t i hi]
    by_cases hlt : i < 64 * k
    · rw [List.getElem_append_left (by simp [strmL]; omega), List.getElem_take, strmL_get f t i hi]
    · have hl : ((strmL f t).take (64 * k)).length = 64 * k := by simp [strmL]; omega
      rw [List.getElem_append_right (by omega)]
      have e1 : i / 64 = k := by omega
      have e2 : i % 64 = i - 64 * k := by omega
      have e3 : i - 64 * k < (f k).length := by omega
      simp only [xorL, List.getElem_zipWith, List.getElem_take, List.getElem_drop, hl]
      unfold ksB
      rw [e1, e2, List.getD_eq_getElem?_getD, List.getElem?_eq_getElem e3]
      simp only [show 64 * k + (i - 64 * k) = i by omega, Option.getD_some]
theorem xor_twice8 (x y : UInt8) : x ^^^ y ^^^ y = x := by rw [UInt8.xor_assoc, UInt8.xor_self, UInt8.xor_zero]
theorem strmL_twice (f : Nat → List UInt8) (t : List UInt8) : strmL f (strmL f t) = t := by
  apply List.ext_getElem
  · simp [strmL]
  · intro i h1 h2
    rw [strmL_get f _ i (by rw [strmL_len]; exact h2), strmL_get f t i h2, xor_twice8]
theorem strmL_drop (f : Nat → List UInt8) (t : List UInt8) : (strmL f t).drop 64 = strmL (fun j => f (j + 1)) (t.drop 64) := by
  apply List.ext_getElem
  · simp [strmL]
  · intro i h1 h2
    have hi : 64 + i < t.length := by simp [strmL] at h1; omega
    rw [List.getElem_drop, strmL_get f t _ hi, strmL_get _ _ i (by simp; omega), List.getElem_drop]
    unfold ksB
    rw [show (64 + i) / 64 = i / 64 + 1 by omega, show (64 + i) % 64 = i % 64 by omega]
theorem strmL_noughts (f : Nat → List UInt8) (hf : (f 0).length = 64) : strmL f (List.replicate 64 0) = f 0 := by
  apply List.ext_getElem
  · simp [strmL, hf]
  · intro i h1 h2
    have hi : i < 64 := by omega
    rw [strmL_get f _ i (by simp; omega)]
    unfold ksB
    rw [show i / 64 = 0 by omega, show i % 64 = i by omega, List.getD_eq_getElem?_getD, List.getElem?_eq_getElem h2, List.getElem_replicate, Option.getD_some, UInt8.zero_xor]
theorem strmL_xor (f : Nat → List UInt8) (t u : List UInt8) (h : t.length = u.length) : strmL f (xorL t u) = xorL (strmL f t) u := by
  apply List.ext_getElem
  · simp [strmL, xorL]
  · intro i h1 h2
    have hi : i < t.length := by simp [strmL, xorL] at h1; omega
    have hu : i < u.length := by omega
    rw [strmL_get f _ i (by simp [xorL]; omega)]
    simp only [xorL, List.getElem_zipWith]
    rw [strmL_get f t i hi, UInt8.xor_assoc, UInt8.xor_comm u[i], ← UInt8.xor_assoc]
theorem xorL_take (a b : List UInt8) : xorL a (b.take a.length) = xorL a b := by
  apply List.ext_getElem
  · simp [xorL]
  · intro i h1 h2
    simp [xorL]
end Go.Proofs.Ytffkakpbelknaaa

namespace Go.Proofs.Ytffkakpbelknaaa
open Go.RowKit
set_option linter.unusedVariables false

/-- A word with its bytes turned round. -/
def rev32 (x : Int) : Int := le1 (lowB (x / 16777216)) (lowB (x / 65536)) (lowB (x / 256)) (lowB x)
def be4 (x : Int) : List UInt8 := [lowB (x / 16777216), lowB (x / 65536), lowB (x / 256), lowB x]
theorem le4_rev (x : Int) : le4 (rev32 x) = be4 x := le4_le1 _ _ _ _
theorem rev_le1 (a b c d : UInt8) : rev32 (le1 a b c d) = le1 d c b a := by
  have h := le4_le1 a b c d
  unfold le4 at h
  simp only [List.cons.injEq, and_true] at h
  obtain ⟨h1, h2, h3, h4⟩ := h
  unfold rev32; rw [h1, h2, h3, h4]
theorem rev_bd (x : Int) : 0 ≤ rev32 x ∧ rev32 x ≤ 4294967295 := le1_bd _ _ _ _
theorem rev_rev (x : Int) (h0 : 0 ≤ x) (h1 : x ≤ 4294967295) : rev32 (rev32 x) = x := by
  unfold rev32
  have := rev_le1 (lowB (x / 16777216)) (lowB (x / 65536)) (lowB (x / 256)) (lowB x)
  unfold rev32 at this
  rw [this]
  exact le1_le4 x h0 h1

theorem and_half (n m : Nat) : n &&& m = (n % 65536 &&& m % 65536) + 65536 * (n / 65536 &&& m / 65536) := by
  have h1 : (n &&& m) % 65536 = n % 65536 &&& m % 65536 := Nat.and_mod_two_pow (n := 16)
  have h2 : (n &&& m) / 65536 = n / 65536 &&& m / 65536 := Nat.and_div_two_pow (n := 16)
  rw [← h1, ← h2]; omega
theorem or_half (n m : Nat) : n ||| m = (n % 65536 ||| m % 65536) + 65536 * (n / 65536 ||| m / 65536) := by
  have h1 : (n ||| m) % 65536 = n % 65536 ||| m % 65536 := Nat.or_mod_two_pow (n := 16)
  have h2 : (n ||| m) / 65536 = n / 65536 ||| m / 65536 := Nat.or_div_two_pow (n := 16)
  rw [← h1, ← h2]; omega
theorem and_ff (n : Nat) : n &&& 255 = n % 256 := Nat.and_two_pow_sub_one_eq_mod n 8
theorem and_ff00ff (n : Nat) : n &&& 16711935 = n % 256 + 65536 * (n / 65536 % 256) := by
  rw [and_half, show 16711935 % 65536 = 255 from rfl, show 16711935 / 65536 = 255 from rfl, and_ff, and_ff]; omega
theorem or_bytes (b d a c : Nat) (hb : b < 256) (hd : d < 256) (ha : a < 256) (hc : c < 256) : (b + 65536 * d) ||| (256 * a + 16777216 * c) = b + 256 * a + 65536 * (d + 256 * c) := by
  rw [or_half, show (b + 65536 * d) % 65536 = b by omega, show (256 * a + 16777216 * c) % 65536 = a * 2 ^ 8 by omega, show (b + 65536 * d) / 65536 = d by omega, show (256 * a + 16777216 * c) / 65536 = c * 2 ^ 8 by omega, or_shift b a 8 hb, or_shift d c 8 hd]
  omega
/-- The bytes turned round by shifts and masks. -/
def revMid (x : Int) : Int := bits .or .u32 (bits .and .u32 (x / 256) 16711935) (bits .and .u32 x 16711935 * 256 % 4294967296)
theorem revMid_eq (n : Nat) (h : n < 4294967296) : revMid (n : Int) = ((n / 256 % 256 + 256 * (n % 256) + 65536 * (n / 16777216 + 256 * (n / 65536 % 256)) : Nat) : Int) := by
  unfold revMid
  have e1 : bits .and .u32 ((n : Int) / 256) 16711935 = ((n / 256 % 256 + 65536 * (n / 16777216) : Nat) : Int) := by
    rw [u32_and _ _ (by omega) (by omega) (by omega) (by omega)]
    rw [show ((n : Int) / 256).toNat = n / 256 by omega, show (16711935 : Int).toNat = 16711935 from rfl, and_ff00ff]
    omega
  have e2 : bits .and .u32 (n : Int) 16711935 = ((n % 256 + 65536 * (n / 65536 % 256) : Nat) : Int) := by
    rw [u32_and _ _ (by omega) (by omega) (by omega) (by omega)]
    rw [Int.toNat_natCast, show (16711935 : Int).toNat = 16711935 from rfl, and_ff00ff]
  rw [e1, e2]
  have e3 : ((n % 256 + 65536 * (n / 65536 % 256) : Nat) : Int) * 256 % 4294967296 = ((256 * (n % 256) + 16777216 * (n / 65536 % 256) : Nat) : Int) := by omega
  rw [e3, u32_or _ _ (by omega) (by omega) (by omega) (by omega), Int.toNat_natCast, Int.toNat_natCast]
  rw [or_bytes _ _ _ _ (by omega) (by omega) (by omega) (by omega)]
theorem rev_eq (x : Int) (h0 : 0 ≤ x) (h1 : x ≤ 4294967295) : bits .or .u32 (revMid x / 65536) (revMid x * 65536 % 4294967296) = rev32 x := by
  obtain ⟨n, rfl⟩ := Int.eq_ofNat_of_zero_le h0
  rw [revMid_eq n (by omega)]
  rw [or32 _ _ (n / 16777216 + 256 * (n / 65536 % 256)) (n / 256 % 256 + 256 * (n % 256)) 16 (by omega) (by omega) (by omega) (by omega)]
  unfold rev32 le1
  rw [lowB_toNat, lowB_toNat, lowB_toNat, lowB_toNat]
  omega

/-- Words, the highest byte of each first. -/
def beL (l : List UInt8) : List Int := (loadL l).map rev32
theorem beL_len (l : List UInt8) : (beL l).length = l.length / 4 := by unfold beL; rw [List.length_map, loadL_len]
def stoB (zs : List Int) : List UInt8 := zs.flatMap be4
theorem stoB_len (zs : List Int) : (stoB zs).length = 4 * zs.length := by
  induction zs with
  | nil => rfl
  | cons x xs ih => simp only [stoB, List.flatMap_cons, List.length_append, List.length_cons] at *; rw [ih]; simp [be4]; omega
theorem stoB_snoc (zs : List Int) (k : Nat) (h : k < zs.length) : stoB (zs.take (k + 1)) = stoB (zs.take k) ++ be4 zs[k] := by
  unfold stoB; rw [List.take_succ_eq_append_getElem h, List.flatMap_append]; simp only [List.flatMap_cons, List.flatMap_nil, List.append_nil]
theorem stoB_store (zs : List Int) : stoB zs = storeL (zs.map rev32) := by
  induction zs with
  | nil => rfl
  | cons x xs ih => simp only [stoB, storeL, List.flatMap_cons, List.map_cons] at *; rw [ih, le4_rev]
theorem beL_words (l : List UInt8) : ∀ n ∈ beL l, 0 ≤ n ∧ n ≤ 4294967295 := by
  intro n hn
  unfold beL at hn
  obtain ⟨x, _, rfl⟩ := List.mem_map.1 hn
  exact rev_bd x
theorem beL_stoB (zs : List Int) (h : ∀ n ∈ zs, 0 ≤ n ∧ n ≤ 4294967295) : beL (stoB zs) = zs := by
  unfold beL
  rw [stoB_store, loadL_storeL _ (by intro n hn; obtain ⟨x, _, rfl⟩ := List.mem_map.1 hn; exact rev_bd x), List.map_map]
  have : ∀ x ∈ zs, (rev32 ∘ rev32) x = id x := fun x hx => rev_rev x (h x hx).1 (h x hx).2
  rw [List.map_congr_left this, List.map_id]
theorem beL_get (l : List UInt8) (k : Nat) (h : 4 * k + 3 < l.length) : (beL l)[k]? = some (le1 l[4 * k + 3] l[4 * k + 2] l[4 * k + 1] l[4 * k]) := by
  unfold beL
  rw [List.getElem?_map, loadL_get l k h, Option.map_some, rev_le1]
end Go.Proofs.Ytffkakpbelknaaa

namespace Go.Proofs.Ytffkakpbelknaaa

theorem ba_eq {a b : ByteArray} (h : a.data.toList = b.data.toList) : a = b := by
  cases a; cases b; simp at h; simp [h]
theorem str_eq (a b : ByteArray) : (a.toList == b.toList) = decide (a = b) := by
  rw [ByteArray.toList_eq, ByteArray.toList_eq]
  by_cases h : a = b
  · subst h; simp
  · have : a.data.toList ≠ b.data.toList := fun e => h (ba_eq e)
    rw [decide_eq_false h]
    exact beq_eq_false_iff_ne.2 this
theorem str_ne (a b : ByteArray) : (a.toList != b.toList) = decide (a ≠ b) := by
  unfold bne; rw [str_eq]; simp
theorem str_empty (a : ByteArray) : a.toList = [] ↔ a.size = 0 := by
  rw [ByteArray.toList_eq]
  constructor
  · intro h
    have := congrArg List.length h
    simpa using this
  · intro h
    exact List.eq_nil_of_length_eq_zero (by simpa using h)
end Go.Proofs.Ytffkakpbelknaaa
