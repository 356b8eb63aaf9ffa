/- Joined: PlainA, PlainB. -/
import Derived.WalkKit
import Derived.Laws.BitsAllLaws
import Derived.Laws.IdiomStrings
/- PlainA -/
namespace Go.Proofs.YtlipgmaiooljkaaGreatDoor
open Go.RowKit

/-- A byte as a cell of a row of bytes. -/
def bc (c : UInt8) : Value := .int .u8 (c.toNat : Int)

theorem ret_int {k : IntKind} {a b : Int} (h : a = b) : Ending.returned (.int k a) = .returned (.int k b) := by rw [h]

theorem ret_str {a b : ByteArray} (h : a = b) : Ending.returned (.string a) = .returned (.string b) := by rw [h]
theorem ret_bool {a b : Bool} (h : a = b) : Ending.returned (.bool a) = .returned (.bool b) := by rw [h]

/-- A word turned to the left. -/
def rot (x k : Int) : Int := bits .or .u32 (IntKind.u32.wrap (x * 2 ^ k.toNat)) (x / 2 ^ (32 - k).toNat)

theorem and31 (k : Int) (hk0 : 0 ≤ k) (hk : k ≤ 31) : bits BinOp.and IntKind.u64 k 31 = k := by
  rw [u64_and _ _ hk0 (by omega) (by omega) (by omega)]
  have : k.toNat &&& (31 : Int).toNat = k.toNat % 2 ^ 5 := by
    rw [show (31 : Int).toNat = 2 ^ 5 - 1 from rfl, Nat.and_two_pow_sub_one_eq_mod]
  rw [this]; omega

theorem u32_or_bd (x y : Int) (hx0 : 0 ≤ x) (hx : x < 4294967296) (hy0 : 0 ≤ y) (hy : y < 4294967296) : 0 ≤ bits .or .u32 x y ∧ bits .or .u32 x y < 4294967296 := by
  rw [u32_or x y hx0 hx hy0 hy]
  have h := Nat.or_lt_two_pow (x := x.toNat) (y := y.toNat) (n := 32) (by omega) (by omega)
  omega

theorem rot_bd (x k : Int) (hx0 : 0 ≤ x) (hx : x ≤ 4294967295) : 0 ≤ rot x k ∧ rot x k < 4294967296 := by
  unfold rot
  have e : IntKind.u32.wrap (x * 2 ^ k.toNat) = x * 2 ^ k.toNat % 4294967296 := by rw [IntKind.wrap_u32']
  rw [e]
  refine u32_or_bd _ _ (by omega) (by omega) (Int.ediv_nonneg hx0 (Int.le_of_lt (Int.pow_pos (by decide)))) ?_
  have := Int.ediv_le_self (b := 2 ^ (32 - k).toNat) hx0
  omega

theorem wrap_rot (x k : Int) (hx0 : 0 ≤ x) (hx : x ≤ 4294967295) (_ : 0 ≤ k) (_ : k ≤ 31) : wrap64 (rot x k) = rot x k := by
  have := rot_bd x k hx0 hx
  simp only [wrap64]; omega

/-- Two texts, byte by byte. -/
def xorL (a b : List UInt8) : List UInt8 := List.zipWith (fun x y => x ^^^ y) a b
def xorB (a b : ByteArray) : ByteArray := ⟨(xorL a.data.toList b.data.toList).toArray⟩

theorem xor8 (x y : UInt8) : bits .xor .u8 (x.toNat : Int) (y.toNat : Int) = ((x ^^^ y).toNat : Int) := by
  have := x.toNat_lt; have := y.toNat_lt
  rw [u8_xor_nat _ _ (by omega) (by omega)]; simp

theorem xorL_len (a b : List UInt8) (h : a.length ≤ b.length) : (xorL a b).length = a.length := by
  unfold xorL; simp; omega

theorem xorL_snoc (a b : ByteArray) (k : Nat) (ha : k < a.size) (hb : k < b.size) :
    (xorL a.data.toList b.data.toList).take (k + 1) = (xorL a.data.toList b.data.toList).take k ++ [a[k] ^^^ b[k]] := by
  have hk : k < (xorL a.data.toList b.data.toList).length := by
    unfold xorL; simp; omega
  rw [List.take_succ_eq_append_getElem hk]
  congr 1
  simp [xorL]; rfl
end Go.Proofs.YtlipgmaiooljkaaGreatDoor

namespace Go.Proofs.YtlipgmaiooljkaaGreatDoor
open Go.RowKit

/-- The digits 0 .. 9, a .. f. -/
def hexS : ByteArray := ⟨#[48, 49, 50, 51, 52, 53, 54, 55, 56, 57, 97, 98, 99, 100, 101, 102]⟩
def hd (n : Nat) : UInt8 := if h : n < 16 then hexS[n]'h else 0

theorem hd_at (i : Int) (n : Nat) (h : i.toNat < 16) (hn : i.toNat = n) : ((⟨#[48, 49, 50, 51, 52, 53, 54, 55, 56, 57, 97, 98, 99, 100, 101, 102]⟩ : ByteArray)[i.toNat]'h) = hd n := by
  subst hn; unfold hd; rw [dif_pos h]; rfl

def hexL (l : List UInt8) : List UInt8 := l.flatMap fun c => [hd (c.toNat / 16), hd (c.toNat % 16)]
def hexB (a : ByteArray) : ByteArray := ⟨(hexL a.data.toList).toArray⟩

theorem hexL_len (l : List UInt8) : (hexL l).length = 2 * l.length := by
  induction l with
  | nil => rfl
  | cons c l ih => simp only [hexL, List.flatMap_cons, List.length_append] at *; rw [ih]; simp; omega

theorem hexL_append (l m : List UInt8) : hexL (l ++ m) = hexL l ++ hexL m := by simp [hexL]

theorem take_snoc (s : ByteArray) (k : Nat) (h : k < s.size) : s.data.toList.take (k + 1) = s.data.toList.take k ++ [s[k]] := by
  rw [List.take_succ_eq_append_getElem (by simpa using h)]; rfl

theorem take_all (s : ByteArray) (k : Nat) (h : s.size ≤ k) : s.data.toList.take k = s.data.toList := List.take_of_length_le (by simpa using h)

theorem hexL_snoc (s : ByteArray) (k : Nat) (h : k < s.size) : hexL (s.data.toList.take (k + 1)) = hexL (s.data.toList.take k) ++ [hd (s[k].toNat / 16), hd (s[k].toNat % 16)] := by
  rw [take_snoc s k h, hexL_append]; rfl

/-- The value of a digit; -1: it is none. -/
def digV (c : UInt8) : Int := if 48 ≤ (c.toNat : Int) ∧ (c.toNat : Int) ≤ 57 then (c.toNat : Int) - 48 else if 97 ≤ (c.toNat : Int) ∧ (c.toNat : Int) ≤ 102 then (c.toNat : Int) - 87 else -1

theorem digV_bd (c : UInt8) : -1 ≤ digV c ∧ digV c ≤ 15 := by
  unfold digV; split
  · omega
  · split <;> omega

def pairB (c d : UInt8) : UInt8 := UInt8.ofNat (16 * digV c + digV d).toNat

def unhexL : List UInt8 → Option (List UInt8)
  | [] => some []
  | [_] => none
  | c :: d :: r => if digV c < 0 ∨ digV d < 0 then none else (unhexL r).map (pairB c d :: ·)

/-- Unhex, as the document says it. -/
def unV (s : ByteArray) : Option (List UInt8) := if s.size % 2 = 0 ∧ s.size ≤ 8000 then unhexL s.data.toList else none
def unS (s : ByteArray) : ByteArray := ⟨((unV s).getD []).toArray⟩

theorem drop_two (s : ByteArray) (k : Nat) (h : k + 1 < s.size) : s.data.toList.drop k = s[k] :: s[k + 1] :: s.data.toList.drop (k + 2) := by
  have h1 : k < s.data.toList.length := by simp; omega
  have h2 : k + 1 < s.data.toList.length := by simp; omega
  rw [List.drop_eq_getElem_cons h1, List.drop_eq_getElem_cons h2]; rfl

theorem unhexL_step (s : ByteArray) (k : Nat) (l : List UInt8) (h : k + 1 < s.size) (hc : 0 ≤ digV s[k]) (hd : 0 ≤ digV s[k + 1])
    (hi : unhexL s.data.toList = (unhexL (s.data.toList.drop k)).map (l ++ ·)) :
    unhexL s.data.toList = (unhexL (s.data.toList.drop (k + 2))).map (l ++ [pairB s[k] s[k + 1]] ++ ·) := by
  rw [hi, drop_two s k h]
  simp only [unhexL]
  rw [if_neg (by omega)]
  cases unhexL (s.data.toList.drop (k + 2)) <;> simp

theorem unhexL_bad (s : ByteArray) (k : Nat) (l : List UInt8) (h : k + 1 < s.size) (hc : digV s[k] < 0 ∨ digV s[k + 1] < 0)
    (hi : unhexL s.data.toList = (unhexL (s.data.toList.drop k)).map (l ++ ·)) : unhexL s.data.toList = none := by
  rw [hi, drop_two s k h]
  simp only [unhexL]
  rw [if_pos hc]; rfl

theorem unhexL_end (s : ByteArray) (k : Nat) (l : List UInt8) (h : s.size ≤ k)
    (hi : unhexL s.data.toList = (unhexL (s.data.toList.drop k)).map (l ++ ·)) : unhexL s.data.toList = some l := by
  rw [hi, List.drop_of_length_le (by simpa using h)]; simp [unhexL]

theorem pair_mul (c d : UInt8) (hc : 0 ≤ digV c) (hd : 0 ≤ digV d) : (16 * digV c + digV d) % 256 = ((pairB c d).toNat : Int) := by
  have h1 := digV_bd c; have h2 := digV_bd d
  unfold pairB
  have : (16 * digV c + digV d).toNat < 256 := by omega
  rw [UInt8.toNat_ofNat', Nat.mod_eq_of_lt (by simpa using this)]; omega

theorem or_pair (x y : Int) (hx0 : 0 ≤ x) (hx : x ≤ 15) (hy0 : 0 ≤ y) (hy : y ≤ 15) : bits .or .i64 (x * 16) y = 16 * x + y := by
  obtain ⟨X, rfl⟩ := Int.eq_ofNat_of_zero_le hx0
  obtain ⟨Y, rfl⟩ := Int.eq_ofNat_of_zero_le hy0
  have hX : X ≤ 15 := by omega
  have hY : Y ≤ 15 := by omega
  have key : ∀ a, a ≤ 15 → ∀ b, b ≤ 15 → bits .or .i64 ((a : Nat) * 16 : Int) (b : Nat) = 16 * (a : Nat) + (b : Nat) := by decide +kernel
  exact key X hX Y hY

theorem digV_hd (n : Nat) (h : n < 16) : digV (hd n) = n := by
  have key : ∀ n, n < 16 → digV (hd n) = (n : Nat) := by decide +kernel
  exact key n h

theorem hd_digV (c : UInt8) (h : 0 ≤ digV c) : hd (digV c).toNat = c := by
  have key : ∀ n, n < 256 → 0 ≤ digV (UInt8.ofNat n) → hd (digV (UInt8.ofNat n)).toNat = UInt8.ofNat n := by decide +kernel
  have := key c.toNat c.toNat_lt
  rw [UInt8.ofNat_toNat] at this
  exact this h

theorem pair_hd (c : UInt8) : pairB (hd (c.toNat / 16)) (hd (c.toNat % 16)) = c := by
  have hlt : c.toNat < 256 := c.toNat_lt
  unfold pairB
  rw [digV_hd _ (by omega), digV_hd _ (by omega)]
  have : ((16 : Int) * ((c.toNat / 16 : Nat) : Int) + ((c.toNat % 16 : Nat) : Int)).toNat = c.toNat := by omega
  rw [this, UInt8.ofNat_toNat]

/-- A text comes back from its digits. -/
theorem unhexL_hexL (l : List UInt8) : unhexL (hexL l) = some l := by
  induction l with
  | nil => rfl
  | cons c l ih =>
    have hlt : c.toNat < 256 := c.toNat_lt
    have e : hexL (c :: l) = hd (c.toNat / 16) :: hd (c.toNat % 16) :: hexL l := rfl
    rw [e]
    simp only [unhexL]
    have h1 := digV_hd (c.toNat / 16) (by omega)
    have h2 := digV_hd (c.toNat % 16) (by omega)
    rw [if_neg (by omega), ih, pair_hd]; rfl

theorem hd_pair (c d : UInt8) (hc : 0 ≤ digV c) (hd' : 0 ≤ digV d) : hd ((pairB c d).toNat / 16) = c ∧ hd ((pairB c d).toNat % 16) = d := by
  have h1 := digV_bd c; have h2 := digV_bd d
  have hp := pair_mul c d hc hd'
  have e1 : (pairB c d).toNat / 16 = (digV c).toNat := by omega
  have e2 : (pairB c d).toNat % 16 = (digV d).toNat := by omega
  rw [e1, e2]
  exact ⟨hd_digV c hc, hd_digV d hd'⟩

/-- What is read, written again, has just its digits. -/
theorem hexL_unhexL : ∀ (t l : List UInt8), unhexL t = some l → hexL l = t
  | [], l, h => by simp [unhexL] at h; subst h; rfl
  | [_], l, h => by simp [unhexL] at h
  | c :: d :: r, l, h => by
    simp only [unhexL] at h
    by_cases hb : digV c < 0 ∨ digV d < 0
    · rw [if_pos hb] at h; cases h
    · rw [if_neg hb] at h
      obtain ⟨m, hm, rfl⟩ := Option.map_eq_some_iff.1 h
      have ih := hexL_unhexL r m hm
      have hp := hd_pair c d (by omega) (by omega)
      have e : hexL (pairB c d :: m) = hd ((pairB c d).toNat / 16) :: hd ((pairB c d).toNat % 16) :: hexL m := rfl
      rw [e, hp.1, hp.2, ih]

theorem unhexL_len : ∀ (t l : List UInt8), unhexL t = some l → t.length = 2 * l.length := by
  intro t l h
  rw [← hexL_unhexL t l h, hexL_len]
end Go.Proofs.YtlipgmaiooljkaaGreatDoor

namespace Go.Proofs.YtlipgmaiooljkaaGreatDoor
open Go.RowKit

/-- The lowest eight bits. -/
def lowB (y : Int) : UInt8 := UInt8.ofNat (y % 256).toNat
theorem lowB_toNat (y : Int) : ((lowB y).toNat : Int) = y % 256 := by
  unfold lowB
  have : (y % 256).toNat < 256 := by omega
  rw [UInt8.toNat_ofNat', Nat.mod_eq_of_lt (by simpa using this)]; omega
theorem bc_lowB (y : Int) : bc (lowB y) = .int .u8 (y % 256) := by unfold bc; rw [lowB_toNat]

def isW (n : Int) : Bool := decide (0 ≤ n ∧ n ≤ 4294967295)

/-- The four bytes of a word, the lowest first. -/
def le4 (x : Int) : List UInt8 := [lowB x, lowB (x / 256), lowB (x / 65536), lowB (x / 16777216)]
theorem le4_cells (x : Int) : [Value.int .u8 (IntKind.u8.wrap x), .int .u8 (IntKind.u8.wrap (x / 256)), .int .u8 (IntKind.u8.wrap (x / 65536)), .int .u8 (IntKind.u8.wrap (x / 16777216))] = (le4 x).map bc := by
  simp only [le4, List.map_cons, List.map_nil, bc_lowB, IntKind.wrap_u8']
theorem le4_snoc (x : Int) (k : Nat) (h : k < 4) : (le4 x).take (k + 1) = (le4 x).take k ++ [lowB (x / 2 ^ (8 * k))] := by
  match k, h with
  | 0, _ => simp [le4]
  | 1, _ => rfl
  | 2, _ => rfl
  | 3, _ => rfl

def storeL (zs : List Int) : List UInt8 := zs.flatMap le4
theorem storeL_len (zs : List Int) : (storeL zs).length = 4 * zs.length := by
  induction zs with
  | nil => rfl
  | cons z zs ih => simp only [storeL, List.flatMap_cons, List.length_append] at *; rw [ih]; simp [le4]; omega
theorem storeL_append (xs ys : List Int) : storeL (xs ++ ys) = storeL xs ++ storeL ys := by simp [storeL]
theorem storeL_snoc (zs : List Int) (k : Nat) (h : k < zs.length) : storeL (zs.take (k + 1)) = storeL (zs.take k) ++ le4 zs[k] := by
  rw [List.take_succ_eq_append_getElem h, storeL_append]; simp [storeL]

/-- StoreLe, as the document says it. -/
def stR (zs : List Int) : ByteArray := if zs.length ≤ 1000 ∧ zs.all isW = true then ⟨(storeL zs).toArray⟩ else ⟨#[]⟩

/-- The word of four bytes. -/
def le1 (a b c d : UInt8) : Int := (a.toNat : Int) + 256 * (b.toNat : Int) + 65536 * (c.toNat : Int) + 16777216 * (d.toNat : Int)
theorem le1_bd (a b c d : UInt8) : 0 ≤ le1 a b c d ∧ le1 a b c d ≤ 4294967295 := by
  have := a.toNat_lt; have := b.toNat_lt; have := c.toNat_lt; have := d.toNat_lt
  unfold le1; omega
def loadL : List UInt8 → List Int
  | a :: b :: c :: d :: r => le1 a b c d :: loadL r
  | _ => []
theorem loadL_len : ∀ (l : List UInt8), (loadL l).length = l.length / 4
  | [] => rfl
  | [_] => by simp [loadL]
  | [_, _] => by simp [loadL]
  | [_, _, _] => by simp [loadL]
  | a :: b :: c :: d :: r => by
    have := loadL_len r
    simp only [loadL, List.length_cons, this]; omega
theorem loadL_words : ∀ (l : List UInt8), ∀ n ∈ loadL l, 0 ≤ n ∧ n ≤ 4294967295
  | [], n, h => by simp [loadL] at h
  | [_], n, h => by simp [loadL] at h
  | [_, _], n, h => by simp [loadL] at h
  | [_, _, _], n, h => by simp [loadL] at h
  | a :: b :: c :: d :: r, n, h => by
    simp only [loadL, List.mem_cons] at h
    rcases h with rfl | h
    · exact le1_bd a b c d
    · exact loadL_words r n h

theorem lowB_eq (y : Int) (c : UInt8) (h : y % 256 = (c.toNat : Int)) : lowB y = c := by
  unfold lowB; rw [h]; simp
theorem le4_le1 (a b c d : UInt8) : le4 (le1 a b c d) = [a, b, c, d] := by
  have h1 := a.toNat_lt; have h2 := b.toNat_lt; have h3 := c.toNat_lt; have h4 := d.toNat_lt
  unfold le4
  rw [lowB_eq (le1 a b c d) a (by unfold le1; omega), lowB_eq (le1 a b c d / 256) b (by unfold le1; omega), lowB_eq (le1 a b c d / 65536) c (by unfold le1; omega), lowB_eq (le1 a b c d / 16777216) d (by unfold le1; omega)]
theorem le1_le4 (x : Int) (h0 : 0 ≤ x) (h1 : x ≤ 4294967295) : le1 (lowB x) (lowB (x / 256)) (lowB (x / 65536)) (lowB (x / 16777216)) = x := by
  unfold le1; simp only [lowB_toNat]; omega
/-- Words come back from their bytes. -/
theorem loadL_storeL : ∀ (zs : List Int), (∀ n ∈ zs, 0 ≤ n ∧ n ≤ 4294967295) → loadL (storeL zs) = zs
  | [], _ => rfl
  | z :: zs, h => by
    have hz := h z (by simp)
    have e : storeL (z :: zs) = lowB z :: lowB (z / 256) :: lowB (z / 65536) :: lowB (z / 16777216) :: storeL zs := rfl
    rw [e]
    simp only [loadL]
    rw [le1_le4 z hz.1 hz.2, loadL_storeL zs (fun n hn => h n (by simp [hn]))]
theorem storeL_loadL : ∀ (l : List UInt8), l.length % 4 = 0 → storeL (loadL l) = l
  | [], _ => rfl
  | [_], h => by simp at h
  | [_, _], h => by simp at h
  | [_, _, _], h => by simp at h
  | a :: b :: c :: d :: r, h => by
    have ih := storeL_loadL r (by simp at h; omega)
    have e : storeL (loadL (a :: b :: c :: d :: r)) = le4 (le1 a b c d) ++ storeL (loadL r) := rfl
    rw [e, le4_le1, ih]; rfl

/-- LoadLe, as the document says it. -/
def ldR (s : ByteArray) : List Int := if s.size % 4 = 0 ∧ s.size ≤ 4000 then loadL s.data.toList else []

theorem loadL_get : ∀ (l : List UInt8) (k : Nat) (h : 4 * k + 3 < l.length), (loadL l)[k]? = some (le1 l[4 * k] l[4 * k + 1] l[4 * k + 2] l[4 * k + 3])
  | [], k, h => by simp at h
  | [_], k, h => by simp at h
  | [_, _], k, h => by simp at h; omega
  | [_, _, _], k, h => by simp at h; omega
  | a :: b :: c :: d :: r, 0, h => by simp [loadL]
  | a :: b :: c :: d :: r, k + 1, h => by
    have ih := loadL_get r k (by simp at h; omega)
    simp only [loadL, List.getElem?_cons_succ, ih]
    rfl

theorem or_shift (x y : Nat) (j : Nat) (hx : x < 2 ^ j) : x ||| (y * 2 ^ j) = x + y * 2 ^ j := by
  rw [Nat.or_comm, Nat.mul_comm, ← Nat.two_pow_add_eq_or_of_lt hx]; omega

theorem or32 (x y : Int) (X Y j : Nat) (hx : x = X) (hy : y = Y * 2 ^ j) (hX : X < 2 ^ j) (hj : X + Y * 2 ^ j < 4294967296) : bits .or .u32 x y = ((X + Y * 2 ^ j : Nat) : Int) := by
  subst hx hy
  have e : ((Y : Int) * 2 ^ j) = ((Y * 2 ^ j : Nat) : Int) := by simp
  rw [e, u32_or _ _ (by omega) (by omega) (by omega) (by omega)]
  rw [Int.toNat_natCast, Int.toNat_natCast, or_shift X Y j hX]

theorem or4 (a b c d : UInt8) : bits .or .u32 (bits .or .u32 (bits .or .u32 ((a.toNat : Int) % 4294967296) ((b.toNat : Int) % 4294967296 * 256 % 4294967296)) ((c.toNat : Int) % 4294967296 * 65536 % 4294967296)) ((d.toNat : Int) % 4294967296 * 16777216 % 4294967296) = le1 a b c d := by
  have h1 := a.toNat_lt; have h2 := b.toNat_lt; have h3 := c.toNat_lt; have h4 := d.toNat_lt
  rw [or32 ((a.toNat : Int) % 4294967296) ((b.toNat : Int) % 4294967296 * 256 % 4294967296) a.toNat b.toNat 8 (by omega) (by omega) (by omega) (by omega)]
  rw [or32 _ ((c.toNat : Int) % 4294967296 * 65536 % 4294967296) (a.toNat + b.toNat * 2 ^ 8) c.toNat 16 rfl (by omega) (by omega) (by omega)]
  rw [or32 _ _ (a.toNat + b.toNat * 2 ^ 8 + c.toNat * 2 ^ 16) d.toNat 24 rfl (by omega) (by omega) (by omega)]
  unfold le1; omega

/-- The word of the first k of four bytes. -/
def wpart (f : Nat → Nat) : Nat → Nat
  | 0 => 0
  | k + 1 => wpart f k + f k * 2 ^ (8 * k)
theorem wpart_lt (f : Nat → Nat) (hf : ∀ j, f j < 256) : ∀ k, wpart f k < 2 ^ (8 * k)
  | 0 => by simp [wpart]
  | k + 1 => by
    have ih := wpart_lt f hf k
    have h := hf k
    have e : 2 ^ (8 * (k + 1)) = 256 * 2 ^ (8 * k) := by rw [show 8 * (k + 1) = 8 + 8 * k by omega, Nat.pow_add]
    have h1 : f k * 2 ^ (8 * k) ≤ 255 * 2 ^ (8 * k) := Nat.mul_le_mul_right _ (by omega)
    simp only [wpart]; rw [e]; omega
theorem wpart_step (f : Nat → Nat) (hf : ∀ j, f j < 256) (k : Nat) (hk : k < 4) :
    bits .or .u32 (wpart f k : Int) (((f k : Nat) : Int) % 4294967296 * 2 ^ (8 * k) % 4294967296) = (wpart f (k + 1) : Int) := by
  have h := hf k
  have hw := wpart_lt f hf k
  have hw1 := wpart_lt f hf (k + 1)
  have hp : 2 ^ (8 * (k + 1)) ≤ 2 ^ 32 := Nat.pow_le_pow_right (by decide) (by omega)
  have h2 : wpart f (k + 1) < 4294967296 := Nat.lt_of_lt_of_le hw1 hp
  simp only [wpart] at h2
  have e1 : ((f k : Nat) : Int) % 4294967296 = ((f k : Nat) : Int) := by omega
  have e2 : ((f k : Nat) : Int) * 2 ^ (8 * k) = ((f k * 2 ^ (8 * k) : Nat) : Int) := by simp
  have e3 : ((f k * 2 ^ (8 * k) : Nat) : Int) % 4294967296 = ((f k * 2 ^ (8 * k) : Nat) : Int) := by omega
  rw [e1, e2, e3]
  exact or32 _ _ (wpart f k) (f k) (8 * k) rfl (by simp) hw h2
def byteAt (s : ByteArray) (n : Nat) : Nat := if h : n < s.size then s[n].toNat else 0
theorem byteAt_lt (s : ByteArray) (n : Nat) : byteAt s n < 256 := by
  unfold byteAt; split
  · exact s[n].toNat_lt
  · omega
theorem wpart_four (s : ByteArray) (p : Nat) (hp : 4 * p + 3 < s.size) : (wpart (fun j => byteAt s (p * 4 + j)) 4 : Int) = le1 s[4 * p] s[4 * p + 1] s[4 * p + 2] s[4 * p + 3] := by
  have e : p * 4 = 4 * p := by omega
  simp only [wpart, byteAt, e]
  rw [dif_pos (by omega), dif_pos (by omega), dif_pos (by omega), dif_pos (by omega)]
  unfold le1
  simp
  omega

theorem all_take_step (zs : List Int) (k : Nat) (h : k < zs.length) : (zs.take (k + 1)).all isW = ((zs.take k).all isW && isW zs[k]) := by
  rw [List.take_succ_eq_append_getElem h, List.all_append]; simp
theorem all_of_bad (zs : List Int) (k : Nat) (h : k < zs.length) (hb : isW zs[k] = false) : zs.all isW = false := by
  rw [List.all_eq_false]; exact ⟨zs[k], List.getElem_mem h, by simp [hb]⟩
theorem isW_true {n : Int} (h0 : 0 ≤ n) (h1 : n ≤ 4294967295) : isW n = true := by simp [isW, h0, h1]
theorem isW_false {n : Int} (h : ¬ (0 ≤ n ∧ n ≤ 4294967295)) : isW n = false := by simp [isW]; omega
theorem of_all {zs : List Int} (h : zs.all isW = true) : ∀ n ∈ zs, 0 ≤ n ∧ n ≤ 4294967295 := by
  intro n hn
  have := List.all_eq_true.1 h n hn
  simpa [isW] using this
end Go.Proofs.YtlipgmaiooljkaaGreatDoor

namespace Go.Proofs.YtlipgmaiooljkaaGreatDoor
open Go.RowKit

/-- The byte of a stream of blocks at a place. -/
def ksB (f : Nat → List UInt8) (i : Nat) : UInt8 := (f (i / 64)).getD (i % 64) 0
/-- A text, with what the blocks make of it. -/
def strmL (f : Nat → List UInt8) (t : List UInt8) : List UInt8 := t.mapIdx fun i b => b ^^^ ksB f i
theorem strmL_len (f : Nat → List UInt8) (t : List UInt8) : (strmL f t).length = t.length := by simp [strmL]
theorem strmL_get (f : Nat → List UInt8) (t : List UInt8) (i : Nat) (h : i < t.length) : (strmL f t)[i]'(by rw [strmL_len]; exact h) = t[i] ^^^ ksB f i := by simp [strmL]
theorem strmL_step (f : Nat → List UInt8) (t : List UInt8) (k : Nat) (hf : (f k).length = 64) (h : 64 * k < t.length) :
    (strmL f t).take (64 * (k + 1)) = (strmL f t).take (64 * k) ++ xorL ((t.drop (64 * k)).take 64) (f k) := by
  apply List.ext_getElem
  · simp [strmL, xorL, hf]; omega
  · intro i h1 h2
    have hi : i < t.length := by simp [strmL] at h1; omega
    have hi2 : i < 64 * (k + 1) := by simp [strmL] at h1; omega
    rw [List.getElem_take, strmL_get f t i hi]
    by_cases hlt : i < 64 * k
    · rw [List.getElem_append_left (by simp [strmL]; omega), List.getElem_take, strmL_get f t i hi]
    · have hl : ((strmL f t).take (64 * k)).length = 64 * k := by simp [strmL]; omega
      rw [List.getElem_append_right (by omega)]
      have e1 : i / 64 = k := by omega
      have e2 : i % 64 = i - 64 * k := by omega
      have e3 : i - 64 * k < (f k).length := by omega
      simp only [xorL, List.getElem_zipWith, List.getElem_take, List.getElem_drop, hl]
      unfold ksB
      rw [e1, e2, List.getD_eq_getElem?_getD, List.getElem?_eq_getElem e3]
      simp only [show 64 * k + (i - 64 * k) = i by omega, Option.getD_some]
theorem xor_twice8 (x y : UInt8) : x ^^^ y ^^^ y = x := by rw [UInt8.xor_assoc, UInt8.xor_self, UInt8.xor_zero]
theorem strmL_twice (f : Nat → List UInt8) (t : List UInt8) : strmL f (strmL f t) = t := by
  apply List.ext_getElem
  · simp [strmL]
  · intro i h1 h2
    rw [strmL_get f _ i (by rw [strmL_len]; exact h2), strmL_get f t i h2, xor_twice8]
theorem strmL_drop (f : Nat → List UInt8) (t : List UInt8) : (strmL f t).drop 64 = strmL (fun j => f (j + 1)) (t.drop 64) := by
  apply List.ext_getElem
  · simp [strmL]
  · intro i h1 h2
    have hi : 64 + i < t.length := by simp [strmL] at h1; omega
    rw [List.getElem_drop, strmL_get f t _ hi, strmL_get _ _ i (by simp; omega), List.getElem_drop]
    unfold ksB
    rw [show (64 + i) / 64 = i / 64 + 1 by omega, show (64 + i) % 64 = i % 64 by omega]
theorem strmL_noughts (f : Nat → List UInt8) (hf : (f 0).length = 64) : strmL f (List.replicate 64 0) = f 0 := by
  apply List.ext_getElem
  · simp [strmL, hf]
  · intro i h1 h2
    have hi : i < 64 := by omega
    rw [strmL_get f _ i (by simp; omega)]
    unfold ksB
    rw [show i / 64 = 0 by omega, show i % 64 = i by omega, List.getD_eq_getElem?_getD, List.getElem?_eq_getElem h2, List.getElem_replicate, Option.getD_some, UInt8.zero_xor]
theorem strmL_xor (f : Nat → List UInt8) (t u : List UInt8) (h : t.length = u.length) : strmL f (xorL t u) = xorL (strmL f t) u := by
  apply List.ext_getElem
  · simp [strmL, xorL]
  · intro i h1 h2
    have hi : i < t.length := by simp [strmL, xorL] at h1; omega
    have hu : i < u.length := by omega
    rw [strmL_get f _ i (by simp [xorL]; omega)]
    simp only [xorL, List.getElem_zipWith]
    rw [strmL_get f t i hi, UInt8.xor_assoc, UInt8.xor_comm u[i], ← UInt8.xor_assoc]
theorem xorL_take (a b : List UInt8) : xorL a (b.take a.length) = xorL a b := by
  apply List.ext_getElem
  · simp [xorL]
  · intro i h1 h2
    simp [xorL]
end Go.Proofs.YtlipgmaiooljkaaGreatDoor

namespace Go.Proofs.YtlipgmaiooljkaaGreatDoor
open Go.RowKit
set_option linter.unusedVariables false

/-- A word with its bytes turned round. -/
def rev32 (x : Int) : Int := le1 (lowB (x / 16777216)) (lowB (x / 65536)) (lowB (x / 256)) (lowB x)
def be4 (x : Int) : List UInt8 := [lowB (x / 16777216), lowB (x / 65536), lowB (x / 256), lowB x]
theorem le4_rev (x : Int) : le4 (rev32 x) = be4 x := le4_le1 _ _ _ _
theorem rev_le1 (a b c d : UInt8) : rev32 (le1 a b c d) = le1 d c b a := by
  have h := le4_le1 a b c d
  unfold le4 at h
  simp only [List.cons.injEq, and_true] at h
  obtain ⟨h1, h2, h3, h4⟩ := h
  unfold rev32; rw [h1, h2, h3, h4]
theorem rev_bd (x : Int) : 0 ≤ rev32 x ∧ rev32 x ≤ 4294967295 := le1_bd _ _ _ _
theorem rev_rev (x : Int) (h0 : 0 ≤ x) (h1 : x ≤ 4294967295) : rev32 (rev32 x) = x := by
  unfold rev32
  have := rev_le1 (lowB (x / 16777216)) (lowB (x / 65536)) (lowB (x / 256)) (lowB x)
  unfold rev32 at this
  rw [this]
  exact le1_le4 x h0 h1

theorem and_half (n m : Nat) : n &&& m = (n % 65536 &&& m % 65536) + 65536 * (n / 65536 &&& m / 65536) := by
  have h1 : (n &&& m) % 65536 = n % 65536 &&& m % 65536 := Nat.and_mod_two_pow (n := 16)
  have h2 : (n &&& m) / 65536 = n / 65536 &&& m / 65536 := Nat.and_div_two_pow (n := 16)
  rw [← h1, ← h2]; omega
theorem or_half (n m : Nat) : n ||| m = (n % 65536 ||| m % 65536) + 65536 * (n / 65536 ||| m / 65536) := by
  have h1 : (n ||| m) % 65536 = n % 65536 ||| m % 65536 := Nat.or_mod_two_pow (n := 16)
  have h2 : (n ||| m) / 65536 = n / 65536 ||| m / 65536 := Nat.or_div_two_pow (n := 16)
  rw [← h1, ← h2]; omega
theorem and_ff (n : Nat) : n &&& 255 = n % 256 := Nat.and_two_pow_sub_one_eq_mod n 8
theorem and_ff00ff (n : Nat) : n &&& 16711935 = n % 256 + 65536 * (n / 65536 % 256) := by
  rw [and_half, show 16711935 % 65536 = 255 from rfl, show 16711935 / 65536 = 255 from rfl, and_ff, and_ff]; omega
theorem or_bytes (b d a c : Nat) (hb : b < 256) (hd : d < 256) (ha : a < 256) (hc : c < 256) : (b + 65536 * d) ||| (256 * a + 16777216 * c) = b + 256 * a + 65536 * (d + 256 * c) := by
  rw [or_half, show (b + 65536 * d) % 65536 = b by omega, show (256 * a + 16777216 * c) % 65536 = a * 2 ^ 8 by omega, show (b + 65536 * d) / 65536 = d by omega, show (256 * a + 16777216 * c) / 65536 = c * 2 ^ 8 by omega, or_shift b a 8 hb, or_shift d c 8 hd]
  omega
/-- The bytes turned round by shifts and masks. -/
def revMid (x : Int) : Int := bits .or .u32 (bits .and .u32 (x / 256) 16711935) (bits .and .u32 x 16711935 * 256 % 4294967296)
theorem revMid_eq (n : Nat) (h : n < 4294967296) : revMid (n : Int) = ((n / 256 % 256 + 256 * (n % 256) + 65536 * (n / 16777216 + 256 * (n / 65536 % 256)) : Nat) : Int) := by
  unfold revMid
  have e1 : bits .and .u32 ((n : Int) / 256) 16711935 = ((n / 256 % 256 + 65536 * (n / 16777216) : Nat) : Int) := by
    rw [u32_and _ _ (by omega) (by omega) (by omega) (by omega)]
    rw [show ((n : Int) / 256).toNat = n / 256 by omega, show (16711935 : Int).toNat = 16711935 from rfl, and_ff00ff]
    omega
  have e2 : bits .and .u32 (n : Int) 16711935 = ((n % 256 + 65536 * (n / 65536 % 256) : Nat) : Int) := by
    rw [u32_and _ _ (by omega) (by omega) (by omega) (by omega)]
    rw [Int.toNat_natCast, show (16711935 : Int).toNat = 16711935 from rfl, and_ff00ff]
  rw [e1, e2]
  have e3 : ((n % 256 + 65536 * (n / 65536 % 256) : Nat) : Int) * 256 % 4294967296 = ((256 * (n % 256) + 16777216 * (n / 65536 % 256) : Nat) : Int) := by omega
  rw [e3, u32_or _ _ (by omega) (by omega) (by omega) (by omega), Int.toNat_natCast, Int.toNat_natCast]
  rw [or_bytes _ _ _ _ (by omega) (by omega) (by omega) (by omega)]
theorem rev_eq (x : Int) (h0 : 0 ≤ x) (h1 : x ≤ 4294967295) : bits .or .u32 (revMid x / 65536) (revMid x * 65536 % 4294967296) = rev32 x := by
  obtain ⟨n, rfl⟩ := Int.eq_ofNat_of_zero_le h0
  rw [revMid_eq n (by omega)]
  rw [or32 _ _ (n / 16777216 + 256 * (n / 65536 % 256)) (n / 256 % 256 + 256 * (n % 256)) 16 (by omega) (by omega) (by omega) (by omega)]
  unfold rev32 le1
  rw [lowB_toNat, lowB_toNat, lowB_toNat, lowB_toNat]
  omega

/-- Words, the highest byte of each first. -/
def beL (l : List UInt8) : List Int := (loadL l).map rev32
theorem beL_len (l : List UInt8) : (beL l).length = l.length / 4 := by unfold beL; rw [List.length_map, loadL_len]
def stoB (zs : List Int) : List UInt8 := zs.flatMap be4
theorem stoB_len (zs : List Int) : (stoB zs).length = 4 * zs.length := by
  induction zs with
  | nil => rfl
  | cons x xs ih => simp only [stoB, List.flatMap_cons, List.length_append, List.length_cons] at *; rw [ih]; simp [be4]; omega
theorem stoB_snoc (zs : List Int) (k : Nat) (h : k < zs.length) : stoB (zs.take (k + 1)) = stoB (zs.take k) ++ be4 zs[k] := by
  unfold stoB; rw [List.take_succ_eq_append_getElem h, List.flatMap_append]; simp only [List.flatMap_cons, List.flatMap_nil, List.append_nil]
theorem stoB_store (zs : List Int) : stoB zs = storeL (zs.map rev32) := by
  induction zs with
  | nil => rfl
  | cons x xs ih => simp only [stoB, storeL, List.flatMap_cons, List.map_cons] at *; rw [ih, le4_rev]
theorem beL_words (l : List UInt8) : ∀ n ∈ beL l, 0 ≤ n ∧ n ≤ 4294967295 := by
  intro n hn
  unfold beL at hn
  obtain ⟨x, _, rfl⟩ := List.mem_map.1 hn
  exact rev_bd x
theorem beL_stoB (zs : List Int) (h : ∀ n ∈ zs, 0 ≤ n ∧ n ≤ 4294967295) : beL (stoB zs) = zs := by
  unfold beL
  rw [stoB_store, loadL_storeL _ (by intro n hn; obtain ⟨x, _, rfl⟩ := List.mem_map.1 hn; exact rev_bd x), List.map_map]
  have : ∀ x ∈ zs, (rev32 ∘ rev32) x = id x := fun x hx => rev_rev x (h x hx).1 (h x hx).2
  rw [List.map_congr_left this, List.map_id]
theorem beL_get (l : List UInt8) (k : Nat) (h : 4 * k + 3 < l.length) : (beL l)[k]? = some (le1 l[4 * k + 3] l[4 * k + 2] l[4 * k + 1] l[4 * k]) := by
  unfold beL
  rw [List.getElem?_map, loadL_get l k h, Option.map_some, rev_le1]
end Go.Proofs.YtlipgmaiooljkaaGreatDoor

namespace Go.Proofs.YtlipgmaiooljkaaGreatDoor

theorem ba_eq {a b : ByteArray} (h : a.data.toList = b.data.toList) : a = b := by
  cases a; cases b; simp at h; simp [h]
theorem str_eq (a b : ByteArray) : (a.toList == b.toList) = decide (a = b) := by
  rw [ByteArray.toList_eq, ByteArray.toList_eq]
  by_cases h : a = b
  · subst h; simp
  · have : a.data.toList ≠ b.data.toList := fun e => h (ba_eq e)
    rw [decide_eq_false h]
    exact beq_eq_false_iff_ne.2 this
theorem str_ne (a b : ByteArray) : (a.toList != b.toList) = decide (a ≠ b) := by
  unfold bne; rw [str_eq]; simp
theorem str_empty (a : ByteArray) : a.toList = [] ↔ a.size = 0 := by
  rw [ByteArray.toList_eq]
  constructor
  · intro h
    have := congrArg List.length h
    simpa using this
  · intro h
    exact List.eq_nil_of_length_eq_zero (by simpa using h)
end Go.Proofs.YtlipgmaiooljkaaGreatDoor

/- PlainB -/
namespace Go.Proofs.YtlipgmaiooljkaaGreatDoor
open Go.RowKit

/-- The number of bytes, the lowest first. -/
def leNat : List UInt8 → Nat
  | [] => 0
  | c :: l => c.toNat + 256 * leNat l
/-- So many bytes of a number, the lowest first. -/
def leBy : Nat → Nat → List UInt8
  | 0, _ => []
  | n + 1, v => UInt8.ofNat (v % 256) :: leBy n (v / 256)
theorem leBy_len : ∀ (n v : Nat), (leBy n v).length = n
  | 0, _ => rfl
  | n + 1, v => by simp [leBy, leBy_len n]
theorem leNat_lt : ∀ (l : List UInt8), leNat l < 256 ^ l.length
  | [] => by simp [leNat]
  | c :: l => by
    have := leNat_lt l
    have := c.toNat_lt
    simp only [leNat, List.length_cons, Nat.pow_succ]
    omega
theorem ofNat_toNat8 (x : Nat) (h : x < 256) : (UInt8.ofNat x).toNat = x := by
  rw [UInt8.toNat_ofNat', Nat.mod_eq_of_lt (by simpa using h)]
theorem leNat_leBy : ∀ (n v : Nat), leNat (leBy n v) = v % 256 ^ n
  | 0, v => by simp [leNat, leBy, Nat.mod_one]
  | n + 1, v => by
    have ih := leNat_leBy n (v / 256)
    simp only [leBy, leNat, ih]
    rw [ofNat_toNat8 _ (by omega), Nat.pow_succ, Nat.mul_comm (256 ^ n) 256, Nat.mod_mul]
theorem leBy_leNat : ∀ (l : List UInt8), leBy l.length (leNat l) = l
  | [] => rfl
  | c :: l => by
    have h := c.toNat_lt
    simp only [List.length_cons, leBy, leNat]
    rw [show (c.toNat + 256 * leNat l) % 256 = c.toNat by omega, show (c.toNat + 256 * leNat l) / 256 = leNat l by omega, leBy_leNat l]
    simp
theorem leNat_append : ∀ (a b : List UInt8), leNat (a ++ b) = leNat a + 256 ^ a.length * leNat b
  | [], b => by simp [leNat]
  | c :: a, b => by
    have ih := leNat_append a b
    simp only [List.cons_append, leNat, ih, List.length_cons, Nat.pow_succ]
    rw [Nat.mul_comm (256 ^ a.length) 256, Nat.mul_add, Nat.mul_assoc]; omega
theorem leBy_snoc : ∀ (n v : Nat), leBy (n + 1) v = leBy n v ++ [UInt8.ofNat (v / 256 ^ n % 256)]
  | 0, v => by simp [leBy]
  | n + 1, v => by
    have ih := leBy_snoc n (v / 256)
    rw [leBy, ih]
    simp only [leBy, List.cons_append]
    rw [Nat.div_div_eq_div_mul, Nat.pow_succ, Nat.mul_comm 256 (256 ^ n)]
theorem leBy_mod (n v : Nat) : leBy n (v % 256 ^ n) = leBy n v := by
  have h := leBy_leNat (leBy n v)
  rw [leBy_len, leNat_leBy] at h
  exact h
theorem leNat_inj {a b : List UInt8} (hl : a.length = b.length) (h : leNat a = leNat b) : a = b := by
  rw [← leBy_leNat a, ← leBy_leNat b, hl, h]

/-- The prime. -/
def prm : Nat := 1361129467683753853853498429727072845819
theorem prm_pos : 0 < prm := by unfold prm; omega
/-- One of the five parts of a number. -/
def part (j v : Nat) : Nat := v / 2 ^ (26 * j) % 67108864
def val5 (a b c d e : Nat) : Nat := a + 67108864 * b + 4503599627370496 * c + 302231454903657293676544 * d + 20282409603651670423947251286016 * e
def partsL (v : Nat) : List Int := [(part 0 v : Int), (part 1 v : Int), (part 2 v : Int), (part 3 v : Int), (part 4 v : Int)]
theorem part_lt (j v : Nat) : part j v < 67108864 := Nat.mod_lt _ (by decide)
theorem val_parts (v : Nat) (h : v < 1361129467683753853853498429727072845824) : val5 (part 0 v) (part 1 v) (part 2 v) (part 3 v) (part 4 v) = v := by
  unfold val5 part
  simp only [Nat.reduceMul, Nat.reducePow]
  omega
theorem parts_val (a b c d e : Nat) (ha : a < 67108864) (hb : b < 67108864) (hc : c < 67108864) (hd : d < 67108864) (he : e < 67108864) :
    part 0 (val5 a b c d e) = a ∧ part 1 (val5 a b c d e) = b ∧ part 2 (val5 a b c d e) = c ∧ part 3 (val5 a b c d e) = d ∧ part 4 (val5 a b c d e) = e := by
  unfold val5 part
  simp only [Nat.reduceMul, Nat.reducePow]
  refine ⟨?_, ?_, ?_, ?_, ?_⟩ <;> omega
theorem val_lt (a b c d e : Nat) (ha : a < 67108864) (hb : b < 67108864) (hc : c < 67108864) (hd : d < 67108864) (he : e < 67108864) : val5 a b c d e < 1361129467683753853853498429727072845824 := by
  unfold val5; omega

/-- What goes beyond 26 bits of each part, added to the next one; of the last one five times to the first. -/
structure Num5 where
  a : Nat
  b : Nat
  c : Nat
  d : Nat
  e : Nat
def Num5.val (x : Num5) : Nat := val5 x.a x.b x.c x.d x.e
def cb (x : Num5) : Nat := x.b + x.a / 67108864
def cc (x : Num5) : Nat := x.c + cb x / 67108864
def cd (x : Num5) : Nat := x.d + cc x / 67108864
def ce (x : Num5) : Nat := x.e + cd x / 67108864
def carry (x : Num5) : Num5 := ⟨x.a % 67108864 + 5 * (ce x / 67108864), cb x % 67108864, cc x % 67108864, cd x % 67108864, ce x % 67108864⟩
theorem carry_val (x : Num5) : (carry x).val + prm * (ce x / 67108864) = x.val := by
  unfold Num5.val val5 carry prm ce cd cc cb
  dsimp only
  omega
theorem carry_mod (x : Num5) : (carry x).val % prm = x.val % prm := by
  rw [← carry_val x, Nat.add_mul_mod_self_left]
/-- Each part below a bound. -/
def Num5.bd (x : Num5) (A B : Nat) : Prop := x.a < A ∧ x.b < B ∧ x.c < B ∧ x.d < B ∧ x.e < B
theorem carry_bd1 {x : Num5} (h : x.bd 576460752303423488 576460752303423488) : (carry x).bd 85966454784 67108864 := by
  obtain ⟨h1, h2, h3, h4, h5⟩ := h
  unfold Num5.bd carry
  dsimp only
  have e1 : cb x < 576460760893358080 := by unfold cb; omega
  have e2 : cc x < 576460760893358209 := by unfold cc; omega
  have e3 : cd x < 576460760893358209 := by unfold cd; omega
  have e4 : ce x < 576460760893358209 := by unfold ce; omega
  omega
theorem carry_bd2 {x : Num5} (h : x.bd 85966454784 67108864) : (carry x).bd 67108869 67108864 := by
  obtain ⟨h1, h2, h3, h4, h5⟩ := h
  unfold Num5.bd carry
  dsimp only
  have e1 : cb x < 67110145 := by unfold cb; omega
  have e2 : cc x < 67108865 := by unfold cc; omega
  have e3 : cd x < 67108865 := by unfold cd; omega
  have e4 : ce x < 67108865 := by unfold ce; omega
  omega
theorem carry_bd3 {x : Num5} (h : x.bd 67108869 67108864) : (carry x).bd 67108864 67108864 := by
  obtain ⟨h1, h2, h3, h4, h5⟩ := h
  unfold Num5.bd carry
  dsimp only
  have e1 : cb x < 67108865 := by unfold cb; omega
  have e2 : cc x < 67108865 := by unfold cc; omega
  have e3 : cd x < 67108865 := by unfold cd; omega
  have e4 : ce x < 67108865 := by unfold ce; omega
  by_cases h6 : x.a < 67108864
  · have : x.a / 67108864 = 0 := by omega
    have g1 : cb x < 67108864 := by unfold cb; omega
    have g2 : cc x < 67108864 := by unfold cc; omega
    have g3 : cd x < 67108864 := by unfold cd; omega
    have g4 : ce x < 67108864 := by unfold ce; omega
    omega
  · omega
def carry3 (x : Num5) : Num5 := carry (carry (carry x))
theorem carry3_bd {x : Num5} (h : x.bd 576460752303423488 576460752303423488) : (carry3 x).bd 67108864 67108864 := carry_bd3 (carry_bd2 (carry_bd1 h))
theorem carry3_mod (x : Num5) : (carry3 x).val % prm = x.val % prm := by unfold carry3; rw [carry_mod, carry_mod, carry_mod]
theorem bd_val {x : Num5} (h : x.bd 67108864 67108864) : x.val < 1361129467683753853853498429727072845824 := val_lt _ _ _ _ _ h.1 h.2.1 h.2.2.1 h.2.2.2.1 h.2.2.2.2
def Num5.list (x : Num5) : List Int := [(x.a : Int), (x.b : Int), (x.c : Int), (x.d : Int), (x.e : Int)]
theorem partsL_val {x : Num5} (h : x.bd 67108864 67108864) : partsL x.val = x.list := by
  obtain ⟨h1, h2, h3, h4, h5⟩ := h
  obtain ⟨g1, g2, g3, g4, g5⟩ := parts_val x.a x.b x.c x.d x.e h1 h2 h3 h4 h5
  unfold partsL Num5.list Num5.val
  rw [g1, g2, g3, g4, g5]
/-- A number and its parts. -/
def num5 (v : Nat) : Num5 := ⟨part 0 v, part 1 v, part 2 v, part 3 v, part 4 v⟩
theorem num5_val (v : Nat) (h : v < 1361129467683753853853498429727072845824) : (num5 v).val = v := val_parts v h
theorem num5_bd (v : Nat) : (num5 v).bd 67108864 67108864 := ⟨part_lt _ _, part_lt _ _, part_lt _ _, part_lt _ _, part_lt _ _⟩
theorem num5_list (v : Nat) : (num5 v).list = partsL v := rfl
/-- What is left by the prime. -/
theorem small_mod {x : Num5} (h : x.bd 67108864 67108864) (h1 : ¬ (67108859 ≤ x.a ∧ x.b = 67108863 ∧ x.c = 67108863 ∧ x.d = 67108863 ∧ x.e = 67108863)) : x.val < prm := by
  obtain ⟨g1, g2, g3, g4, g5⟩ := h
  unfold Num5.val val5 prm
  omega
theorem great_mod {x : Num5} (h : x.bd 67108864 67108864) (ha : 67108859 ≤ x.a) (hb : x.b = 67108863) (hc : x.c = 67108863) (hd : x.d = 67108863) (he : x.e = 67108863) : x.val % prm = x.a - 67108859 := by
  obtain ⟨g1, g2, g3, g4, g5⟩ := h
  unfold Num5.val val5 prm
  omega
end Go.Proofs.YtlipgmaiooljkaaGreatDoor

namespace Go.Proofs.YtlipgmaiooljkaaGreatDoor
open Go.RowKit

/-- The digit of a number, in digits of so many bits. -/
def dig (wd j v : Nat) : Nat := v / 2 ^ (wd * j) % 2 ^ wd
theorem dig_lt (wd j v : Nat) : dig wd j v < 2 ^ wd := Nat.mod_lt _ (Nat.pow_pos (by decide))
theorem part_dig (j v : Nat) : part j v = dig 26 j v := rfl
/-- One bit more. -/
theorem dig_bit (wd i v j : Nat) (hw : 0 < wd) : dig wd j (v % 2 ^ (i + 1)) = dig wd j (v % 2 ^ i) + (if j = i / wd then v / 2 ^ i % 2 * 2 ^ (i % wd) else 0) := by
  have e0 : v % 2 ^ (i + 1) = v % 2 ^ i + 2 ^ i * (v / 2 ^ i % 2) := Nat.mod_pow_succ
  rw [e0]
  have hu : v % 2 ^ i < 2 ^ i := Nat.mod_lt _ (Nat.pow_pos (by decide))
  have ht : v / 2 ^ i % 2 < 2 := Nat.mod_lt _ (by decide)
  generalize v % 2 ^ i = u at *
  generalize v / 2 ^ i % 2 = t at *
  unfold dig
  have hdm : wd * (i / wd) + i % wd = i := Nat.div_add_mod i wd
  have hr : i % wd < wd := Nat.mod_lt _ hw
  by_cases h1 : j = i / wd
  · rw [if_pos h1]
    subst h1
    have hp : 0 < 2 ^ (wd * (i / wd)) := Nat.pow_pos (by decide)
    have e1 : 2 ^ i * t = 2 ^ (wd * (i / wd)) * (t * 2 ^ (i % wd)) := by
      rw [show 2 ^ i = 2 ^ (wd * (i / wd)) * 2 ^ (i % wd) by rw [← Nat.pow_add, hdm], Nat.mul_assoc, Nat.mul_comm t]
    rw [e1, Nat.add_mul_div_left _ _ hp]
    have hq : u / 2 ^ (wd * (i / wd)) < 2 ^ (i % wd) := by
      rw [Nat.div_lt_iff_lt_mul hp, ← Nat.pow_add, Nat.add_comm, hdm]; exact hu
    have hle : 2 ^ (i % wd + 1) ≤ 2 ^ wd := Nat.pow_le_pow_right (by decide) (by omega)
    rw [Nat.pow_succ] at hle
    have ht2 : t * 2 ^ (i % wd) ≤ 1 * 2 ^ (i % wd) := Nat.mul_le_mul_right _ (by omega)
    generalize u / 2 ^ (wd * (i / wd)) = q at *
    generalize t * 2 ^ (i % wd) = z at *
    rw [Nat.mod_eq_of_lt (by omega), Nat.mod_eq_of_lt (by omega)]
  · rw [if_neg h1, Nat.add_zero]
    rcases Nat.lt_or_gt_of_ne h1 with h2 | h2
    · have hge : wd * (j + 1) ≤ i := by
        have := Nat.mul_le_mul_left wd (show j + 1 ≤ i / wd by omega)
        omega
      obtain ⟨m, hm⟩ : ∃ m, i = wd * j + (wd + m) := ⟨i - wd * (j + 1), by rw [Nat.mul_add, Nat.mul_one] at hge ⊢; omega⟩
      have e1 : 2 ^ i * t = 2 ^ (wd * j) * (2 ^ wd * (2 ^ m * t)) := by rw [hm, Nat.pow_add, Nat.pow_add, Nat.mul_assoc, Nat.mul_assoc]
      rw [e1, Nat.add_mul_div_left _ _ (Nat.pow_pos (by decide)), Nat.add_mul_mod_self_left]
    · have hge : i + 1 ≤ wd * j := by
        have := Nat.mul_le_mul_left wd (show i / wd + 1 ≤ j by omega)
        rw [Nat.mul_add] at this
        omega
      have hle : 2 ^ (i + 1) ≤ 2 ^ (wd * j) := Nat.pow_le_pow_right (by decide) hge
      rw [Nat.pow_succ] at hle
      have ht2 : 2 ^ i * t ≤ 2 ^ i * 1 := Nat.mul_le_mul_left _ (by omega)
      rw [Nat.div_eq_of_lt (by omega), Nat.div_eq_of_lt (by omega)]
/-- A bit of a digit is a bit of the number. -/
theorem dig_at (wd i v : Nat) (hw : 0 < wd) : dig wd (i / wd) v / 2 ^ (i % wd) % 2 = v / 2 ^ i % 2 := by
  unfold dig
  have hr : i % wd < wd := Nat.mod_lt _ hw
  have h := Nat.testBit_mod_two_pow (v / 2 ^ (wd * (i / wd))) wd (i % wd)
  rw [decide_eq_true hr, Bool.true_and, Nat.testBit_div_two_pow, Nat.add_comm, Nat.div_add_mod] at h
  have h2 := congrArg Bool.toNat h
  rw [Nat.toNat_testBit, Nat.toNat_testBit] at h2
  exact h2
theorem partsL_bit (v i : Nat) (hi : i < 130) : partsL (v % 2 ^ (i + 1)) = (partsL (v % 2 ^ i)).set (i / 26) ((part (i / 26) (v % 2 ^ i) : Int) + ((v / 2 ^ i % 2 * 2 ^ (i % 26) : Nat) : Int)) := by
  have h := fun j => dig_bit 26 i v j (by decide)
  have hj : i / 26 = 0 ∨ i / 26 = 1 ∨ i / 26 = 2 ∨ i / 26 = 3 ∨ i / 26 = 4 := by omega
  have h0 := h 0; have h1 := h 1; have h2 := h 2; have h3 := h 3; have h4 := h 4
  unfold partsL
  simp only [part_dig, h0, h1, h2, h3, h4]
  rcases hj with e | e | e | e | e <;> simp [e, List.set]
theorem partsL_get (v j : Nat) (h : j < 5) : (partsL v)[j]'(by simpa [partsL] using h) = (part j v : Int) := by
  match j, h with
  | 0, _ => rfl
  | 1, _ => rfl
  | 2, _ => rfl
  | 3, _ => rfl
  | 4, _ => rfl

/-- So many bytes of a number. -/
def bytesL (n v : Nat) : List Int := (List.range n).map fun j => ((dig 8 j v : Nat) : Int)
theorem bytesL_len (n v : Nat) : (bytesL n v).length = n := by simp [bytesL]
theorem bytesL_get (n v j : Nat) (h : j < n) : (bytesL n v)[j]'(by rw [bytesL_len]; exact h) = ((dig 8 j v : Nat) : Int) := by simp [bytesL]
theorem bytesL_bit (n v i : Nat) : bytesL n (v % 2 ^ (i + 1)) = (bytesL n (v % 2 ^ i)).set (i / 8) ((dig 8 (i / 8) (v % 2 ^ i) : Int) + ((v / 2 ^ i % 2 * 2 ^ (i % 8) : Nat) : Int)) := by
  apply List.ext_getElem
  · simp [bytesL]
  · intro j h1 h2
    have hj : j < n := by simpa [bytesL] using h1
    rw [bytesL_get n _ j hj, List.getElem_set, dig_bit 8 i v j (by decide)]
    by_cases e : i / 8 = j
    · rw [if_pos e, if_pos e.symm, e]; simp
    · rw [if_neg e, if_neg (fun h => e h.symm), bytesL_get n _ j hj]; simp
theorem pow256 (j : Nat) : 256 ^ j = 2 ^ (8 * j) := by rw [Nat.pow_mul]
theorem leBy_dig : ∀ (n v : Nat), (leBy n v).map (fun c => (c.toNat : Int)) = bytesL n v
  | 0, v => rfl
  | n + 1, v => by
    rw [leBy_snoc, List.map_append, leBy_dig n v, bytesL, bytesL, List.range_succ, List.map_append, pow256]
    congr 1
    simp only [List.map_cons, List.map_nil]
    rw [ofNat_toNat8 _ (by omega)]
    rfl
theorem leNat_dig (l : List UInt8) (j : Nat) (h : j < l.length) : dig 8 j (leNat l) = l[j].toNat := by
  have e := leBy_dig l.length (leNat l)
  rw [leBy_leNat] at e
  have h1 := bytesL_get l.length (leNat l) j h
  have h2 : (bytesL l.length (leNat l))[j]'(by rw [bytesL_len]; exact h) = (l[j].toNat : Int) := by simp only [← e, List.getElem_map]
  rw [h1] at h2
  omega
end Go.Proofs.YtlipgmaiooljkaaGreatDoor

namespace Go.Proofs.YtlipgmaiooljkaaGreatDoor
open Go.RowKit

def addN (x y : Num5) : Num5 := ⟨x.a + y.a, x.b + y.b, x.c + y.c, x.d + y.d, x.e + y.e⟩
theorem addN_val (x y : Num5) : (addN x y).val = x.val + y.val := by unfold addN Num5.val val5; dsimp only; omega
theorem addN_bd {x y : Num5} (hx : x.bd 67108864 67108864) (hy : y.bd 67108864 67108864) : (addN x y).bd 576460752303423488 576460752303423488 := by
  obtain ⟨h1, h2, h3, h4, h5⟩ := hx
  obtain ⟨g1, g2, g3, g4, g5⟩ := hy
  unfold addN Num5.bd
  dsimp only
  omega
/-- The first parts summed. -/
def addL (xs ys : List Int) (k : Nat) : List Int := (List.zipWith (fun x y => x + y) xs ys).take k ++ xs.drop k
theorem addL_len {xs ys : List Int} (hx : xs.length = 5) (hy : ys.length = 5) (k : Nat) (hk : k ≤ 5) : (addL xs ys k).length = 5 := by
  unfold addL; simp [hx, hy]; omega
theorem addL_get {xs ys : List Int} (hx : xs.length = 5) (hy : ys.length = 5) (k : Nat) (hk : k < 5) (h : k < (addL xs ys k).length) : (addL xs ys k)[k] = xs[k] := by
  unfold addL at h ⊢
  rw [List.getElem_append_right (by simp; omega)]
  simp [hx, hy]
  congr 1
  omega
theorem addL_step {xs ys : List Int} (hx : xs.length = 5) (hy : ys.length = 5) (k : Nat) (hk : k < 5) : (addL xs ys k).set k (xs[k] + ys[k]) = addL xs ys (k + 1) := by
  unfold addL
  have hl : ((List.zipWith (fun x y => x + y) xs ys).take k).length = k := by simp [hx, hy]; omega
  have hz : k < (List.zipWith (fun x y => x + y) xs ys).length := by simp [hx, hy]; omega
  rw [List.set_append_right _ _ (by omega), hl, Nat.sub_self, List.drop_eq_getElem_cons (by omega : k < xs.length), List.set_cons_zero, List.take_succ_eq_append_getElem hz, List.append_assoc]
  simp
theorem addL_end (x y : Num5) : addL x.list y.list 5 = (addN x y).list := by
  simp [addL, Num5.list, addN]
theorem list_get_bd {x : Num5} (hx : x.bd 67108864 67108864) (k : Nat) (h : k < x.list.length) : 0 ≤ x.list[k] ∧ x.list[k] < 67108864 := by
  obtain ⟨h1, h2, h3, h4, h5⟩ := hx
  have h' : k < 5 := h
  match k, h' with
  | 0, _ => exact ⟨by simp [Num5.list], by simp [Num5.list]; omega⟩
  | 1, _ => exact ⟨by simp [Num5.list], by simp [Num5.list]; omega⟩
  | 2, _ => exact ⟨by simp [Num5.list], by simp [Num5.list]; omega⟩
  | 3, _ => exact ⟨by simp [Num5.list], by simp [Num5.list]; omega⟩
  | 4, _ => exact ⟨by simp [Num5.list], by simp [Num5.list]; omega⟩

/-- A product of two parts, as it counts. -/
def mulAt (xs ys : List Int) (i j : Nat) : Int := if 5 ≤ i + j then xs.getD i 0 * ys.getD j 0 * 5 else xs.getD i 0 * ys.getD j 0
def mulRow (xs ys : List Int) (i : Nat) : Nat → List Int → List Int
  | 0, o => o
  | j + 1, o => (mulRow xs ys i j o).set ((i + j) % 5) ((mulRow xs ys i j o).getD ((i + j) % 5) 0 + mulAt xs ys i j)
def mulN (xs ys : List Int) : Nat → List Int
  | 0 => List.replicate 5 0
  | i + 1 => mulRow xs ys i 5 (mulN xs ys i)
theorem mulRow_len (xs ys : List Int) (i : Nat) (o : List Int) : ∀ j, (mulRow xs ys i j o).length = o.length
  | 0 => rfl
  | j + 1 => by rw [mulRow, List.length_set, mulRow_len xs ys i o j]
theorem mulN_len (xs ys : List Int) : ∀ i, (mulN xs ys i).length = 5
  | 0 => rfl
  | i + 1 => by rw [mulN, mulRow_len, mulN_len xs ys i]
/-- All of them from 0 up to a bound. -/
def Upto (o : List Int) (n : Nat) : Prop := ∀ k, 0 ≤ o.getD k 0 ∧ o.getD k 0 ≤ 22517998136852480 * (n : Int)
theorem part_mul (x y : Int) (hx0 : 0 ≤ x) (hx : x < 67108864) (hy0 : 0 ≤ y) (hy : y < 67108864) : 0 ≤ x * y ∧ x * y ≤ 4503599627370496 := by
  refine ⟨Int.mul_nonneg hx0 hy0, ?_⟩
  have h1 : x * y ≤ 67108864 * y := Int.mul_le_mul_of_nonneg_right (by omega) hy0
  omega
theorem mulAt_bd {x y : Num5} (hx : x.bd 67108864 67108864) (hy : y.bd 67108864 67108864) (i j : Nat) (hi : i < 5) (hj : j < 5) : 0 ≤ mulAt x.list y.list i j ∧ mulAt x.list y.list i j ≤ 22517998136852480 := by
  have hxi := list_get_bd hx i hi
  have hyj := list_get_bd hy j hj
  have e1 : x.list.getD i 0 = x.list[i]'hi := by rw [List.getD_eq_getElem?_getD, List.getElem?_eq_getElem hi]; rfl
  have e2 : y.list.getD j 0 = y.list[j]'hj := by rw [List.getD_eq_getElem?_getD, List.getElem?_eq_getElem hj]; rfl
  have := part_mul _ _ hxi.1 hxi.2 hyj.1 hyj.2
  unfold mulAt
  rw [e1, e2]
  split <;> omega
theorem upto_set {o : List Int} {n : Nat} (h : Upto o n) (k : Nat) (z : Int) (hz0 : 0 ≤ z) (hz : z ≤ 22517998136852480) : Upto (o.set k (o.getD k 0 + z)) (n + 1) := by
  intro m
  have hk := h k
  have hm := h m
  by_cases e : k = m
  · subst e
    by_cases hl : k < o.length
    · have : (o.set k (o.getD k 0 + z)).getD k 0 = o.getD k 0 + z := by
        rw [List.getD_eq_getElem?_getD, List.getElem?_set_self hl]; rfl
      rw [this]; omega
    · rw [List.set_eq_of_length_le (by omega)]; omega
  · have : (o.set k (o.getD k 0 + z)).getD m 0 = o.getD m 0 := by
      rw [List.getD_eq_getElem?_getD, List.getElem?_set_ne e, ← List.getD_eq_getElem?_getD]
    rw [this]; omega
theorem upto_row {x y : Num5} (hx : x.bd 67108864 67108864) (hy : y.bd 67108864 67108864) (i : Nat) (hi : i < 5) (o : List Int) (n : Nat) (ho : Upto o n) : ∀ j, j ≤ 5 → Upto (mulRow x.list y.list i j o) (n + j)
  | 0, _ => ho
  | j + 1, h => by
    have hb := mulAt_bd hx hy i j hi (by omega)
    exact upto_set (upto_row hx hy i hi o n ho j (by omega)) _ _ hb.1 hb.2
theorem upto_mul {x y : Num5} (hx : x.bd 67108864 67108864) (hy : y.bd 67108864 67108864) : ∀ i, i ≤ 5 → Upto (mulN x.list y.list i) (5 * i)
  | 0, _ => fun k => by
    have : (mulN x.list y.list 0).getD k 0 = 0 := by
      simp only [mulN, List.getD_eq_getElem?_getD, List.getElem?_replicate]
      split <;> rfl
    rw [this]; omega
  | i + 1, h => upto_row hx hy i (by omega) _ _ (upto_mul hx hy i (by omega)) 5 (Nat.le_refl _)

def mul5 (x y : Num5) : Num5 :=
  ⟨x.a * y.a + 5 * (x.b * y.e) + 5 * (x.c * y.d) + 5 * (x.d * y.c) + 5 * (x.e * y.b),
   x.a * y.b + x.b * y.a + 5 * (x.c * y.e) + 5 * (x.d * y.d) + 5 * (x.e * y.c),
   x.a * y.c + x.b * y.b + x.c * y.a + 5 * (x.d * y.e) + 5 * (x.e * y.d),
   x.a * y.d + x.b * y.c + x.c * y.b + x.d * y.a + 5 * (x.e * y.e),
   x.a * y.e + x.b * y.d + x.c * y.c + x.d * y.b + x.e * y.a⟩
theorem mulN_end (x y : Num5) : mulN x.list y.list 5 = (mul5 x y).list := by
  obtain ⟨a, b, c, d, e⟩ := x
  obtain ⟨p, q, r, s, t⟩ := y
  simp only [mulN, mulRow, mulAt, Num5.list, mul5, Nat.reduceAdd, Nat.reduceMod, Nat.reduceLeDiff, if_true, if_false, List.replicate, List.set, List.getD_cons_zero, List.getD_cons_succ]
  congr 1
  · omega
  · congr 1
    · omega
    · congr 1
      · omega
      · congr 1
        · omega
        · congr 1
          omega
theorem mul_lt26 {a b : Nat} (ha : a < 67108864) (hb : b < 67108864) : a * b < 4503599627370496 := by
  have := Nat.mul_lt_mul'' ha hb
  omega
theorem mul5_bd {x y : Num5} (hx : x.bd 67108864 67108864) (hy : y.bd 67108864 67108864) : (mul5 x y).bd 576460752303423488 576460752303423488 := by
  obtain ⟨h1, h2, h3, h4, h5⟩ := hx
  obtain ⟨g1, g2, g3, g4, g5⟩ := hy
  have a1 := mul_lt26 h1 g1; have a2 := mul_lt26 h1 g2; have a3 := mul_lt26 h1 g3; have a4 := mul_lt26 h1 g4; have a5 := mul_lt26 h1 g5
  have b1 := mul_lt26 h2 g1; have b2 := mul_lt26 h2 g2; have b3 := mul_lt26 h2 g3; have b4 := mul_lt26 h2 g4; have b5 := mul_lt26 h2 g5
  have c1 := mul_lt26 h3 g1; have c2 := mul_lt26 h3 g2; have c3 := mul_lt26 h3 g3; have c4 := mul_lt26 h3 g4; have c5 := mul_lt26 h3 g5
  have d1 := mul_lt26 h4 g1; have d2 := mul_lt26 h4 g2; have d3 := mul_lt26 h4 g3; have d4 := mul_lt26 h4 g4; have d5 := mul_lt26 h4 g5
  have e1 := mul_lt26 h5 g1; have e2 := mul_lt26 h5 g2; have e3 := mul_lt26 h5 g3; have e4 := mul_lt26 h5 g4; have e5 := mul_lt26 h5 g5
  unfold mul5 Num5.bd
  dsimp only
  clear h1 h2 h3 h4 h5 g1 g2 g3 g4 g5
  refine ⟨?_, ?_, ?_, ?_, ?_⟩ <;> omega
theorem mul_val5 (n a b c d e : Nat) : n * val5 a b c d e = n * a + 67108864 * (n * b) + 4503599627370496 * (n * c) + 302231454903657293676544 * (n * d) + 20282409603651670423947251286016 * (n * e) := by
  unfold val5
  rw [Nat.mul_add, Nat.mul_add, Nat.mul_add, Nat.mul_add, Nat.mul_left_comm n 67108864, Nat.mul_left_comm n 4503599627370496, Nat.mul_left_comm n 302231454903657293676544, Nat.mul_left_comm n 20282409603651670423947251286016]
theorem val5_mul (Y a b c d e : Nat) : val5 a b c d e * Y = a * Y + 67108864 * (b * Y) + 4503599627370496 * (c * Y) + 302231454903657293676544 * (d * Y) + 20282409603651670423947251286016 * (e * Y) := by
  unfold val5
  rw [Nat.add_mul, Nat.add_mul, Nat.add_mul, Nat.add_mul, Nat.mul_assoc, Nat.mul_assoc, Nat.mul_assoc, Nat.mul_assoc]
theorem mul5_val (x y : Num5) : (mul5 x y).val % prm = x.val * y.val % prm := by
  obtain ⟨a, b, c, d, e⟩ := x
  obtain ⟨p, q, r, s, t⟩ := y
  have h0 : (Num5.mk a b c d e).val * (Num5.mk p q r s t).val = val5 a b c d e * val5 p q r s t := rfl
  rw [h0, val5_mul, mul_val5 a, mul_val5 b, mul_val5 c, mul_val5 d, mul_val5 e]
  have h1 : ∀ K, (mul5 ⟨a, b, c, d, e⟩ ⟨p, q, r, s, t⟩).val % prm = ((mul5 ⟨a, b, c, d, e⟩ ⟨p, q, r, s, t⟩).val + prm * K) % prm := fun K => by rw [Nat.add_mul_mod_self_left]
  rw [h1 ((b * t + c * s + d * r + e * q) + 67108864 * (c * t + d * s + e * r) + 4503599627370496 * (d * t + e * s) + 302231454903657293676544 * (e * t))]
  congr 1
  unfold mul5 Num5.val val5 prm
  dsimp only
  generalize a * p = x1; generalize a * q = x2; generalize a * r = x3; generalize a * s = x4; generalize a * t = x5
  generalize b * p = y1; generalize b * q = y2; generalize b * r = y3; generalize b * s = y4; generalize b * t = y5
  generalize c * p = z1; generalize c * q = z2; generalize c * r = z3; generalize c * s = z4; generalize c * t = z5
  generalize d * p = u1; generalize d * q = u2; generalize d * r = u3; generalize d * s = u4; generalize d * t = u5
  generalize e * p = v1; generalize e * q = v2; generalize e * r = v3; generalize e * s = v4; generalize e * t = v5
  omega
end Go.Proofs.YtlipgmaiooljkaaGreatDoor

namespace Go.Proofs.YtlipgmaiooljkaaGreatDoor
open Go.RowKit

/-- What one byte more makes of a part. -/
def byteAdd (k b j : Nat) : Nat := if j = 8 * k / 26 then b * 2 ^ (8 * k % 26) % 67108864 else if j = 8 * k / 26 + 1 then b * 2 ^ (8 * k % 26) / 67108864 else 0
theorem part_byte (v b k j : Nat) (hk : k < 17) (hj : j < 5) (hv : v < 2 ^ (8 * k)) (hb : b < 256) : part j (v + b * 2 ^ (8 * k)) = part j v + byteAdd k b j := by
  have hk' : k = 0 ∨ k = 1 ∨ k = 2 ∨ k = 3 ∨ k = 4 ∨ k = 5 ∨ k = 6 ∨ k = 7 ∨ k = 8 ∨ k = 9 ∨ k = 10 ∨ k = 11 ∨ k = 12 ∨ k = 13 ∨ k = 14 ∨ k = 15 ∨ k = 16 := by omega
  have hj' : j = 0 ∨ j = 1 ∨ j = 2 ∨ j = 3 ∨ j = 4 := by omega
  unfold part byteAdd
  rcases hk' with rfl | rfl | rfl | rfl | rfl | rfl | rfl | rfl | rfl | rfl | rfl | rfl | rfl | rfl | rfl | rfl | rfl <;>
    rcases hj' with rfl | rfl | rfl | rfl | rfl <;> simp at hv ⊢ <;> omega
theorem part_low (v k : Nat) (hk : k < 17) (hv : v < 2 ^ (8 * k)) : part (8 * k / 26) v < 2 ^ (8 * k % 26) ∧ part (8 * k / 26 + 1) v = 0 := by
  have hk' : k = 0 ∨ k = 1 ∨ k = 2 ∨ k = 3 ∨ k = 4 ∨ k = 5 ∨ k = 6 ∨ k = 7 ∨ k = 8 ∨ k = 9 ∨ k = 10 ∨ k = 11 ∨ k = 12 ∨ k = 13 ∨ k = 14 ∨ k = 15 ∨ k = 16 := by omega
  unfold part
  rcases hk' with rfl | rfl | rfl | rfl | rfl | rfl | rfl | rfl | rfl | rfl | rfl | rfl | rfl | rfl | rfl | rfl | rfl <;> simp at hv ⊢ <;> omega
theorem wide_mod (b sh : Nat) (hs : sh < 26) : b * 2 ^ sh % 67108864 = b % 2 ^ (26 - sh) * 2 ^ sh := by
  have e : (67108864 : Nat) = 2 ^ (26 - sh) * 2 ^ sh := by rw [← Nat.pow_add, show 26 - sh + sh = 26 by omega]
  rw [e, Nat.mul_mod_mul_right]
theorem byte_last (v b k : Nat) (hk : k < 17) (hv : v + b * 2 ^ (8 * k) < 1361129467683753853853498429727072845824) (hb : b < 256) (ho : b * 2 ^ (8 * k % 26) / 67108864 ≠ 0) : 8 * k / 26 + 1 < 5 := by
  have hk' : k = 0 ∨ k = 1 ∨ k = 2 ∨ k = 3 ∨ k = 4 ∨ k = 5 ∨ k = 6 ∨ k = 7 ∨ k = 8 ∨ k = 9 ∨ k = 10 ∨ k = 11 ∨ k = 12 ∨ k = 13 ∨ k = 14 ∨ k = 15 ∨ k = 16 := by omega
  rcases hk' with rfl | rfl | rfl | rfl | rfl | rfl | rfl | rfl | rfl | rfl | rfl | rfl | rfl | rfl | rfl | rfl | rfl <;> simp at hv ho ⊢ <;> omega
theorem partsL_byte (v b k : Nat) (hk : k < 17) (hv : v < 2 ^ (8 * k)) (hb : b < 256) :
    partsL (v + b * 2 ^ (8 * k)) = ((partsL v).set (8 * k / 26) (((part (8 * k / 26) v + b * 2 ^ (8 * k % 26) % 67108864 : Nat)) : Int)).set (8 * k / 26 + 1) ((b * 2 ^ (8 * k % 26) / 67108864 : Nat) : Int) := by
  have h := fun j hj => part_byte v b k j hk hj hv hb
  have hl := (part_low v k hk hv).2
  have h0 := h 0 (by decide); have h1 := h 1 (by decide); have h2 := h 2 (by decide); have h3 := h 3 (by decide); have h4 := h 4 (by decide)
  have hp : 8 * k / 26 = 0 ∨ 8 * k / 26 = 1 ∨ 8 * k / 26 = 2 ∨ 8 * k / 26 = 3 ∨ 8 * k / 26 = 4 := by omega
  unfold partsL
  rw [h0, h1, h2, h3, h4]
  unfold byteAdd
  rcases hp with e | e | e | e | e <;> rw [e] at hl ⊢ <;> simp [hl]
theorem partsL_byte0 (v b k : Nat) (hk : k < 17) (hv : v < 2 ^ (8 * k)) (hb : b < 256) (ho : b * 2 ^ (8 * k % 26) / 67108864 = 0) :
    partsL (v + b * 2 ^ (8 * k)) = (partsL v).set (8 * k / 26) (((part (8 * k / 26) v + b * 2 ^ (8 * k % 26) % 67108864 : Nat)) : Int) := by
  have h := fun j hj => part_byte v b k j hk hj hv hb
  have h0 := h 0 (by decide); have h1 := h 1 (by decide); have h2 := h 2 (by decide); have h3 := h 3 (by decide); have h4 := h 4 (by decide)
  have hp : 8 * k / 26 = 0 ∨ 8 * k / 26 = 1 ∨ 8 * k / 26 = 2 ∨ 8 * k / 26 = 3 ∨ 8 * k / 26 = 4 := by omega
  unfold partsL
  rw [h0, h1, h2, h3, h4]
  unfold byteAdd
  rcases hp with e | e | e | e | e <;> rw [e] <;> simp [ho]
/-- A byte out of two parts. -/
theorem byte_of_parts (v i : Nat) (hi : i < 17) (hv : v < 1361129467683753853853498429727072845824) :
    (if 8 * i / 26 + 1 < 5 then part (8 * i / 26) v / 2 ^ (8 * i % 26) + part (8 * i / 26 + 1) v * 2 ^ (26 - 8 * i % 26) else part (8 * i / 26) v / 2 ^ (8 * i % 26)) % 256 = dig 8 i v := by
  have hk' : i = 0 ∨ i = 1 ∨ i = 2 ∨ i = 3 ∨ i = 4 ∨ i = 5 ∨ i = 6 ∨ i = 7 ∨ i = 8 ∨ i = 9 ∨ i = 10 ∨ i = 11 ∨ i = 12 ∨ i = 13 ∨ i = 14 ∨ i = 15 ∨ i = 16 := by omega
  unfold part dig
  rcases hk' with rfl | rfl | rfl | rfl | rfl | rfl | rfl | rfl | rfl | rfl | rfl | rfl | rfl | rfl | rfl | rfl | rfl <;> simp <;> omega
theorem part_shift_lt (v j sh : Nat) (hs : sh < 26) : part j v / 2 ^ sh < 2 ^ (26 - sh) := by
  have h := part_lt j v
  rw [Nat.div_lt_iff_lt_mul (Nat.pow_pos (by decide)), ← Nat.pow_add, show 26 - sh + sh = 26 by omega]
  exact h
end Go.Proofs.YtlipgmaiooljkaaGreatDoor

namespace Go.Proofs.YtlipgmaiooljkaaGreatDoor
open Go.RowKit

/-- Bytes as numbers, and back. -/
def intsOf (l : List UInt8) : List Int := l.map fun c => (c.toNat : Int)
def bytesOf (zs : List Int) : List UInt8 := zs.map fun z => UInt8.ofNat z.toNat
theorem bytesOf_intsOf (l : List UInt8) : bytesOf (intsOf l) = l := by
  unfold bytesOf intsOf; rw [List.map_map]
  conv => rhs; rw [← List.map_id l]
  apply List.map_congr_left
  intro c _
  simp
def ByteZ (zs : List Int) : Prop := ∀ k, 0 ≤ zs.getD k 0 ∧ zs.getD k 0 < 256
theorem byteZ_intsOf (l : List UInt8) : ByteZ (intsOf l) := by
  intro k
  unfold intsOf
  rw [List.getD_eq_getElem?_getD, List.getElem?_map]
  cases h : l[k]? with
  | none => exact ⟨by simp, by simp⟩
  | some c => have := c.toNat_lt; simp; omega
theorem byteZ_set {zs : List Int} (h : ByteZ zs) (i : Nat) (x : Int) (h0 : 0 ≤ x) (h1 : x < 256) : ByteZ (zs.set i x) := by
  intro k
  have hk := h k
  rw [List.getD_eq_getElem?_getD, List.getElem?_set]
  rw [List.getD_eq_getElem?_getD] at hk
  split
  · split
    · exact ⟨h0, h1⟩
    · exact ⟨by simp, by simp⟩
  · exact hk
theorem intsOf_bytesOf {zs : List Int} (h : ByteZ zs) : intsOf (bytesOf zs) = zs := by
  apply List.ext_getElem
  · simp [intsOf, bytesOf]
  · intro k h1 h2
    have hk := h k
    rw [List.getD_eq_getElem?_getD, List.getElem?_eq_getElem h2] at hk
    simp only [Option.getD_some] at hk
    simp only [intsOf, bytesOf, List.getElem_map]
    rw [ofNat_toNat8 _ (by omega)]; omega

/-- The first half of a key, step by step without some of its bits. -/
def cl1 (zs : List Int) : Nat → List Int
  | 0 => zs
  | k + 1 => (cl1 zs k).set (4 * k + 3) ((cl1 zs k).getD (4 * k + 3) 0 % 16)
def cl2 (zs : List Int) : Nat → List Int
  | 0 => zs
  | k + 1 => (cl2 zs k).set (4 * k + 4) ((cl2 zs k).getD (4 * k + 4) 0 / 4 * 4)
def clZ (zs : List Int) : List Int := cl2 (cl1 zs 4) 3
theorem cl1_len (zs : List Int) : ∀ k, (cl1 zs k).length = zs.length
  | 0 => rfl
  | k + 1 => by rw [cl1, List.length_set, cl1_len zs k]
theorem cl2_len (zs : List Int) : ∀ k, (cl2 zs k).length = zs.length
  | 0 => rfl
  | k + 1 => by rw [cl2, List.length_set, cl2_len zs k]
theorem cl1_byte {zs : List Int} (h : ByteZ zs) : ∀ k, ByteZ (cl1 zs k)
  | 0 => h
  | k + 1 => by
    have := cl1_byte h k (4 * k + 3)
    exact byteZ_set (cl1_byte h k) _ _ (by omega) (by omega)
theorem cl2_byte {zs : List Int} (h : ByteZ zs) : ∀ k, ByteZ (cl2 zs k)
  | 0 => h
  | k + 1 => by
    have := cl2_byte h k (4 * k + 4)
    exact byteZ_set (cl2_byte h k) _ _ (by omega) (by omega)
theorem clZ_byte {zs : List Int} (h : ByteZ zs) : ByteZ (clZ zs) := cl2_byte (cl1_byte h 4) 3
theorem clZ_len (zs : List Int) : (clZ zs).length = zs.length := by unfold clZ; rw [cl2_len, cl1_len]
theorem and15' (x : Int) (h0 : 0 ≤ x) (h1 : x < 256) : bits .and .u8 x 15 = x % 16 := by
  rw [u8_and _ _ h0 (by omega) (by omega) (by omega)]
  have : x.toNat &&& (15 : Int).toNat = x.toNat % 2 ^ 4 := by
    rw [show (15 : Int).toNat = 2 ^ 4 - 1 from rfl, Nat.and_two_pow_sub_one_eq_mod]
  rw [this]; omega
theorem nat252 : ∀ x : Fin 256, x.val &&& 252 = x.val / 4 * 4 := by decide +kernel
theorem and252 (x : Int) (h0 : 0 ≤ x) (h1 : x < 256) : bits .and .u8 x 252 = x / 4 * 4 := by
  rw [u8_and _ _ h0 (by omega) (by omega) (by omega)]
  have := nat252 ⟨x.toNat, by omega⟩
  simp only at this
  rw [show (252 : Int).toNat = 252 from rfl, this]; omega

/-- The factor of a tag. -/
def facN (key : ByteArray) : Nat := leNat (bytesOf (clZ (intsOf (key.data.toList.take 16))))
theorem facN_lt (key : ByteArray) : facN key < 1361129467683753853853498429727072845824 := by
  unfold facN
  have := leNat_lt (bytesOf (clZ (intsOf (key.data.toList.take 16))))
  have hl : (bytesOf (clZ (intsOf (key.data.toList.take 16)))).length ≤ 16 := by
    unfold bytesOf; rw [List.length_map, clZ_len]; unfold intsOf; rw [List.length_map, List.length_take]; omega
  have h2 : 256 ^ (bytesOf (clZ (intsOf (key.data.toList.take 16)))).length ≤ 256 ^ 16 := Nat.pow_le_pow_right (by decide) hl
  have h3 : (256 : Nat) ^ 16 < 1361129467683753853853498429727072845824 := by decide
  omega
/-- The number of a block: its bytes, with a byte 1 behind. -/
def blkN (t : ByteArray) (k : Nat) : Nat := leNat ((t.data.toList.drop (16 * k)).take 16 ++ [1])
theorem blkN_lt (t : ByteArray) (k : Nat) : blkN t k < 1361129467683753853853498429727072845824 := by
  unfold blkN
  rw [leNat_append]
  have h1 := leNat_lt ((t.data.toList.drop (16 * k)).take 16)
  have hl : ((t.data.toList.drop (16 * k)).take 16).length ≤ 16 := by rw [List.length_take]; omega
  have h2 : 256 ^ ((t.data.toList.drop (16 * k)).take 16).length ≤ 256 ^ 16 := Nat.pow_le_pow_right (by decide) hl
  have h3 : 2 * (256 : Nat) ^ 16 < 1361129467683753853853498429727072845824 := by decide
  have h4 : leNat [1] = 1 := by decide
  rw [h4, Nat.mul_one]
  omega
/-- What so many blocks make. -/
def accN (r : Nat) (t : ByteArray) : Nat → Nat
  | 0 => 0
  | k + 1 => (accN r t k + blkN t k) % prm * r % prm
theorem accN_lt (r : Nat) (t : ByteArray) : ∀ k, accN r t k < prm
  | 0 => prm_pos
  | _ + 1 => Nat.mod_lt _ prm_pos
def nBlk (t : ByteArray) : Nat := (t.size + 15) / 16
/-- Two texts of as many bytes, added; what passes the last byte is lost. -/
def sumR (n : Nat) (a b : List UInt8) : List UInt8 := leBy n (leNat a + leNat b)
/-- TagOf, as the document says it. -/
def tagR (key t : ByteArray) : ByteArray := if key.size = 32 ∧ t.size ≤ 8000 then ⟨(sumR 16 ((leBy 17 (accN (facN key) t (nBlk t))).take 16) (key.data.toList.drop 16)).toArray⟩ else ⟨#[]⟩

/-- Sums of bytes: what goes over, and the byte that stays. -/
def ovN (a b : List UInt8) (k : Nat) : Nat := (leNat (a.take k) + leNat (b.take k)) / 256 ^ k
theorem leNat_take_step (a : List UInt8) (k : Nat) (h : k < a.length) : leNat (a.take (k + 1)) = leNat (a.take k) + 256 ^ k * a[k].toNat := by
  rw [List.take_succ_eq_append_getElem h, leNat_append]
  have hl : (a.take k).length = k := by simp; omega
  rw [hl]; simp [leNat]
theorem ov_step (a b : List UInt8) (k : Nat) (ha : k < a.length) (hb : k < b.length) : ovN a b (k + 1) = (ovN a b k + (a[k].toNat + b[k].toNat)) / 256 ∧
    leBy (k + 1) (leNat (a.take (k + 1)) + leNat (b.take (k + 1))) = leBy k (leNat (a.take k) + leNat (b.take k)) ++ [UInt8.ofNat ((ovN a b k + (a[k].toNat + b[k].toNat)) % 256)] ∧ ovN a b k ≤ 1 := by
  have hp : 0 < 256 ^ k := Nat.pow_pos (by decide)
  have e : leNat (a.take (k + 1)) + leNat (b.take (k + 1)) = (leNat (a.take k) + leNat (b.take k)) + 256 ^ k * (a[k].toNat + b[k].toNat) := by
    rw [leNat_take_step a k ha, leNat_take_step b k hb, Nat.mul_add]; omega
  have ed : (leNat (a.take (k + 1)) + leNat (b.take (k + 1))) / 256 ^ k = ovN a b k + (a[k].toNat + b[k].toNat) := by
    rw [e, Nat.add_mul_div_left _ _ hp]; rfl
  refine ⟨?_, ?_, ?_⟩
  · unfold ovN
    rw [Nat.pow_succ, ← Nat.div_div_eq_div_mul, ed]; rfl
  · rw [leBy_snoc, ed]
    congr 1
    rw [← leBy_mod k (leNat (a.take (k + 1)) + leNat (b.take (k + 1))), e, Nat.add_mul_mod_self_left, leBy_mod]
  · unfold ovN
    have h1 := leNat_lt (a.take k)
    have h2 := leNat_lt (b.take k)
    have hl : (a.take k).length = k := by simp; omega
    have hl2 : (b.take k).length = k := by simp; omega
    rw [hl] at h1
    rw [hl2] at h2
    have : (leNat (a.take k) + leNat (b.take k)) / 256 ^ k < 2 := by rw [Nat.div_lt_iff_lt_mul hp]; omega
    omega
end Go.Proofs.YtlipgmaiooljkaaGreatDoor
