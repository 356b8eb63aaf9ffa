/- Plain facts on digits: no program is named here. -/
import Derived.Test.YtbjcgcjdlnoejaaPlain
namespace Go.Proofs.Ytbjcgcjdlnoejaa
open Go.RowKit

/-- The digits 0 .. 9, a .. f. -/
def hexS : ByteArray := ⟨#[48, 49, 50, 51, 52, 53, 54, 55, 56, 57, 97, 98, 99, 100, 101, 102]⟩
def hd (n : Nat) : UInt8 := if h : n < 16 then hexS[n]'h else 0

theorem hd_at (i : Int) (n : Nat) (h : i.toNat < 16) (hn : i.toNat = n) : ((⟨#[48, 49, 50, 51, 52, 53, 54, 55, 56, 57, 97, 98, 99, 100, 101, 102]⟩ : ByteArray)[i.toNat]'h) = hd n := by
  subst hn; unfold hd; rw [dif_pos h]; rfl

def hexL (l : List UInt8) : List UInt8 := l.flatMap fun c => [hd (c.toNat / 16), hd (c.toNat % 16)]
def hexB (a : ByteArray) : ByteArray := ⟨(hexL a.data.toList).toArray⟩

theorem hexL_len (l : List UInt8) : (hexL l).length = 2 * l.length := by
  induction l with
  | nil => rfl
  | cons c l ih => simp only [hexL, List.flatMap_cons, List.length_append] at *; rw [ih]; simp; omega

theorem hexL_append (l m : List UInt8) : hexL (l ++ m) = hexL l ++ hexL m := by simp [hexL]

theorem take_snoc (s : ByteArray) (k : Nat) (h : k < s.size) : s.data.toList.take (k + 1) = s.data.toList.take k ++ [s[k]] := by
  rw [List.take_succ_eq_append_getElem (by simpa using h)]; rfl

theorem take_all (s : ByteArray) (k : Nat) (h : s.size ≤ k) : s.data.toList.take k = s.data.toList := List.take_of_length_le (by simpa using h)

theorem hexL_snoc (s : ByteArray) (k : Nat) (h : k < s.size) : hexL (s.data.toList.take (k + 1)) = hexL (s.data.toList.take k) ++ [hd (s[k].toNat / 16), hd (s[k].toNat % 16)] := by
  rw [take_snoc s k h, hexL_append]; rfl

/-- The value of a digit; -1: it is none. -/
def digV (c : UInt8) : Int := if 48 ≤ (c.toNat : Int) ∧ (c.toNat : Int) ≤ 57 then (c.toNat : Int) - 48 else if 97 ≤ (c.toNat : Int) ∧ (c.toNat : Int) ≤ 102 then (c.toNat : Int) - 87 else -1

theorem digV_bd (c : UInt8) : -1 ≤ digV c ∧ digV c ≤ 15 := by
  unfold digV; split
  · omega
  · split <;> omega

def pairB (c d : UInt8) : UInt8 := UInt8.ofNat (16 * digV c + digV d).toNat

def unhexL : List UInt8 → Option (List UInt8)
  | [] => some []
  | [_] => none
  | c :: d :: r => if digV c < 0 ∨ digV d < 0 then none else (unhexL r).map (pairB c d :: ·)

/-- Unhex, as the document says it. -/
def unV (s : ByteArray) : Option (List UInt8) := if s.size % 2 = 0 ∧ s.size ≤ 8000 then unhexL s.data.toList else none
def unS (s : ByteArray) : ByteArray := ⟨((unV s).getD []).toArray⟩

theorem drop_two (s : ByteArray) (k : Nat) (h : k + 1 < s.size) : s.data.toList.drop k = s[k] :: s[k + 1] :: s.data.toList.drop (k + 2) := by
  have h1 : k < s.data.toList.length := by simp; omega
  have h2 : k + 1 < s.data.toList.length := by simp; omega
  rw [List.drop_eq_getElem_cons h1, List.drop_eq_getElem_cons h2]; rfl

theorem unhexL_step (s : ByteArray) (k : Nat) (l : List UInt8) (h : k + 1 < s.size) (hc : 0 ≤ digV s[k]) (hd : 0 ≤ digV s[k + 1])
    (hi : unhexL s.data.toList = (unhexL (s.data.toList.drop k)).map (l ++ ·)) :
    unhexL s.data.toList = (unhexL (s.data.toList.drop (k + 2))).map (l ++ [pairB s[k] s[k + 1]] ++ ·) := by
  rw [hi, drop_two s k h]
  simp only [unhexL]
  rw [if_neg (by omega)]
  cases unhexL (s.data.toList.drop (k + 2)) <;> simp

theorem unhexL_bad (s : ByteArray) (k : Nat) (l : List UInt8) (h : k + 1 < s.size) (hc : digV s[k] < 0 ∨ digV s[k + 1] < 0)
    (hi : unhexL s.data.toList = (unhexL (s.data.toList.drop k)).map (l ++ ·)) : unhexL s.data.toList = none := by
  rw [hi, drop_two s k h]
  simp only [unhexL]
  rw [if_pos hc]; rfl

theorem unhexL_end (s : ByteArray) (k : Nat) (l : List UInt8) (h : s.size ≤ k)
    (hi : unhexL s.data.toList = (unhexL (s.data.toList.drop k)).map (l ++ ·)) : unhexL s.data.toList = some l := by
  rw [hi, List.drop_of_length_le (by simpa using h)]; simp [unhexL]

theorem pair_mul (c d : UInt8) (hc : 0 ≤ digV c) (hd : 0 ≤ digV d) : (16 * digV c + digV d) % 256 = ((pairB c d).toNat : Int) := by
  have h1 := digV_bd c; have h2 := digV_bd d
  unfold pairB
  have : (16 * digV c + digV d).toNat < 256 := by omega
  rw [UInt8.toNat_ofNat', Nat.mod_eq_of_lt (by simpa using this)]; omega

theorem or_pair (x y : Int) (hx0 : 0 ≤ x) (hx : x ≤ 15) (hy0 : 0 ≤ y) (hy : y ≤ 15) : bits .or .i64 (x * 16) y = 16 * x + y := by
  obtain ⟨X, rfl⟩ := Int.eq_ofNat_of_zero_le hx0
  obtain ⟨Y, rfl⟩ := Int.eq_ofNat_of_zero_le hy0
  have hX : X ≤ 15 := by omega
  have hY : Y ≤ 15 := by omega
  have key : ∀ a, a ≤ 15 → ∀ b, b ≤ 15 → bits .or .i64 ((a : Nat) * 16 : Int) (b : Nat) = 16 * (a : Nat) + (b : Nat) := by decide +kernel
  exact key X hX Y hY

theorem digV_hd (n : Nat) (h : n < 16) : digV (hd n) = n := by
  have key : ∀ n, n < 16 → digV (hd n) = (n : Nat) := by decide +kernel
  exact key n h

theorem hd_digV (c : UInt8) (h : 0 ≤ digV c) : hd (digV c).toNat = c := by
  have key : ∀ n, n < 256 → 0 ≤ digV (UInt8.ofNat n) → hd (digV (UInt8.ofNat n)).toNat = UInt8.ofNat n := by decide +kernel
  have := key c.toNat c.toNat_lt
  rw [UInt8.ofNat_toNat] at this
  exact this h

theorem pair_hd (c : UInt8) : pairB (hd (c.toNat / 16)) (hd (c.toNat % 16)) = c := by
  have hlt : c.toNat < 256 := c.toNat_lt
  unfold pairB
  rw [digV_hd _ (by omega), digV_hd _ (by omega)]
  have : ((16 : Int) * ((c.toNat / 16 : Nat) : Int) + ((c.toNat % 16 : Nat) : Int)).toNat = c.toNat := by omega
  rw [this, UInt8.ofNat_toNat]

/-- A text comes back from its digits. -/
theorem unhexL_hexL (l : List UInt8) : unhexL (hexL l) = some l := by
  induction l with
  | nil => rfl
  | cons c l ih =>
    have hlt : c.toNat < 256 := c.toNat_lt
    have e : hexL (c :: l) = hd (c.toNat / 16) :: hd (c.toNat % 16) :: hexL l := rfl
    rw [e]
    simp only [unhexL]
    have h1 := digV_hd (c.toNat / 16) (by omega)
    have h2 := digV_hd (c.toNat % 16) (by omega)
    rw [if_neg (by omega), ih, pair_hd]; rfl

theorem hd_pair (c d : UInt8) (hc : 0 ≤ digV c) (hd' : 0 ≤ digV d) : hd ((pairB c d).toNat / 16) = c ∧ hd ((pairB c d).toNat % 16) = d := by
  have h1 := digV_bd c; have h2 := digV_bd d
  have hp := pair_mul c d hc hd'
  have e1 : (pairB c d).toNat / 16 = (digV c).toNat := by omega
  have e2 : (pairB c d).toNat % 16 = (digV d).toNat := by omega
  rw [e1, e2]
  exact ⟨hd_digV c hc, hd_digV d hd'⟩

/-- What is read, written again, has just its digits. -/
theorem hexL_unhexL : ∀ (t l : List UInt8), unhexL t = some l → hexL l = t
  | [], l, h => by simp [unhexL] at h; subst h; rfl
  | [_], l, h => by simp [unhexL] at h
  | c :: d :: r, l, h => by
    simp only [unhexL] at h
    by_cases hb : digV c < 0 ∨ digV d < 0
    · rw [if_pos hb] at h; cases h
    · rw [if_neg hb] at h
      obtain ⟨m, hm, rfl⟩ := Option.map_eq_some_iff.1 h
      have ih := hexL_unhexL r m hm
      have hp := hd_pair c d (by omega) (by omega)
      have e : hexL (pairB c d :: m) = hd ((pairB c d).toNat / 16) :: hd ((pairB c d).toNat % 16) :: hexL m := rfl
      rw [e, hp.1, hp.2, ih]

theorem unhexL_len : ∀ (t l : List UInt8), unhexL t = some l → t.length = 2 * l.length := by
  intro t l h
  rw [← hexL_unhexL t l h, hexL_len]
end Go.Proofs.Ytbjcgcjdlnoejaa
