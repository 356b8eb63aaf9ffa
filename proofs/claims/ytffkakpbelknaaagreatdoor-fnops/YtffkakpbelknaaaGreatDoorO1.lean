/- Parts of the proof. -/
import Derived.WalkKit
import Derived.Laws.BitsAllLaws
import Derived.Laws.IdiomStrings
namespace Go.Proofs.YtffkakpbelknaaaGreatDoor
set_option maxHeartbeats 4000000
set_option maxRecDepth 100000
open Go.RowKit
def bc (c : UInt8) : Value := .int .u8 (c.toNat : Int)
theorem ret_int {k : IntKind} {a b : Int} (h : a = b) : Ending.returned (.int k a) = .returned (.int k b) := by rw [h]
theorem ret_str {a b : ByteArray} (h : a = b) : Ending.returned (.string a) = .returned (.string b) := by rw [h]
theorem ret_bool {a b : Bool} (h : a = b) : Ending.returned (.bool a) = .returned (.bool b) := by rw [h]
end Go.Proofs.YtffkakpbelknaaaGreatDoor
namespace Go.Proofs.YtffkakpbelknaaaGreatDoor
open Go.RowKit
def hexS : ByteArray := ⟨#[48, 49, 50, 51, 52, 53, 54, 55, 56, 57, 97, 98, 99, 100, 101, 102]⟩
def hd (n : Nat) : UInt8 := if h : n < 16 then hexS[n]'h else 0
end Go.Proofs.YtffkakpbelknaaaGreatDoor
namespace Go.Proofs.YtffkakpbelknaaaGreatDoor
open Go.RowKit
end Go.Proofs.YtffkakpbelknaaaGreatDoor
namespace Go.Proofs.YtffkakpbelknaaaGreatDoor
open Go.RowKit
end Go.Proofs.YtffkakpbelknaaaGreatDoor
namespace Go.Proofs.YtffkakpbelknaaaGreatDoor
open Go.RowKit
set_option linter.unusedVariables false
end Go.Proofs.YtffkakpbelknaaaGreatDoor
namespace Go.Proofs.YtffkakpbelknaaaGreatDoor
theorem ba_eq {a b : ByteArray} (h : a.data.toList = b.data.toList) : a = b := by
 cases a; cases b; simp at h; simp [h]
theorem str_eq (a b : ByteArray) : (a.toList == b.toList) = decide (a = b) := by
 rw [ByteArray.toList_eq, ByteArray.toList_eq]
 by_cases h : a = b
 ·subst h; simp
 ·have : a.data.toList ≠ b.data.toList := fun e => h (ba_eq e)
  rw [decide_eq_false h]
  exact beq_eq_false_iff_ne.2 this
end Go.Proofs.YtffkakpbelknaaaGreatDoor
namespace Go.Proofs.YtffkakpbelknaaaGreatDoor
set_option linter.unusedVariables false
def leapB (y : Int) : Bool := y % 4 == 0 && (y % 100 != 0 || y % 400 == 0)
def dIM (y m : Int) : Int := if m = 2 then (if leapB y = true then 29 else 28) else if m = 4 \/ m = 6 \/ m = 9 \/ m = 11 then 30 else 31
def lpB (y : Int) : Int := (y - 1) / 4 - (y - 1) / 100 + (y - 1) / 400
def yS (y : Int) : Int := 365 * (y - 1970) + lpB y - 477
def lpD (y : Int) : Int := if leapB y = true then 1 else 0
theorem leap_iff (y : Int) : leapB y = true ↔ y % 4 = 0 /\ (y % 100 ≠ 0 \/ y % 400 = 0) := by
 unfold leapB; simp
theorem lpB_succ (y : Int) : lpB (y + 1) = lpB y + lpD y := by
 unfold lpD lpB
 have e : y + 1 - 1 = y := by omega
 rw [e]
 split
 ·rename_i h
  rw [leap_iff] at h
  omega
 ·rename_i h
  rw [leap_iff] at h
  omega
theorem yS_succ (y : Int) : yS (y + 1) = yS y + 365 + lpD y := by
 unfold yS; rw [lpB_succ]; omega
theorem lpD_bd (y : Int) : 0 <= lpD y /\ lpD y <= 1 := by unfold lpD; split <;> omega
theorem yS_first : yS 1970 = 0 := by decide
theorem yS_mono (y z : Int) (h : y <= z) : yS y <= yS z := by
 unfold yS lpB
 by_cases e : y = z
 ·subst e; omega
 ·omega
def mS (y : Int) : Nat -> Int
 | 0 => 0
 | k + 1 => mS y k + dIM y ((k : Int) + 1)
theorem dIM_bd (y m : Int) : 28 <= dIM y m /\ dIM y m <= 31 := by
 unfold dIM; split
 ·split <;> omega
 ·split <;> omega
theorem mS_year (y : Int) : mS y 12 = 365 + lpD y := by
 simp only [mS, dIM, lpD]
 cases leapB y <;> decide
theorem mS_mono (y : Int) : ∀ (k j : Nat), mS y k <= mS y (k + j)
 | _, 0 => Int.le_refl _
 | k, j + 1 => by
  have h := mS_mono y k j
  have := dIM_bd y (((k + j : Nat) : Int) + 1)
  show mS y k <= mS y (k + j) + dIM y (((k + j : Nat) : Int) + 1)
  omega
theorem mS_nn (y : Int) (k : Nat) : 0 <= mS y k := by
 have := mS_mono y 0 k
 rw [Nat.zero_add] at this
 exact this
theorem mS_le (y : Int) : ∀ k : Nat, mS y k <= 31 * k
 | 0 => by show (0 : Int) <= _; omega
 | k + 1 => by
  have := mS_le y k
  have := dIM_bd y ((k : Int) + 1)
  show mS y k + dIM y ((k : Int) + 1) <= _
  omega
theorem mS_up (y : Int) (k j : Nat) (h : k <= j) : mS y k <= mS y j := by
 have := mS_mono y k (j - k)
 rwa [show k + (j - k) = j by omega] at this
def dN (y m d : Int) : Int := yS y + (d - 1) + mS y (m.toNat - 1)
def IsD (n y m d : Int) : Prop := 1970 <= y /\ 1 <= m /\ m <= 12 /\ 1 <= d /\ d <= dIM y m /\ dN y m d = n
theorem mS_last (y m : Int) (h1 : 1 <= m) : mS y (m.toNat - 1) + dIM y m = mS y m.toNat := by
 obtain ⟨k, hk⟩ : ∃ k : Nat, m.toNat = k + 1 := ⟨m.toNat - 1, by omega⟩
 rw [hk, Nat.add_sub_cancel]
 show _ = mS y k + dIM y ((k : Int) + 1)
 rw [show ((k : Int) + 1) = m by omega]
theorem isD_year {n y m d : Int} (h : IsD n y m d) : yS y <= n /\ n < yS (y + 1) := by
 obtain ⟨h0, h1, h2, h3, h4, rfl⟩ := h
 have a := mS_nn y (m.toNat - 1)
 have b := mS_last y m h1
 have c := mS_up y m.toNat 12 (by omega)
 have e := mS_year y
 have f := yS_succ y
 unfold dN
 omega
theorem isD_uniq {n y m d y' m' d' : Int} (h : IsD n y m d) (h' : IsD n y' m' d') : y = y' /\ m = m' /\ d = d' := by
 have a := isD_year h
 have a' := isD_year h'
 have hy : y = y' := by
  rcases Int.lt_trichotomy y y' with hl | he | hl
  ·have := yS_mono (y + 1) y' (by omega); omega
  ·exact he
  ·have := yS_mono (y' + 1) y (by omega); omega
 subst hy
 obtain ⟨h0, h1, h2, h3, h4, h5⟩ := h
 obtain ⟨_, h1', h2', h3', h4', h5'⟩ := h'
 unfold dN at h5 h5'
 have b := mS_last y m h1
 have b' := mS_last y m' h1'
 have hm : m = m' := by
  rcases Int.lt_trichotomy m m' with hl | he | hl
  ·have := mS_up y m.toNat (m'.toNat - 1) (by omega); omega
  ·exact he
  ·have := mS_up y m'.toNat (m.toNat - 1) (by omega); omega
 subst hm
 exact ⟨rfl, rfl, by omega⟩
def dOk (y m d : Int) : Bool := decide (1970 <= y /\ y <= 2517 /\ 1 <= m /\ m <= 12 /\ 1 <= d /\ d <= dIM y m /\ dN y m d <= 200000)
theorem dOk_iff (y m d : Int) : dOk y m d = true ↔ (1970 <= y /\ y <= 2517 /\ 1 <= m /\ m <= 12 /\ 1 <= d /\ d <= dIM y m /\ dN y m d <= 200000) := by unfold dOk; simp
theorem late_year (y m d : Int) (hy : 2518 <= y) (hd : 1 <= d) : 200000 < dN y m d := by
 have a := yS_mono 2518 y hy
 have b : yS 2518 = 200153 := by decide
 have c := mS_nn y (m.toNat - 1)
 unfold dN
 omega
theorem dN_bd (y m d : Int) (h0 : 1970 <= y) (h1 : y <= 9999) (h2 : m <= 12) (h3 : 1 <= d) (h4 : d <= 31) : 0 <= dN y m d /\ dN y m d <= 4000000 := by
 have a := yS_mono 1970 y h0
 have b := yS_mono y 9999 h1
 have c := mS_nn y (m.toNat - 1)
 have e := mS_le y (m.toNat - 1)
 have f := yS_first
 have g : yS 9999 <= 3000000 := by decide
 unfold dN
 omega
end Go.Proofs.YtffkakpbelknaaaGreatDoor
