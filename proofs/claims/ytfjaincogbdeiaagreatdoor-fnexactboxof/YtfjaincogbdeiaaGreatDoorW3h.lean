/- Contracts: NumOk of the reference; NumAdd, NumMul of both sides. -/
import Derived.Test.YtfjaincogbdeiaaGreatDoorW3f
import Derived.Test.YtfjaincogbdeiaaGreatDoorW3g
import Derived.Test.YtfjaincogbdeiaaGreatDoorPlainA
namespace Go.Proofs.YtfjaincogbdeiaaGreatDoor
open Go.ChangeShapes Go.WideShapes Go.ChangeAt Go.RowKit
set_option linter.unusedVariables false

theorem val17_lt (s : ByteArray) (h : s.size = 17) : leNat s.data.toList < 2 ^ 136 := by
  have := leNat_lt s.data.toList
  rw [show s.data.toList.length = 17 by simpa using h] at this
  exact this
theorem okR_txt (s : ByteArray) (h : s.size = 17) : ((txtR (leNat s.data.toList % 2 ^ 130 % prm)).toList == s.toList) = okR s := by
  rw [str_eq]
  have hv := val17_lt s h
  have hsl : s.data.toList.length = 17 := by simpa using h
  have hback : leBy 17 (leNat s.data.toList) = s.data.toList := by have := leBy_leNat s.data.toList; rw [hsl] at this; exact this
  unfold okR
  by_cases hl : leNat s.data.toList < prm
  · have e : leNat s.data.toList % 2 ^ 130 % prm = leNat s.data.toList := by
      unfold prm at hl ⊢
      generalize leNat s.data.toList = v at *
      omega
    have e2 : txtR (leNat s.data.toList) = s := by
      unfold txtR; rw [hback]
    rw [e, e2]; simp [h, hl]
  · have hne : txtR (leNat s.data.toList % 2 ^ 130 % prm) ≠ s := by
      intro e'
      have e := e'.symm
      have e3 : leNat s.data.toList = leNat s.data.toList % 2 ^ 130 % prm % 256 ^ 17 := by
        have := congrArg (fun b : ByteArray => leNat b.data.toList) e
        simp only [txtR] at this
        rw [leNat_leBy] at this
        exact this
      have := Nat.mod_lt (leNat s.data.toList % 2 ^ 130) prm_pos
      have h4 := Nat.mod_le (leNat s.data.toList % 2 ^ 130 % prm) (256 ^ 17)
      omega
    simp [hne, h, hl]

/-- NumAdd, NumMul, as the document says them. -/
def addR (a b : ByteArray) : ByteArray := if okR a = true ∧ okR b = true then txtR ((leNat a.data.toList + leNat b.data.toList) % prm) else ⟨#[]⟩
def mulR (a b : ByteArray) : ByteArray := if okR a = true ∧ okR b = true then txtR (leNat a.data.toList * leNat b.data.toList % prm) else ⟨#[]⟩
theorem okR_lt {s : ByteArray} (h : okR s = true) : s.size = 17 ∧ leNat s.data.toList < prm := by
  unfold okR at h; exact of_decide_eq_true h
theorem lt_of_prm {v : Nat} (h : v < prm) : v < 1361129467683753853853498429727072845824 := Nat.lt_of_lt_of_le h (by unfold prm; decide)

theorem l3LoadP_any (s : ByteArray) (w : World) (hs : s.size ≤ 17) (hv : leNat s.data.toList < 1361129467683753853853498429727072845824) :
    Calls Tryz.prog 131 #[.string s] w fun e w' => e = .returned (.agg (stK .i64 (partsL (leNat s.data.toList)))) ∧ Below w.heap.size w w' := by
  have h := l3Load_any s w hs
  rw [Nat.mod_eq_of_lt (show leNat s.data.toList < 2 ^ 130 from hv)] at h
  exact h

end Go.Proofs.YtfjaincogbdeiaaGreatDoor
