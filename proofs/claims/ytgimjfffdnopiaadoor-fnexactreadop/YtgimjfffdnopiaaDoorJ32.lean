/- Joined: W8h. -/
import Derived.Test.YtgimjfffdnopiaaDoorJ9
import Derived.Test.YtgimjfffdnopiaaDoorJ13
import Derived.Test.YtgimjfffdnopiaaDoorJ15
import Derived.Test.YtgimjfffdnopiaaDoorJ24
/- W8h -/
namespace Go.Proofs.YtgimjfffdnopiaaDoor
open Go.ChangeShapes Go.WideShapes Go.ChangeAt Go.RowKit
set_option linter.unusedVariables false

theorem dateT_size (y m d : Int) : (dateT y m d).size ≤ 10 := by
  unfold dateT
  by_cases h : dOk y m d = true
  · rw [if_pos h]
    obtain ⟨c1, c2, c3, c4, c5, c6, c7⟩ := (dOk_iff y m d).1 h
    have h4 := dec_four y.toNat (by omega) (by omega)
    unfold dtB
    simp only [ByteArray.size_append, twoB_size, h4]
    exact Nat.le_refl _
  · rw [if_neg h]
    exact Nat.zero_le _
theorem escR_le (s : ByteArray) : (escR s).size ≤ 1200 := by
  unfold escR
  split
  · have h1 := escL_len s.data.toList
    have h2 : s.data.toList.length = s.size := by simp
    show (escL s.data.toList).toArray.size ≤ 1200
    rw [List.size_toArray]
    omega
  · exact Nat.zero_le _
def iS1 : ByteArray := ⟨#[60, 105, 116, 101, 109, 32, 105, 100, 61, 34]⟩
def iS2 : ByteArray := ⟨#[34, 32, 100, 97, 116, 101, 61, 34]⟩
def iS3 : ByteArray := ⟨#[34, 62]⟩
def iS4 : ByteArray := ⟨#[60, 47, 105, 116, 101, 109, 62]⟩
noncomputable def dayT (n : Int) : ByteArray := dateT (dateR n).1 (dateR n).2.1 (dateR n).2.2
noncomputable def itT (s t : ByteArray) (n : Int) : ByteArray := ⟨#[60, 105, 116, 101, 109, 32, 105, 100, 61, 34]⟩ ++ escR s ++ ⟨#[34, 32, 100, 97, 116, 101, 61, 34]⟩ ++ dayT n ++ ⟨#[34, 62]⟩ ++ escR t ++ ⟨#[60, 47, 105, 116, 101, 109, 62]⟩

end Go.Proofs.YtgimjfffdnopiaaDoor
