/- Joined: W8n. -/
import Derived.Test.YtgimjfffdnopiaaDoorH33
import Derived.Test.YtgimjfffdnopiaaDoorH40
/- W8n -/
namespace Go.Proofs.YtgimjfffdnopiaaDoor
open Go.ChangeShapes Go.WideShapes Go.ChangeAt Go.RowKit
set_option linter.unusedVariables false

noncomputable def itX (x : It) : ByteArray := itT x.id x.ti x.da
noncomputable def fdI (H : ByteArray) (its : List It) : ByteArray := its.foldl (fun b x => b ++ itX x) H
theorem fdI_snoc (H : ByteArray) (its : List It) (k : Nat) (h : k < its.length) : fdI H (its.take (k + 1)) = fdI H (its.take k) ++ itX its[k] := by
  unfold fdI; rw [List.take_succ_eq_append_getElem h, List.foldl_append]; rfl
def fdH (u t : ByteArray) : ByteArray := ⟨#[60, 102, 101, 101, 100, 32, 117, 114, 108, 61, 34]⟩ ++ escR u ++ ⟨#[34, 62, 60, 116, 105, 116, 108, 101, 62]⟩ ++ escR t ++ ⟨#[60, 47, 116, 105, 116, 108, 101, 62]⟩
noncomputable def fdX (u t : ByteArray) (its : List It) : ByteArray := if fdB u t its = true then fdI (fdH u t) its ++ ⟨#[60, 47, 102, 101, 101, 100, 62]⟩ else ⟨#[]⟩
theorem itX_size (x : It) : (itX x).size ≤ 2500 := by
  unfold itX itT
  simp only [ByteArray.size_append]
  have h1 := escR_le x.id
  have h2 := escR_le x.ti
  have h3 : (dayT x.da).size ≤ 10 := dateT_size _ _ _
  have l1 : (⟨#[60, 105, 116, 101, 109, 32, 105, 100, 61, 34]⟩ : ByteArray).size = 10 := rfl
  have l2 : (⟨#[34, 32, 100, 97, 116, 101, 61, 34]⟩ : ByteArray).size = 8 := rfl
  have l3 : (⟨#[34, 62]⟩ : ByteArray).size = 2 := rfl
  have l4 : (⟨#[60, 47, 105, 116, 101, 109, 62]⟩ : ByteArray).size = 7 := rfl
  omega
theorem ret_str8 {a b : ByteArray} (h : a = b) : Ending.returned (.string a) = .returned (.string b) := by rw [h]
theorem fdB_len {u t : ByteArray} {its : List It} (h : fdB u t its = true) : its.length ≤ 12 := by
  unfold fdB at h
  simp only [Bool.and_eq_true, decide_eq_true_eq] at h
  exact h.2.2

end Go.Proofs.YtgimjfffdnopiaaDoor
