/- Contracts: the state of a text, the words of a block (chapter 5). -/
import Derived.Test.YtfjaincogbdeiaaGreatDoorW5d
import Derived.Test.YtfjaincogbdeiaaGreatDoorW5c
namespace Go.Proofs.YtfjaincogbdeiaaGreatDoor
open Go.ChangeShapes Go.WideShapes Go.ChangeAt Go.RowKit Go.Shelf
set_option linter.unusedVariables false

attribute [local go_sem] Oper.semAt_some

/-- Words put at their places of a row. -/
def putR {M : Nat} (z : List Int) (pre : List (PW M)) : List Int := pre.foldl (fun zs x => zs.set x.1.1 x.1.2) z
theorem putR_snoc {M : Nat} (z : List Int) (pre : List (PW M)) (x : PW M) : putR z (pre ++ [x]) = (putR z pre).set x.1.1 x.1.2 := by
  unfold putR; rw [List.foldl_append]; rfl
theorem putR_len {M : Nat} (z : List Int) (pre : List (PW M)) : (putR z pre).length = z.length := by
  unfold putR
  induction pre generalizing z with
  | nil => rfl
  | cons x pre ih => rw [List.foldl_cons, ih]; simp
theorem putR_pws (s : ByteArray) (N : Nat) (hN : s.size / 4 ≤ N) : ∀ k, k ≤ s.size / 4 → putR (List.replicate N 0) ((pws s (s.size / 4) k).map rvP) = (beL s.data.toList).take k ++ List.replicate (N - k) 0
  | 0, _ => by simp [pws, putR]
  | k + 1, h => by
    have hl : (beL s.data.toList).length = s.size / 4 := by rw [beL_len]; simp
    have hk : k < (beL s.data.toList).length := by omega
    have ih := putR_pws s N hN k (by omega)
    have hp : 4 * k + 3 < s.data.toList.length := by simp; omega
    have hg := loadL_get s.data.toList k hp
    have hkl : k < (loadL s.data.toList).length := by rw [loadL_len]; simp; omega
    rw [List.getElem?_eq_getElem hkl] at hg
    have hg' := Option.some.inj hg
    have hp' : 4 * k + 3 < s.size := by omega
    have hw0 : (beL s.data.toList)[k]? = some (rev32 (wordAt s k)) := by
      unfold beL
      rw [List.getElem?_map, List.getElem?_eq_getElem hkl, hg']
      simp only [wordAt, dif_pos hp']
      rfl
    rw [List.getElem?_eq_getElem hk] at hw0
    have hw := (Option.some.inj hw0).symm
    rw [pws, dif_pos (by omega), List.map_append, List.map_cons, List.map_nil, putR_snoc, ih]
    have htl : ((beL s.data.toList).take k).length = k := by simp; omega
    show ((beL s.data.toList).take k ++ List.replicate (N - k) 0).set k (rev32 (wordAt s k)) = _
    rw [List.set_append_right _ _ (by omega), htl, Nat.sub_self, show N - k = (N - (k + 1)) + 1 by omega, List.replicate_succ, List.set_cons_zero, hw, List.take_succ_eq_append_getElem hk, List.append_assoc]
    rfl
theorem putR_all (s : ByteArray) (N : Nat) (hN : s.size / 4 ≤ N) : putR (List.replicate N 0) ((pws s (s.size / 4) (s.size / 4)).map rvP) = beL s.data.toList ++ List.replicate (N - s.size / 4) 0 := by
  rw [putR_pws s N hN _ (Nat.le_refl _), List.take_of_length_le (by rw [beL_len]; simp)]
theorem arr_own {β : Type} (B : Nat) (t : TypeId) (f : β → List Int) : Own (fun s W => Arr W B t .u32 (f s)) := fun s X Y row hs hg hrow =>
  (hg.block B hs.lt (fun e' => by obtain ⟨o, ho, hc⟩ := hrow B e'.symm; rw [show X.heap[B]? = _ from hs] at ho; cases ho; cases hc)).trans hs

end Go.Proofs.YtfjaincogbdeiaaGreatDoor
