/- Joined: W11a. -/
import Derived.Test.YtffkakpbelknaaaGreatDoorF37
import Derived.Test.YtffkakpbelknaaaGreatDoorF39
/- W11a -/
namespace Go.Proofs.YtffkakpbelknaaaGreatDoor
open Go.ChangeShapes Go.WideShapes Go.ChangeAt Go.RowKit
set_option linter.unusedVariables false

/-- The word of a kind. -/
def wdB (k : Int) : ByteArray := if k = 1 then ⟨#[97, 100, 100]⟩ else if k = 2 then ⟨#[100, 114, 111, 112]⟩ else if k = 3 then ⟨#[102, 101, 116, 99, 104]⟩ else if k = 4 then ⟨#[114, 101, 97, 100]⟩ else if k = 5 then ⟨#[117, 110, 114, 101, 97, 100]⟩ else if k = 6 then ⟨#[115, 116, 97, 114]⟩ else if k = 7 then ⟨#[117, 110, 115, 116, 97, 114]⟩ else if k = 8 then ⟨#[97, 108, 108]⟩ else if k = 9 then ⟨#[112, 117, 114, 103, 101]⟩ else ⟨#[]⟩
/-- What stands behind the word. -/
noncomputable def dpX (o : OpD) : ByteArray := if o.k = 3 then fdX o.fu o.ft o.its else if o.k = 9 then dayT o.d else if o.k = 1 ∨ o.k = 2 ∨ o.k = 8 then o.u else o.u ++ ⟨#[32]⟩ ++ o.i
noncomputable def opX (o : OpD) : ByteArray := if opB o = true then wdB o.k ++ ⟨#[32]⟩ ++ dpX o else ⟨#[]⟩

theorem escR_six (s : ByteArray) (m : Nat) (h : s.size ≤ m) : (escR s).size ≤ 6 * m := by
  unfold escR
  split
  · have h1 := escL_len s.data.toList
    have h2 : s.data.toList.length = s.size := by simp
    show (escL s.data.toList).toArray.size ≤ 6 * m
    rw [List.size_toArray]
    omega
  · exact Nat.zero_le _
theorem dayT_size (n : Int) : (dayT n).size ≤ 10 := dateT_size _ _ _
theorem itX_small (x : It) (h1 : x.id.size ≤ 8) (h2 : x.ti.size ≤ 24) : (itX x).size ≤ 229 := by
  unfold itX itT
  simp only [ByteArray.size_append]
  have e1 := escR_six x.id 8 h1
  have e2 := escR_six x.ti 24 h2
  have e3 := dayT_size x.da
  have l1 : (⟨#[60, 105, 116, 101, 109, 32, 105, 100, 61, 34]⟩ : ByteArray).size = 10 := rfl
  have l2 : (⟨#[34, 32, 100, 97, 116, 101, 61, 34]⟩ : ByteArray).size = 8 := rfl
  have l3 : (⟨#[34, 62]⟩ : ByteArray).size = 2 := rfl
  have l4 : (⟨#[60, 47, 105, 116, 101, 109, 62]⟩ : ByteArray).size = 7 := rfl
  omega
theorem fdI_small (its : List It) : ∀ (H : ByteArray), (∀ x ∈ its, (itX x).size ≤ 229) → (fdI H its).size ≤ H.size + 229 * its.length := by
  induction its with
  | nil => intro H h; exact Nat.le_refl _
  | cons x its ih =>
    intro H h
    have h1 := ih (H ++ itX x) (fun y hy => h y (List.mem_cons_of_mem _ hy))
    have h2 := h x (List.mem_cons_self)
    rw [ByteArray.size_append] at h1
    rw [List.length_cons]
    show (fdI (H ++ itX x) its).size ≤ _
    omega
theorem fdX_small (u t : ByteArray) (its : List It) : (fdX u t its).size ≤ 3047 := by
  unfold fdX
  by_cases h : fdB u t its = true
  · rw [if_pos h]
    obtain ⟨hu, ht, hk⟩ := fdB_parts h
    have h12 := fdB_len h
    have h1 := fdI_small its (fdH u t) (fun x hx => by
      obtain ⟨i, hi, rfl⟩ := List.getElem_of_mem hx
      obtain ⟨a, b, _⟩ := hk i hi
      exact itX_small _ a b)
    have h2 : (fdH u t).size ≤ 292 := by
      unfold fdH
      simp only [ByteArray.size_append]
      have e1 := escR_six u 20 hu
      have e2 := escR_six t 24 ht
      have l1 : (⟨#[60, 102, 101, 101, 100, 32, 117, 114, 108, 61, 34]⟩ : ByteArray).size = 11 := rfl
      have l2 : (⟨#[34, 62, 60, 116, 105, 116, 108, 101, 62]⟩ : ByteArray).size = 9 := rfl
      have l3 : (⟨#[60, 47, 116, 105, 116, 108, 101, 62]⟩ : ByteArray).size = 8 := rfl
      omega
    rw [ByteArray.size_append]
    have l4 : (⟨#[60, 47, 102, 101, 101, 100, 62]⟩ : ByteArray).size = 7 := rfl
    omega
  · rw [if_neg h]
    exact Nat.zero_le _
theorem wdB_size (k : Int) : (wdB k).size ≤ 6 := by
  unfold wdB
  repeat' split
  all_goals decide
theorem nm_size {s : ByteArray} {m : Nat} (h : nmB s m = true) : s.size ≤ m := by
  unfold nmB at h
  simp only [Bool.and_eq_true, decide_eq_true_eq] at h
  exact h.1.2
theorem op_u {o : OpD} (h : opB o = true) (hk : o.k ≠ 3 ∧ o.k ≠ 9) : o.u.size ≤ 20 := by
  unfold opB at h
  by_cases h1 : o.k = 1 ∨ o.k = 2 ∨ o.k = 8
  · rw [if_pos h1] at h
    simp only [Bool.and_eq_true] at h
    exact nm_size h.1.1.1
  · rw [if_neg h1, if_neg hk.1] at h
    by_cases h4 : o.k = 4 ∨ o.k = 5 ∨ o.k = 6 ∨ o.k = 7
    · rw [if_pos h4] at h
      simp only [Bool.and_eq_true] at h
      exact nm_size h.1.1.1
    · rw [if_neg h4, if_neg hk.2] at h
      cases h
theorem op_i {o : OpD} (h : opB o = true) (h4 : o.k = 4 ∨ o.k = 5 ∨ o.k = 6 ∨ o.k = 7) : o.i.size ≤ 8 := by
  unfold opB at h
  rw [if_neg (by omega), if_neg (by omega), if_pos h4] at h
  simp only [Bool.and_eq_true] at h
  exact nm_size h.1.1.2
theorem op_d {o : OpD} (h : opB o = true) (h9 : o.k = 9) : 0 ≤ o.d ∧ o.d ≤ 200000 := by
  unfold opB at h
  rw [if_neg (by omega), if_neg (by omega), if_neg (by omega), if_pos h9] at h
  simp only [Bool.and_eq_true, decide_eq_true_eq] at h
  exact h.1.2
theorem op_f {o : OpD} (h : opB o = true) (h3 : o.k = 3) : fdB o.fu o.ft o.its = true := by
  unfold opB at h
  rw [if_neg (by omega), if_pos h3] at h
  simp only [Bool.and_eq_true] at h
  exact h.2
theorem op_kinds11 {o : OpD} (h : opB o = true) : o.k = 1 ∨ o.k = 2 ∨ o.k = 3 ∨ o.k = 4 ∨ o.k = 5 ∨ o.k = 6 ∨ o.k = 7 ∨ o.k = 8 ∨ o.k = 9 := by
  unfold opB at h
  by_cases h1 : o.k = 1 ∨ o.k = 2 ∨ o.k = 8
  · omega
  · rw [if_neg h1] at h
    by_cases h3 : o.k = 3
    · omega
    · rw [if_neg h3] at h
      by_cases h4 : o.k = 4 ∨ o.k = 5 ∨ o.k = 6 ∨ o.k = 7
      · omega
      · rw [if_neg h4] at h
        by_cases h9 : o.k = 9
        · omega
        · rw [if_neg h9] at h
          cases h
theorem opX_small (o : OpD) : (opX o).size ≤ 3054 := by
  unfold opX
  by_cases h : opB o = true
  · rw [if_pos h, ByteArray.size_append, ByteArray.size_append]
    have h1 := wdB_size o.k
    have l1 : (⟨#[32]⟩ : ByteArray).size = 1 := rfl
    have h2 : (dpX o).size ≤ 3047 := by
      unfold dpX
      by_cases h3 : o.k = 3
      · rw [if_pos h3]; exact fdX_small _ _ _
      · rw [if_neg h3]
        by_cases h9 : o.k = 9
        · rw [if_pos h9]; have := dayT_size o.d; omega
        · rw [if_neg h9]
          have hu := op_u h ⟨h3, h9⟩
          by_cases h8 : o.k = 1 ∨ o.k = 2 ∨ o.k = 8
          · rw [if_pos h8]; omega
          · rw [if_neg h8, ByteArray.size_append, ByteArray.size_append]
            have hi := op_i h (by have := op_kinds11 h; omega)
            omega
    omega
  · rw [if_neg h]
    exact Nat.zero_le _
/-- The table of words lies as it should. -/
def OTab (w : World) : Prop := ∃ t, w.heap[0]? = some (.cells #[.string ⟨#[]⟩, .string ⟨#[97, 100, 100]⟩, .string ⟨#[100, 114, 111, 112]⟩, .string ⟨#[102, 101, 116, 99, 104]⟩, .string ⟨#[114, 101, 97, 100]⟩, .string ⟨#[117, 110, 114, 101, 97, 100]⟩, .string ⟨#[115, 116, 97, 114]⟩, .string ⟨#[117, 110, 115, 116, 97, 114]⟩, .string ⟨#[97, 108, 108]⟩, .string ⟨#[112, 117, 114, 103, 101]⟩] t (0, 0))
theorem OTab.below {w w' : World} {B : Nat} (h : OTab w) (hb : Below B w w') (hB : w.heap.size ≤ B) : OTab w' := by
  obtain ⟨t, h⟩ := h
  exact ⟨t, (hb.block _ (by have := (Array.getElem?_eq_some_iff.1 h).1; omega)).trans h⟩
theorem OTab.cell {w : World} (h : OTab w) (k : Nat) (h0 : 1 ≤ k) (h9 : k ≤ 9) : w.cell? ⟨0, k, none⟩ = some (.string (wdB (k : Int))) := by
  obtain ⟨t, h⟩ := h
  have hk : k = 1 ∨ k = 2 ∨ k = 3 ∨ k = 4 ∨ k = 5 ∨ k = 6 ∨ k = 7 ∨ k = 8 ∨ k = 9 := by omega
  rcases hk with rfl | rfl | rfl | rfl | rfl | rfl | rfl | rfl | rfl
  all_goals (simp [World.cell?, h]; rfl)
/-- All tables that operations as texts ask for. -/
def Tabs (w : World) : Prop := ETab w ∧ MTab w ∧ PTab w ∧ OTab w
theorem Tabs.below {w w' : World} {B : Nat} (h : Tabs w) (hb : Below B w w') (hB : w.heap.size ≤ B) : Tabs w' := ⟨h.1.below hb hB, h.2.1.below hb hB, h.2.2.1.below hb hB, h.2.2.2.below hb hB⟩
end Go.Proofs.YtffkakpbelknaaaGreatDoor
