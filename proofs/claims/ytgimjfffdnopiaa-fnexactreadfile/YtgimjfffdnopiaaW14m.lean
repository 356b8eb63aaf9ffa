/- Of the reference: the form of an operation; an operation done on files. -/
import Derived.Test.YtgimjfffdnopiaaW14l
import Derived.Test.YtgimjfffdnopiaaW14h
namespace Go.Proofs.Ytgimjfffdnopiaa
open Go.ChangeShapes Go.WideShapes Go.ChangeAt Go.RowKit
set_option linter.unusedVariables false

set_option maxRecDepth 100000 in
set_option maxHeartbeats 1600000 in
theorem l14Form_any (o : DOp) (w : World) (hs : DoSz o) :
    Calls Try.prog 85 #[doV o] w fun e w' => e = .returned (.bool (frB1 o)) ∧ Below w.heap.size w w' := by
  have HN := Lib.hid (fun w => l14Name_any o.nm w hs.1)
  have HT := Lib.hid (fun w => l14Name_any o.tn w hs.2.1)
  have HL := Lib.hid (fun w => l1In_any o.k 1 3 w)
  have HF : Hid (frB1 o = if o.k = 1 then nmO o.nm && emB o.tn else if o.k = 2 then nmO o.nm && nmO o.tn && emB o.da else if o.k = 3 then nmO o.nm && emB o.tn && emB o.da else false) := Lib.hid rfl
  generalize frB1 o = FB at HF ⊢
  generalize nmO o.nm = A at HN HF
  generalize nmO o.tn = B at HT HF
  obtain ⟨E1, hE1⟩ : ∃ E, emB o.tn = E := ⟨_, rfl⟩
  obtain ⟨E2, hE2⟩ : ∃ E, emB o.da = E := ⟨_, rfl⟩
  rw [hE1, hE2] at HF
  unfold emB at hE1 hE2
  obtain ⟨k, nm, tn, da⟩ := o
  simp only at HN HT HL HF hE1 hE2 ⊢
  clear hs
  have hB0 : Below w.heap.size w (w.alloc (.cells #[.int .i64 k, .string nm, .string tn, .string da] 70)) := (Below.refl _ _).alloc (Nat.le_refl _) _
  by_cases h1 : k = 1
  · subst h1
    simp only [if_pos] at HF
    cases A with
    | false =>
      go_enter Try.func85, Try.ntmps85
      go_wp2_with fail
      refine (HL.out _).mono ?_
      rintro e w1 ⟨rfl, rfl⟩
      go_wp2_with fail
      refine (HN.out _).mono ?_
      rintro e w1 ⟨rfl, rfl⟩
      go_wp2
      go_ret
      exact ⟨ret_bool HF.out.symm, hB0⟩
    | true =>
      cases E1 with
      | false =>
        go_enter Try.func85, Try.ntmps85
        go_wp2_with fail
        refine (HL.out _).mono ?_
        rintro e w1 ⟨rfl, rfl⟩
        go_wp2_with fail
        refine (HN.out _).mono ?_
        rintro e w1 ⟨rfl, rfl⟩
        go_wp2
        go_ret
        exact ⟨ret_bool HF.out.symm, hB0⟩
      | true =>
        go_enter Try.func85, Try.ntmps85
        go_wp2_with fail
        refine (HL.out _).mono ?_
        rintro e w1 ⟨rfl, rfl⟩
        go_wp2_with fail
        refine (HN.out _).mono ?_
        rintro e w1 ⟨rfl, rfl⟩
        go_wp2
        go_ret
        exact ⟨ret_bool HF.out.symm, hB0⟩
  · by_cases h2 : k = 2
    · subst h2
      simp only [if_neg h1, if_pos] at HF
      clear h1
      cases A with
      | false =>
        go_enter Try.func85, Try.ntmps85
        go_wp2_with fail
        refine (HL.out _).mono ?_
        rintro e w1 ⟨rfl, rfl⟩
        go_wp2_with fail
        refine (HN.out _).mono ?_
        rintro e w1 ⟨rfl, rfl⟩
        go_wp2
        go_ret
        exact ⟨ret_bool HF.out.symm, hB0⟩
      | true =>
        cases B with
        | false =>
          go_enter Try.func85, Try.ntmps85
          go_wp2_with fail
          refine (HL.out _).mono ?_
          rintro e w1 ⟨rfl, rfl⟩
          go_wp2_with fail
          refine (HN.out _).mono ?_
          rintro e w1 ⟨rfl, rfl⟩
          go_wp2_with fail
          refine (HT.out _).mono ?_
          rintro e w1 ⟨rfl, rfl⟩
          go_wp2
          go_ret
          exact ⟨ret_bool HF.out.symm, hB0⟩
        | true =>
          go_enter Try.func85, Try.ntmps85
          go_wp2_with fail
          refine (HL.out _).mono ?_
          rintro e w1 ⟨rfl, rfl⟩
          go_wp2_with fail
          refine (HN.out _).mono ?_
          rintro e w1 ⟨rfl, rfl⟩
          go_wp2_with fail
          refine (HT.out _).mono ?_
          rintro e w1 ⟨rfl, rfl⟩
          go_wp2
          go_ret
          exact ⟨ret_bool HF.out.symm, hB0⟩
    · by_cases h3 : k = 3
      · subst h3
        simp only [if_neg h1, if_neg h2, if_pos] at HF
        clear h1 h2
        cases A with
        | false =>
          go_enter Try.func85, Try.ntmps85
          go_wp2_with fail
          refine (HL.out _).mono ?_
          rintro e w1 ⟨rfl, rfl⟩
          go_wp2_with fail
          refine (HN.out _).mono ?_
          rintro e w1 ⟨rfl, rfl⟩
          go_wp2
          go_ret
          exact ⟨ret_bool HF.out.symm, hB0⟩
        | true =>
          cases E1 with
          | false =>
            go_enter Try.func85, Try.ntmps85
            go_wp2_with fail
            refine (HL.out _).mono ?_
            rintro e w1 ⟨rfl, rfl⟩
            go_wp2_with fail
            refine (HN.out _).mono ?_
            rintro e w1 ⟨rfl, rfl⟩
            go_wp2
            go_ret
            exact ⟨ret_bool HF.out.symm, hB0⟩
          | true =>
            go_enter Try.func85, Try.ntmps85
            go_wp2_with fail
            refine (HL.out _).mono ?_
            rintro e w1 ⟨rfl, rfl⟩
            go_wp2_with fail
            refine (HN.out _).mono ?_
            rintro e w1 ⟨rfl, rfl⟩
            go_wp2
            go_ret
            exact ⟨ret_bool HF.out.symm, hB0⟩
      · simp only [if_neg h1, if_neg h2, if_neg h3] at HF
        have hIn : (decide (1 ≤ k) && decide (k ≤ 3)) = false := by
          rw [Bool.eq_false_iff]
          intro h
          simp at h
          omega
        rw [hIn] at HL
        go_enter Try.func85, Try.ntmps85
        go_wp2_with fail
        refine (HL.out _).mono ?_
        rintro e w1 ⟨rfl, rfl⟩
        go_wp2
        go_ret
        exact ⟨ret_bool HF.out.symm, hB0⟩
end Go.Proofs.Ytgimjfffdnopiaa
