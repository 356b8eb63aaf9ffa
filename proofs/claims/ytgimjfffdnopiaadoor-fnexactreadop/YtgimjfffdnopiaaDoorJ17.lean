/- Joined: PlainE2. -/
import Derived.Test.YtgimjfffdnopiaaDoorJ16
/- PlainE2 -/
namespace Go.Proofs.YtgimjfffdnopiaaDoor
set_option linter.unusedVariables false

theorem esc_mark (c : UInt8) (h : escM c ≠ []) : ∃ k, k < 4 ∧ c = mB k ∧ esc c = eL k := by
  have he : esc c = escM c := if_neg h
  rw [he]
  unfold escM at h ⊢
  by_cases h1 : c = 38
  · subst h1; exact ⟨0, by omega, rfl, rfl⟩
  rw [if_neg h1] at h ⊢
  by_cases h2 : c = 60
  · subst h2; exact ⟨1, by omega, rfl, rfl⟩
  rw [if_neg h2] at h ⊢
  by_cases h3 : c = 62
  · subst h3; exact ⟨2, by omega, rfl, rfl⟩
  rw [if_neg h3] at h ⊢
  by_cases h4 : c = 34
  · subst h4; exact ⟨3, by omega, rfl, rfl⟩
  rw [if_neg h4] at h
  exact absurd rfl h
theorem esc_of_mark (k : Nat) (h : k < 4) : esc (mB k) = eL k := by
  rcases k with _ | _ | _ | _ | k
  · rfl
  · rfl
  · rfl
  · rfl
  · omega
theorem not_amp {c : UInt8} (h : escM c = []) : c ≠ 38 := fun e => by subst e; cases h
theorem pre_other (k j : Nat) (hk : k < 4) (hj : j < k) (r : List UInt8) : Lib.hasPrefix (eL k ++ r) (eL j) = false := by
  rcases k with _ | _ | _ | _ | k
  · omega
  all_goals (rcases j with _ | _ | _ | j) <;> first | omega | rfl
theorem pre_self (k : Nat) (r : List UInt8) : Lib.hasPrefix (eL k ++ r) (eL k) = true := by
  unfold Lib.hasPrefix
  exact List.isPrefixOf_iff_prefix.2 ⟨r, rfl⟩
theorem pst_esc (c : UInt8) (r : List UInt8) : pst (esc c ++ r) = some (c, (esc c).length) := by
  by_cases h : escM c = []
  · have he : esc c = [c] := if_pos h
    rw [he]
    show pst (c :: r) = _
    rw [pst_miss c r (fun j _ => head_ne c r (not_amp h) j), if_pos h]
    rfl
  · obtain ⟨k, hk, hc, he⟩ := esc_mark c h
    rw [he, pst_hit (eL k ++ r) k hk (fun j hj => pre_other k j hk hj r) (pre_self k r), hc]
    rfl
theorem esc_ne (c : UInt8) : esc c ≠ [] := by
  unfold esc
  split
  · simp
  · assumption
theorem plain_escaped : ∀ l : List UInt8, plL (escL l) = some l
  | [] => plL_nil
  | c :: l => by
    have e : escL (c :: l) = esc c ++ escL l := by unfold escL; rw [List.flatMap_cons]
    have hne : esc c ++ escL l ≠ [] := fun h => esc_ne c (List.append_eq_nil_iff.1 h).1
    have h1 : 1 ≤ (esc c).length := by
      cases hq : esc c with
      | nil => exact absurd hq (esc_ne c)
      | cons a b => simp
    rw [e, plL_some _ c (esc c).length hne (pst_esc c (escL l)) h1, List.drop_left' rfl, plain_escaped l]
    rfl
theorem pst_back (t : List UInt8) (b : UInt8) (k : Nat) (h : pst t = some (b, k)) : 1 ≤ k ∧ t = esc b ++ t.drop k := by
  have hit : ∀ j, j < 4 → Lib.hasPrefix t (eL j) = true → t = eL j ++ t.drop (eL j).length := by
    intro j _ hp
    obtain ⟨r, hr⟩ := List.isPrefixOf_iff_prefix.1 hp
    rw [← hr, List.drop_left' rfl]
  unfold pst at h
  by_cases h0 : Lib.hasPrefix t (eL 0) = true
  · rw [if_pos h0] at h
    cases h
    exact ⟨by omega, hit 0 (by omega) h0⟩
  rw [if_neg h0] at h
  by_cases h1 : Lib.hasPrefix t (eL 1) = true
  · rw [if_pos h1] at h
    cases h
    exact ⟨by omega, hit 1 (by omega) h1⟩
  rw [if_neg h1] at h
  by_cases h2 : Lib.hasPrefix t (eL 2) = true
  · rw [if_pos h2] at h
    cases h
    exact ⟨by omega, hit 2 (by omega) h2⟩
  rw [if_neg h2] at h
  by_cases h3 : Lib.hasPrefix t (eL 3) = true
  · rw [if_pos h3] at h
    cases h
    exact ⟨by omega, hit 3 (by omega) h3⟩
  rw [if_neg h3] at h
  cases t with
  | nil => cases h
  | cons c r =>
    simp only at h
    by_cases hm : escM c = []
    · rw [if_pos hm] at h
      cases h
      refine ⟨by omega, ?_⟩
      rw [show esc b = [b] from if_pos hm]
      rfl
    · rw [if_neg hm] at h
      cases h
theorem escaped_plain : ∀ (n : Nat) (t p : List UInt8), t.length ≤ n → plL t = some p → escL p = t
  | 0, t, p, hn, h => by
    have : t = [] := List.eq_nil_of_length_eq_zero (by omega)
    subst this
    rw [plL_nil] at h
    cases h
    rfl
  | n + 1, t, p, hn, h => by
    by_cases ht : t = []
    · subst ht
      rw [plL_nil] at h
      cases h
      rfl
    · cases hp : pst t with
      | none => rw [plL_none t ht hp] at h; cases h
      | some bk =>
        obtain ⟨b, k⟩ := bk
        obtain ⟨hk, he⟩ := pst_back t b k hp
        rw [plL_some t b k ht hp hk] at h
        cases hq : plL (t.drop k) with
        | none => rw [hq] at h; cases h
        | some p' =>
          rw [hq] at h
          cases h
          have hl : 0 < t.length := by cases t with | nil => exact absurd rfl ht | cons a b => simp
          have ih := escaped_plain n (t.drop k) p' (by rw [List.length_drop]; omega) hq
          show escL (b :: p') = t
          have e : escL (b :: p') = esc b ++ escL p' := by unfold escL; rw [List.flatMap_cons]
          rw [e, ih, ← he]
theorem plain_len : ∀ p : List UInt8, p.length ≤ (escL p).length
  | [] => Nat.le_refl _
  | c :: l => by
    have e : escL (c :: l) = esc c ++ escL l := by unfold escL; rw [List.flatMap_cons]
    have h := plain_len l
    have h1 : 1 ≤ (esc c).length := by
      cases hq : esc c with
      | nil => exact absurd hq (esc_ne c)
      | cons a b => simp
    rw [e, List.length_append, List.length_cons]
    omega
theorem no_marks (l : List UInt8) (b : UInt8) (h : b ∈ escL l) : b ≠ 60 ∧ b ≠ 62 ∧ b ≠ 34 := by
  unfold escL at h
  obtain ⟨c, _, hc⟩ := List.mem_flatMap.1 h
  by_cases hm : escM c = []
  · rw [show esc c = [c] from if_pos hm] at hc
    have : b = c := by simpa using hc
    subst this
    refine ⟨?_, ?_, ?_⟩ <;> (intro e; subst e; cases hm)
  · obtain ⟨k, hk, _, he⟩ := esc_mark c hm
    rw [he] at hc
    rcases k with _ | _ | _ | _ | k
    all_goals first | omega | (simp [eL, eB] at hc; rcases hc with rfl | rfl | rfl | rfl | rfl | rfl <;> decide) | (simp [eL, eB] at hc; rcases hc with rfl | rfl | rfl | rfl | rfl <;> decide) | (simp [eL, eB] at hc; rcases hc with rfl | rfl | rfl | rfl <;> decide)
end Go.Proofs.YtgimjfffdnopiaaDoor
