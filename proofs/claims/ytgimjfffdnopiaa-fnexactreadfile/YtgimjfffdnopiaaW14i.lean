/- An operation of a disk: its form (plain), and changeOf of the program. -/
import Derived.Test.YtgimjfffdnopiaaW14d
import Derived.BigQuiet
namespace Go.Proofs.Ytgimjfffdnopiaa
open Go.ChangeShapes Go.WideShapes Go.ChangeAt Go.RowKit
set_option linter.unusedVariables false

structure DOp where
  k : Int
  nm : ByteArray
  tn : ByteArray
  da : ByteArray
abbrev doV (o : DOp) : Value := .agg #[.int .i64 o.k, .string o.nm, .string o.tn, .string o.da]
def DoSz (o : DOp) : Prop := o.nm.size ≤ maxLen ∧ o.tn.size ≤ maxLen ∧ o.da.size ≤ maxLen
def emB (s : ByteArray) : Bool := s.toList == []
def frB1 (o : DOp) : Bool := if o.k = 1 then nmO o.nm && emB o.tn else if o.k = 2 then nmO o.nm && nmO o.tn && emB o.da else if o.k = 3 then nmO o.nm && emB o.tn && emB o.da else false
def chgV (o : DOp) : Value := if o.k = 1 then .iface 194 (.agg #[.string o.nm, .string o.da]) else if o.k = 2 then .iface 196 (.agg #[.string o.nm, .string o.tn]) else if o.k = 3 then .iface 198 (.agg #[.string o.nm]) else .nilIface
theorem ret_twoV {a b : Value} {x y : Bool} (h1 : a = b) (h2 : x = y) : Ending.returned (.tuple #[a, .bool x]) = .returned (.tuple #[b, .bool y]) := by rw [h1, h2]

set_option maxRecDepth 100000 in
set_option maxHeartbeats 1600000 in
theorem changeOf_any (o : DOp) (w : World) (hs : DoSz o) :
    Calls Try.prog 103 #[doV o] w fun e w' => e = .returned (.tuple #[chgV o, .bool (frB1 o)]) ∧ Below w.heap.size w w' := by
  have HN := Lib.hid (fun w => isFileName_any o.nm w hs.1)
  have HT := Lib.hid (fun w => isFileName_any o.tn w hs.2.1)
  have HF : Hid (frB1 o = if o.k = 1 then nmO o.nm && emB o.tn else if o.k = 2 then nmO o.nm && nmO o.tn && emB o.da else if o.k = 3 then nmO o.nm && emB o.tn && emB o.da else false) := Lib.hid rfl
  have HC : Hid (chgV o = if o.k = 1 then .iface 194 (.agg #[.string o.nm, .string o.da]) else if o.k = 2 then .iface 196 (.agg #[.string o.nm, .string o.tn]) else if o.k = 3 then .iface 198 (.agg #[.string o.nm]) else .nilIface) := Lib.hid rfl
  generalize frB1 o = FB at HF ⊢
  generalize chgV o = CV at HC ⊢
  generalize nmO o.nm = A at HN HF
  generalize nmO o.tn = B at HT HF
  obtain ⟨E1, hE1⟩ : ∃ E, emB o.tn = E := ⟨_, rfl⟩
  obtain ⟨E2, hE2⟩ : ∃ E, emB o.da = E := ⟨_, rfl⟩
  rw [hE1, hE2] at HF
  unfold emB at hE1 hE2
  obtain ⟨k, nm, tn, da⟩ := o
  simp only at HN HT HF HC hE1 hE2 ⊢
  clear hs
  have hB0 : Below w.heap.size w (w.alloc (.cells #[.int .i64 k, .string nm, .string tn, .string da] 70)) := (Below.refl _ _).alloc (Nat.le_refl _) _
  have HBn : Hid (∀ n, Below w.heap.size w ((w.alloc (.cells #[.int .i64 k, .string nm, .string tn, .string da] 70)).drewN n)) := Lib.hid (fun n => below_drewN hB0 n)
  by_cases h1 : k = 1
  · subst h1
    simp only [if_pos] at HF HC
    cases A with
    | false =>
      go_enter Try.func103, Try.ntmps103
      go_wp2_with fail
      refine (HN.out _).mono ?_
      rintro e w1 ⟨rfl, rfl⟩
      go_wp2
      go_quiet (fail)
      go_wp2
      go_ret2
      exact ⟨ret_twoV HC.out.symm HF.out.symm, HBn.out _⟩
    | true =>
      go_enter Try.func103, Try.ntmps103
      go_wp2_with fail
      refine (HN.out _).mono ?_
      rintro e w1 ⟨rfl, rfl⟩
      go_wp2
      go_quiet (fail)
      go_wp2
      go_ret2
      exact ⟨ret_twoV HC.out.symm HF.out.symm, HBn.out _⟩
  · by_cases h2 : k = 2
    · subst h2
      simp only [if_neg h1, if_pos] at HF HC
      clear h1
      cases A with
      | false =>
        go_enter Try.func103, Try.ntmps103
        go_wp2_with fail
        refine (HN.out _).mono ?_
        rintro e w1 ⟨rfl, rfl⟩
        go_wp2
        go_quiet (fail)
        go_wp2
        go_ret2
        exact ⟨ret_twoV HC.out.symm HF.out.symm, HBn.out _⟩
      | true =>
        cases B with
        | false =>
          go_enter Try.func103, Try.ntmps103
          go_wp2_with fail
          refine (HN.out _).mono ?_
          rintro e w1 ⟨rfl, rfl⟩
          go_wp2
          go_quiet ((go_at_call 145; exact quiet_same (HT.out _)))
          go_wp2
          go_ret2
          exact ⟨ret_twoV HC.out.symm HF.out.symm, HBn.out _⟩
        | true =>
          go_enter Try.func103, Try.ntmps103
          go_wp2_with fail
          refine (HN.out _).mono ?_
          rintro e w1 ⟨rfl, rfl⟩
          go_wp2
          go_quiet ((go_at_call 145; exact quiet_same (HT.out _)))
          go_wp2
          go_ret2
          exact ⟨ret_twoV HC.out.symm HF.out.symm, HBn.out _⟩
    · by_cases h3 : k = 3
      · subst h3
        simp only [if_neg h1, if_neg h2, if_pos] at HF HC
        clear h1 h2
        cases A with
        | false =>
          go_enter Try.func103, Try.ntmps103
          go_wp2_with fail
          refine (HN.out _).mono ?_
          rintro e w1 ⟨rfl, rfl⟩
          go_wp2
          go_quiet (fail)
          go_wp2
          go_ret2
          exact ⟨ret_twoV HC.out.symm HF.out.symm, HBn.out _⟩
        | true =>
          cases E1 with
          | false =>
            go_enter Try.func103, Try.ntmps103
            go_wp2_with fail
            refine (HN.out _).mono ?_
            rintro e w1 ⟨rfl, rfl⟩
            go_wp2
            go_quiet (fail)
            go_wp2
            go_ret2
            exact ⟨ret_twoV HC.out.symm HF.out.symm, HBn.out _⟩
          | true =>
            go_enter Try.func103, Try.ntmps103
            go_wp2_with fail
            refine (HN.out _).mono ?_
            rintro e w1 ⟨rfl, rfl⟩
            go_wp2
            go_quiet (fail)
            go_wp2
            go_ret2
            exact ⟨ret_twoV HC.out.symm HF.out.symm, HBn.out _⟩
      · simp only [if_neg h1, if_neg h2, if_neg h3] at HF HC
        go_enter Try.func103, Try.ntmps103
        go_wp2_with fail
        refine (HN.out _).mono ?_
        rintro e w1 ⟨rfl, rfl⟩
        go_wp2
        go_ret2
        exact ⟨ret_twoV HC.out.symm HF.out.symm, hB0⟩
end Go.Proofs.Ytgimjfffdnopiaa
