/- Walks of the laws FnExactNumOk, FnExactNumAdd, FnExactNumMul. -/
import Derived.Test.YtijoancnlpkcoabW3h
namespace Go.Proofs.Ytijoancnlpkcoab
open Go.ChangeShapes Go.WideShapes Go.ChangeAt Go.RowKit
set_option linter.unusedVariables false

theorem walk_FnExactNumOk (a : ByteArray) (w : World) (ha : a.size ≤ maxLen) :
    Calls Try.prog 7 #[.string a] w fun e w' => e = .returned (.bool true) ∧ Below w.heap.size w w' := by
  have ha' := ha
  unfold maxLen at ha'
  obtain ⟨A, hA⟩ : ∃ A, A = okR a := ⟨_, rfl⟩
  have h1 := implNumOk_any a
  have h2 := specNumOk_any a
  rw [← hA] at h1 h2
  have H1 := Lib.hid h1
  have H2 := Lib.hid h2
  clear hA h1 h2
  by_cases hbig : a.size ≤ 1048576
  · go_enter Try.func7, Try.ntmps7
    go_wp2_with fail
    refine (H2.out _ ha).mono ?_
    rintro e w1 ⟨rfl, hb1⟩
    go_wp2_with fail
    refine (H1.out _ ha).mono ?_
    rintro e w2 ⟨rfl, hb2⟩
    have hb02 := hb1.trans (hb2.mono hb1.size)
    clear hb1 hb2 H1 H2
    have hne : (A != A) = false := by simp
    cases A <;> go_wp2 <;> go_ret <;> exact ⟨rfl, hb02⟩
  · go_enter Try.func7, Try.ntmps7
    go_wp2
    go_ret
    exact ⟨rfl, Below.refl _ _⟩

theorem walk_FnExactNumAdd (a b : ByteArray) (w : World) (ha : a.size ≤ maxLen) (hb : b.size ≤ maxLen) :
    Calls Try.prog 8 #[.string a, .string b] w fun e w' => e = .returned (.bool true) ∧ Below w.heap.size w w' := by
  have ha' := ha
  have hb' := hb
  unfold maxLen at ha' hb'
  go_enter Try.func8, Try.ntmps8
  go_wp2_with (first | (go_at_call 17; refine (specNumAdd_any _ _ _ ha hb).mono ?_; rintro e w1 ⟨rfl, hb1⟩) | (go_at_call 16; refine (implNumAdd_any _ _ _ ha hb).mono ?_; rintro e w2 ⟨rfl, hb2⟩))
  · go_ret
    exact ⟨rfl, Below.refl _ _⟩
  · go_ret
    exact ⟨rfl, Below.refl _ _⟩
  · go_ret
    exact ⟨rfl, hb1.trans (hb2.mono hb1.size)⟩

theorem walk_FnExactNumMul (a b : ByteArray) (w : World) (ha : a.size ≤ maxLen) (hb : b.size ≤ maxLen) :
    Calls Try.prog 9 #[.string a, .string b] w fun e w' => e = .returned (.bool true) ∧ Below w.heap.size w w' := by
  have ha' := ha
  have hb' := hb
  unfold maxLen at ha' hb'
  go_enter Try.func9, Try.ntmps9
  go_wp2_with (first | (go_at_call 15; refine (specNumMul_any _ _ _ ha hb).mono ?_; rintro e w1 ⟨rfl, hb1⟩) | (go_at_call 14; refine (implNumMul_any _ _ _ ha hb).mono ?_; rintro e w2 ⟨rfl, hb2⟩))
  · go_ret
    exact ⟨rfl, Below.refl _ _⟩
  · go_ret
    exact ⟨rfl, Below.refl _ _⟩
  · go_ret
    exact ⟨rfl, hb1.trans (hb2.mono hb1.size)⟩
end Go.Proofs.Ytijoancnlpkcoab
