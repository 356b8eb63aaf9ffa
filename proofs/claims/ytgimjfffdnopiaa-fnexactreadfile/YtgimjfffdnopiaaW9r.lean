/- Rows of records, copied by the library: Clone. -/
import Derived.Test.YtgimjfffdnopiaaRecsB
import Derived.Test.YtgimjfffdnopiaaW9h
import Derived.Lib.LazyBuf
namespace Go.Proofs.Ytgimjfffdnopiaa
open Go.ChangeShapes Go.WideShapes Go.ChangeAt Go.RowKit
set_option linter.unusedVariables false

theorem enC_one (x : En) : ∀ u ∈ enC x, u.oneCell' = true := by
  intro u hu
  simp only [enC, List.mem_cons, List.not_mem_nil, or_false] at hu
  rcases hu with rfl | rfl | rfl | rfl | rfl <;> rfl
theorem sbC_one (x : Sb × Value) (hx : x.2.oneCell' = true) : ∀ u ∈ sbC x, u.oneCell' = true := by
  intro u hu
  simp only [sbC, List.mem_cons, List.not_mem_nil, or_false] at hu
  rcases hu with rfl | rfl | rfl
  · rfl
  · rfl
  · exact hx

set_option maxRecDepth 100000 in
set_option maxHeartbeats 1600000 in
theorem cloneE_any (v : Value) (l : List (En)) (w : World) (h : RecAt 5 enC w w.heap.size v l) (hn : l.length ≤ 10000000) :
    Calls Try.prog 123 #[v] w (OutR 103 5 enC l w) := by
  have HI := Lib.hid h
  have hone' : ∀ y ∈ l, ∀ u ∈ enC y, u.oneCell' = true := (fun y _ => enC_one y)
  have HOn := Lib.hid hone'
  obtain ⟨a, cap, rfl, hl, hm, hc⟩ := h
  have hq := fun w (a : Option Addr) n c => Go.run_eql_slice_nil (P := Try.prog) w 97 103 a n c Try.underlying97
  cases a with
  | none =>
    have hl0 : l = [] := by
      rcases Nat.eq_zero_or_pos l.length with h0 | h0
      · exact List.eq_nil_of_length_eq_zero h0
      · obtain ⟨b, off, h1, _⟩ := hc h0
        cases h1
    subst hl0
    clear hc hone'
    go_enter Try.func123, Try.ntmps123
    go_wp2
    go_ret
    exact ⟨_, rfl, OwnR.nil _ _ _, Below.refl _ _⟩
  | some ad =>
    clear hc hone'
    have hba : Below w.heap.size w (w.alloc (.cells #[] 103)) := (Below.refl _ _).alloc (Nat.le_refl _) _
    have HW := Lib.hid (HI.out.below hba)
    have HL := Lib.hid (OwnR.lit (k := 5) (C := enC) 103 w w.heap.size (Nat.le_refl _))
    go_enter Try.func123, Try.ntmps123
    go_wp2_with (at_builtin; refine wpList_appR enC_len (by decide) Try.underlying97 Try.infoEntry rfl (by decide) rfl _ _ rfl w.heap.size w.heap.size _ _ [] l rfl rfl HL.out HW.out HOn.out (by simpa using Nat.le_trans hn (by decide)) (by simp) ?_; intro v' w' hown hgr; have hB := hba.grown hgr (by simp) (fun k hk => by cases hk; simp))
    go_ret
    rw [List.nil_append] at hown
    exact ⟨_, rfl, hown, hB⟩

set_option maxRecDepth 100000 in
set_option maxHeartbeats 1600000 in
theorem cloneS_any (v : Value) (l : List (Sb × Value)) (w : World) (h : RecAt 3 sbC w w.heap.size v l) (hone : ∀ y ∈ l, y.2.oneCell' = true) (hn : l.length ≤ 10000000) :
    Calls Try.prog 122 #[v] w (OutR 99 3 sbC l w) := by
  have HI := Lib.hid h
  have hone' : ∀ y ∈ l, ∀ u ∈ sbC y, u.oneCell' = true := (fun y hy => sbC_one y (hone y hy))
  have HOn := Lib.hid hone'
  obtain ⟨a, cap, rfl, hl, hm, hc⟩ := h
  have hq := fun w (a : Option Addr) n c => Go.run_eql_slice_nil (P := Try.prog) w 26 99 a n c Try.underlying26
  cases a with
  | none =>
    have hl0 : l = [] := by
      rcases Nat.eq_zero_or_pos l.length with h0 | h0
      · exact List.eq_nil_of_length_eq_zero h0
      · obtain ⟨b, off, h1, _⟩ := hc h0
        cases h1
    subst hl0
    clear hc hone'
    go_enter Try.func122, Try.ntmps122
    go_wp2
    go_ret
    exact ⟨_, rfl, OwnR.nil _ _ _, Below.refl _ _⟩
  | some ad =>
    clear hc hone'
    have hba : Below w.heap.size w (w.alloc (.cells #[] 99)) := (Below.refl _ _).alloc (Nat.le_refl _) _
    have HW := Lib.hid (HI.out.below hba)
    have HL := Lib.hid (OwnR.lit (k := 3) (C := sbC) 99 w w.heap.size (Nat.le_refl _))
    go_enter Try.func122, Try.ntmps122
    go_wp2_with (at_builtin; refine wpList_appR sbC_len (by decide) Try.underlying26 Try.infoSub rfl (by decide) rfl _ _ rfl w.heap.size w.heap.size _ _ [] l rfl rfl HL.out HW.out HOn.out (by simpa using Nat.le_trans hn (by decide)) (by simp) ?_; intro v' w' hown hgr; have hB := hba.grown hgr (by simp) (fun k hk => by cases hk; simp))
    go_ret
    rw [List.nil_append] at hown
    exact ⟨_, rfl, hown, hB⟩

end Go.Proofs.Ytgimjfffdnopiaa
