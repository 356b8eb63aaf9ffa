/- What the laws draw: lists of four numbers. -/
import Derived.Test.YtbjcgcjdlnoejabDraw2
namespace Go.Proofs.Ytbjcgcjdlnoejab
open Go.ChangeShapes Go.WideShapes Go.ChangeAt Go.RowKit
set_option linter.unusedVariables false

/-- What stands behind the first j of a row that is owned. -/
theorem OwnK.drop {e : TypeId} {k : IntKind} {w : World} {base g cap n : Nat} {zs : List Int} (h : OwnK e k w base (.slice (some ⟨g, 0, none⟩) n cap) zs) (hn : n = zs.length) (j m cap' : Nat) (hj : j < n) (hm : m = n - j) (hc : cap' = cap - j) : RowAt k w w.heap.size (.slice (some ⟨g, j, none⟩) m cap') (zs.drop j) := by
  obtain ⟨a, c, e1, hl, hmx, hc1⟩ := h.row
  obtain ⟨ea, en, ec⟩ : a = some ⟨g, 0, none⟩ ∧ zs.length = n ∧ c = cap := by simp at e1; exact ⟨e1.1.symm, e1.2.1.symm, e1.2.2.symm⟩
  subst ea ec
  have el : (zs.drop j).length = m := by rw [List.length_drop]; omega
  refine ⟨some ⟨g, j, none⟩, cap', by rw [el], by omega, by omega, fun i hi => ⟨g, j, rfl, ?_, fun i hi => ?_⟩⟩
  · obtain ⟨b, o, e2, hb, _⟩ := hc1 j (by omega)
    simp at e2
    rw [e2.1]; exact hb
  · obtain ⟨b, o, e2, hb, hr⟩ := hc1 j (by omega)
    simp at e2
    obtain ⟨rfl, rfl⟩ := e2
    have := hr (j + i) (by omega)
    rw [Nat.zero_add] at this
    rw [this]
    simp [List.getD_eq_getElem?_getD, List.getElem?_drop]

set_option maxHeartbeats 1600000 in
theorem drawQuarter_any (w : World) (cv : Value) (zs : List Int) (h : Cd w cv zs) :
    Calls Try.prog 10 #[cv] w fun e w' => ∃ (v : Value) (l : List Int), e = .returned v ∧ l.length ≤ 4 ∧ RowAt .i64 w' w'.heap.size v l ∧ Below w.heap.size w w' := by
  obtain ⟨a, len, cap, hcv⟩ := h.form
  have HV := Lib.hid hcv
  clear hcv
  go_enter Try.func10, Try.ntmps10
  go_wp2_with fail
  refine (open_any cv a len cap HV.out _).mono ?_
  rintro e w1 ⟨rfl, rfl⟩
  have hr0 := h.rd
  obtain ⟨w0, hw0⟩ : ∃ w0, w0 = w.alloc (.cells #[cv, .int .i64 0] 60) := ⟨_, rfl⟩
  have hb0 : Below w.heap.size w w0 := by rw [hw0]; exact (Below.refl _ w).alloc (Nat.le_refl _) _
  have hsz0 : w0.heap.size = w.heap.size + 1 := by rw [hw0]; simp
  rw [← hw0] at hr0 ⊢
  have hlt0 : w.heap.size < w0.heap.size := by omega
  clear hw0 h hsz0
  go_wp2_with fail
  refine (num_any _ _ cv zs _ hr0).mono ?_
  rintro e w2 ⟨n0, rfl, hn0, hr2, hg2⟩
  have HN0 := Lib.hid hn0
  clear hn0
  go_wp2_with fail
  refine (num_any _ _ cv zs _ hr2).mono ?_
  rintro e w3 ⟨n1, rfl, hn1, hr3, hg3⟩
  have HN1 := Lib.hid hn1
  clear hn1
  go_wp2_with fail
  refine (num_any _ _ cv zs _ hr3).mono ?_
  rintro e w4 ⟨n2, rfl, hn2, hr4, hg4⟩
  have HN2 := Lib.hid hn2
  clear hn2
  go_wp2_with fail
  refine (num_any _ _ cv zs _ hr4).mono ?_
  rintro e w5 ⟨n3, rfl, hn3, hr5, hg5⟩
  have HN3 := Lib.hid hn3
  clear hn3
  have hg05 := grown_trans hg2 (grown_trans hg3 (grown_trans hg4 hg5))
  have hb5 := hb0.trans (below_of_grown hg05 (Nat.le_refl _) (by omega))
  have hs5 := hg05.size
  clear hg2 hg3 hg4 hg5 hr0 hr2 hr3 hr4 hg05
  go_wp2_with fail
  refine (once_any 20 _ _ cv zs _ (hr5.alloc _) (by omega) (by omega)).mono ?_
  rintro e w6 ⟨b, rfl, hr6, hg6⟩
  have ho5 : OwnK 2 .i64 (w5.alloc (Obj.cells #[.int .i64 n0, .int .i64 n1, .int .i64 n2, .int .i64 n3] 2)) w5.heap.size (.slice (some ⟨w5.heap.size, 0, none⟩) 4 4) [n0, n1, n2, n3] :=
    World.ownsRow_lit w5 #[.int .i64 n0, .int .i64 n1, .int .i64 n2, .int .i64 n3] 4 (Nat.le_refl _) (by decide) rfl
  have ho6 := (hr5.alloc _).ownK ho5 hg6
  have hb6 := (hb5.alloc (by omega) (Obj.cells #[.int .i64 n0, .int .i64 n1, .int .i64 n2, .int .i64 n3] 2)).trans (below_of_grown hg6 (Nat.le_refl _) (by simp; omega))
  clear ho5 hr5 hg6 hb5
  cases b with
  | true =>
    go_wp2
    go_ret
    exact ⟨_, [n1, n2, n3], rfl, by simp, ho6.drop rfl 1 3 3 (by decide) rfl rfl, hb6⟩
  | false =>
    go_wp2
    go_ret
    exact ⟨_, [n0, n1, n2, n3], rfl, by simp, ho6.row, hb6⟩
end Go.Proofs.Ytbjcgcjdlnoejab
