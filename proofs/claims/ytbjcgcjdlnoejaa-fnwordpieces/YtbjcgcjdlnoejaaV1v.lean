/- Walk of the law FnWordPieces. -/
import Derived.Test.YtbjcgcjdlnoejaaV1w
import Derived.Laws.DeepStrings4
namespace Go.Proofs.Ytbjcgcjdlnoejaa
open Go.ChangeShapes Go.WideShapes Go.ChangeAt Go.RowKit
set_option linter.unusedVariables false

theorem RowAt.first {w : World} {B g cap : Nat} {l : List Int} (h : RowAt .i64 w B (.slice (some ⟨g, 0, none⟩) l.length cap) l) (k : Nat) (hk : k ≤ l.length) : RowAt .i64 w B (.slice (some ⟨g, 0, none⟩) k cap) (l.take k) := by
  obtain ⟨a, cap', hv, h1, h2, hc⟩ := h
  obtain ⟨rfl, _, rfl⟩ := Value.slice.inj hv
  have hl : (l.take k).length = k := by simp; omega
  refine ⟨_, cap, by rw [hl], by omega, h2, fun j hj => ?_⟩
  obtain ⟨b, off, e, hB, hr⟩ := hc j (by omega)
  refine ⟨b, off, e, hB, fun i hi => ?_⟩
  rw [hr i (by omega)]
  have : i < k := by omega
  simp [this]
theorem RowAt.rest {w : World} {B g cap : Nat} {l : List Int} (h : RowAt .i64 w B (.slice (some ⟨g, 0, none⟩) l.length cap) l) (k : Nat) (hk : k ≤ l.length) (a : Option Addr) (ha : cap ≠ k → a = some ⟨g, k, none⟩) : RowAt .i64 w B (.slice a (l.length - k) (cap - k)) (l.drop k) := by
  obtain ⟨a', cap', hv, h1, h2, hc⟩ := h
  obtain ⟨rfl, _, rfl⟩ := Value.slice.inj hv
  have hl : (l.drop k).length = l.length - k := by simp
  refine ⟨a, cap - k, by rw [hl], by omega, by omega, fun j hj => ?_⟩
  obtain ⟨b, off, e, hB, hr⟩ := hc j (by omega)
  obtain ⟨rfl, rfl⟩ : g = b ∧ 0 = off := by simpa using e
  refine ⟨g, k, ha (by omega), hB, fun i hi => ?_⟩
  have := hr (k + i) (by omega)
  rw [Nat.zero_add] at this
  rw [this]
  simp

theorem ba_ext3 {a b : ByteArray} (h : a.data.toList = b.data.toList) : a = b := by
  cases a; cases b; simp at h; simp [h]
theorem stR_ne {l : List Int} (h : (stR l).toList ≠ []) : l.length ≤ 1000 ∧ l.all isW = true ∧ l ≠ [] ∧ (stR l).size = 4 * l.length := by
  unfold stR at h ⊢
  split
  · rename_i hc
    refine ⟨hc.1, hc.2, ?_, ?_⟩
    · rintro rfl
      rw [if_pos hc, ByteArray.toList_eq] at h
      exact h rfl
    · show (storeL l).toArray.size = _
      rw [List.size_toArray, storeL_len]
  · rename_i hc
    rw [if_neg hc, ByteArray.toList_eq] at h
    exact absurd rfl h
theorem stR_pieces {l : List Int} (h1 : l.length ≤ 1000) (h2 : l.all isW = true) (k : Nat) : stR (l.take k) ++ stR (l.drop k) = stR l := by
  have a1 : (l.take k).all isW = true := by
    rw [List.all_eq_true] at *
    intro x hx; exact h2 x (List.mem_of_mem_take hx)
  have a2 : (l.drop k).all isW = true := by
    rw [List.all_eq_true] at *
    intro x hx; exact h2 x (List.mem_of_mem_drop hx)
  unfold stR
  rw [if_pos ⟨by simp; omega, a1⟩, if_pos ⟨by simp; omega, a2⟩, if_pos ⟨h1, h2⟩]
  have e : storeL l = storeL (l.take k) ++ storeL (l.drop k) := by rw [← storeL_append, List.take_append_drop]
  rw [e]
  cases hA : storeL (l.take k) <;> cases hB : storeL (l.drop k) <;> (apply ba_ext3; simp)

set_option maxRecDepth 100000 in
set_option maxHeartbeats 3200000 in
theorem walk_FnWordPieces (a : Option Addr) (len cap : Nat) (z : List Int) (w : World) (h : IsRow .u8 w a len cap z) :
    Calls Try.prog 14 #[.slice a len cap] w fun e w' => e = .returned (.bool true) ∧ Below w.heap.size w w' := by
  have hcd := Cd.of_row h
  have hmx : len ≤ 9223372036854775807 := by
    obtain ⟨e1, ⟨_, _, e2, h1, h2, _⟩, _⟩ := h.row
    unfold maxLen at h2; omega
  have HCD := Lib.hid hcd
  clear h hcd
  go_enter Try.func14, Try.ntmps14
  go_wp2_with fail
  refine (big_any _ _ _ HCD.out).mono ?_
  rintro e w1 ⟨⟨b, rfl⟩, rfl⟩
  cases b with
  | true =>
    go_wp2
    go_ret
    exact ⟨rfl, Below.refl _ _⟩
  | false =>
    go_wp2_with fail
    refine (drawStoreLe_any _ _ _ HCD.out).mono ?_
    rintro e w2 ⟨v, l, rfl, hl, ho, hbel⟩
    have HO := Lib.hid ho
    clear ho
    go_wp2_with fail
    refine (implStoreLe_any v l _ _ HO.out.row).mono ?_
    rintro e w3 ⟨rfl, hbn⟩
    replace HO := Lib.hid (HO.out.keep hbn (Nat.le_refl _))
    replace hbel := below_next' hbel hbn
    clear hbn
    go_wp2_with fail
    refine (specStoreLe_any v l _ _ HO.out.row).mono ?_
    rintro e w4 ⟨rfl, hbn⟩
    replace HO := Lib.hid (HO.out.keep hbn (Nat.le_refl _))
    replace hbel := below_next' hbel hbn
    clear hbn
    by_cases hse : (stR l).toList = []
    · go_wp2_with fail
      refine (specStoreLe_any v l _ _ HO.out.row).mono ?_
      rintro e w5 ⟨rfl, hbn⟩
      replace hbel := below_next' hbel hbn
      clear hbn
      go_wp2
      go_ret
      exact ⟨rfl, hbel⟩
    · have hse2 : (stR l).toList.isEmpty = false := by
        cases hq : (stR l).toList with
        | nil => exact absurd hq hse
        | cons _ _ => rfl
      obtain ⟨hl1, hall, hnil, hssz⟩ := stR_ne hse
      obtain ⟨g, cap', rfl, _, _, _⟩ := HO.out.form hnil
      obtain ⟨hcl, hcm⟩ : l.length ≤ cap' ∧ cap' ≤ maxLen := by
        obtain ⟨_, c2, hv, x1, x2, _⟩ := HO.out.row
        obtain ⟨_, _, rfl⟩ := Value.slice.inj hv
        exact ⟨x1, x2⟩
      unfold maxLen at hcm
      obtain ⟨k, hkk⟩ : ∃ k : Nat, (k : Int) = (len : Int) % ((l.length : Int) + 1) := ⟨((len : Int) % ((l.length : Int) + 1)).toNat, by rw [Int.toNat_of_nonneg (Int.emod_nonneg _ (by omega))]⟩
      have hk : k ≤ l.length := by have := Int.emod_lt_of_pos (len : Int) (b := (l.length : Int) + 1) (by omega); omega
      have hp := stR_pieces hl1 hall k
      obtain ⟨x1, hx1⟩ : ∃ x, x = stR (l.take k) := ⟨_, rfl⟩
      obtain ⟨x2, hx2⟩ : ∃ x, x = stR (l.drop k) := ⟨_, rfl⟩
      have z1 := stR_size (l.take k)
      have z2 := stR_size (l.drop k)
      rw [← hx1] at z1 hp
      rw [← hx2] at z2 hp
      have HX1 := Lib.hid hx1
      have HX2 := Lib.hid hx2
      have zz : ¬ (9223372036854775807 < x1.size + x2.size) := by omega
      have hsz4 : ((stR l).size : Int) = 4 * (l.length : Int) := by omega
      have hk1 : (k : Int) ≤ (cap' : Int) := by omega
      have hk2 : (k : Int) ≤ (l.length : Int) := by omega
      have hw4 : IntKind.i64.wrap (4 * (l.length : Int)) = 4 * (l.length : Int) := IntWalk.i64_in _ (by omega)
      replace hkk := hkk.symm
      replace hbel := hbel.drew
      clear hx1 hx2 hall hnil hl1 hssz
      have c1 := implStoreLe_any (.slice (some ⟨g, 0, none⟩) k cap') (l.take k)
      rw [← HX1.out] at c1
      have C1 := Lib.hid c1
      have c2 := implStoreLe_any (.slice (if cap' = k then some ⟨g, 0, none⟩ else some ⟨g, k, none⟩) (l.length - k) (cap' - k)) (l.drop k)
      rw [← HX2.out] at c2
      have C2 := Lib.hid c2
      clear c1 c2
      go_wp2
      refine wp_region_plan (by kernel_rfl) 20 rfl ?_
      refine wpAny_takes (md := .any) 13 (by kernel_rfl) (by intro d v c a w h; cases d <;> exact h) [0, 1, 2, 4, 5, 6, 9] _ _ _ (by kernel_rfl) ?_
      simp only [pick, List.filterMap_cons, List.filterMap_nil, List.getElem?_cons_zero, List.getElem?_cons_succ]
      iterate 7 (refine wpFree_step ?_ (by kernel_rfl) ?_ ?_; rotate_left; (intro w; go_simp); try with_reducible rfl)
      refine wpFree_nil ?_
      replace HO := Lib.hid (HO.out.drew)
      refine wpAny_one 3 12 (by kernel_rfl) rfl (by kernel_rfl) (fun K hK => ?_)
      go_simp
      refine (C1.out _ _ (HO.out.row.first k hk)).mono ?_
      rintro e w5 ⟨rfl, hbn⟩
      replace hbel := below_next' hbel hbn
      replace HO := Lib.hid (HO.out.keep hbn (Nat.le_refl _))
      clear hbn
      refine hK _ _ ?_
      clear hK K
      refine wpAny_one 7 11 (by kernel_rfl) rfl (by kernel_rfl) (fun K hK => ?_)
      go_simp
      refine (C2.out _ _ (HO.out.row.rest k hk _ (fun h => by rw [if_neg h]))).mono ?_
      rintro e w6 ⟨rfl, hbn⟩
      replace hbel := below_next' hbel hbn
      replace HO := Lib.hid (HO.out.keep hbn (Nat.le_refl _))
      clear hbn
      refine hK _ _ ?_
      clear hK K
      refine wpAny_takes (md := .any) 0 (by kernel_rfl) (by intro d v c a w h; cases d <;> exact h) [8, 10, 11, 12, 13, 14, 15, 16, 17, 18, 19] _ _ _ (by kernel_rfl) ?_
      simp only [pick, List.filterMap_cons, List.filterMap_nil, List.getElem?_cons_zero, List.getElem?_cons_succ]
      iterate 11 (refine wpFree_step ?_ (by kernel_rfl) ?_ ?_; rotate_left; (intro w; go_simp); try with_reducible rfl)
      refine wpFree_nil ?_
      refine wpAny_over (by kernel_rfl) ?_
      go_wp2
      all_goals
        go_ret
        exact ⟨rfl, hbel⟩
end Go.Proofs.Ytbjcgcjdlnoejaa
