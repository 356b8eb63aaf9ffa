/- Contract: Opened of the reference. -/
import Derived.Test.YtjmladejpdbdlaaDoorW4i
namespace Go.Proofs.YtjmladejpdbdlaaDoor
open Go.ChangeShapes Go.WideShapes Go.ChangeAt Go.RowKit
set_option linter.unusedVariables false

theorem free_skip {P : Program} {ops : Array Oper} {R : Act → Prop} {o : Oper} {l : List Oper} {a : Act} (hw : Region.wanted o (yielded ops a.tmps) = false) (h : wpFree P ops R l (a.put o.dst undef)) : wpFree P ops R (o :: l) a := ⟨undef, .inr ⟨hw, rfl⟩, h⟩

set_option maxRecDepth 100000 in
set_option maxHeartbeats 1000000 in
theorem l4Open_short (key nonce wi b : ByteArray) (w : World) (hk : key.size = 32) (hn : nonce.size = 12) (hw : wi.size ≤ 1000) (hb : b.size ≤ 1048576) (h16 : ¬ 16 ≤ b.size) :
    Calls Tryd.prog 82 #[.string key, .string nonce, .string wi, .string b] w fun e w' => e = .returned (.tuple #[.string (opT key nonce wi b), .bool (opOk key nonce wi b)]) ∧ Below w.heap.size w w' := by
  have HR : Hid (opOk key nonce wi b = false) := Lib.hid (by unfold opOk; exact decide_eq_false (fun h => h16 h.2.2.2.1))
  have HR2 := Lib.hid (opT_false HR.out)
  obtain ⟨m, hm⟩ : ∃ m : Int, (b.size : Int) - 16 = m := ⟨_, rfl⟩
  have h0 : decide (m < 0) = true := decide_eq_true (by omega)
  clear hk hn h16
  go_enter Tryd.func82, Tryd.ntmps82
  go_wp2
  refine wp_region_plan (by kernel_rfl) 19 rfl ?_
  refine wpAny_takes (md := .any) 0 (by kernel_rfl) (by intro d v c a w h; cases d <;> exact h) [0, 1, 2, 3, 4, 5, 6, 7, 8, 9, 10, 11, 12, 13, 14, 15, 16, 17, 18] _ _ _ (by kernel_rfl) ?_
  simp only [pick, List.filterMap_cons, List.filterMap_nil, List.getElem?_cons_zero, List.getElem?_cons_succ]
  iterate 3 (refine wpFree_step ?_ (by kernel_rfl) ?_ ?_; rotate_left; (intro w; go_simp); try with_reducible rfl)
  iterate 2 (refine free_skip (by kernel_rfl) ?_; go_simp)
  iterate 2 (refine wpFree_step ?_ (by kernel_rfl) ?_ ?_; rotate_left; (intro w; go_simp); try with_reducible rfl)
  iterate 11 (refine free_skip (by kernel_rfl) ?_; go_simp)
  refine wpFree_step (.bool true) (by kernel_rfl) (fun w => by kernel_rfl) ?_
  refine wpFree_nil ?_
  refine wpAny_over (by kernel_rfl) ?_
  go_wp2
  go_ret2
  exact ⟨ret_two HR2.out.symm HR.out.symm, (Below.refl w.heap.size w).drew⟩

set_option maxRecDepth 100000 in
set_option maxHeartbeats 1000000 in
theorem l4Open_long (key nonce wi b : ByteArray) (w : World) (hk : key.size = 32) (hn : nonce.size = 12) (hw : wi.size ≤ 1000) (hb : b.size ≤ 1048576) (h16 : 16 ≤ b.size) (h40 : ¬ b.size ≤ 4016) :
    Calls Tryd.prog 82 #[.string key, .string nonce, .string wi, .string b] w fun e w' => e = .returned (.tuple #[.string (opT key nonce wi b), .bool (opOk key nonce wi b)]) ∧ Below w.heap.size w w' := by
  have HR : Hid (opOk key nonce wi b = false) := Lib.hid (by unfold opOk; exact decide_eq_false (fun h => h40 h.2.2.2.2.1))
  have HR2 := Lib.hid (opT_false HR.out)
  obtain ⟨n, hn2⟩ : ∃ n : Nat, b.size = n + 16 := ⟨b.size - 16, by omega⟩
  have hsub : (b.size : Int) - 16 = (n : Int) := by omega
  have h0 : decide ((n : Int) < 0) = false := decide_eq_false (by omega)
  have h4 : decide ((4000 : Int) < (n : Int)) = true := decide_eq_true (by omega)
  clear hk hn h16 h40 hn2
  go_enter Tryd.func82, Tryd.ntmps82
  go_wp2
  refine wp_region_plan (by kernel_rfl) 19 rfl ?_
  refine wpAny_takes (md := .any) 0 (by kernel_rfl) (by intro d v c a w h; cases d <;> exact h) [0, 1, 2, 3, 4, 5, 6, 7, 8, 9, 10, 11, 12, 13, 14, 15, 16, 17, 18] _ _ _ (by kernel_rfl) ?_
  simp only [pick, List.filterMap_cons, List.filterMap_nil, List.getElem?_cons_zero, List.getElem?_cons_succ]
  iterate 7 (refine wpFree_step ?_ (by kernel_rfl) ?_ ?_; rotate_left; (intro w; go_simp); try with_reducible rfl)
  iterate 11 (refine free_skip (by kernel_rfl) ?_; go_simp)
  refine wpFree_step (.bool true) (by kernel_rfl) (fun w => by kernel_rfl) ?_
  refine wpFree_nil ?_
  refine wpAny_over (by kernel_rfl) ?_
  go_wp2
  go_ret2
  exact ⟨ret_two HR2.out.symm HR.out.symm, (Below.refl w.heap.size w).drew⟩

set_option maxRecDepth 100000 in
set_option maxHeartbeats 1000000 in
theorem l4Open_mid (key nonce wi b : ByteArray) (w : World) (hk : key.size = 32) (hn : nonce.size = 12) (hw : wi.size ≤ 1000) (hb : b.size ≤ 1048576) (h16 : 16 ≤ b.size) (h40 : b.size ≤ 4016) :
    Calls Tryd.prog 82 #[.string key, .string nonce, .string wi, .string b] w fun e w' => e = .returned (.tuple #[.string (opT key nonce wi b), .bool (opOk key nonce wi b)]) ∧ Below w.heap.size w w' := by
  obtain ⟨n, hn2⟩ : ∃ n : Nat, b.size = n + 16 := ⟨b.size - 16, by omega⟩
  have hsub : (b.size : Int) - 16 = (n : Int) := by omega
  have HOT := Lib.hid (@opT_true key nonce wi b)
  have HOF := Lib.hid (@opT_false key nonce wi b)
  have HOK : Hid (opOk key nonce wi b = decide (sealT key nonce wi (b.extract 0 n) = b.extract n b.size)) := Lib.hid (by
    unfold opOk; apply decide_eq_decide.2; rw [show b.size - 16 = n by omega]
    exact ⟨fun h => h.2.2.2.2.2, fun h => ⟨hk, hn, hw, h16, h40, h⟩⟩)
  rw [show b.size - 16 = n by omega] at HOT
  have hrs : (b.extract 0 n).size = n := by rw [ByteArray.size_extract]; omega
  have HS := Lib.hid (fun w => l2Stream_any key nonce 1 (b.extract 0 n) w hk hn (by omega) (by omega) (by omega))
  have HTg := Lib.hid (fun w => l4Tag_any key nonce wi (b.extract 0 n) w hk hn hw (by omega))
  have h0 : decide ((n : Int) < 0) = false := decide_eq_false (by omega)
  have h4 : decide ((4000 : Int) < (n : Int)) = false := decide_eq_false (by omega)
  have hnb : (n : Int) ≤ (b.size : Int) := by omega
  have hn0 : 0 ≤ (n : Int) := by omega
  have hnn : n ≤ b.size := by omega
  have HN2 := Lib.hid hn2
  clear hk hn h16 h40 hn2 hrs
  go_enter Tryd.func82, Tryd.ntmps82
  go_wp2
  refine wp_region_plan (by kernel_rfl) 19 rfl ?_
  refine wpAny_takes (md := .any) 3 (by kernel_rfl) (by intro d v c a w h; cases d <;> exact h) [0, 1, 2, 3, 4, 5, 6, 7, 8, 9, 10, 11, 12, 14, 15, 16] _ _ _ (by kernel_rfl) ?_
  simp only [pick, List.filterMap_cons, List.filterMap_nil, List.getElem?_cons_zero, List.getElem?_cons_succ]
  iterate 16 (refine wpFree_step ?_ (by kernel_rfl) ?_ ?_; rotate_left; (intro w; go_simp); try with_reducible rfl)
  refine wpFree_nil ?_
  refine wpAny_one 13 2 (by kernel_rfl) rfl (by kernel_rfl) (fun K hK => ?_)
  go_simp
  refine (HTg.out _).mono ?_
  rintro e w3 ⟨rfl, hb3⟩
  refine hK _ _ ?_
  clear hK K
  have hb3' : Below w.heap.size w w3 := (Below.refl w.heap.size w).drew.trans hb3
  clear hb3
  obtain ⟨T, hT⟩ : ∃ T, T = sealT key nonce wi (b.extract 0 n) := ⟨_, rfl⟩
  obtain ⟨E, hE⟩ : ∃ E, E = b.extract n b.size := ⟨_, rfl⟩
  rw [← hT, ← hE] at HOK
  rw [← hT, ← hE]
  clear hT hE HTg
  by_cases hTE : T = E
  · have HR : Hid (opOk key nonce wi b = true) := Lib.hid (by rw [HOK.out]; exact decide_eq_true hTE)
    have HR2 := Lib.hid (HOT.out HR.out)
    have hq : (T.toList == E.toList) = true := by rw [str_eq]; exact decide_eq_true hTE
    clear hTE HOK HOT HOF
    refine wpAny_takes (md := .any) 0 (by kernel_rfl) (by intro d v c a w h; cases d <;> exact h) [17, 18] _ _ _ (by kernel_rfl) ?_
    simp only [pick, List.filterMap_cons, List.filterMap_nil, List.getElem?_cons_zero, List.getElem?_cons_succ]
    iterate 2 (refine wpFree_step ?_ (by kernel_rfl) ?_ ?_; rotate_left; (intro w; go_simp); try with_reducible rfl)
    refine wpFree_nil ?_
    refine wpAny_over (by kernel_rfl) ?_
    go_wp2_with fail
    refine (HS.out _).mono ?_
    rintro e w4 ⟨rfl, hb4⟩
    go_wp2
    go_ret2
    exact ⟨ret_two HR2.out.symm HR.out.symm, hb3'.trans (hb4.mono hb3'.size)⟩
  · have HR : Hid (opOk key nonce wi b = false) := Lib.hid (by rw [HOK.out]; exact decide_eq_false hTE)
    have HR2 := Lib.hid (HOF.out HR.out)
    have hq : (T.toList == E.toList) = false := by rw [str_eq]; exact decide_eq_false hTE
    clear hTE HOK HOT HOF
    refine wpAny_takes (md := .any) 0 (by kernel_rfl) (by intro d v c a w h; cases d <;> exact h) [17, 18] _ _ _ (by kernel_rfl) ?_
    simp only [pick, List.filterMap_cons, List.filterMap_nil, List.getElem?_cons_zero, List.getElem?_cons_succ]
    iterate 2 (refine wpFree_step ?_ (by kernel_rfl) ?_ ?_; rotate_left; (intro w; go_simp); try with_reducible rfl)
    refine wpFree_nil ?_
    refine wpAny_over (by kernel_rfl) ?_
    go_wp2
    go_ret2
    exact ⟨ret_two HR2.out.symm HR.out.symm, hb3'⟩

theorem l4Open_any (key nonce wi b : ByteArray) (w : World) (hk : key.size = 32) (hn : nonce.size = 12) (hw : wi.size ≤ 1000) (hb : b.size ≤ 1048576) :
    Calls Tryd.prog 82 #[.string key, .string nonce, .string wi, .string b] w fun e w' => e = .returned (.tuple #[.string (opT key nonce wi b), .bool (opOk key nonce wi b)]) ∧ Below w.heap.size w w' := by
  by_cases h16 : 16 ≤ b.size
  · by_cases h40 : b.size ≤ 4016
    · exact l4Open_mid key nonce wi b w hk hn hw hb h16 h40
    · exact l4Open_long key nonce wi b w hk hn hw hb h16 h40
  · exact l4Open_short key nonce wi b w hk hn hw hb h16

set_option maxRecDepth 100000 in
set_option maxHeartbeats 2000000 in
theorem specOpened_any (key nonce wi b : ByteArray) (w : World) (hk : key.size ≤ 1048576) (hn : nonce.size ≤ 1048576) (hw : wi.size ≤ 1048576) (hb : b.size ≤ 1048576) :
    Calls Tryd.prog 43 #[.string key, .string nonce, .string wi, .string b] w fun e w' => e = .returned (.tuple #[.string (opT key nonce wi b), .bool (opOk key nonce wi b)]) ∧ Below w.heap.size w w' := by
  by_cases hall : key.size = 32 ∧ nonce.size = 12 ∧ wi.size ≤ 1000
  · obtain ⟨g1, g2, g3⟩ := hall
    have hd1 : ((key.size : Int) == 32) = true := by simp [g1]
    have hd2 : ((nonce.size : Int) == 12) = true := by simp [g2]
    have HB := Lib.hid (fun w => l4Open_any key nonce wi b w g1 g2 g3 hb)
    clear g1 g2
    go_enter Tryd.func43, Tryd.ntmps43
    go_wp2_with (first | (go_at_call 81; go_in))
    refine (HB.out _).mono ?_
    rintro e w1 ⟨rfl, hb1⟩
    go_wp2
    go_ret2
    exact ⟨rfl, hb1⟩
  · have HR : Hid (opOk key nonce wi b = false) := Lib.hid (by unfold opOk; exact decide_eq_false (fun h => hall ⟨h.1, h.2.1, h.2.2.1⟩))
    have HR2 := Lib.hid (opT_false HR.out)
    by_cases g1 : key.size = 32
    · have hd1 : ((key.size : Int) == 32) = true := by simp [g1]
      by_cases g2 : nonce.size = 12
      · have hd2 : ((nonce.size : Int) == 12) = true := by simp [g2]
        have g3 : ¬ wi.size ≤ 1000 := fun h => hall ⟨g1, g2, h⟩
        clear hall g1 g2
        go_enter Tryd.func43, Tryd.ntmps43
        go_wp2
        go_ret2
        exact ⟨ret_two HR2.out.symm HR.out.symm, Below.refl _ _⟩
      · have hd2 : ((nonce.size : Int) == 12) = false := by simp; omega
        clear hall g1 g2
        go_enter Tryd.func43, Tryd.ntmps43
        go_wp2
        go_ret2
        exact ⟨ret_two HR2.out.symm HR.out.symm, Below.refl _ _⟩
    · have hd1 : ((key.size : Int) == 32) = false := by simp; omega
      clear hall g1
      go_enter Tryd.func43, Tryd.ntmps43
      go_wp2
      go_ret2
      exact ⟨ret_two HR2.out.symm HR.out.symm, Below.refl _ _⟩
end Go.Proofs.YtjmladejpdbdlaaDoor
