/- What the law on escaped texts draws. -/
import Derived.Test.YtbbfcpkmfaophaaDoorDraw4
import Derived.Test.YtbbfcpkmfaophaaDoorW8b
import Derived.WalkLawsBesides
namespace Go.Proofs.YtbbfcpkmfaophaaDoor
open Go.ChangeShapes Go.WideShapes Go.ChangeAt Go.RowKit
set_option linter.unusedVariables false

set_option maxRecDepth 100000 in
set_option maxHeartbeats 1600000 in
theorem title_any (base rb : Nat) (cv : Value) (zs : List Int) (w : World) (h : Rd w base rb cv zs) :
    Calls Tryd.prog 55 #[.pointer (some ⟨rb, 0, none⟩)] w fun e w' => ∃ t : ByteArray, e = .returned (.string t) ∧ t.size ≤ 8 ∧ Rd w' base rb cv zs ∧ w.grownBy w' (some rb) := by
  go_enter Tryd.func55, Tryd.ntmps55
  go_wp2_with fail
  refine (once_any 30 base rb cv zs _ h (by omega) (by omega)).mono ?_
  rintro e w1 ⟨b, rfl, hr1, hg1⟩
  cases b with
  | true =>
    go_wp2
    go_ret
    exact ⟨_, rfl, by decide, hr1, hg1⟩
  | false =>
    go_wp2_with fail
    refine (below_any 6 base rb cv zs _ (hr1.alloc _) (by omega) (by omega)).mono ?_
    rintro e w2 ⟨y, rfl, hy0, hy1, hr2, hg2⟩
    have hlt := hr1.lt
    have hblk := (hg2.block w1.heap.size (by simp) (by simp; omega)).trans (heap_alloc_new w1 _)
    have c0 := cell_of_cells (i := 0) hblk rfl
    have c1 := cell_of_cells (i := 1) hblk rfl
    have c2 := cell_of_cells (i := 2) hblk rfl
    have c3 := cell_of_cells (i := 3) hblk rfl
    have c4 := cell_of_cells (i := 4) hblk rfl
    have c5 := cell_of_cells (i := 5) hblk rfl
    have hg3 := grown_trans (grown_trans hg1 (World.grownBy_alloc w1 _ (some rb))) hg2
    clear hblk hg2 hg1
    rcases (show y = 0 ∨ y = 1 ∨ y = 2 ∨ y = 3 ∨ y = 4 ∨ y = 5 by omega) with rfl | rfl | rfl | rfl | rfl | rfl
    all_goals
      go_wp2
      go_ret
      exact ⟨_, rfl, by decide, hr2, hg3⟩

set_option maxRecDepth 100000 in
set_option maxHeartbeats 1600000 in
theorem url_any (base rb : Nat) (cv : Value) (zs : List Int) (w : World) (h : Rd w base rb cv zs) :
    Calls Tryd.prog 56 #[.pointer (some ⟨rb, 0, none⟩)] w fun e w' => ∃ t : ByteArray, e = .returned (.string t) ∧ t.size ≤ 3 ∧ Rd w' base rb cv zs ∧ w.grownBy w' (some rb) := by
  go_enter Tryd.func56, Tryd.ntmps56
  go_wp2_with fail
  refine (once_any 40 base rb cv zs _ h (by omega) (by omega)).mono ?_
  rintro e w1 ⟨b, rfl, hr1, hg1⟩
  cases b with
  | true =>
    go_wp2
    go_ret
    exact ⟨_, rfl, by decide, hr1, hg1⟩
  | false =>
    go_wp2_with fail
    refine (below_any 4 base rb cv zs _ (hr1.alloc _) (by omega) (by omega)).mono ?_
    rintro e w2 ⟨y, rfl, hy0, hy1, hr2, hg2⟩
    have hlt := hr1.lt
    have hblk := (hg2.block w1.heap.size (by simp) (by simp; omega)).trans (heap_alloc_new w1 _)
    have c0 := cell_of_cells (i := 0) hblk rfl
    have c1 := cell_of_cells (i := 1) hblk rfl
    have c2 := cell_of_cells (i := 2) hblk rfl
    have c3 := cell_of_cells (i := 3) hblk rfl
    have hg3 := grown_trans (grown_trans hg1 (World.grownBy_alloc w1 _ (some rb))) hg2
    clear hblk hg2 hg1
    rcases (show y = 0 ∨ y = 1 ∨ y = 2 ∨ y = 3 by omega) with rfl | rfl | rfl | rfl
    all_goals
      go_wp2
      go_ret
      exact ⟨_, rfl, by decide, hr2, hg3⟩

set_option maxRecDepth 100000 in
set_option maxHeartbeats 1600000 in
theorem drawEscaped_any (w : World) (cv : Value) (zs : List Int) (h : Cd w cv zs) :
    Calls Tryd.prog 26 #[cv] w fun e w' => ∃ s : ByteArray, e = .returned (.string s) ∧ s.size ≤ 11 ∧ Below w.heap.size w w' := by
  obtain ⟨a, len, cap, hcv⟩ := h.form
  have HV := Lib.hid hcv
  clear hcv
  go_enter Tryd.func26, Tryd.ntmps26
  go_wp2_with fail
  refine (open_any cv a len cap HV.out _).mono ?_
  rintro e w1 ⟨rfl, rfl⟩
  go_wp2_with fail
  refine (title_any _ _ cv zs _ h.rd).mono ?_
  rintro e w2 ⟨t, rfl, ht, hr2, hg2⟩
  go_wp2_with fail
  refine (url_any _ _ cv zs _ hr2).mono ?_
  rintro e w3 ⟨u, rfl, hu, hr3, hg3⟩
  have hsum : t.size + u.size ≤ 11 := by omega
  obtain ⟨X, hX⟩ : ∃ X, t ++ u = X := ⟨_, rfl⟩
  have HX : Hid (X.size ≤ 11) := Lib.hid (by rw [← hX, ByteArray.size_append]; exact hsum)
  go_wp2
  go_ret
  exact ⟨X, rfl, HX.out, below_open (grown_trans hg2 hg3)⟩

theorem escR_size (s : ByteArray) (h : s.size ≤ 20) : (escR s).size ≤ 120 := by
  unfold escR
  rw [if_pos (by omega)]
  have h1 := escL_len s.data.toList
  have h2 : s.data.toList.length = s.size := by simp
  show (escL s.data.toList).toArray.size ≤ 120
  rw [List.size_toArray]
  omega

set_option maxRecDepth 100000 in
set_option maxHeartbeats 1600000 in
theorem drawPlain_any (w : World) (cv : Value) (zs : List Int) (h : Cd w cv zs) :
    Calls Tryd.prog 28 #[cv] w fun e w' => ∃ s : ByteArray, e = .returned (.string s) ∧ s.size ≤ 121 ∧ Below w.heap.size w w' := by
  obtain ⟨a, len, cap, hcv⟩ := h.form
  have HV := Lib.hid hcv
  clear hcv
  go_enter Tryd.func28, Tryd.ntmps28
  go_wp2_with fail
  refine (open_any cv a len cap HV.out _).mono ?_
  rintro e w1 ⟨rfl, rfl⟩
  go_wp2_with fail
  refine (title_any _ _ cv zs _ h.rd).mono ?_
  rintro e w2 ⟨t, rfl, ht, hr2, hg2⟩
  go_wp2_with fail
  refine (url_any _ _ cv zs _ hr2).mono ?_
  rintro e w3 ⟨u, rfl, hu, hr3, hg3⟩
  have hsum : t.size + u.size ≤ 11 := by omega
  obtain ⟨X, hX⟩ : ∃ X, t ++ u = X := ⟨_, rfl⟩
  have HX : Hid (X.size ≤ 11) := Lib.hid (by rw [← hX, ByteArray.size_append]; exact hsum)
  have HS := Lib.hid (fun w => specEscaped_any X w)
  have hes := escR_size X (by have := HX.out; omega)
  generalize escR X = Y at HS hes
  go_wp2_with fail
  refine (HS.out _).mono ?_
  rintro e w5 ⟨rfl, hb5⟩
  have hg23 := grown_trans hg2 hg3
  have hr5 := hr3.below hb5 hr3.lt
  have hg5 := grown_below hg23 hb5 hg23.size
  clear hb5 hg2 hg3
  go_wp2_with fail
  refine (once_any 2 _ _ cv zs _ hr5 (by omega) (by omega)).mono ?_
  rintro e w6 ⟨b, rfl, hr6, hg6⟩
  cases b with
  | true =>
    go_wp2
    go_ret
    exact ⟨Y, rfl, by omega, below_open (grown_trans hg5 hg6)⟩
  | false =>
    go_wp2_with fail
    refine (hurt_any Y _ _ cv zs _ hr6 (by omega)).mono ?_
    rintro e w7 ⟨Q, rfl, hQ, hr7, hg7⟩
    go_wp2
    go_ret
    exact ⟨Q, rfl, by omega, below_open (grown_trans (grown_trans hg5 hg6) hg7)⟩
end Go.Proofs.YtbbfcpkmfaophaaDoor
