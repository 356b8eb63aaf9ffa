/- What the laws on numbers and tags draw. -/
import Derived.Test.YtijoancnlpkcoabDraw2
import Derived.WalkLawsBesides
import Derived.Laws.DeepStrings4
namespace Go.Proofs.Ytijoancnlpkcoab
open Go.ChangeShapes Go.WideShapes Go.ChangeAt Go.RowKit
set_option linter.unusedVariables false

theorem wrap_byte6 (z : Int) (h0 : 0 ≤ z) (h1 : z < 256) : IntKind.u8.wrap z = z := by rw [IntKind.wrap_u8']; omega
theorem conv_one6 (w : World) (z : Int) (h0 : 0 ≤ z) (h1 : z < 256) :
    (convert 22 9 (.slice (some ⟨w.heap.size, 0, none⟩) 1 1)).run Try.prog (w.alloc (.cells #[.int .u8 z] 5)) = .ok (.string ⟨[UInt8.ofNat z.toNat].toArray⟩) (w.alloc (.cells #[.int .u8 z] 5)) := by
  refine conv_ownB (base := w.heap.size) ?_
  have := World.ownsRow_lit (base := w.heap.size) (e := 5) (size := 1) w #[.int .u8 z] 1 (Nat.le_refl _) (by decide) rfl
  rw [byte_cells z h0 h1] at this
  exact this
theorem grown_alloc6 {w w1 : World} {row : Option Nat} (h : w.grownBy w1 row) (o : Obj) : w.grownBy (w1.alloc o) row := grown_trans h (World.grownBy_alloc w1 o row)

set_option maxHeartbeats 1600000 in
theorem rbig_any (base rb : Nat) (cv : Value) (zs : List Int) (w : World) (h : Rd w base rb cv zs) :
    Calls Try.prog 26 #[.pointer (some ⟨rb, 0, none⟩)] w fun e w' => ∃ s : ByteArray, e = .returned (.string s) ∧ s.size ≤ 17 ∧ Rd w' base rb cv zs ∧ w.grownBy w' (some rb) := by
  go_enter Try.func26, Try.ntmps26
  go_wp2_with fail
  refine (below_any 6 base rb cv zs _ h (by omega) (by omega)).mono ?_
  rintro e w1 ⟨x, rfl, hx0, hx1, hr1, hg1⟩
  by_cases e0 : x = 0
  · subst e0
    go_wp2
    go_ret
    exact ⟨_, rfl, by decide, hr1, hg1⟩
  · have b0 : (x == 0) = false := by simpa using e0
    by_cases e1 : x = 1
    · subst e1
      go_wp2_with fail
      refine (below_any 256 base rb cv zs _ hr1 (by omega) (by omega)).mono ?_
      rintro e w2 ⟨y, rfl, hy0, hy1, hr2, hg2⟩
      have hwb := wrap_byte6 y hy0 hy1
      have hcv := conv_one6 w2 y hy0 hy1
      go_wp2
      go_ret
      exact ⟨_, rfl, by rw [ByteArray.size_append]; exact Nat.le_refl _, hr2.alloc _, grown_alloc6 (grown_trans hg1 hg2) _⟩
    · have b1 : (x == 1) = false := by simpa using e1
      by_cases e2 : x = 2
      · subst e2
        go_wp2_with fail
        refine (below_any 256 base rb cv zs _ hr1 (by omega) (by omega)).mono ?_
        rintro e w2 ⟨y, rfl, hy0, hy1, hr2, hg2⟩
        have hwb := wrap_byte6 y hy0 hy1
        have hcv := conv_one6 w2 y hy0 hy1
        go_wp2
        go_ret
        exact ⟨_, rfl, by rw [ByteArray.size_append]; exact Nat.le_refl _, hr2.alloc _, grown_alloc6 (grown_trans hg1 hg2) _⟩
      · have b2 : (x == 2) = false := by simpa using e2
        go_wp2_with fail
        refine (exact_any 16 base rb cv zs _ hr1 (by omega)).mono ?_
        rintro e w2 ⟨s, rfl, hs, hr2, hg2⟩
        go_wp2_with fail
        refine (below_any 4 base rb cv zs _ hr2 (by omega) (by omega)).mono ?_
        rintro e w3 ⟨y, rfl, hy0, hy1, hr3, hg3⟩
        have hwb := wrap_byte6 y hy0 (by omega)
        have hcv := conv_one6 w3 y hy0 (by omega)
        go_wp2
        go_ret
        refine ⟨_, rfl, ?_, hr3.alloc _, grown_alloc6 (grown_trans hg1 (grown_trans hg2 hg3)) _⟩
        rw [ByteArray.size_append]
        have : (⟨[UInt8.ofNat y.toNat].toArray⟩ : ByteArray).size = 1 := rfl
        omega

theorem drawNumAdd_any (w : World) (cv : Value) (zs : List Int) (h : Cd w cv zs) :
    Calls Try.prog 13 #[cv] w fun e w' => ∃ s t : ByteArray, e = .returned (.tuple #[.string s, .string t]) ∧ s.size ≤ 17 ∧ t.size ≤ 17 ∧ Below w.heap.size w w' := by
  obtain ⟨a, len, cap, hcv⟩ := h.form
  have HV := Lib.hid hcv
  clear hcv
  go_enter Try.func13, Try.ntmps13
  go_wp2_with fail
  refine (open_any cv a len cap HV.out _).mono ?_
  rintro e w1 ⟨rfl, rfl⟩
  go_wp2_with fail
  refine (rbig_any _ _ cv zs _ h.rd).mono ?_
  rintro e w3 ⟨s, rfl, hs, hr3, hg3⟩
  go_wp2_with fail
  refine (rbig_any _ _ cv zs _ hr3).mono ?_
  rintro e w4 ⟨t, rfl, ht, hr4, hg4⟩
  go_wp2
  go_ret2
  exact ⟨s, t, rfl, hs, ht, below_open (grown_trans hg3 hg4)⟩

theorem drawNumMul_any (w : World) (cv : Value) (zs : List Int) (h : Cd w cv zs) :
    Calls Try.prog 11 #[cv] w fun e w' => ∃ s t : ByteArray, e = .returned (.tuple #[.string s, .string t]) ∧ s.size ≤ 17 ∧ t.size ≤ 17 ∧ Below w.heap.size w w' := by
  go_enter Try.func11, Try.ntmps11
  go_wp2_with fail
  refine (drawNumAdd_any _ cv zs h).mono ?_
  rintro e w1 ⟨s, t, rfl, hs, ht, hb⟩
  go_wp2
  go_ret2
  exact ⟨s, t, rfl, hs, ht, hb⟩

theorem drawNumOk_any (w : World) (cv : Value) (zs : List Int) (h : Cd w cv zs) :
    Calls Try.prog 12 #[cv] w fun e w' => ∃ s : ByteArray, e = .returned (.string s) ∧ s.size ≤ 17 ∧ Below w.heap.size w w' := by
  obtain ⟨a, len, cap, hcv⟩ := h.form
  have HV := Lib.hid hcv
  clear hcv
  go_enter Try.func12, Try.ntmps12
  go_wp2_with fail
  refine (open_any cv a len cap HV.out _).mono ?_
  rintro e w1 ⟨rfl, rfl⟩
  go_wp2_with fail
  refine (once_any 6 _ _ cv zs _ h.rd (by omega) (by omega)).mono ?_
  rintro e w2 ⟨b, rfl, hr2, hg2⟩
  cases b with
  | true =>
    go_wp2_with fail
    refine (exact_any 17 _ _ cv zs _ hr2 (by omega)).mono ?_
    rintro e w3 ⟨s, rfl, hs, hr3, hg3⟩
    go_wp2
    go_ret
    exact ⟨s, rfl, hs, below_open (grown_trans hg2 hg3)⟩
  | false =>
    go_wp2_with fail
    refine (rbig_any _ _ cv zs _ hr2).mono ?_
    rintro e w3 ⟨s, rfl, hs, hr3, hg3⟩
    go_wp2
    go_ret
    exact ⟨s, rfl, hs, below_open (grown_trans hg2 hg3)⟩

theorem drawTagOf_any (w : World) (cv : Value) (zs : List Int) (h : Cd w cv zs) :
    Calls Try.prog 20 #[cv] w fun e w' => ∃ s t : ByteArray, e = .returned (.tuple #[.string s, .string t]) ∧ s.size ≤ 32 ∧ t.size ≤ 40 ∧ Below w.heap.size w w' := by
  obtain ⟨a, len, cap, hcv⟩ := h.form
  have HV := Lib.hid hcv
  clear hcv
  go_enter Try.func20, Try.ntmps20
  go_wp2_with fail
  refine (open_any cv a len cap HV.out _).mono ?_
  rintro e w1 ⟨rfl, rfl⟩
  go_wp2_with fail
  refine (exact_any 32 _ _ cv zs _ h.rd (by omega)).mono ?_
  rintro e w3 ⟨s, rfl, hs, hr3, hg3⟩
  go_wp2_with fail
  refine (bytes_any 40 _ _ cv zs _ hr3 (by omega)).mono ?_
  rintro e w4 ⟨t, rfl, ht, hr4, hg4⟩
  go_wp2
  go_ret2
  exact ⟨s, t, rfl, hs, ht, below_open (grown_trans hg3 hg4)⟩
end Go.Proofs.Ytijoancnlpkcoab
