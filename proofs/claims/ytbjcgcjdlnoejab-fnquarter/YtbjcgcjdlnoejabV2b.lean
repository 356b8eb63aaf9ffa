/- Walk of the law FnQuarter. -/
import Derived.Test.YtbjcgcjdlnoejabW1e
import Derived.Test.YtbjcgcjdlnoejabW2c
import Derived.Test.YtbjcgcjdlnoejabDraw5
import Derived.WalkLawsBesides
namespace Go.Proofs.Ytbjcgcjdlnoejab
open Go.ChangeShapes Go.WideShapes Go.ChangeAt Go.RowKit
set_option linter.unusedVariables false

theorem quR_zero : quR [0, 0, 0, 0] = [0, 0, 0, 0] := by decide +kernel

theorem below_nx {w w1 w2 : World} (h : Below w.heap.size w w1) (k : Below w1.heap.size w1 w2) : Below w.heap.size w w2 := h.trans (k.mono h.size)
theorem lit4 (w : World) (n0 n1 n2 n3 : Int) : OwnK 2 .i64 (w.alloc (Obj.cells #[.int .i64 n0, .int .i64 n1, .int .i64 n2, .int .i64 n3] 2)) w.heap.size (.slice (some ⟨w.heap.size, 0, none⟩) 4 4) [n0, n1, n2, n3] :=
  World.ownsRow_lit w #[.int .i64 n0, .int .i64 n1, .int .i64 n2, .int .i64 n3] 4 (Nat.le_refl _) (by decide) rfl

set_option maxRecDepth 100000 in
set_option maxHeartbeats 3200000 in
theorem walk_FnQuarter (a : Option Addr) (len cap : Nat) (z : List Int) (w : World) (h : IsRow .u8 w a len cap z) :
    Calls Try.prog 3 #[.slice a len cap] w fun e w' => e = .returned (.bool true) ∧ Below w.heap.size w w' := by
  have hcd := Cd.of_row h
  obtain ⟨cv, hcv⟩ : ∃ cv : Value, cv = .slice a len cap := ⟨_, rfl⟩
  rw [← hcv] at hcd ⊢
  clear h hcv
  go_enter Try.func3, Try.ntmps3
  go_wp2_with fail
  refine (big_any _ cv _ hcd).mono ?_
  rintro e w1 ⟨⟨b, rfl⟩, rfl⟩
  cases b with
  | true =>
    go_wp2
    go_ret
    exact ⟨rfl, Below.refl _ _⟩
  | false =>
    go_wp2_with fail
    refine (drawQuarter_any _ cv _ hcd).mono ?_
    rintro e w2 ⟨v, l, rfl, hl, hr, hbel⟩
    go_wp2_with fail
    refine (implQuarter_any v l _ _ hr).mono ?_
    rintro e w3 ⟨v3, rfl, ho3, hbn⟩
    obtain ⟨ys, hys⟩ : ∃ ys, ys = quR l := ⟨_, rfl⟩
    rw [← hys] at ho3
    have HY := Lib.hid hys
    clear hys
    replace hr := (hr.below hbn).mono hbn.size
    replace hbel := below_nx hbel hbn
    clear hbn
    go_wp2_with fail
    refine (specQuarter_any v l _ _ hr (by omega)).mono ?_
    rintro e w4 ⟨v4, rfl, ho4, hbn⟩
    rw [← HY.out] at ho4
    replace hr := (hr.below hbn).mono hbn.size
    replace ho3 := ho3.keep hbn (Nat.le_refl _)
    replace hbel := below_nx hbel hbn
    clear hbn
    go_wp2_with fail
    refine (sameInts_any v3 v4 ys ys _ _ _ ho3.row ho4.row).mono ?_
    rintro e w5 ⟨rfl, hbn⟩
    replace hr := (hr.below hbn).mono hbn.size
    replace ho3 := ho3.keep hbn (Nat.le_refl _)
    replace hbel := below_nx hbel hbn
    clear hbn ho4
    obtain ⟨a3, c3, rfl, hc3, hm3, _⟩ := ho3.row
    unfold maxLen at hm3
    have HO3 := Lib.hid ho3
    clear ho3
    by_cases h4 : ys.length = 4
    · go_wp2_with fail
      have hz := lit4 w5 0 0 0 0
      obtain ⟨wz, hwz⟩ : ∃ wz, wz = w5.alloc (Obj.cells #[.int .i64 0, .int .i64 0, .int .i64 0, .int .i64 0] 2) := ⟨_, rfl⟩
      have hbz : Below w5.heap.size w5 wz := by rw [hwz]; exact (Below.refl _ _).alloc (Nat.le_refl _) _
      rw [← hwz] at hz ⊢
      clear hwz
      replace hr := (hr.below hbz).mono hbz.size
      replace HO3 := Lib.hid (HO3.out.keep hbz (Nat.le_refl _))
      rw [h4] at HO3
      replace hbel := below_nx hbel hbz
      clear hbz
      refine (implQuarter_any _ _ _ _ hz.row).mono ?_
      rintro e w6 ⟨v6, rfl, ho6, hbn⟩
      rw [quR_zero] at ho6
      replace hr := (hr.below hbn).mono hbn.size
      replace HO3 := Lib.hid (HO3.out.keep hbn (Nat.le_refl _))
      replace hbel := below_nx hbel hbn
      clear hbn hz
      go_wp2_with fail
      have hz := lit4 w6 0 0 0 0
      obtain ⟨wy, hwy⟩ : ∃ wy, wy = w6.alloc (Obj.cells #[.int .i64 0, .int .i64 0, .int .i64 0, .int .i64 0] 2) := ⟨_, rfl⟩
      have hbz : Below w6.heap.size w6 wy := by rw [hwy]; exact (Below.refl _ _).alloc (Nat.le_refl _) _
      rw [← hwy] at hz ⊢
      clear hwy
      replace hr := (hr.below hbz).mono hbz.size
      replace HO3 := Lib.hid (HO3.out.keep hbz (Nat.le_refl _))
      replace ho6 := ho6.keep hbz (Nat.le_refl _)
      replace hbel := below_nx hbel hbz
      clear hbz
      refine (sameInts_any v6 _ [0, 0, 0, 0] [0, 0, 0, 0] _ _ _ ho6.row hz.row).mono ?_
      rintro e w7 ⟨rfl, hbn⟩
      replace hr := (hr.below hbn).mono hbn.size
      replace HO3 := Lib.hid (HO3.out.keep hbn (Nat.le_refl _))
      replace hbel := below_nx hbel hbn
      clear hbn hz ho6
      go_wp2_with fail
      refine (implQuarter_any v l _ _ hr).mono ?_
      rintro e w8 ⟨v8, rfl, ho8, hbn⟩
      rw [← HY.out] at ho8
      replace HO3 := Lib.hid (HO3.out.keep hbn (Nat.le_refl _))
      replace hbel := below_nx hbel hbn
      clear hbn hr
      go_wp2_with fail
      refine (sameInts_any v8 _ ys ys _ _ _ ho8.row HO3.out.row).mono ?_
      rintro e w9 ⟨rfl, hbn⟩
      replace hbel := below_nx hbel hbn
      clear hbn ho8
      go_wp2
      go_ret
      exact ⟨rfl, hbel⟩
    · go_wp2_with fail
      refine (specQuarter_any v l _ _ hr (by omega)).mono ?_
      rintro e w6 ⟨v6, rfl, ho6, hbn⟩
      rw [← HY.out] at ho6
      have ho3 := HO3.out.keep hbn (Nat.le_refl _)
      replace hbel := below_nx hbel hbn
      clear hbn hr
      go_wp2_with fail
      refine (sameInts_any _ v6 ys ys _ _ _ ho3.row ho6.row).mono ?_
      rintro e w7 ⟨rfl, hbn⟩
      replace hbel := below_nx hbel hbn
      clear hbn ho3 ho6
      go_wp2
      go_ret
      exact ⟨rfl, hbel⟩
end Go.Proofs.Ytbjcgcjdlnoejab
