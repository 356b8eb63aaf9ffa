/- Parts of the proof. -/
import Derived.WalkLawsBesides
import Derived.Laws.DeepStrings4
import Derived.Deep.RegionWith
import Derived.Test.YtffkakpbelknaaaGreatDoorO1
import Derived.Test.YtffkakpbelknaaaGreatDoorO2
import Derived.Test.YtffkakpbelknaaaGreatDoorO32
namespace Go.Proofs.YtffkakpbelknaaaGreatDoor
set_option maxHeartbeats 4000000
set_option maxRecDepth 100000
open Go.ChangeShapes Go.WideShapes Go.ChangeAt Go.RowKit
set_option linter.unusedVariables false
theorem wrap_byte (z : Int) (h0 : 0 <= z) (h1 : z < 256) : IntKind.u8.wrap z = z := by rw [IntKind.wrap_u8']; omega
theorem conv_one (w : World) (z : Int) (h0 : 0 <= z) (h1 : z < 256) :
  (convert 22 9 (.slice (some ⟨w.heap.size, 0, none⟩) 1 1)).run Tryz.prog (w.alloc (.cells #[.int .u8 z] 5)) = .ok (.string ⟨[UInt8.ofNat z.toNat].toArray⟩) (w.alloc (.cells #[.int .u8 z] 5)) := by
 refine conv_ownB (base := w.heap.size) ?_
 have := World.ownsRow_lit (base := w.heap.size) (e := 5) (size := 1) w #[.int .u8 z] 1 (Nat.le_refl _) (by decide) rfl
 rw [byte_cells z h0 h1] at this
 exact this
theorem hurt_any (s : ByteArray) (base rb : Nat) (cv : Value) (zs : List Int) (w : World) (h : Rd w base rb cv zs) (hs : s.size <= 100000) :
  Calls Tryz.prog 47 #[.pointer (some ⟨rb, 0, none⟩), .string s] w fun e w' => ∃ t : ByteArray, e = .returned (.string t) /\ t.size <= s.size + 1 /\ Rd w' base rb cv zs /\ w.grownBy w' (some rb) := by
 go_enter Tryz.func47, Tryz.ntmps47
 go_wp2_with fail
 refine (below_any 6 base rb cv zs _ h (by omega) (by omega)).mono ?_
 rintro e w1 ⟨x, rfl, hx0, hx1, hr1, hg1⟩
 by_cases e1 : x = 1
 ·subst e1
  go_wp2_with fail
  refine (below_any ((s.size : Int) + 1) base rb cv zs _ hr1 (by omega) (by omega)).mono ?_
  rintro e w2 ⟨y, rfl, hy0, hy1, hr2, hg2⟩
  obtain ⟨k, rfl⟩ := Int.eq_ofNat_of_zero_le hy0
  have hk : k <= s.size := by omega
  go_wp2
  go_ret
  exact ⟨_, rfl, by rw [ByteArray.size_extract]; omega, hr2, grown_trans hg1 hg2⟩
 ·have b1 : (x == 1) = false := by simpa using e1
  by_cases e2 : x = 2
  ·subst e2
   by_cases hp : 0 < s.size
   ·go_wp2_with fail
    refine (below_any (s.size : Int) base rb cv zs _ hr1 (by omega) (by omega)).mono ?_
    rintro e w2 ⟨y, rfl, hy0, hy1, hr2, hg2⟩
    obtain ⟨k, rfl⟩ := Int.eq_ofNat_of_zero_le hy0
    have hk : k < s.size := by omega
    have hg3 := grown_trans hg1 hg2
    clear hr1 hg1 hg2
    have k1 : IntKind.i64.wrap ((k : Int) + 1) = (k : Int) + 1 := IntWalk.i64_in _ (by omega)
    have k2 : (0 : Int) <= (k : Int) + 1 := by omega
    have k3 : (k : Int) + 1 <= (s.size : Int) := by omega
    have k4 : ((k : Int) + 1).toNat = k + 1 := by omega
    have k5 : (k : Int) <= (s.size : Int) := by omega
    have hr2d : Rd w2.drew base rb cv zs := ⟨hr2.row, hr2.bytes, hr2.blk, hr2.base_le⟩
    have hg3d : w.grownBy w2.drew (some rb) := ⟨hg3.os, hg3.tape, hg3.output, hg3.size, hg3.block⟩
    have x1 : (s.extract 0 k).size = k := by rw [ByteArray.size_extract]; omega
    have x2 : (s.extract (k + 1) s.size).size = s.size - (k + 1) := by rw [ByteArray.size_extract]; omega
    have x3 : ∀ z : Int, (⟨[UInt8.ofNat z.toNat].toArray⟩ : ByteArray).size = 1 := fun z => rfl
    have HX : Hid (∀ z : Int, (s.extract 0 k ++ (⟨[UInt8.ofNat z.toNat].toArray⟩ : ByteArray) ++ s.extract (k + 1) s.size).size <= s.size + 1) := Lib.hid (fun z => by rw [ByteArray.size_append, ByteArray.size_append, x1, x2, x3]; omega)
    have y1 : (s.extract 0 k).size <= 100000 := by omega
    have y2 : (s.extract (k + 1) s.size).size <= 100000 := by omega
    clear x1 x2 x3
    go_wp2
    go_region_with (go_at_call 91; refine (below_any 256 base rb cv zs _ hr2d (by omega) (by omega)).mono ?_; rintro e w3 ⟨z, rfl, hz0, hz1, hr3, hg4⟩; have hcv := conv_one w3 z hz0 hz1; have hwz := wrap_byte z hz0 hz1)
    go_wp2
    go_ret
    exact ⟨_, rfl, HX.out z, hr3.alloc _, grown_trans (grown_trans hg3d hg4) (World.grownBy_alloc w3 _ (some rb))⟩
   ·have hp0 : ¬ (0 : Int) < (s.size : Int) := by omega
    go_wp2
    go_ret
    exact ⟨_, rfl, by omega, hr1, hg1⟩
  ·have b2 : (x == 2) = false := by simpa using e2
   by_cases e3 : x = 3
   ·subst e3
    go_wp2_with fail
    refine (below_any 4 base rb cv zs _ (hr1.alloc _) (by omega) (by omega)).mono ?_
    rintro e w2 ⟨y, rfl, hy0, hy1, hr2, hg2⟩
    have hlt := hr1.lt
    have hblk : w2.heap[w1.heap.size]? = some (.cells #[.string ⟨#[0]⟩, .string ⟨#[97]⟩, .string ⟨#[10]⟩, .string ⟨#[255]⟩] 9 (0, 0)) := by
     rw [hg2.block w1.heap.size (by simp) (by simp; omega)]; exact heap_alloc_new w1 _
    have c0 := cell_of_cells (i := 0) hblk rfl
    have c1 := cell_of_cells (i := 1) hblk rfl
    have c2 := cell_of_cells (i := 2) hblk rfl
    have c3 := cell_of_cells (i := 3) hblk rfl
    have hg3 := grown_trans (grown_trans hg1 (World.grownBy_alloc w1 _ (some rb))) hg2
    clear hblk hg2 hg1
    rcases (show y = 0 \/ y = 1 \/ y = 2 \/ y = 3 by omega) with rfl | rfl | rfl | rfl
    all_goals
     go_wp2
     go_ret
     exact ⟨_, rfl, by rw [ByteArray.size_append]; exact Nat.le_refl _, hr2, hg3⟩
   ·have b3 : (x == 3) = false := by simpa using e3
    go_wp2
    go_ret
    exact ⟨_, rfl, by omega, hr1, hg1⟩
end Go.Proofs.YtffkakpbelknaaaGreatDoor
