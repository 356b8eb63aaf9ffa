/- Joined: W5j. -/
import Derived.Test.YtlipgmaiooljkaaGreatDoorH10
import Derived.Test.YtlipgmaiooljkaaGreatDoorH19
/- W5j -/
namespace Go.Proofs.YtlipgmaiooljkaaGreatDoor
open Go.ChangeShapes Go.WideShapes Go.ChangeAt Go.RowKit Go.Shelf
set_option linter.unusedVariables false

theorem or32c (x y : Int) (X Y j : Nat) (hx : y = X) (hy : x = Y * 2 ^ j) (hX : X < 2 ^ j) (hj : X + Y * 2 ^ j < 4294967296) : bits .or .u32 x y = ((X + Y * 2 ^ j : Nat) : Int) := by
  subst hx hy
  have e : ((Y : Int) * 2 ^ j) = ((Y * 2 ^ j : Nat) : Int) := by simp
  rw [e, u32_or _ _ (by omega) (by omega) (by omega) (by omega)]
  rw [Int.toNat_natCast, Int.toNat_natCast, Nat.or_comm, or_shift X Y j hX]
theorem or4b (a b c d : UInt8) : bits .or .u32 (bits .or .u32 (bits .or .u32 ((a.toNat : Int) % 4294967296 * 16777216 % 4294967296) ((b.toNat : Int) % 4294967296 * 65536 % 4294967296)) ((c.toNat : Int) % 4294967296 * 256 % 4294967296)) ((d.toNat : Int) % 4294967296) = le1 d c b a := by
  have h1 := a.toNat_lt; have h2 := b.toNat_lt; have h3 := c.toNat_lt; have h4 := d.toNat_lt
  rw [or32c ((a.toNat : Int) % 4294967296 * 16777216 % 4294967296) ((b.toNat : Int) % 4294967296 * 65536 % 4294967296) (b.toNat * 65536) a.toNat 24 (by omega) (by omega) (by omega) (by omega)]
  rw [or32c _ ((c.toNat : Int) % 4294967296 * 256 % 4294967296) (c.toNat * 256) (b.toNat + a.toNat * 256) 16 (by omega) (by omega) (by omega) (by omega)]
  rw [or32c _ _ d.toNat (c.toNat + b.toNat * 256 + a.toNat * 65536) 8 (by omega) (by omega) (by omega) (by omega)]
  unfold le1; omega

set_option maxRecDepth 100000 in
set_option maxHeartbeats 1600000 in
theorem l5Be_any (s : ByteArray) (w : World) (hs : s.size ≤ 1000000) :
    Calls Tryz.prog 152 #[.string s] w fun e w' => ∃ v, e = .returned v ∧ OwnK 104 .u32 w' w.heap.size v (beL s.data.toList) ∧ Below w.heap.size w w' := by
  go_enter Tryz.func152, Tryz.ntmps152
  go_wp2
  go_loopw [3, 4] (fun u i wr => ∃ k m : Nat, k ≤ s.size / 4 ∧ Hid (m = 4 * k) ∧ m ≤ s.size ∧ i = .int .i64 m ∧ OwnK 104 .u32 wr w.heap.size u ((beL s.data.toList).take k) ∧ Below w.heap.size w wr)
    (fun _ i _ => s.size - (intOf i).toNat)
  case atStart => exact ⟨0, 0, Nat.zero_le _, Lib.hid rfl, Nat.zero_le _, rfl, OwnK.lit _ _ w _ (Nat.le_refl _), (Below.refl _ _).alloc (Nat.le_refl _) _⟩
  case round =>
    obtain ⟨k, m, hk, hmk, hm, rfl, hown, hbel⟩ := hrel
    by_cases hlt : k < s.size / 4
    · have hsz := hbel.size
      have hp : m + 3 < s.size := by have := hmk.out; omega
      have i0 : (m : Int) < (s.size : Int) := by omega
      have i1 : (m : Int) + 1 < (s.size : Int) := by omega
      have i2 : (m : Int) + 2 < (s.size : Int) := by omega
      have i3 : (m : Int) + 3 < (s.size : Int) := by omega
      have j1 : 0 ≤ (m : Int) + 1 := by omega
      have j2 : 0 ≤ (m : Int) + 2 := by omega
      have j3 : 0 ≤ (m : Int) + 3 := by omega
      have w1 : IntKind.i64.wrap ((m : Int) + 1) = (m : Int) + 1 := IntWalk.i64_in _ (by omega)
      have w2 : IntKind.i64.wrap ((m : Int) + 2) = (m : Int) + 2 := IntWalk.i64_in _ (by omega)
      have w3 : IntKind.i64.wrap ((m : Int) + 3) = (m : Int) + 3 := IntWalk.i64_in _ (by omega)
      have t1 : ((m : Int) + 1).toNat = m + 1 := by omega
      have t2 : ((m : Int) + 2).toNat = m + 2 := by omega
      have t3 : ((m : Int) + 3).toNat = m + 3 := by omega
      have hkl : k < (beL s.data.toList).length := by rw [beL_len]; simp; omega
      have HL : Hid (((beL s.data.toList).take k).length ≤ s.size) := Lib.hid (by simp; omega)
      have HG : Hid ((beL s.data.toList)[k] = le1 s[m + 3] s[m + 2] s[m + 1] s[m]) := Lib.hid (by
        have hm := hmk.out
        subst hm
        have hg := beL_get s.data.toList k (by simp; omega)
        rw [List.getElem?_eq_getElem hkl] at hg
        rw [Option.some.inj hg]; rfl)
      go_wp2
      refine wp_region_free_tail 26 (by kernel_rfl) (by kernel_rfl) (by decide) (by kernel_rfl) (by intro d v c a w h; cases d <;> exact h) ?_
      simp only [List.take_succ_cons, List.take_zero, List.drop_succ_cons, List.drop_zero]
      iterate 26 (refine wpFree_step ?_ (by rfl) ?_ ?_; rotate_left; (intro w; go_simp); try with_reducible rfl)
      refine wpFree_nil ?_
      go_wp2_with (at_builtin; (refine wpList_appK Tryz.underlying122 Tryz.infoU32 (by decide) rfl (.tmp 13) (.tmp 39) rfl w.heap.size _ _ rfl (hown.drew.alloc _) wr.heap.size 1 _ _ [le1 s[m + 3] s[m + 2] s[m + 1] s[m]] rfl (heap_alloc_new wr.drew _) (by simp; exact or4b _ _ _ _) rfl (by decide) (by have := HL.out; omega) (by simp; omega) ?_); intro v1 w1 hown1 hb1)
      rw [← HG.out, ← List.take_succ_eq_append_getElem hkl] at hown1
      have hb2 := (hbel.drew.alloc hsz _).trans hb1
      clear hb1 hown
      go_wp2
      go_roundw
      case rel => exact ⟨k + 1, m + 4, by omega, Lib.hid (by rw [hmk.out]; omega), by have := hmk.out; omega, by go_num, hown1, hb2⟩
      case measure => simp [intOf]; omega
    · have hge : ¬ m + 4 ≤ s.size := by have := hmk.out; omega
      go_wp2
      go_ret
      refine ⟨_, rfl, ?_, hbel⟩
      rw [List.take_of_length_le (by rw [beL_len]; simp; omega)] at hown
      exact hown

set_option maxRecDepth 100000 in
theorem kLit_be : beL (ByteArray.data (ByteArray.mk (List.toArray (List.append (List.append [66, 138, 47, 152, 113, 55, 68, 145, 181, 192, 251, 207, 233, 181, 219, 165, 57, 86, 194, 91, 89, 241, 17, 241, 146, 63, 130, 164, 171, 28, 94, 213, 216, 7, 170, 152, 18, 131, 91, 1, 36, 49, 133, 190, 85, 12, 125, 195, 114, 190, 93, 116, 128, 222, 177, 254, 155, 220, 6, 167, 193, 155, 241, 116] [228, 155, 105, 193, 239, 190, 71, 134, 15, 193, 157, 198, 36, 12, 161, 204, 45, 233, 44, 111, 74, 116, 132, 170, 92, 176, 169, 220, 118, 249, 136, 218, 152, 62, 81, 82, 168, 49, 198, 109, 176, 3, 39, 200, 191, 89, 127, 199, 198, 224, 11, 243, 213, 167, 145, 71, 6, 202, 99, 81, 20, 41, 41, 103]) (List.append [39, 183, 10, 133, 46, 27, 33, 56, 77, 44, 109, 252, 83, 56, 13, 19, 101, 10, 115, 84, 118, 106, 10, 187, 129, 194, 201, 46, 146, 114, 44, 133, 162, 191, 232, 161, 168, 26, 102, 75, 194, 75, 139, 112, 199, 108, 81, 163, 209, 146, 232, 25, 214, 153, 6, 36, 244, 14, 53, 133, 16, 106, 160, 112] [25, 164, 193, 22, 30, 55, 108, 8, 39, 72, 119, 76, 52, 176, 188, 181, 57, 28, 12, 179, 78, 216, 170, 74, 91, 156, 202, 79, 104, 46, 111, 243, 116, 143, 130, 238, 120, 165, 99, 111, 132, 200, 120, 20, 140, 199, 2, 8, 144, 190, 255, 250, 164, 80, 108, 235, 190, 249, 163, 247, 198, 113, 120, 242]))))).toList = kTab := by decide +kernel
theorem kLit_size : ByteArray.size (ByteArray.mk (List.toArray (List.append (List.append [66, 138, 47, 152, 113, 55, 68, 145, 181, 192, 251, 207, 233, 181, 219, 165, 57, 86, 194, 91, 89, 241, 17, 241, 146, 63, 130, 164, 171, 28, 94, 213, 216, 7, 170, 152, 18, 131, 91, 1, 36, 49, 133, 190, 85, 12, 125, 195, 114, 190, 93, 116, 128, 222, 177, 254, 155, 220, 6, 167, 193, 155, 241, 116] [228, 155, 105, 193, 239, 190, 71, 134, 15, 193, 157, 198, 36, 12, 161, 204, 45, 233, 44, 111, 74, 116, 132, 170, 92, 176, 169, 220, 118, 249, 136, 218, 152, 62, 81, 82, 168, 49, 198, 109, 176, 3, 39, 200, 191, 89, 127, 199, 198, 224, 11, 243, 213, 167, 145, 71, 6, 202, 99, 81, 20, 41, 41, 103]) (List.append [39, 183, 10, 133, 46, 27, 33, 56, 77, 44, 109, 252, 83, 56, 13, 19, 101, 10, 115, 84, 118, 106, 10, 187, 129, 194, 201, 46, 146, 114, 44, 133, 162, 191, 232, 161, 168, 26, 102, 75, 194, 75, 139, 112, 199, 108, 81, 163, 209, 146, 232, 25, 214, 153, 6, 36, 244, 14, 53, 133, 16, 106, 160, 112] [25, 164, 193, 22, 30, 55, 108, 8, 39, 72, 119, 76, 52, 176, 188, 181, 57, 28, 12, 179, 78, 216, 170, 74, 91, 156, 202, 79, 104, 46, 111, 243, 116, 143, 130, 238, 120, 165, 99, 111, 132, 200, 120, 20, 140, 199, 2, 8, 144, 190, 255, 250, 164, 80, 108, 235, 190, 249, 163, 247, 198, 113, 120, 242])))) = 256 := by kernel_rfl

set_option maxRecDepth 100000 in
set_option maxHeartbeats 1600000 in
theorem l5K_any (n : Nat) (w : World) (hn : n < 64) :
    Calls Tryz.prog 153 #[.int .i64 (n : Int)] w fun e w' => e = .returned (.int .u32 (kTab.getD n 0)) ∧ w'= w.drew := by
  go_enter Tryz.func153, Tryz.ntmps153
  go_wp2_with fail
  have hbe := kLit_be
  have hsz := kLit_size
  generalize (ByteArray.mk (List.toArray (List.append (List.append [66, 138, 47, 152, 113, 55, 68, 145, 181, 192, 251, 207, 233, 181, 219, 165, 57, 86, 194, 91, 89, 241, 17, 241, 146, 63, 130, 164, 171, 28, 94, 213, 216, 7, 170, 152, 18, 131, 91, 1, 36, 49, 133, 190, 85, 12, 125, 195, 114, 190, 93, 116, 128, 222, 177, 254, 155, 220, 6, 167, 193, 155, 241, 116] [228, 155, 105, 193, 239, 190, 71, 134, 15, 193, 157, 198, 36, 12, 161, 204, 45, 233, 44, 111, 74, 116, 132, 170, 92, 176, 169, 220, 118, 249, 136, 218, 152, 62, 81, 82, 168, 49, 198, 109, 176, 3, 39, 200, 191, 89, 127, 199, 198, 224, 11, 243, 213, 167, 145, 71, 6, 202, 99, 81, 20, 41, 41, 103]) (List.append [39, 183, 10, 133, 46, 27, 33, 56, 77, 44, 109, 252, 83, 56, 13, 19, 101, 10, 115, 84, 118, 106, 10, 187, 129, 194, 201, 46, 146, 114, 44, 133, 162, 191, 232, 161, 168, 26, 102, 75, 194, 75, 139, 112, 199, 108, 81, 163, 209, 146, 232, 25, 214, 153, 6, 36, 244, 14, 53, 133, 16, 106, 160, 112] [25, 164, 193, 22, 30, 55, 108, 8, 39, 72, 119, 76, 52, 176, 188, 181, 57, 28, 12, 179, 78, 216, 170, 74, 91, 156, 202, 79, 104, 46, 111, 243, 116, 143, 130, 238, 120, 165, 99, 111, 132, 200, 120, 20, 140, 199, 2, 8, 144, 190, 255, 250, 164, 80, 108, 235, 190, 249, 163, 247, 198, 113, 120, 242])))) = kS at hbe hsz ⊢
  obtain ⟨m, hm⟩ : ∃ m, m = 4 * n := ⟨_, rfl⟩
  have hp : m + 3 < kS.size := by omega
  have hp2 : m + 2 < kS.size := by omega
  have hp1 : m + 1 < kS.size := by omega
  have hp0 : m < kS.size := by omega
  have hkl : 4 * n + 3 < kS.data.toList.length := by simp; omega
  have hg := beL_get kS.data.toList n hkl
  rw [hbe] at hg
  have HG : Hid (kTab.getD n 0 = le1 kS[m + 3] kS[m + 2] kS[m + 1] kS[m]) := Lib.hid (by
    subst hm
    rw [List.getD_eq_getElem?_getD, hg]; rfl)
  have w0 : IntKind.i64.wrap (4 * (n : Int)) = (m : Int) := by rw [show 4 * (n : Int) = (m : Int) by omega]; exact IntWalk.i64_in _ (by omega)
  have i0 : (m : Int) < (kS.size : Int) := by omega
  have i1 : (m : Int) + 1 < (kS.size : Int) := by omega
  have i2 : (m : Int) + 2 < (kS.size : Int) := by omega
  have i3 : (m : Int) + 3 < (kS.size : Int) := by omega
  have j1 : 0 ≤ (m : Int) + 1 := by omega
  have j2 : 0 ≤ (m : Int) + 2 := by omega
  have j3 : 0 ≤ (m : Int) + 3 := by omega
  have w1 : IntKind.i64.wrap ((m : Int) + 1) = (m : Int) + 1 := IntWalk.i64_in _ (by omega)
  have w2 : IntKind.i64.wrap ((m : Int) + 2) = (m : Int) + 2 := IntWalk.i64_in _ (by omega)
  have w3 : IntKind.i64.wrap ((m : Int) + 3) = (m : Int) + 3 := IntWalk.i64_in _ (by omega)
  have t1 : ((m : Int) + 1).toNat = m + 1 := by omega
  have t2 : ((m : Int) + 2).toNat = m + 2 := by omega
  have t3 : ((m : Int) + 3).toNat = m + 3 := by omega
  clear hbe hsz hkl hg hm
  refine wp_region_free_tail 25 (by kernel_rfl) (by kernel_rfl) (Nat.le_of_ble_eq_true rfl) (by kernel_rfl) (by intro d v c a w h; cases d <;> exact h) ?_
  simp only [List.take_succ_cons, List.take_zero, List.drop_succ_cons, List.drop_zero]
  iterate 25 (refine wpFree_step ?_ (by rfl) ?_ ?_; rotate_left; (intro w; go_simp); try with_reducible rfl)
  refine wpFree_nil ?_
  go_wp2
  go_ret
  exact ⟨ret_int (by rw [HG.out]; exact or4b _ _ _ _), rfl⟩
end Go.Proofs.YtlipgmaiooljkaaGreatDoor
