/- Joined: W1g. -/
import Derived.RangeFuncNested
import Derived.RangeFuncBound
import Derived.RangeFuncCalls
import Derived.RangeFuncLeaves
import Derived.RangeFuncBox
import Derived.RangeFuncWrites
import Derived.Shelf.Abstract
import Derived.Shelf.RegionOpen
import Derived.WalkKit
import Derived.OwnWalkIn
import Derived.TacticsInMore
import Derived.LoopNIn
import Derived.LoopIn
import Derived.Maps.AppendAt
import Derived.Test.YtlipgmaiooljkaaGreatDoorH2
import Derived.Test.YtlipgmaiooljkaaGreatDoorH8
import Derived.Test.YtlipgmaiooljkaaGreatDoorH18
/- W1g -/
namespace Go.Proofs.YtlipgmaiooljkaaGreatDoor
open Go.ChangeShapes Go.WideShapes Go.ChangeAt Go.RowKit Go.Shelf
set_option linter.unusedVariables false

attribute [local go_sem] Oper.semAt_some

set_option maxHeartbeats 800000 in
theorem leWordAt_any (s : ByteArray) (p : Nat) (w : World) (hs : s.size ≤ 1000000000) (hp : 4 * p + 3 < s.size) :
    Calls Tryz.prog 173 #[.string s, .int .i64 p] w fun e w' => e = .returned (.int .u32 (le1 s[4 * p] s[4 * p + 1] s[4 * p + 2] s[4 * p + 3])) ∧ w = w' := by
  have HE := Lib.hid (wpart_four s p hp)
  go_enter Tryz.func173, Tryz.ntmps173
  go_wp2
  go_loop [5, 7] (fun x i => ∃ (k : Nat), k ≤ 4 ∧ i = .int .i64 k ∧ x = .int .u32 (wpart (fun j => byteAt s (p * 4 + j)) k)) (fun _ i => 4 - (intOf i).toNat)
  case atStart => exact ⟨0, Nat.zero_le _, rfl, rfl⟩
  case round =>
    obtain ⟨k, hk, rfl, rfl⟩ := hrel
    by_cases hlt : k < 4
    · have hst := wpart_step (fun j => byteAt s (p * 4 + j)) (fun j => byteAt_lt s _) k hlt
      have hb : byteAt s (p * 4 + k) = s[p * 4 + k].toNat := by unfold byteAt; rw [dif_pos (by omega)]
      rw [hb] at hst
      clear hb
      have HS := Lib.hid hst
      clear hst
      go_wp2
      go_round
      case rel => exact ⟨k + 1, by omega, by go_num, by rw [HS.out]⟩
      case measure => simp [intOf]; omega
    · go_wp2
      go_ret
      have : k = 4 := by omega
      subst this
      exact ⟨ret_int HE.out, rfl⟩

/-- A place and a word, as a round is handed them. -/
abbrev PW (M : Nat) := { x : Nat × Int // x.1 < M ∧ 0 ≤ x.2 ∧ x.2 ≤ 4294967295 }
def wordAt (s : ByteArray) (j : Nat) : Int := if h : 4 * j + 3 < s.size then le1 s[4 * j] s[4 * j + 1] s[4 * j + 2] s[4 * j + 3] else 0
theorem wordAt_bd (s : ByteArray) (j : Nat) : 0 ≤ wordAt s j ∧ wordAt s j ≤ 4294967295 := by
  unfold wordAt; split
  · exact le1_bd _ _ _ _
  · omega
/-- What comes in k rounds. -/
def pws (s : ByteArray) (M : Nat) : Nat → List (PW M)
  | 0 => []
  | k + 1 => if h : k < M then pws s M k ++ [⟨(k, wordAt s k), h, wordAt_bd s k⟩] else pws s M k
theorem pws_len (s : ByteArray) (M : Nat) : ∀ k, k ≤ M → (pws s M k).length = k
  | 0, _ => rfl
  | k + 1, h => by simp only [pws]; rw [dif_pos (by omega), List.length_append, pws_len s M k (by omega)]; rfl

/-- A block stays as it was. -/
def KeepB (Bn : Nat) (W W' : World) : Prop := W'.heap[Bn]? = W.heap[Bn]?
theorem keepB_t {Bn : Nat} {A B C : World} (h : KeepB Bn A B) (k : KeepB Bn B C) : KeepB Bn A C := Eq.trans k h
theorem keepB_b {Bn : Nat} {w : World} (hB : Bn < w.heap.size) (W : World) (l : Nat) (o o' : Obj) (hl : w.heap.size ≤ l) (_ : W.heap[l]? = some o) (_ : o.isCells = false) (_ : o.isWalk = false) : KeepB Bn W (W.putObj l o') := by
  unfold KeepB World.putObj
  simp only [Array.getElem?_setIfInBounds]
  rw [if_neg (by omega)]

set_option maxRecDepth 100000 in
set_option maxHeartbeats 2000000 in
/-- The iterator: for every body that keeps the block of the text. -/
theorem leWords1_in (n : Nat) (hn : 1 ≤ n) (l Bn : Nat) (s : ByteArray) (hs : s.size ≤ 1000000000) (J Jx : List (PW (s.size / 4)) → World → Prop)
    (hY : ∀ pre x W, J pre W → pre.length < s.size / 4 → YieldAt Fence.wide (n - 1) Tryz.prog l #[.int .i64 (x.1.1 : Int), .int .u32 x.1.2] W fun e W' =>
      (e = .returned (.bool true) ∧ J (pre ++ [x]) W' ∧ KeepB Bn W W') ∨ (e = .returned (.bool false) ∧ Jx (pre ++ [x]) W'))
    (W : World) (hBn : Boxed W Bn 9 (.string s)) (h0 : J [] W) :
    CallsIn Fence.wide n Tryz.prog 172 #[.func (.yield l) #[] #[], .pointer (some ⟨Bn, 0, none⟩)] W fun e W' => (∃ v, e = .returned v) ∧
      ((∃ ys, ys = pws s (s.size / 4) (s.size / 4) ∧ J ys W') ∨ (∃ pre, (∃ k, k ≤ s.size / 4 ∧ pre = pws s (s.size / 4) k) ∧ Jx pre W')) := by
  have hF60 : Fence.wide.fn 173 := trivial
  have hBc := hBn.cell
  refine callsIn_of_wp Tryz.func172 rfl trivial ?_ rfl
  simp only [Tryz.ntmps172, List.size_toArray, List.length_cons, List.length_nil, Nat.reduceAdd, Nat.reduceSub, Array.replicate_succ, Array.replicate_zero, List.push_toArray, List.append_toArray, List.nil_append, List.cons_append]
  gi_wp2
  gi_loopw [7] (fun i wr => ∃ k : Nat, k ≤ s.size / 4 ∧ i = .int .i64 k ∧ J (pws s (s.size / 4) k) wr ∧ Boxed wr Bn 9 (.string s))
    (fun i _ => s.size / 4 - (intOf i).toNat)
  case atStart => exact ⟨0, Nat.zero_le _, rfl, h0, hBn⟩
  case round =>
    obtain ⟨k, hk, rfl, hJs, hbx⟩ := hrel
    clear hBc hBn
    have hc := hbx.cell
    by_cases hlt : k < s.size / 4
    · have hp : 4 * k + 3 < s.size := by omega
      obtain ⟨fn, tmps, assign, body, hy, hR⟩ := hY _ ⟨(k, wordAt s k), hlt, wordAt_bd s k⟩ wr hJs (by rw [pws_len _ _ _ hk]; exact hlt)
      dsimp only at hy
      have hwk : le1 s[4 * k] s[4 * k + 1] s[4 * k + 2] s[4 * k + 3] = wordAt s k := by unfold wordAt; rw [dif_pos hp]
      have hC := leWordAt_any s k wr hs hp
      rw [hwk] at hC
      have HC := Lib.hid ((callsIn_wide (n := n - 1)).2 hC)
      clear hC hwk
      gi_wp2_with (gi_at_call 173; refine HC.out.mono ?_; rintro e w' ⟨rfl, rfl⟩)
      refine hR.mono ?_
      rintro e W3 (⟨rfl, hJ3, hk3⟩ | ⟨rfl, hJx3⟩)
      · gi_wp2
        go_roundw
        case rel => exact ⟨k + 1, by omega, by simp, by rw [pws, dif_pos hlt]; exact hJ3, Eq.trans hk3 hbx⟩
        case measure => simp [intOf]; omega
      · gi_wp2
        refine bodyPost_ret (results_none rfl _ _ _) rfl ?_
        exact ⟨⟨_, rfl⟩, .inr ⟨_, ⟨k + 1, by omega, by rw [pws, dif_pos hlt]⟩, hJx3⟩⟩
    · have hke : k = s.size / 4 := by omega
      have HK := Lib.hid hke
      clear hke
      gi_wp2
      go_end0
      exact ⟨⟨_, rfl⟩, .inl ⟨_, by rw [← HK.out], hJs⟩⟩

/-- leWords(s): the text is boxed; the function value captures the box. -/
theorem leWords_any (s : ByteArray) (w : World) :
    Calls Tryz.prog 154 #[.string s] w fun e w' => e = .returned (.func (.func 172) #[] #[.pointer (some ⟨w.heap.size, 0, none⟩)]) ∧ w' = w.alloc (.cells #[.string s] 9) := by
  go_enter Tryz.func154, Tryz.ntmps154
  go_wp2
  go_ret
  exact ⟨rfl, rfl⟩

theorem leWords_stops (n : Nat) (hn : 1 ≤ n) (Bn : Nat) (s : ByteArray) (hs : s.size ≤ 1000000000) (w : World) (hc : Boxed w Bn 9 (.string s)) :
    SeqStopsK Fence.wide n Tryz.prog 172 #[.pointer (some ⟨Bn, 0, none⟩)] (fun x : PW (s.size / 4) => #[Value.int .i64 (x.1.1 : Int), Value.int .u32 x.1.2]) (KeepB Bn) (fun ys => ys = pws s (s.size / 4) (s.size / 4)) (fun pre => ∃ k, k ≤ s.size / 4 ∧ pre = pws s (s.size / 4) k) (s.size / 4) w := fun l J Jx W hW _ _ hY h0 =>
  leWords1_in n hn l Bn s hs J Jx hY W (Eq.trans (hW.block Bn hc.lt) hc) h0

theorem pws_words (s : ByteArray) : ∀ k, k ≤ s.size / 4 → (pws s (s.size / 4) k).map (fun x => x.1.2) = (loadL s.data.toList).take k
  | 0, _ => rfl
  | k + 1, h => by
    have hk : k < (loadL s.data.toList).length := by rw [loadL_len]; simp; omega
    have ih := pws_words s k (by omega)
    rw [pws, dif_pos (by omega), List.map_append, ih, List.take_succ_eq_append_getElem hk]
    congr 1
    have hp : 4 * k + 3 < s.data.toList.length := by simp; omega
    have hg := loadL_get s.data.toList k hp
    rw [List.getElem?_eq_getElem hk] at hg
    have hg' := Option.some.inj hg
    rw [hg']
    have hp' : 4 * k + 3 < s.size := by omega
    simp only [List.map_cons, List.map_nil, wordAt, dif_pos hp']
    rfl

set_option maxRecDepth 100000 in
set_option maxHeartbeats 1600000 in
theorem l1Load_any (s : ByteArray) (w : World) (hs : s.size ≤ 1000000) :
    Calls Tryz.prog 113 #[.string s] w fun e w' => ∃ v, e = .returned v ∧ OwnK 104 .u32 w' w.heap.size v (loadL s.data.toList) ∧ Below w.heap.size w w' := by
  go_enter Tryz.func113, Tryz.ntmps113
  go_wp2
  go_loopw [3, 4] (fun u i wr => ∃ k m : Nat, k ≤ s.size / 4 ∧ Hid (m = 4 * k) ∧ m ≤ s.size ∧ i = .int .i64 m ∧ OwnK 104 .u32 wr w.heap.size u ((loadL s.data.toList).take k) ∧ Below w.heap.size w wr)
    (fun _ i _ => s.size - (intOf i).toNat)
  case atStart => exact ⟨0, 0, Nat.zero_le _, Lib.hid rfl, Nat.zero_le _, rfl, OwnK.lit _ _ w _ (Nat.le_refl _), (Below.refl _ _).alloc (Nat.le_refl _) _⟩
  case round =>
    obtain ⟨k, m, hk, hmk, hm, rfl, hown, hbel⟩ := hrel
    by_cases hlt : k < s.size / 4
    · have hsz := hbel.size
      have hp : m + 3 < s.size := by have := hmk.out; omega
      have i0 : (m : Int) < (s.size : Int) := by omega
      have i1 : (m : Int) + 1 < (s.size : Int) := by omega
      have i2 : (m : Int) + 2 < (s.size : Int) := by omega
      have i3 : (m : Int) + 3 < (s.size : Int) := by omega
      have j1 : 0 ≤ (m : Int) + 1 := by omega
      have j2 : 0 ≤ (m : Int) + 2 := by omega
      have j3 : 0 ≤ (m : Int) + 3 := by omega
      have w1 : IntKind.i64.wrap ((m : Int) + 1) = (m : Int) + 1 := IntWalk.i64_in _ (by omega)
      have w2 : IntKind.i64.wrap ((m : Int) + 2) = (m : Int) + 2 := IntWalk.i64_in _ (by omega)
      have w3 : IntKind.i64.wrap ((m : Int) + 3) = (m : Int) + 3 := IntWalk.i64_in _ (by omega)
      have t1 : ((m : Int) + 1).toNat = m + 1 := by omega
      have t2 : ((m : Int) + 2).toNat = m + 2 := by omega
      have t3 : ((m : Int) + 3).toNat = m + 3 := by omega
      have hkl : k < (loadL s.data.toList).length := by rw [loadL_len]; simp; omega
      have HL : Hid (((loadL s.data.toList).take k).length ≤ s.size) := Lib.hid (by simp; omega)
      have HG : Hid ((loadL s.data.toList)[k] = le1 s[m] s[m + 1] s[m + 2] s[m + 3]) := Lib.hid (by
        have hm := hmk.out
        subst hm
        have hg := loadL_get s.data.toList k (by simp; omega)
        rw [List.getElem?_eq_getElem hkl] at hg
        rw [Option.some.inj hg]; rfl)
      go_wp2
      refine wp_region_free_tail 26 (by kernel_rfl) (by kernel_rfl) (by decide) (by kernel_rfl) (by intro d v c a w h; cases d <;> exact h) ?_
      simp only [List.take_succ_cons, List.take_zero, List.drop_succ_cons, List.drop_zero]
      iterate 26 (refine wpFree_step ?_ (by rfl) ?_ ?_; rotate_left; (intro w; go_simp); try with_reducible rfl)
      refine wpFree_nil ?_
      go_wp2_with (at_builtin; (refine wpList_appK Tryz.underlying122 Tryz.infoU32 (by decide) rfl (.tmp 13) (.tmp 39) rfl w.heap.size _ _ rfl (hown.drew.alloc _) wr.heap.size 1 _ _ [le1 s[m] s[m + 1] s[m + 2] s[m + 3]] rfl (heap_alloc_new wr.drew _) (by simp; exact or4 _ _ _ _) rfl (by decide) (by have := HL.out; omega) (by simp; omega) ?_); intro v1 w1 hown1 hb1)
      rw [← HG.out, ← List.take_succ_eq_append_getElem hkl] at hown1
      have hb2 := (hbel.drew.alloc hsz _).trans hb1
      clear hb1 hown
      go_wp2
      go_roundw
      case rel => exact ⟨k + 1, m + 4, by omega, Lib.hid (by rw [hmk.out]; omega), by have := hmk.out; omega, by go_num, hown1, hb2⟩
      case measure => simp [intOf]; omega
    · have hge : ¬ m + 4 ≤ s.size := by have := hmk.out; omega
      go_wp2
      go_ret
      refine ⟨_, rfl, ?_, hbel⟩
      rw [List.take_of_length_le (by rw [loadL_len]; simp; omega)] at hown
      exact hown

end Go.Proofs.YtlipgmaiooljkaaGreatDoor
