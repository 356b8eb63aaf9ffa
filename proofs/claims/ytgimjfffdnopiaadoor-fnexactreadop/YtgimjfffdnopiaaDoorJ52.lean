/- Joined: V11b. -/
import Derived.Test.YtgimjfffdnopiaaDoorJ37
import Derived.Test.YtgimjfffdnopiaaDoorJ51
/- V11b -/
namespace Go.Proofs.YtgimjfffdnopiaaDoor
open Go.ChangeShapes Go.WideShapes Go.ChangeAt Go.RowKit
set_option linter.unusedVariables false
set_option linter.unusedSimpArgs false

set_option maxRecDepth 100000 in
set_option maxHeartbeats 1600000 in
theorem markOp_own (q : OpD) (x : Value) (base : Nat) (m : Int) (w : World) (h : OwnR 71 3 itC w base x q.its) (hm0 : 0 < m) (hm1 : m ≤ 100000000000000) (hn : q.its.length ≤ 1048576) :
    Calls Tryd.prog 31 #[opV q x, .int .i64 m] w fun e w' => e = .returned (.int .i64 (m + 3 * (q.its.length : Int))) ∧ OwnR 71 3 itC w' base x (maIs q.its.length m) ∧ w.grownBy w' x.ownBlock := by
  obtain ⟨k, u, i, d, fu, ft, its⟩ := q
  dsimp only at h hn ⊢
  have ho := h.alloc (.cells #[.int .i64 k, .string u, .string i, .int .i64 d, .string fu, .string ft, x] 44)
  have hb := World.grownBy_alloc w (.cells #[.int .i64 k, .string u, .string i, .int .i64 d, .string fu, .string ft, x] 44) x.ownBlock
  have HC := Lib.hid (markFeed_own fu ft x its base m _ ho hm0 hm1 hn)
  obtain ⟨xa, xc, rfl⟩ := h.slice
  clear h ho
  go_enter Tryd.func31, Tryd.ntmps31
  go_wp2_with fail
  refine HC.out.mono ?_
  rintro e w1 ⟨rfl, ho1, hg1⟩
  have hg := hb.trans hg1
  clear hb hg1
  go_wp2
  go_ret
  exact ⟨rfl, ho1, hg⟩

set_option maxRecDepth 100000 in
set_option maxHeartbeats 1600000 in
theorem heldOp_own (q : OpD) (x : Value) (n : Nat) (m : Int) (w : World) (h : ItAt w w.heap.size x (maIs n m)) (hm0 : 0 < m) (hm1 : m ≤ 100000000000000) (hn : n ≤ 1048576) :
    Calls Tryd.prog 32 #[opV q x, .int .i64 m] w fun e w' => e = .returned (.int .i64 (m + 3 * (n : Int))) ∧ Below w.heap.size w w' := by
  obtain ⟨k, u, i, d, fu, ft, its⟩ := q
  have hb : Below w.heap.size w (w.alloc (.cells #[.int .i64 k, .string u, .string i, .int .i64 d, .string fu, .string ft, x] 44)) := (Below.refl _ _).alloc (Nat.le_refl _) _
  have HC := Lib.hid (heldFeed_own fu ft x n m _ ((h.below hb).mono hb.size) hm0 hm1 hn)
  obtain ⟨xa, xc, rfl, _⟩ := h.raw
  clear h
  go_enter Tryd.func32, Tryd.ntmps32
  go_wp2_with fail
  refine HC.out.mono ?_
  rintro e w1 ⟨rfl, hb1⟩
  have hB := hb.trans (hb1.mono hb.size)
  have hk : ¬ (m + 3 * (n : Int) < 0) := by omega
  clear hb hb1
  go_wp2
  go_ret
  exact ⟨rfl, hB⟩

theorem ro_uni (s : ByteArray) : ∃ (q : OpD) (b : Bool), (∀ S e w', RoOut S (rdO s) e w' → ∃ v, e = .returned (.tuple #[opV q v, .bool b]) ∧ OwnR 71 3 itC w' S v q.its) ∧ OpSz q ∧ (∀ x ∈ q.its, x.id.size ≤ maxLen ∧ x.ti.size ≤ maxLen) ∧ q.its.length ≤ 1000 := by
  cases h : rdO s with
  | none => exact ⟨o0 0, false, fun S e w' hr => ⟨_, hr, OwnR.nil _ _ _⟩, ⟨Nat.zero_le _, Nat.zero_le _, Nat.zero_le _, Nat.zero_le _⟩, (fun x hx => by cases hx), by simp⟩
  | some q =>
    obtain ⟨hb, _⟩ := P1 h
    refine ⟨q, true, fun S e w' hr => hr, ?_⟩
    obtain ⟨k, u, i, d, fu, ft, its⟩ := q
    unfold opB at hb
    dsimp only at hb ⊢
    by_cases h1 : k = 1 ∨ k = 2 ∨ k = 8
    · rw [if_pos h1] at hb
      simp only [Bool.and_eq_true] at hb
      obtain ⟨⟨⟨hu, hi⟩, hd⟩, hf⟩ := hb
      obtain rfl := em_nil hi
      obtain ⟨rfl, rfl, rfl⟩ := fe_nil hf
      have := nm_size hu
      exact ⟨⟨by unfold maxLen; dsimp only; omega, Nat.zero_le _, Nat.zero_le _, Nat.zero_le _⟩, (fun x hx => by cases hx), by simp⟩
    · rw [if_neg h1] at hb
      by_cases h3 : k = 3
      · rw [if_pos h3] at hb
        simp only [Bool.and_eq_true] at hb
        obtain ⟨⟨⟨hu, hi⟩, hd⟩, hf⟩ := hb
        obtain rfl := em_nil hi
        obtain rfl := em_nil hu
        obtain ⟨g1, g2, g3⟩ := fdB_parts8 hf
        have g4 := fdB_len hf
        refine ⟨⟨Nat.zero_le _, Nat.zero_le _, by unfold maxLen; dsimp only; omega, by unfold maxLen; dsimp only; omega⟩, fun x hx => ?_, by omega⟩
        obtain ⟨a, b, _⟩ := g3 x hx
        unfold maxLen
        exact ⟨by omega, by omega⟩
      · rw [if_neg h3] at hb
        by_cases h4 : k = 4 ∨ k = 5 ∨ k = 6 ∨ k = 7
        · rw [if_pos h4] at hb
          simp only [Bool.and_eq_true] at hb
          obtain ⟨⟨⟨hu, hi⟩, hd⟩, hf⟩ := hb
          obtain ⟨rfl, rfl, rfl⟩ := fe_nil hf
          have a1 := nm_size hu
          have a2 := nm_size hi
          exact ⟨⟨by unfold maxLen; dsimp only; omega, by unfold maxLen; dsimp only; omega, Nat.zero_le _, Nat.zero_le _⟩, (fun x hx => by cases hx), by simp⟩
        · rw [if_neg h4] at hb
          by_cases h9 : k = 9
          · rw [if_pos h9] at hb
            simp only [Bool.and_eq_true] at hb
            obtain ⟨⟨⟨hu, hi⟩, hd⟩, hf⟩ := hb
            obtain rfl := em_nil hi
            obtain rfl := em_nil hu
            obtain ⟨rfl, rfl, rfl⟩ := fe_nil hf
            exact ⟨⟨Nat.zero_le _, Nat.zero_le _, Nat.zero_le _, Nat.zero_le _⟩, (fun x hx => by cases hx), by simp⟩
          · rw [if_neg h9] at hb; cases hb

set_option maxRecDepth 100000 in
set_option maxHeartbeats 4000000 in
theorem walk_FnExactReadOp (s : ByteArray) (w : World) (hs : s.size ≤ maxLen) (hk : OTab w ∧ ETab w ∧ XTab w ∧ MTab w) :
    Calls Tryd.prog 6 #[.string s] w fun e w' => e = .returned (.bool true) ∧ Below w.heap.size w w' := by
  obtain ⟨q, bb, hu, hqz, hsz, hn⟩ := ro_uni s
  have HU := Lib.hid hu
  have HZ := Lib.hid hsz
  have HQ := Lib.hid hqz
  have HK := Lib.hid hk
  unfold maxLen at hs
  clear hu hsz hk hqz
  by_cases h1 : s.size ≤ 1048576
  case neg =>
    go_enter Tryd.func6, Tryd.ntmps6
    go_wp2
    go_ret
    exact ⟨rfl, Below.refl _ _⟩
  have HS := Lib.hid (fun w => specReadOp_any s w (by omega))
  have HI := Lib.hid (fun w h0 h1 h2 h3 => implReadOp_any s w (by omega) h0 h1 h2 h3)
  have HEQ := Lib.hid (fun x x' w h h' => eqOp_same q x x' w h h' HQ.out)
  have HMK := Lib.hid (fun x base m w h h0 h1 h2 => markOp_own q x base m w h h0 h1 h2)
  have HHL := Lib.hid (fun x n m w h h0 h1 h2 => heldOp_own q x n m w h h0 h1 h2)
  obtain ⟨k, u, i, d, fu, ft, its⟩ := q
  dsimp only at HU HZ hn HEQ HMK HHL
  clear HQ
  go_enter Tryd.func6, Tryd.ntmps6
  go_wp2_with fail
  refine (HS.out _).mono ?_
  rintro e w1 ⟨hr, hb⟩
  obtain ⟨wv, rfl, hW⟩ := HU.out _ _ _ hr
  have hB := hb
  have HW : Hid (ItAt w1 w1.heap.size wv its) := Lib.hid ⟨OwnR.at itC_len hW, HZ.out⟩
  obtain ⟨wa, wc, rfl⟩ := hW.slice
  clear hr hb hW
  have h3 := Box.new w1 #[.int .i64 k, .string u, .string i, .int .i64 d, .string fu, .string ft, .slice wa its.length wc] 44
  have hia : Below w1.heap.size w1 (w1.alloc (.cells #[.int .i64 k, .string u, .string i, .int .i64 d, .string fu, .string ft, .slice wa its.length wc] 44)) := (Below.refl _ _).alloc (Nat.le_refl _) _
  replace HW : Hid (ItAt (w1.alloc (.cells #[.int .i64 k, .string u, .string i, .int .i64 d, .string fu, .string ft, .slice wa its.length wc] 44)) (w1.alloc (.cells #[.int .i64 k, .string u, .string i, .int .i64 d, .string fu, .string ft, .slice wa its.length wc] 44)).heap.size (.slice wa its.length wc) its) := Lib.hid ((HW.out.below hia).mono hia.size)
  replace hB := hB.trans (hia.mono hB.size)
  clear hia
  go_wp2_with fail
  generalize w1.alloc (.cells #[.int .i64 k, .string u, .string i, .int .i64 d, .string fu, .string ft, .slice wa its.length wc] 44) = W2 at h3 HW hB ⊢
  generalize w1.heap.size = G3 at h3 ⊢
  obtain ⟨Bg, hBg⟩ : ∃ B, B = W2.heap.size := ⟨_, rfl⟩
  have h3g : G3 < Bg := by rw [hBg]; exact h3.lt
  have hwg : w.heap.size ≤ Bg := by rw [hBg]; exact hB.size
  refine (HI.out _ (HK.out.1.below hB (Nat.le_refl _)) (HK.out.2.1.below hB (Nat.le_refl _)) (HK.out.2.2.1.below hB (Nat.le_refl _)) (HK.out.2.2.2.below hB (Nat.le_refl _))).mono ?_
  rintro e w3 ⟨hr, hb⟩
  rw [← hBg] at hr hb HW
  obtain ⟨gv, rfl, hG⟩ := HU.out _ _ _ hr
  replace h3 := h3.keep hb h3g
  replace HW : Hid (ItAt w3 Bg (.slice wa its.length wc) its) := Lib.hid (HW.out.below hb)
  replace hB := hB.trans (hb.mono hwg)
  have hg3 : Bg ≤ w3.heap.size := by rw [hBg]; exact hb.size
  obtain ⟨ga, gc, rfl⟩ := hG.slice
  have hgo : ∀ b, (Value.slice ga its.length gc).ownBlock = some b → Bg ≤ b ∧ b < w3.heap.size := fun b h => ⟨ownBlock_base hG b h, (World.ownsRow.lt hG b h).2⟩
  clear hr hb hBg
  have h5 := Box.new w3 #[.int .i64 k, .string u, .string i, .int .i64 d, .string fu, .string ft, .slice ga its.length gc] 44
  replace h3 := h3.alloc (.cells #[.int .i64 k, .string u, .string i, .int .i64 d, .string fu, .string ft, .slice ga its.length gc] 44)
  replace HW : Hid (ItAt (w3.alloc (.cells #[.int .i64 k, .string u, .string i, .int .i64 d, .string fu, .string ft, .slice ga its.length gc] 44)) Bg (.slice wa its.length wc) its) := Lib.hid (HW.out.below ((Below.refl _ _).alloc hg3 _))
  have HG := Lib.hid (hG.alloc (.cells #[.int .i64 k, .string u, .string i, .int .i64 d, .string fu, .string ft, .slice ga its.length gc] 44))
  replace hB := hB.alloc hB.size (.cells #[.int .i64 k, .string u, .string i, .int .i64 d, .string fu, .string ft, .slice ga its.length gc] 44)
  have hg5 : Bg ≤ (w3.alloc (.cells #[.int .i64 k, .string u, .string i, .int .i64 d, .string fu, .string ft, .slice ga its.length gc] 44)).heap.size := by simp; omega
  clear hG
  have c0 := h3.cell 0 _ rfl
  have c1 := h3.cell 1 _ rfl
  have c2 := h3.cell 2 _ rfl
  have c3 := h3.cell 3 _ rfl
  have c4 := h3.cell 4 _ rfl
  have c5 := h3.cell 5 _ rfl
  have c6 := h3.cell 6 _ rfl
  have p0 := h5.cell 0 _ rfl
  have p1 := h5.cell 1 _ rfl
  have p2 := h5.cell 2 _ rfl
  have p3 := h5.cell 3 _ rfl
  have p4 := h5.cell 4 _ rfl
  have p5 := h5.cell 5 _ rfl
  have p6 := h5.cell 6 _ rfl
  have hbb : (bb != bb) = false := by cases bb <;> rfl
  go_wp2_with fail
  generalize w3.alloc (.cells #[.int .i64 k, .string u, .string i, .int .i64 d, .string fu, .string ft, .slice ga its.length gc] 44) = W4 at h3 h5 HW HG hB hg5 ⊢
  generalize w3.heap.size = G5 at h5 hgo hg3 ⊢
  clear c0 c1 c2 c3 c4 c5 c6
  clear p0 p1 p2 p3 p4 p5 p6
  refine (HEQ.out _ _ _ ⟨OwnR.at itC_len HG.out, HZ.out⟩ ⟨HW.out.1.mono hg5, HZ.out⟩).mono ?_
  rintro e w5 ⟨rfl, hb⟩
  replace h3 := h3.keep hb h3.lt
  replace h5 := h5.keep hb h5.lt
  replace HW : Hid (ItAt w5 Bg (.slice wa its.length wc) its) := Lib.hid (HW.out.below (hb.mono hg5))
  replace HG := Lib.hid (HG.out.keep hb (Nat.le_refl _))
  replace hB := hB.trans (hb.mono hB.size)
  replace hg5 : Bg ≤ w5.heap.size := Nat.le_trans hg5 hb.size
  clear hb
  have p0 := h5.cell 0 _ rfl
  have p1 := h5.cell 1 _ rfl
  have p2 := h5.cell 2 _ rfl
  have p3 := h5.cell 3 _ rfl
  have p4 := h5.cell 4 _ rfl
  have p5 := h5.cell 5 _ rfl
  have p6 := h5.cell 6 _ rfl
  go_wp2_with fail
  clear p0 p1 p2 p3 p4 p5 p6
  refine (HMK.out _ Bg 1 _ HG.out (by omega) (by omega) (by omega)).mono ?_
  rintro e w6 ⟨rfl, hG2, hgr⟩
  have hb : Below Bg w5 w6 := gb_Below hgr hg5 (fun b h => (hgo b h).1)
  replace h3 := h3.keep hb h3g
  replace h5 : Box w6 G5 #[.int .i64 k, .string u, .string i, .int .i64 d, .string fu, .string ft, .slice ga its.length gc] 44 := (hgr.block G5 h5.lt (fun e => by have := (hgo G5 e.symm).2; omega)).trans h5
  replace HW : Hid (ItAt w6 Bg (.slice wa its.length wc) its) := Lib.hid (HW.out.below hb)
  replace HG := Lib.hid hG2
  replace hB := hB.trans (hb.mono hwg)
  replace hg5 : Bg ≤ w6.heap.size := Nat.le_trans hg5 hb.size
  clear hb hG2 hgr hgo
  have p0 := h5.cell 0 _ rfl
  have p1 := h5.cell 1 _ rfl
  have p2 := h5.cell 2 _ rfl
  have p3 := h5.cell 3 _ rfl
  have p4 := h5.cell 4 _ rfl
  have p5 := h5.cell 5 _ rfl
  have p6 := h5.cell 6 _ rfl
  go_wp2_with fail
  clear p0 p1 p2 p3 p4 p5 p6
  refine (HHL.out _ its.length 1 _ ⟨OwnR.at itC_len HG.out, maIs_sz _ _⟩ (by omega) (by omega) (by omega)).mono ?_
  rintro e w7 ⟨rfl, hb⟩
  replace h3 := h3.keep hb h3.lt
  replace h5 := h5.keep hb h5.lt
  replace HW : Hid (ItAt w7 Bg (.slice wa its.length wc) its) := Lib.hid (HW.out.below (hb.mono hg5))
  replace HG := Lib.hid (HG.out.keep hb (Nat.le_refl _))
  replace hB := hB.trans (hb.mono hB.size)
  replace hg5 : Bg ≤ w7.heap.size := Nat.le_trans hg5 hb.size
  clear hb
  have hk7 : ¬ (1 + 3 * (its.length : Int) < 0) := by omega
  go_wp2_with fail
  refine (HI.out _ (HK.out.1.below hB (Nat.le_refl _)) (HK.out.2.1.below hB (Nat.le_refl _)) (HK.out.2.2.1.below hB (Nat.le_refl _)) (HK.out.2.2.2.below hB (Nat.le_refl _))).mono ?_
  rintro e w8 ⟨hr, hb⟩
  obtain ⟨hv, rfl, hH⟩ := HU.out _ _ _ hr
  clear hr
  replace h3 := h3.keep hb h3.lt
  replace h5 := h5.keep hb h5.lt
  replace HW : Hid (ItAt w8 Bg (.slice wa its.length wc) its) := Lib.hid (HW.out.below (hb.mono hg5))
  replace HG := Lib.hid (HG.out.keep hb (Nat.le_refl _))
  replace hB := hB.trans (hb.mono hB.size)
  replace hg5 : Bg ≤ w8.heap.size := Nat.le_trans hg5 hb.size
  clear hb
  obtain ⟨ha, hc, rfl⟩ := hH.slice
  have h9 := Box.new w8 #[.int .i64 k, .string u, .string i, .int .i64 d, .string fu, .string ft, .slice ha its.length hc] 44
  have hb : Below w8.heap.size w8 (w8.alloc (.cells #[.int .i64 k, .string u, .string i, .int .i64 d, .string fu, .string ft, .slice ha its.length hc] 44)) := (Below.refl _ _).alloc (Nat.le_refl _) _
  have HH := Lib.hid (hH.alloc (.cells #[.int .i64 k, .string u, .string i, .int .i64 d, .string fu, .string ft, .slice ha its.length hc] 44))
  clear hH
  replace h3 := h3.keep hb h3.lt
  replace h5 := h5.keep hb h5.lt
  replace HW : Hid (ItAt (w8.alloc (.cells #[.int .i64 k, .string u, .string i, .int .i64 d, .string fu, .string ft, .slice ha its.length hc] 44)) Bg (.slice wa its.length wc) its) := Lib.hid (HW.out.below (hb.mono hg5))
  replace HG := Lib.hid (HG.out.keep hb (Nat.le_refl _))
  replace hB := hB.trans (hb.mono hB.size)
  replace hg5 : Bg ≤ (w8.alloc (.cells #[.int .i64 k, .string u, .string i, .int .i64 d, .string fu, .string ft, .slice ha its.length hc] 44)).heap.size := Nat.le_trans hg5 hb.size
  clear hb
  have p0 := h9.cell 0 _ rfl
  have p1 := h9.cell 1 _ rfl
  have p2 := h9.cell 2 _ rfl
  have p3 := h9.cell 3 _ rfl
  have p4 := h9.cell 4 _ rfl
  have p5 := h9.cell 5 _ rfl
  have p6 := h9.cell 6 _ rfl
  have c0 := h3.cell 0 _ rfl
  have c1 := h3.cell 1 _ rfl
  have c2 := h3.cell 2 _ rfl
  have c3 := h3.cell 3 _ rfl
  have c4 := h3.cell 4 _ rfl
  have c5 := h3.cell 5 _ rfl
  have c6 := h3.cell 6 _ rfl
  go_wp2_with fail
  clear p0 p1 p2 p3 p4 p5 p6
  clear c0 c1 c2 c3 c4 c5 c6
  generalize w8.alloc (.cells #[.int .i64 k, .string u, .string i, .int .i64 d, .string fu, .string ft, .slice ha its.length hc] 44) = W9 at h3 h5 h9 HW HG HH hB hg5 ⊢
  generalize w8.heap.size = G9 at h9 HH ⊢
  refine (HEQ.out _ _ _ ⟨OwnR.at itC_len HH.out, HZ.out⟩ ⟨HW.out.1.mono hg5, HZ.out⟩).mono ?_
  rintro e w10 ⟨rfl, hb⟩
  clear HH
  replace h3 := h3.keep hb h3.lt
  replace h5 := h5.keep hb h5.lt
  replace h9 := h9.keep hb h9.lt
  replace HW : Hid (ItAt w10 Bg (.slice wa its.length wc) its) := Lib.hid (HW.out.below (hb.mono hg5))
  replace HG := Lib.hid (HG.out.keep hb (Nat.le_refl _))
  replace hB := hB.trans (hb.mono hB.size)
  replace hg5 : Bg ≤ w10.heap.size := Nat.le_trans hg5 hb.size
  clear hb
  have p0 := h5.cell 0 _ rfl
  have p1 := h5.cell 1 _ rfl
  have p2 := h5.cell 2 _ rfl
  have p3 := h5.cell 3 _ rfl
  have p4 := h5.cell 4 _ rfl
  have p5 := h5.cell 5 _ rfl
  have p6 := h5.cell 6 _ rfl
  go_wp2_with fail
  clear p0 p1 p2 p3 p4 p5 p6
  refine (HHL.out _ its.length 1 _ ⟨OwnR.at itC_len HG.out, maIs_sz _ _⟩ (by omega) (by omega) (by omega)).mono ?_
  rintro e w11 ⟨rfl, hb⟩
  replace h3 := h3.keep hb h3.lt
  replace h5 := h5.keep hb h5.lt
  replace h9 := h9.keep hb h9.lt
  replace HW : Hid (ItAt w11 Bg (.slice wa its.length wc) its) := Lib.hid (HW.out.below (hb.mono hg5))
  replace HG := Lib.hid (HG.out.keep hb (Nat.le_refl _))
  replace hB := hB.trans (hb.mono hB.size)
  replace hg5 : Bg ≤ w11.heap.size := Nat.le_trans hg5 hb.size
  clear hb
  go_wp2
  go_ret
  exact ⟨rfl, hB⟩
end Go.Proofs.YtgimjfffdnopiaaDoor
