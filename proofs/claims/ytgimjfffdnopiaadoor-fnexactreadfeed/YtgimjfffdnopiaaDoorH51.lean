/- Joined: V8f. -/
import Derived.Test.YtgimjfffdnopiaaDoorH35
import Derived.Test.YtgimjfffdnopiaaDoorH50
/- V8f -/
namespace Go.Proofs.YtgimjfffdnopiaaDoor
open Go.ChangeShapes Go.WideShapes Go.ChangeAt Go.RowKit
set_option linter.unusedVariables false
set_option linter.unusedSimpArgs false

theorem rf_uni (s : ByteArray) : ∃ (u t : ByteArray) (its : List It) (b : Bool), (∀ S e w', RfOut S (rdF s) e w' → ∃ v, e = .returned (.tuple #[fV u t v, .bool b]) ∧ OwnR 71 3 itC w' S v its) ∧ u.size ≤ maxLen ∧ t.size ≤ maxLen ∧ (∀ x ∈ its, x.id.size ≤ maxLen ∧ x.ti.size ≤ maxLen) ∧ its.length ≤ 1000 := by
  cases h : rdF s with
  | none => exact ⟨⟨#[]⟩, ⟨#[]⟩, [], false, fun S e w' hr => ⟨_, hr, OwnR.nil _ _ _⟩, Nat.zero_le _, Nat.zero_le _, (fun x hx => by cases hx), by simp⟩
  | some f =>
    obtain ⟨hb, _⟩ := rdF_some h
    obtain ⟨h1, h2, h3⟩ := fdB_parts8 hb
    have h4 := fdB_len hb
    refine ⟨f.u, f.t, f.its, true, fun S e w' hr => hr, by unfold maxLen; omega, by unfold maxLen; omega, fun x hx => ?_, by omega⟩
    obtain ⟨a, b, _⟩ := h3 x hx
    unfold maxLen
    exact ⟨by omega, by omega⟩

set_option maxRecDepth 100000 in
set_option maxHeartbeats 4000000 in
theorem walk_FnExactReadFeed (s : ByteArray) (w : World) (hs : s.size ≤ maxLen) (hk : ETab w ∧ XTab w ∧ MTab w) :
    Calls Tryd.prog 5 #[.string s] w fun e w' => e = .returned (.bool true) ∧ Below w.heap.size w w' := by
  obtain ⟨u, t, its, bb, hu, hul, htl, hsz, hn⟩ := rf_uni s
  have HU := Lib.hid hu
  have HZ := Lib.hid hsz
  have HS := Lib.hid (fun w => specReadFeed_any s w)
  have HI := Lib.hid (fun w h1 h2 h3 => implReadFeed_any s w h1 h2 h3)
  have HK := Lib.hid hk
  unfold maxLen at hs
  clear hu hsz hk
  by_cases h1 : s.size ≤ 1048576
  case neg =>
    go_enter Tryd.func5, Tryd.ntmps5
    go_wp2
    go_ret
    exact ⟨rfl, Below.refl _ _⟩
  go_enter Tryd.func5, Tryd.ntmps5
  go_wp2_with fail
  refine (HS.out _).mono ?_
  rintro e w1 ⟨hr, hb⟩
  obtain ⟨wv, rfl, hW⟩ := HU.out _ _ _ hr
  have hB := hb
  have HW : Hid (ItAt w1 w1.heap.size wv its) := Lib.hid ⟨OwnR.at itC_len hW, HZ.out⟩
  obtain ⟨wa, wc, rfl⟩ := hW.slice
  clear hr hb hW
  have h3 := Box.new w1 #[.string u, .string t, .slice wa its.length wc] 37
  have hia : Below w1.heap.size w1 (w1.alloc (.cells #[.string u, .string t, .slice wa its.length wc] 37)) := (Below.refl _ _).alloc (Nat.le_refl _) _
  replace HW : Hid (ItAt (w1.alloc (.cells #[.string u, .string t, .slice wa its.length wc] 37)) (w1.alloc (.cells #[.string u, .string t, .slice wa its.length wc] 37)).heap.size (.slice wa its.length wc) its) := Lib.hid ((HW.out.below hia).mono hia.size)
  replace hB := hB.trans (hia.mono hB.size)
  clear hia
  go_wp2_with fail
  generalize w1.alloc (.cells #[.string u, .string t, .slice wa its.length wc] 37) = W2 at h3 HW hB ⊢
  generalize w1.heap.size = G3 at h3 ⊢
  obtain ⟨Bg, hBg⟩ : ∃ B, B = W2.heap.size := ⟨_, rfl⟩
  have h3g : G3 < Bg := by rw [hBg]; exact h3.lt
  have hwg : w.heap.size ≤ Bg := by rw [hBg]; exact hB.size
  refine (HI.out _ (HK.out.1.below hB (Nat.le_refl _)) (HK.out.2.1.below hB (Nat.le_refl _)) (HK.out.2.2.below hB (Nat.le_refl _))).mono ?_
  rintro e w3 ⟨hr, hb⟩
  rw [← hBg] at hr hb HW
  obtain ⟨gv, rfl, hG⟩ := HU.out _ _ _ hr
  replace h3 := h3.keep hb h3g
  replace HW : Hid (ItAt w3 Bg (.slice wa its.length wc) its) := Lib.hid (HW.out.below hb)
  replace hB := hB.trans (hb.mono hwg)
  have hg3 : Bg ≤ w3.heap.size := by rw [hBg]; exact hb.size
  obtain ⟨ga, gc, rfl⟩ := hG.slice
  have hgo : ∀ b, (Value.slice ga its.length gc).ownBlock = some b → Bg ≤ b ∧ b < w3.heap.size := fun b h => ⟨ownBlock_base hG b h, (World.ownsRow.lt hG b h).2⟩
  clear hr hb hBg
  have h5 := Box.new w3 #[.string u, .string t, .slice ga its.length gc] 37
  replace h3 := h3.alloc (.cells #[.string u, .string t, .slice ga its.length gc] 37)
  replace HW : Hid (ItAt (w3.alloc (.cells #[.string u, .string t, .slice ga its.length gc] 37)) Bg (.slice wa its.length wc) its) := Lib.hid (HW.out.below ((Below.refl _ _).alloc hg3 _))
  have HG := Lib.hid (hG.alloc (.cells #[.string u, .string t, .slice ga its.length gc] 37))
  replace hB := hB.alloc hB.size (.cells #[.string u, .string t, .slice ga its.length gc] 37)
  have hg5 : Bg ≤ (w3.alloc (.cells #[.string u, .string t, .slice ga its.length gc] 37)).heap.size := by simp; omega
  clear hG
  have c0 := h3.cell 0 _ rfl
  have c1 := h3.cell 1 _ rfl
  have c2 := h3.cell 2 _ rfl
  have d0 := h5.cell 0 _ rfl
  have d1 := h5.cell 1 _ rfl
  have d2 := h5.cell 2 _ rfl
  have hbb : (bb != bb) = false := by cases bb <;> rfl
  go_wp2_with fail
  generalize w3.alloc (.cells #[.string u, .string t, .slice ga its.length gc] 37) = W4 at h3 h5 HW HG hB hg5 ⊢
  generalize w3.heap.size = G5 at h5 hgo hg3 ⊢
  clear c0 c1 c2 d0 d1 d2
  refine (eqFeed_same _ _ u t its _ ⟨_, rfl, ⟨OwnR.at itC_len HG.out, HZ.out⟩, hul, htl⟩ ⟨_, rfl, ⟨HW.out.1.mono hg5, HZ.out⟩, hul, htl⟩).mono ?_
  rintro e w5 ⟨rfl, hb⟩
  replace h3 := h3.keep hb h3.lt
  replace h5 := h5.keep hb h5.lt
  replace HW : Hid (ItAt w5 Bg (.slice wa its.length wc) its) := Lib.hid (HW.out.below (hb.mono hg5))
  replace HG := Lib.hid (HG.out.keep hb (Nat.le_refl _))
  replace hB := hB.trans (hb.mono hB.size)
  replace hg5 : Bg ≤ w5.heap.size := Nat.le_trans hg5 hb.size
  clear hb
  have d0 := h5.cell 0 _ rfl
  have d1 := h5.cell 1 _ rfl
  have d2 := h5.cell 2 _ rfl
  go_wp2_with fail
  clear d0 d1 d2
  refine (markFeed_own u t _ its Bg 1 _ HG.out (by omega) (by omega) (by omega)).mono ?_
  rintro e w6 ⟨rfl, hG2, hgr⟩
  have hb : Below Bg w5 w6 := gb_Below hgr hg5 (fun b h => (hgo b h).1)
  replace h3 := h3.keep hb h3g
  replace h5 : Box w6 G5 #[.string u, .string t, .slice ga its.length gc] 37 := (hgr.block G5 h5.lt (fun e => by have := (hgo G5 e.symm).2; omega)).trans h5
  replace HW : Hid (ItAt w6 Bg (.slice wa its.length wc) its) := Lib.hid (HW.out.below hb)
  replace HG := Lib.hid hG2
  replace hB := hB.trans (hb.mono hwg)
  replace hg5 : Bg ≤ w6.heap.size := Nat.le_trans hg5 hb.size
  clear hb hG2 hgr hgo
  have d0 := h5.cell 0 _ rfl
  have d1 := h5.cell 1 _ rfl
  have d2 := h5.cell 2 _ rfl
  go_wp2_with fail
  clear d0 d1 d2
  refine (heldFeed_own u t _ its.length 1 _ ⟨OwnR.at itC_len HG.out, maIs_sz _ _⟩ (by omega) (by omega) (by omega)).mono ?_
  rintro e w7 ⟨rfl, hb⟩
  replace h3 := h3.keep hb h3.lt
  replace h5 := h5.keep hb h5.lt
  replace HW : Hid (ItAt w7 Bg (.slice wa its.length wc) its) := Lib.hid (HW.out.below (hb.mono hg5))
  replace HG := Lib.hid (HG.out.keep hb (Nat.le_refl _))
  replace hB := hB.trans (hb.mono hB.size)
  replace hg5 : Bg ≤ w7.heap.size := Nat.le_trans hg5 hb.size
  clear hb
  have hk7 : ¬ (1 + 3 * (its.length : Int) < 0) := by omega
  go_wp2_with fail
  refine (HI.out _ (HK.out.1.below hB (Nat.le_refl _)) (HK.out.2.1.below hB (Nat.le_refl _)) (HK.out.2.2.below hB (Nat.le_refl _))).mono ?_
  rintro e w8 ⟨hr, hb⟩
  obtain ⟨hv, rfl, hH⟩ := HU.out _ _ _ hr
  clear hr
  replace h3 := h3.keep hb h3.lt
  replace h5 := h5.keep hb h5.lt
  replace HW : Hid (ItAt w8 Bg (.slice wa its.length wc) its) := Lib.hid (HW.out.below (hb.mono hg5))
  replace HG := Lib.hid (HG.out.keep hb (Nat.le_refl _))
  replace hB := hB.trans (hb.mono hB.size)
  replace hg5 : Bg ≤ w8.heap.size := Nat.le_trans hg5 hb.size
  clear hb
  obtain ⟨ha, hc, rfl⟩ := hH.slice
  have h9 := Box.new w8 #[.string u, .string t, .slice ha its.length hc] 37
  have hb : Below w8.heap.size w8 (w8.alloc (.cells #[.string u, .string t, .slice ha its.length hc] 37)) := (Below.refl _ _).alloc (Nat.le_refl _) _
  have HH := Lib.hid (hH.alloc (.cells #[.string u, .string t, .slice ha its.length hc] 37))
  clear hH
  replace h3 := h3.keep hb h3.lt
  replace h5 := h5.keep hb h5.lt
  replace HW : Hid (ItAt (w8.alloc (.cells #[.string u, .string t, .slice ha its.length hc] 37)) Bg (.slice wa its.length wc) its) := Lib.hid (HW.out.below (hb.mono hg5))
  replace HG := Lib.hid (HG.out.keep hb (Nat.le_refl _))
  replace hB := hB.trans (hb.mono hB.size)
  replace hg5 : Bg ≤ (w8.alloc (.cells #[.string u, .string t, .slice ha its.length hc] 37)).heap.size := Nat.le_trans hg5 hb.size
  clear hb
  have p0 := h9.cell 0 _ rfl
  have p1 := h9.cell 1 _ rfl
  have p2 := h9.cell 2 _ rfl
  have c0 := h3.cell 0 _ rfl
  have c1 := h3.cell 1 _ rfl
  have c2 := h3.cell 2 _ rfl
  go_wp2_with fail
  clear p0 p1 p2 c0 c1 c2
  generalize w8.alloc (.cells #[.string u, .string t, .slice ha its.length hc] 37) = W9 at h3 h5 h9 HW HG HH hB hg5 ⊢
  generalize w8.heap.size = G9 at h9 HH ⊢
  refine (eqFeed_same _ _ u t its _ ⟨_, rfl, ⟨OwnR.at itC_len HH.out, HZ.out⟩, hul, htl⟩ ⟨_, rfl, ⟨HW.out.1.mono hg5, HZ.out⟩, hul, htl⟩).mono ?_
  rintro e w10 ⟨rfl, hb⟩
  clear HH
  replace h3 := h3.keep hb h3.lt
  replace h5 := h5.keep hb h5.lt
  replace h9 := h9.keep hb h9.lt
  replace HW : Hid (ItAt w10 Bg (.slice wa its.length wc) its) := Lib.hid (HW.out.below (hb.mono hg5))
  replace HG := Lib.hid (HG.out.keep hb (Nat.le_refl _))
  replace hB := hB.trans (hb.mono hB.size)
  replace hg5 : Bg ≤ w10.heap.size := Nat.le_trans hg5 hb.size
  clear hb
  have d0 := h5.cell 0 _ rfl
  have d1 := h5.cell 1 _ rfl
  have d2 := h5.cell 2 _ rfl
  go_wp2_with fail
  clear d0 d1 d2
  refine (heldFeed_own u t _ its.length 1 _ ⟨OwnR.at itC_len HG.out, maIs_sz _ _⟩ (by omega) (by omega) (by omega)).mono ?_
  rintro e w11 ⟨rfl, hb⟩
  replace h3 := h3.keep hb h3.lt
  replace h5 := h5.keep hb h5.lt
  replace h9 := h9.keep hb h9.lt
  replace HW : Hid (ItAt w11 Bg (.slice wa its.length wc) its) := Lib.hid (HW.out.below (hb.mono hg5))
  replace HG := Lib.hid (HG.out.keep hb (Nat.le_refl _))
  replace hB := hB.trans (hb.mono hB.size)
  replace hg5 : Bg ≤ w11.heap.size := Nat.le_trans hg5 hb.size
  clear hb
  go_wp2
  go_ret
  exact ⟨rfl, hB⟩
end Go.Proofs.YtgimjfffdnopiaaDoor
