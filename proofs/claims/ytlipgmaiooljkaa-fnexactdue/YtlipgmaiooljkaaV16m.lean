/- The walk of the exact law on Due. -/
import Derived.Test.YtlipgmaiooljkaaW16p
namespace Go.Proofs.Ytlipgmaiooljkaa
open Go.ChangeShapes Go.WideShapes Go.ChangeAt Go.RowKit
set_option linter.unusedVariables false
set_option linter.unusedSimpArgs false

theorem duL_len (ps : List PollD) (now : Int) : (duL ps now).length ≤ 50 := by
  by_cases h : 50 < ps.length
  · rw [duL_many h]; exact Nat.zero_le _
  · rw [duL_few h]
    have := duT_len ps now ps.length
    omega
theorem PksAt.mono16 {w : World} {B B' : Nat} {v : Value} {ps : List PollD} (h : PksAt w B v ps) (hb : B ≤ B') : PksAt w B' v ps := ⟨h.1.mono hb, h.2⟩
theorem PksAt.of16 {e : TypeId} {w : World} {base : Nat} {v : Value} {ps : List PollD} (h : OwnR e 6 pkL w base v ps) (hs : ∀ p ∈ ps, PkSz p) : PksAt w w.heap.size v ps := ⟨h.at pkL_len, hs⟩

set_option maxRecDepth 100000 in
set_option maxHeartbeats 4000000 in
theorem walk_FnExactDue (v : Value) (ps : List PollD) (now : Int) (w : World) (h : PksAt w w.heap.size v ps) (hnow : (Lit.int .i64 now).wf = true) :
    Calls Try.prog 6 #[v, .int .i64 now] w fun e w' => e = .returned (.bool true) ∧ Below w.heap.size w w' := by
  have HI := Lib.hid h
  have HD1 := Lib.hid (fun v w h => specDue_any v ps now w h)
  have HD2 := Lib.hid (fun v w h => implDue_any v ps now w h)
  have hTl := duL_len ps now
  generalize duL ps now = T at HD1 HD2 hTl
  have HZ := Lib.hid (szPollS_any v ps 1048576 w h (by omega) (by omega))
  clear h hnow
  go_enter Try.func6, Try.ntmps6
  go_wp2_with fail
  refine HZ.out.mono ?_
  rintro e w1 ⟨r, rfl, hr0, hr1, hB⟩
  clear HZ
  by_cases hr : r < 0
  case pos =>
    clear hr1
    go_wp2
    go_ret
    exact ⟨rfl, hB⟩
  have hn : ps.length ≤ 1048576 := by have := hr1 (by omega); omega
  clear hr1
  have HT := Lib.hid (fun W (hB : Below w.heap.size w W) => toPollS_any v ps W ((HI.out.below hB).mono16 hB.size) hn)
  go_wp2_with fail
  refine (HT.out _ hB).mono ?_
  rintro e w2 ⟨y0, rfl, hy, hb⟩
  have hP := Lib.hid (PksAt.of16 hy HI.out.2)
  replace hB := hB.trans (hb.mono hB.size)
  clear hy hb
  go_wp2_with fail
  refine (HD1.out _ _ hP.out).mono ?_
  rintro e w3 ⟨wv, rfl, hW, hb⟩
  replace hB := hB.trans (hb.mono hB.size)
  have HW : Hid (StAt w3 w3.heap.size wv T) := Lib.hid (OwnR.at stC_len hW)
  clear hW hb hP
  have hwx : w.heap.size ≤ w3.heap.size := hB.size
  go_wp2_with fail
  refine (HT.out _ hB).mono ?_
  rintro e w4 ⟨xv, rfl, hX, hb⟩
  replace HW : Hid (StAt w4 w3.heap.size wv T) := Lib.hid (StAt.below HW.out hb)
  replace hB := hB.trans (hb.mono hB.size)
  have HX := Lib.hid hX
  have hx4 : w3.heap.size ≤ w4.heap.size := hb.size
  have hxo : Hid (∀ b, xv.ownBlock = some b → w3.heap.size ≤ b ∧ b < w4.heap.size) := Lib.hid (fun b h => ⟨ownBlock_base hX b h, (World.ownsRow.lt hX b h).2⟩)
  clear hX hb
  generalize w3.heap.size = Bx at HW HX hx4 hxo hwx
  go_wp2_with fail
  refine (HD2.out _ _ (PksAt.of16 HX.out HI.out.2)).mono ?_
  rintro e w5 ⟨gv, rfl, hG, hb⟩
  replace HW : Hid (StAt w5 Bx wv T) := Lib.hid (StAt.below HW.out (hb.mono hx4))
  replace HX := Lib.hid (HX.out.keep hb (Nat.le_refl _))
  replace hB := hB.trans (hb.mono hB.size)
  have HG := Lib.hid hG
  have hsz : w4.heap.size ≤ w5.heap.size := hb.size
  clear hG hb
  generalize w4.heap.size = Bg at HG hsz hx4 hxo
  go_wp2_with fail
  refine (eqStringS_same _ _ T _ (OwnR.at stC_len HG.out) (RecAt.mono HW.out (Nat.le_trans hx4 hsz))).mono ?_
  rintro e w6 ⟨rfl, hb⟩
  replace HW : Hid (StAt w6 Bx wv T) := Lib.hid (StAt.below HW.out (hb.mono (Nat.le_trans hx4 hsz)))
  replace HX := Lib.hid (HX.out.keep hb (Nat.le_refl _))
  replace HG := Lib.hid (HG.out.keep hb (Nat.le_refl _))
  replace hB := hB.trans (hb.mono hB.size)
  replace hsz : Bg ≤ w6.heap.size := Nat.le_trans hsz hb.size
  clear hb
  go_wp2_with fail
  refine (HT.out _ hB).mono ?_
  rintro e w7 ⟨zv, rfl, hz, hb⟩
  have HZv := Lib.hid hz
  clear hz
  replace HW : Hid (StAt w7 Bx wv T) := Lib.hid (StAt.below HW.out (hb.mono (Nat.le_trans hx4 hsz)))
  replace HX := Lib.hid (HX.out.keep hb (Nat.le_refl _))
  replace HG := Lib.hid (HG.out.keep hb (Nat.le_refl _))
  replace hB := hB.trans (hb.mono hB.size)
  replace hsz : Bg ≤ w7.heap.size := Nat.le_trans hsz hb.size
  clear hb
  go_wp2_with fail
  refine (eqPollS_same _ _ ps _ (PksAt.of16 HX.out HI.out.2) (PksAt.of16 HZv.out HI.out.2)).mono ?_
  rintro e w8 ⟨rfl, hb⟩
  replace HW : Hid (StAt w8 Bx wv T) := Lib.hid (StAt.below HW.out (hb.mono (Nat.le_trans hx4 hsz)))
  replace HX := Lib.hid (HX.out.keep hb (Nat.le_refl _))
  replace HG := Lib.hid (HG.out.keep hb (Nat.le_refl _))
  replace hB := hB.trans (hb.mono hB.size)
  replace hsz : Bg ≤ w8.heap.size := Nat.le_trans hsz hb.size
  clear hb
  clear HZv
  go_wp2_with fail
  refine (markPollS_any _ ps _ 1 _ HX.out (by omega) (by omega) hn).mono ?_
  rintro e w9 ⟨rfl, hg9⟩
  have hM : Mid Bx Bg w8 w9 := Mid.gb hg9 (Nat.le_trans hx4 hsz) hxo.out
  replace HW : Hid (StAt w9 Bx wv T) := Lib.hid (StAt.below HW.out hM.1)
  replace HG := Lib.hid (OwnR.mid HG.out hM (Nat.le_refl _))
  replace hB := hB.trans (hM.1.mono hwx)
  replace hsz : Bg ≤ w9.heap.size := Nat.le_trans hsz hM.1.size
  clear hg9 hM HX hxo
  have hk9 : ¬ (1 + 6 * (ps.length : Int) < 0) := by omega
  go_wp2_with fail
  refine (eqStringS_same _ _ T _ (OwnR.at stC_len HG.out) (RecAt.mono HW.out (Nat.le_trans hx4 hsz))).mono ?_
  rintro e w10 ⟨rfl, hb⟩
  replace HW : Hid (StAt w10 Bx wv T) := Lib.hid (StAt.below HW.out (hb.mono (Nat.le_trans hx4 hsz)))
  replace HG := Lib.hid (HG.out.keep hb (Nat.le_refl _))
  replace hB := hB.trans (hb.mono hB.size)
  replace hsz : Bg ≤ w10.heap.size := Nat.le_trans hsz hb.size
  clear hb
  clear hk9
  go_wp2_with fail
  refine (markStringS_any _ T _ 1 _ HG.out (by omega) (by omega) (by omega)).mono ?_
  rintro e w11 ⟨rfl, hG2, hg11⟩
  have hb : Below Bg w10 w11 := gb_Below16 hg11 hsz (ownBlock_base HG.out)
  replace HW : Hid (StAt w11 Bx wv T) := Lib.hid (StAt.below HW.out (hb.mono hx4))
  replace HG := Lib.hid hG2
  replace hB := hB.trans (hb.mono (Nat.le_trans hwx hx4))
  replace hsz : Bg ≤ w11.heap.size := Nat.le_trans hsz hb.size
  clear hb hG2 hg11
  go_wp2_with fail
  refine (heldStringS_any _ T.length 1 _ (OwnR.at stC_len HG.out) (by omega) (by omega) (by omega)).mono ?_
  rintro e w12 ⟨rfl, hb⟩
  replace HW : Hid (StAt w12 Bx wv T) := Lib.hid (StAt.below HW.out (hb.mono (Nat.le_trans hx4 hsz)))
  replace HG := Lib.hid (HG.out.keep hb (Nat.le_refl _))
  replace hB := hB.trans (hb.mono hB.size)
  replace hsz : Bg ≤ w12.heap.size := Nat.le_trans hsz hb.size
  clear hb
  have hk12 : ¬ (1 + (T.length : Int) < 0) := by omega
  go_wp2_with fail
  refine (HT.out _ hB).mono ?_
  rintro e w13 ⟨zv, rfl, hz, hb⟩
  have HZv := Lib.hid hz
  clear hz
  replace HW : Hid (StAt w13 Bx wv T) := Lib.hid (StAt.below HW.out (hb.mono (Nat.le_trans hx4 hsz)))
  replace HG := Lib.hid (HG.out.keep hb (Nat.le_refl _))
  replace hB := hB.trans (hb.mono hB.size)
  replace hsz : Bg ≤ w13.heap.size := Nat.le_trans hsz hb.size
  clear hb
  go_wp2_with fail
  refine (HD2.out _ _ (PksAt.of16 HZv.out HI.out.2)).mono ?_
  rintro e w14 ⟨hv, rfl, hH, hb⟩
  have HH := Lib.hid hH
  clear hH HZv
  replace HW : Hid (StAt w14 Bx wv T) := Lib.hid (StAt.below HW.out (hb.mono (Nat.le_trans hx4 hsz)))
  replace HG := Lib.hid (HG.out.keep hb (Nat.le_refl _))
  replace hB := hB.trans (hb.mono hB.size)
  replace hsz : Bg ≤ w14.heap.size := Nat.le_trans hsz hb.size
  clear hb
  go_wp2_with fail
  refine (eqStringS_same _ _ T _ (OwnR.at stC_len HH.out) (RecAt.mono HW.out (Nat.le_trans hx4 hsz))).mono ?_
  rintro e w15 ⟨rfl, hb⟩
  replace HW : Hid (StAt w15 Bx wv T) := Lib.hid (StAt.below HW.out (hb.mono (Nat.le_trans hx4 hsz)))
  replace HG := Lib.hid (HG.out.keep hb (Nat.le_refl _))
  replace hB := hB.trans (hb.mono hB.size)
  replace hsz : Bg ≤ w15.heap.size := Nat.le_trans hsz hb.size
  clear hb
  clear HH
  go_wp2_with fail
  refine (heldStringS_any _ T.length 1 _ (OwnR.at stC_len HG.out) (by omega) (by omega) (by omega)).mono ?_
  rintro e w16 ⟨rfl, hb⟩
  replace HW : Hid (StAt w16 Bx wv T) := Lib.hid (StAt.below HW.out (hb.mono (Nat.le_trans hx4 hsz)))
  replace HG := Lib.hid (HG.out.keep hb (Nat.le_refl _))
  replace hB := hB.trans (hb.mono hB.size)
  replace hsz : Bg ≤ w16.heap.size := Nat.le_trans hsz hb.size
  clear hb
  go_wp2
  go_ret
  exact ⟨rfl, hB⟩
end Go.Proofs.Ytlipgmaiooljkaa
