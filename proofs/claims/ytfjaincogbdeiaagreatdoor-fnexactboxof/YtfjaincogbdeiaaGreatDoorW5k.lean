/- Contract: digestOf and Sha256 of the program (chapter 5). -/
import Derived.Test.YtfjaincogbdeiaaGreatDoorW5i
namespace Go.Proofs.YtfjaincogbdeiaaGreatDoor
open Go.ChangeShapes Go.WideShapes Go.ChangeAt Go.RowKit Go.Shelf
set_option linter.unusedVariables false

set_option maxRecDepth 100000 in
set_option maxHeartbeats 4000000 in
theorem digestOf_any (t : ByteArray) (w : World) (ht : t.size ≤ 100000) (hF : FTab w) (hK : KTab w) :
    Calls Tryz.prog 52 #[.string t] w fun e w' => e = .returned (.string (shaD t)) ∧ Below w.heap.size w w' := by
  have HP := Lib.hid (shaPadded_any t · ht)
  have hpm := padS_mod t
  have hpl := padS_le t
  have HE : Hid (shaD t = ⟨(stoB (blksN (padS t) ((padS t).size / 64))).toArray⟩) := Lib.hid rfl
  generalize shaD t = out at HE ⊢
  generalize padS t = p at HP hpm hpl HE
  have hpb : p.size ≤ 200000 := by omega
  have HPM := Lib.hid hpm
  have HBL := Lib.hid (blksN_len p)
  have HBW := Lib.hid (blksN_words p)
  have HB0 : Hid (blksN p 0 = sha0) := Lib.hid rfl
  have HBS : Hid (∀ n, blksN p (n + 1) = stepL (blksN p n) (beL (blk p n).data.toList)) := Lib.hid (fun _ => rfl)
  have HI : Hid (∀ zs : List Int, zs.length = 8 → (Tryz.prog.info? 104).map (·.size) = some (stK .u32 zs).size) := Lib.hid (fun zs hz => by rw [stK_size, hz]; exact Tryz.infS5)
  obtain ⟨tf, hF⟩ := hF
  have HK0 := Lib.hid hK
  rw [← HB0.out] at hF
  have hl0 := HBL.out 0
  have HF := Lib.hid hF
  obtain ⟨f0, hf0⟩ : ∃ f0, f0 = blksN p 0 := ⟨_, rfl⟩
  rw [← hf0] at HF hl0
  have HF0 := Lib.hid hf0
  clear hf0
  have HL0 := Lib.hid hl0
  have hN2 := heap_alloc_new w z8
  have hN3 : Arr ((w.alloc z8).setRow w.heap.size (stK .u32 f0)) w.heap.size 104 .u32 f0 := setRow_heap _ _ _ _ _ _ hN2
  have hB3 : Below w.heap.size w ((w.alloc z8).setRow w.heap.size (stK .u32 f0)) := below_setRow ((Below.refl _ _).alloc (Nat.le_refl _) z8) (Nat.le_refl _) _
  have hs3 : ((w.alloc z8).setRow w.heap.size (stK .u32 f0)).heap.size = w.heap.size + 1 := by rw [size_setRow, World.size_alloc]
  have HN2 := Lib.hid hN2
  have HSZ := Lib.hid (show (stK .u32 (List.replicate 8 0)).size = (stK .u32 f0).size by rw [stK_size, stK_size, hl0]; rfl)
  clear hpm hpl ht hK hF hN2 HB0
  go_enter Tryz.func52, Tryz.ntmps52
  go_wp2_with (first | (refine wpList_load_row rfl _ (.global 1) rfl 1 rfl _ _ _ _ HF.out Tryz.undS5 rfl (HI.out _ HL0.out) ?_) | (refine wpList_store_row rfl _ (.tmp 3) (.tmp 6) rfl w.heap.size _ rfl rfl _ _ HN2.out (HI.out _ HL0.out) HSZ.out (stK_one _ _) ?_))
  show Calls _ _ _ ((w.alloc z8).setRow w.heap.size (stK .u32 f0)) _
  generalize (w.alloc z8).setRow w.heap.size (stK .u32 f0) = w3 at hN3 hB3 hs3 ⊢
  refine (HP.out _).mono ?_
  rintro e w4 ⟨rfl, hb4⟩
  have hN4 := hN3.below hb4 hN3.lt
  have hB4 := hB3.trans (hb4.mono hB3.size)
  have hs4 : w.heap.size + 1 ≤ w4.heap.size := by have := hb4.size; omega
  rw [HF0.out] at hN4
  clear hN3 hB3 hs3 hb4 HF HN2 HSZ HP hl0 HL0
  go_wp2
  go_loopw [5] (fun i wr => ∃ k n : Nat, Hid (n = 64 * k) ∧ n ≤ p.size ∧ i = .int .i64 n ∧ Arr wr w.heap.size 104 .u32 (blksN p k) ∧ w.heap.size + 1 ≤ wr.heap.size ∧ Below w.heap.size w wr) (fun i _ => p.size - (intOf i).toNat)
  case atStart => exact ⟨0, 0, Lib.hid rfl, Nat.zero_le _, rfl, hN4, hs4, hB4⟩
  case round =>
    obtain ⟨k, n, hnk, hn, rfl, hN, hsz, hB⟩ := hrel
    clear hN4 hs4 hB4
    by_cases hlt : n < p.size
    · have hfit : n + 64 ≤ p.size := by have := HPM.out; have := hnk.out; omega
      obtain ⟨q, hq⟩ : ∃ q, q = n + 64 := ⟨_, rfl⟩
      have hbe : blk p k = p.extract n q := by rw [hq, hnk.out]; rfl
      have hbs : (p.extract n q).size = 64 := by rw [ByteArray.size_extract]; omega
      have hst := HBS.out k
      rw [hbe] at hst
      have hl1 := HBL.out k
      have hl2 := HBL.out (k + 1)
      have hKr : KTab wr := HK0.out.below hB (Nat.le_refl _)
      generalize blksN p k = l1 at hN hst hl1
      obtain ⟨l2, e2⟩ : ∃ l2, l2 = blksN p (k + 1) := ⟨_, rfl⟩
      rw [← e2] at hst hl2
      have HE2 := Lib.hid e2
      have HBX := Lib.hid hbs
      have HST := Lib.hid hst
      have HL1 := Lib.hid hl1
      have HL2 := Lib.hid hl2
      have w1 : IntKind.i64.wrap ((n : Int) + 64) = (q : Int) := by rw [show (n : Int) + 64 = (q : Int) by omega]; exact IntWalk.i64_in _ (by omega)
      have hu1 : (n : Int) ≤ (q : Int) := by omega
      have hu2 : (q : Int) ≤ (p.size : Int) := by omega
      have hu3 : n ≤ q := by omega
      have hu4 : q ≤ p.size := by omega
      have HQ := Lib.hid hq
      have hu5 : n < q := by omega
      clear hst hl1 hl2 e2 hbe hbs hq hfit
      go_wp2
      refine wp_region_T (fun w' => True) (fun w' => Arr w' w.heap.size 104 .u32 l1) 7 (by kernel_rfl) 8 rfl ?_
      refine wpAnyT_takesA (md := .any) 3 (by kernel_rfl) (by intro d v c a w h; cases d <;> exact h) [1, 2, 3, 4, 5] _ _ _ (by decide) (by kernel_rfl) ⟨trivial, fun _ => hN.drew⟩ ?_
      simp only [pick, List.filterMap_cons, List.filterMap_nil, List.getElem?_cons_zero, List.getElem?_cons_succ]
      iterate 5 (refine wpIf_step ?_ (by kernel_rfl) ?_ ?_; rotate_left; (intro w' _; go_simp); try with_reducible rfl)
      refine wpIf_nil (fun hS => ?_)
      refine wpAnyT_takesB (md := .any) 2 (by kernel_rfl) (by intro d v c a w h; cases d <;> exact h) [0] _ _ _ (by decide) (by kernel_rfl) (by kernel_rfl) (by kernel_rfl) hS ?_
      simp only [pick, List.filterMap_cons, List.filterMap_nil, List.getElem?_cons_zero]
      refine wpIf_step (.agg (stK .u32 l1)) (by kernel_rfl) (fun w' hw => by refine load_arr_runN (.tmp 3) w.heap.size ?_ ?_ hw.2 Tryz.undS5 (HI.out _ HL1.out) <;> rfl) ?_
      refine wpIf_nil (fun hS2 => ?_)
      clear hS
      refine wpAnyT_one 6 1 (by kernel_rfl) rfl (by kernel_rfl) (fun K hK2 => ?_)
      go_simp
      have hrd := stepped_any l1 (p.extract n q) wr.drew HL1.out HBX.out hKr
      rw [← HST.out] at hrd
      refine hrd.mono ?_
      rintro en w5 ⟨rfl, hb5⟩
      clear hrd
      have hN5 := hN.drew.below hb5 hN.lt
      have hB5 := hB.drew.trans (hb5.mono hB.drew.size)
      have hs5 : w.heap.size + 1 ≤ w5.heap.size := Nat.le_trans hsz hb5.size
      refine hK2 _ _ ⟨trivial, fun _ => hN5⟩ (fun hS3 => ?_)
      clear hK2 K hS2 hb5 hN hB hsz hS3 hKr
      have hN6 := hN5.row l2 (by rw [HL1.out, HL2.out])
      have hB6 := below_setRow hB5 (g := w.heap.size) (Nat.le_refl _) (stK .u32 l2)
      have hs6 : w.heap.size + 1 ≤ (w5.setRow w.heap.size (stK .u32 l2)).heap.size := by rw [size_setRow]; exact hs5
      refine wpAnyT_one 7 0 (by kernel_rfl) rfl (by kernel_rfl) (fun K hK2 => ?_)
      refine wp_store_row _ (.tmp 3) (.tmp 21) rfl w.heap.size (stK .u32 l2) rfl rfl _ _ hN5 (HI.out _ HL2.out) (by rw [stK_size, stK_size, HL1.out, HL2.out]) (stK_one _ _) ?_
      refine hK2 _ _ ⟨trivial, fun h => by exact absurd h (by decide)⟩ (fun hS6 => ?_)
      clear hK2 K hN5 hB5 hs5 hS6
      refine wpAnyT_over (by kernel_rfl) ?_
      generalize w5.setRow w.heap.size (stK .u32 l2) = w6 at hN6 hB6 hs6 ⊢
      rw [HE2.out] at hN6
      clear HST HL1 HL2 HE2 HBX
      go_wp2
      go_roundw
      case rel => exact ⟨k + 1, q, Lib.hid (by rw [HQ.out, hnk.out]; omega), hu4, rfl, hN6, hs6, hB6⟩
      case measure => simp [intOf]; omega
    · have hke : k = p.size / 64 := by have := hnk.out; have := HPM.out; omega
      rw [hke] at hN
      have hfl := HBL.out (p.size / 64)
      have hfw := HBW.out (p.size / 64)
      have HE2 := HE
      generalize blksN p (p.size / 64) = fin at hN hfl hfw HE2
      have HTX := Lib.hid (fun w => stateText_any fin w hfl hfw)
      have HIO := Lib.hid (HI.out fin hfl)
      have HN := Lib.hid hN
      clear hke hfl hfw hN HE HBL HBW HBS
      go_wp2_with (refine wpList_load_row rfl _ (.tmp 3) rfl w.heap.size rfl _ _ _ _ HN.out Tryz.undS5 rfl HIO.out ?_)
      refine (HTX.out _).mono ?_
      rintro en w5 ⟨rfl, hb5⟩
      have hB5 := hB.trans (hb5.mono hB.size)
      rw [← HE2.out]
      go_wp2
      go_ret
      exact ⟨rfl, hB5⟩

end Go.Proofs.YtfjaincogbdeiaaGreatDoor
