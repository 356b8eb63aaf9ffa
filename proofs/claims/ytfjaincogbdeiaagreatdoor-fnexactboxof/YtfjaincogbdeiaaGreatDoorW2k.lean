/- Contract: ChaBlock of the program and of the reference. -/
import Derived.Test.YtfjaincogbdeiaaGreatDoorW2j
import Derived.Test.YtfjaincogbdeiaaGreatDoorW1f
namespace Go.Proofs.YtfjaincogbdeiaaGreatDoor
open Go.ChangeShapes Go.WideShapes Go.ChangeAt Go.RowKit Go.Shelf
set_option linter.unusedVariables false

theorem idx16_0 (a0 a1 a2 a3 a4 a5 a6 a7 a8 a9 a10 a11 a12 a13 a14 a15 : Int) (w : World) : Sem.run Tryz.prog (Instr.index 139 (.agg (stA [a0, a1, a2, a3, a4, a5, a6, a7, a8, a9, a10, a11, a12, a13, a14, a15])) (.int .i64 ((0 : Nat) : Int))) w = .ok (.int .u32 ([a0, a1, a2, a3, a4, a5, a6, a7, a8, a9, a10, a11, a12, a13, a14, a15].getD 0 0)) w := by kernel_rfl
theorem idx16_1 (a0 a1 a2 a3 a4 a5 a6 a7 a8 a9 a10 a11 a12 a13 a14 a15 : Int) (w : World) : Sem.run Tryz.prog (Instr.index 139 (.agg (stA [a0, a1, a2, a3, a4, a5, a6, a7, a8, a9, a10, a11, a12, a13, a14, a15])) (.int .i64 ((1 : Nat) : Int))) w = .ok (.int .u32 ([a0, a1, a2, a3, a4, a5, a6, a7, a8, a9, a10, a11, a12, a13, a14, a15].getD 1 0)) w := by kernel_rfl
theorem idx16_2 (a0 a1 a2 a3 a4 a5 a6 a7 a8 a9 a10 a11 a12 a13 a14 a15 : Int) (w : World) : Sem.run Tryz.prog (Instr.index 139 (.agg (stA [a0, a1, a2, a3, a4, a5, a6, a7, a8, a9, a10, a11, a12, a13, a14, a15])) (.int .i64 ((2 : Nat) : Int))) w = .ok (.int .u32 ([a0, a1, a2, a3, a4, a5, a6, a7, a8, a9, a10, a11, a12, a13, a14, a15].getD 2 0)) w := by kernel_rfl
theorem idx16_3 (a0 a1 a2 a3 a4 a5 a6 a7 a8 a9 a10 a11 a12 a13 a14 a15 : Int) (w : World) : Sem.run Tryz.prog (Instr.index 139 (.agg (stA [a0, a1, a2, a3, a4, a5, a6, a7, a8, a9, a10, a11, a12, a13, a14, a15])) (.int .i64 ((3 : Nat) : Int))) w = .ok (.int .u32 ([a0, a1, a2, a3, a4, a5, a6, a7, a8, a9, a10, a11, a12, a13, a14, a15].getD 3 0)) w := by kernel_rfl
theorem idx16_4 (a0 a1 a2 a3 a4 a5 a6 a7 a8 a9 a10 a11 a12 a13 a14 a15 : Int) (w : World) : Sem.run Tryz.prog (Instr.index 139 (.agg (stA [a0, a1, a2, a3, a4, a5, a6, a7, a8, a9, a10, a11, a12, a13, a14, a15])) (.int .i64 ((4 : Nat) : Int))) w = .ok (.int .u32 ([a0, a1, a2, a3, a4, a5, a6, a7, a8, a9, a10, a11, a12, a13, a14, a15].getD 4 0)) w := by kernel_rfl
theorem idx16_5 (a0 a1 a2 a3 a4 a5 a6 a7 a8 a9 a10 a11 a12 a13 a14 a15 : Int) (w : World) : Sem.run Tryz.prog (Instr.index 139 (.agg (stA [a0, a1, a2, a3, a4, a5, a6, a7, a8, a9, a10, a11, a12, a13, a14, a15])) (.int .i64 ((5 : Nat) : Int))) w = .ok (.int .u32 ([a0, a1, a2, a3, a4, a5, a6, a7, a8, a9, a10, a11, a12, a13, a14, a15].getD 5 0)) w := by kernel_rfl
theorem idx16_6 (a0 a1 a2 a3 a4 a5 a6 a7 a8 a9 a10 a11 a12 a13 a14 a15 : Int) (w : World) : Sem.run Tryz.prog (Instr.index 139 (.agg (stA [a0, a1, a2, a3, a4, a5, a6, a7, a8, a9, a10, a11, a12, a13, a14, a15])) (.int .i64 ((6 : Nat) : Int))) w = .ok (.int .u32 ([a0, a1, a2, a3, a4, a5, a6, a7, a8, a9, a10, a11, a12, a13, a14, a15].getD 6 0)) w := by kernel_rfl
theorem idx16_7 (a0 a1 a2 a3 a4 a5 a6 a7 a8 a9 a10 a11 a12 a13 a14 a15 : Int) (w : World) : Sem.run Tryz.prog (Instr.index 139 (.agg (stA [a0, a1, a2, a3, a4, a5, a6, a7, a8, a9, a10, a11, a12, a13, a14, a15])) (.int .i64 ((7 : Nat) : Int))) w = .ok (.int .u32 ([a0, a1, a2, a3, a4, a5, a6, a7, a8, a9, a10, a11, a12, a13, a14, a15].getD 7 0)) w := by kernel_rfl
theorem idx16_8 (a0 a1 a2 a3 a4 a5 a6 a7 a8 a9 a10 a11 a12 a13 a14 a15 : Int) (w : World) : Sem.run Tryz.prog (Instr.index 139 (.agg (stA [a0, a1, a2, a3, a4, a5, a6, a7, a8, a9, a10, a11, a12, a13, a14, a15])) (.int .i64 ((8 : Nat) : Int))) w = .ok (.int .u32 ([a0, a1, a2, a3, a4, a5, a6, a7, a8, a9, a10, a11, a12, a13, a14, a15].getD 8 0)) w := by kernel_rfl
theorem idx16_9 (a0 a1 a2 a3 a4 a5 a6 a7 a8 a9 a10 a11 a12 a13 a14 a15 : Int) (w : World) : Sem.run Tryz.prog (Instr.index 139 (.agg (stA [a0, a1, a2, a3, a4, a5, a6, a7, a8, a9, a10, a11, a12, a13, a14, a15])) (.int .i64 ((9 : Nat) : Int))) w = .ok (.int .u32 ([a0, a1, a2, a3, a4, a5, a6, a7, a8, a9, a10, a11, a12, a13, a14, a15].getD 9 0)) w := by kernel_rfl
theorem idx16_10 (a0 a1 a2 a3 a4 a5 a6 a7 a8 a9 a10 a11 a12 a13 a14 a15 : Int) (w : World) : Sem.run Tryz.prog (Instr.index 139 (.agg (stA [a0, a1, a2, a3, a4, a5, a6, a7, a8, a9, a10, a11, a12, a13, a14, a15])) (.int .i64 ((10 : Nat) : Int))) w = .ok (.int .u32 ([a0, a1, a2, a3, a4, a5, a6, a7, a8, a9, a10, a11, a12, a13, a14, a15].getD 10 0)) w := by kernel_rfl
theorem idx16_11 (a0 a1 a2 a3 a4 a5 a6 a7 a8 a9 a10 a11 a12 a13 a14 a15 : Int) (w : World) : Sem.run Tryz.prog (Instr.index 139 (.agg (stA [a0, a1, a2, a3, a4, a5, a6, a7, a8, a9, a10, a11, a12, a13, a14, a15])) (.int .i64 ((11 : Nat) : Int))) w = .ok (.int .u32 ([a0, a1, a2, a3, a4, a5, a6, a7, a8, a9, a10, a11, a12, a13, a14, a15].getD 11 0)) w := by kernel_rfl
theorem idx16_12 (a0 a1 a2 a3 a4 a5 a6 a7 a8 a9 a10 a11 a12 a13 a14 a15 : Int) (w : World) : Sem.run Tryz.prog (Instr.index 139 (.agg (stA [a0, a1, a2, a3, a4, a5, a6, a7, a8, a9, a10, a11, a12, a13, a14, a15])) (.int .i64 ((12 : Nat) : Int))) w = .ok (.int .u32 ([a0, a1, a2, a3, a4, a5, a6, a7, a8, a9, a10, a11, a12, a13, a14, a15].getD 12 0)) w := by kernel_rfl
theorem idx16_13 (a0 a1 a2 a3 a4 a5 a6 a7 a8 a9 a10 a11 a12 a13 a14 a15 : Int) (w : World) : Sem.run Tryz.prog (Instr.index 139 (.agg (stA [a0, a1, a2, a3, a4, a5, a6, a7, a8, a9, a10, a11, a12, a13, a14, a15])) (.int .i64 ((13 : Nat) : Int))) w = .ok (.int .u32 ([a0, a1, a2, a3, a4, a5, a6, a7, a8, a9, a10, a11, a12, a13, a14, a15].getD 13 0)) w := by kernel_rfl
theorem idx16_14 (a0 a1 a2 a3 a4 a5 a6 a7 a8 a9 a10 a11 a12 a13 a14 a15 : Int) (w : World) : Sem.run Tryz.prog (Instr.index 139 (.agg (stA [a0, a1, a2, a3, a4, a5, a6, a7, a8, a9, a10, a11, a12, a13, a14, a15])) (.int .i64 ((14 : Nat) : Int))) w = .ok (.int .u32 ([a0, a1, a2, a3, a4, a5, a6, a7, a8, a9, a10, a11, a12, a13, a14, a15].getD 14 0)) w := by kernel_rfl
theorem idx16_15 (a0 a1 a2 a3 a4 a5 a6 a7 a8 a9 a10 a11 a12 a13 a14 a15 : Int) (w : World) : Sem.run Tryz.prog (Instr.index 139 (.agg (stA [a0, a1, a2, a3, a4, a5, a6, a7, a8, a9, a10, a11, a12, a13, a14, a15])) (.int .i64 ((15 : Nat) : Int))) w = .ok (.int .u32 ([a0, a1, a2, a3, a4, a5, a6, a7, a8, a9, a10, a11, a12, a13, a14, a15].getD 15 0)) w := by kernel_rfl
theorem idx16 (a0 a1 a2 a3 a4 a5 a6 a7 a8 a9 a10 a11 a12 a13 a14 a15 : Int) (n : Nat) (hn : n < 16) (w : World) : Sem.run Tryz.prog (Instr.index 139 (.agg (stA [a0, a1, a2, a3, a4, a5, a6, a7, a8, a9, a10, a11, a12, a13, a14, a15])) (.int .i64 (n : Int))) w = .ok (.int .u32 ([a0, a1, a2, a3, a4, a5, a6, a7, a8, a9, a10, a11, a12, a13, a14, a15].getD n 0)) w := by
  have hc : n = 0 ∨ n = 1 ∨ n = 2 ∨ n = 3 ∨ n = 4 ∨ n = 5 ∨ n = 6 ∨ n = 7 ∨ n = 8 ∨ n = 9 ∨ n = 10 ∨ n = 11 ∨ n = 12 ∨ n = 13 ∨ n = 14 ∨ n = 15 := by omega
  rcases hc with rfl | rfl | rfl | rfl | rfl | rfl | rfl | rfl | rfl | rfl | rfl | rfl | rfl | rfl | rfl | rfl
  · exact idx16_0 a0 a1 a2 a3 a4 a5 a6 a7 a8 a9 a10 a11 a12 a13 a14 a15 w
  · exact idx16_1 a0 a1 a2 a3 a4 a5 a6 a7 a8 a9 a10 a11 a12 a13 a14 a15 w
  · exact idx16_2 a0 a1 a2 a3 a4 a5 a6 a7 a8 a9 a10 a11 a12 a13 a14 a15 w
  · exact idx16_3 a0 a1 a2 a3 a4 a5 a6 a7 a8 a9 a10 a11 a12 a13 a14 a15 w
  · exact idx16_4 a0 a1 a2 a3 a4 a5 a6 a7 a8 a9 a10 a11 a12 a13 a14 a15 w
  · exact idx16_5 a0 a1 a2 a3 a4 a5 a6 a7 a8 a9 a10 a11 a12 a13 a14 a15 w
  · exact idx16_6 a0 a1 a2 a3 a4 a5 a6 a7 a8 a9 a10 a11 a12 a13 a14 a15 w
  · exact idx16_7 a0 a1 a2 a3 a4 a5 a6 a7 a8 a9 a10 a11 a12 a13 a14 a15 w
  · exact idx16_8 a0 a1 a2 a3 a4 a5 a6 a7 a8 a9 a10 a11 a12 a13 a14 a15 w
  · exact idx16_9 a0 a1 a2 a3 a4 a5 a6 a7 a8 a9 a10 a11 a12 a13 a14 a15 w
  · exact idx16_10 a0 a1 a2 a3 a4 a5 a6 a7 a8 a9 a10 a11 a12 a13 a14 a15 w
  · exact idx16_11 a0 a1 a2 a3 a4 a5 a6 a7 a8 a9 a10 a11 a12 a13 a14 a15 w
  · exact idx16_12 a0 a1 a2 a3 a4 a5 a6 a7 a8 a9 a10 a11 a12 a13 a14 a15 w
  · exact idx16_13 a0 a1 a2 a3 a4 a5 a6 a7 a8 a9 a10 a11 a12 a13 a14 a15 w
  · exact idx16_14 a0 a1 a2 a3 a4 a5 a6 a7 a8 a9 a10 a11 a12 a13 a14 a15 w
  · exact idx16_15 a0 a1 a2 a3 a4 a5 a6 a7 a8 a9 a10 a11 a12 a13 a14 a15 w
theorem idxSt (xs : List Int) (hx : xs.length = 16) (n : Nat) (hn : n < 16) (w : World) : Sem.run Tryz.prog (Instr.index 139 (.agg (stA xs)) (.int .i64 (n : Int))) w = .ok (.int .u32 (xs.getD n 0)) w := by
  match xs, hx with
  | [a0, a1, a2, a3, a4, a5, a6, a7, a8, a9, a10, a11, a12, a13, a14, a15], _ => exact idx16 a0 a1 a2 a3 a4 a5 a6 a7 a8 a9 a10 a11 a12 a13 a14 a15 n hn w
theorem ownB_keep {w w' : World} {base B : Nat} {v : Value} {l : List UInt8} (h : OwnB w base v l) (hb : Below B w w') (hB : w.heap.size ≤ B) : OwnB w' base v l := by
  refine ⟨h.1, ?_⟩
  rcases h.2 with h2 | ⟨g, cap, cur, hv, hg, hh, r⟩
  · exact .inl h2
  · have hlt : g < w.heap.size := by
      rcases Nat.lt_or_ge g w.heap.size with hlt | hge
      · exact hlt
      · rw [Array.getElem?_eq_none hge] at hh; cases hh
    exact .inr ⟨g, cap, cur, hv, hg, by rw [hb.block g (by omega)]; exact hh, r⟩
theorem ArrW.below {w w' : World} {B g : Nat} {zs : List Int} (h : ArrW w g zs) (hb : Below B w w') (hg : g < B) : ArrW w' g zs := (hb.block g hg).trans h

/-- ChaBlock, as the document says it. -/
def chR (key nonce : ByteArray) (c : Int) : ByteArray := if key.size = 32 ∧ nonce.size = 12 ∧ 0 ≤ c ∧ c ≤ 4294967295 then blkR key nonce c else ⟨#[]⟩

set_option maxRecDepth 100000 in
set_option maxHeartbeats 2000000 in
theorem implBlk_any (key nonce : ByteArray) (c : Int) (w : World) (hk : key.size = 32) (hn : nonce.size = 12) (h0 : 0 ≤ c) (h1 : c ≤ 4294967295) :
    Calls Tryz.prog 87 #[.string key, .string nonce, .int .i64 c] w fun e w' => e = .returned (.string (blkR key nonce c)) ∧ Below w.heap.size w w' := by
  have hst := firstL_st key nonce c hk hn ⟨h0, h1⟩
  have HF := Lib.hid (firstState_any key nonce c · hk hn h0 h1)
  have hd1 : ((key.size : Int) == 32) = true := by simp [hk]
  have hd2 : ((nonce.size : Int) == 12) = true := by simp [hn]
  have HR : Hid (blkR key nonce c = ⟨(storeL (sumL (tenN 10 (firstL key nonce c)) (firstL key nonce c))).toArray⟩) := Lib.hid rfl
  obtain ⟨fs, hfs⟩ : ∃ fs, fs = firstL key nonce c := ⟨_, rfl⟩
  rw [← hfs] at hst HF HR
  clear hfs hk hn
  go_enter Tryz.func87, Tryz.ntmps87
  go_wp2_with (first | (go_at_call 86; go_in) | (go_at_call 116; go_in))
  refine (HF.out _).mono ?_
  rintro e w1 ⟨rfl, hb1⟩
  clear HF
  have HI := Lib.hid (show (Tryz.prog.info? 139).map (·.size) = some (stA fs).size by rw [stA_size, hst.1]; exact Tryz.infSt)
  rename_i hK
  refine hK _ _ ?_
  clear hK
  refine step_to (v := .pointer (some ⟨w1.heap.size, 0, none⟩)) (w' := w1.alloc zSt) rfl (by first | kernel_rfl | rfl | (go_simp; rfl)) ?_
  refine wpList_store_row rfl _ (.tmp 7) (.tmp 23) rfl w1.heap.size (stA fs) rfl rfl _ _ (heap_alloc_new w1 zSt) HI.out (by rw [stA_size, hst.1]; rfl) (stA_one _) ?_
  have hA2 : ArrW ((w1.alloc zSt).setRow w1.heap.size (stA fs)) w1.heap.size fs := setRow_heap _ _ _ _ _ _ (heap_alloc_new w1 zSt)
  have hB2 : Below w.heap.size w ((w1.alloc zSt).setRow w1.heap.size (stA fs)) := below_setRow (hb1.alloc hb1.size _) hb1.size _
  have hs2 : w1.heap.size + 1 = ((w1.alloc zSt).setRow w1.heap.size (stA fs)).heap.size := by rw [size_setRow, World.size_alloc]
  have hs1 := hb1.size
  obtain ⟨w2, hw2⟩ : ∃ w2, w2 = (w1.alloc zSt).setRow w1.heap.size (stA fs) := ⟨_, rfl⟩
  rw [← hw2] at hA2 hB2 hs2 ⊢
  obtain ⟨g7, hg7⟩ : ∃ g7, g7 = w1.heap.size := ⟨_, rfl⟩
  rw [← hg7] at hA2 hs2 hs1 ⊢
  have HA2 := Lib.hid hA2
  clear hw2 hg7 hb1
  go_wp2_with (first | (at_make; refine wpList_makeB rfl _ _ rfl (g7 + 1) .i64 .i64 _ rfl rfl (by omega) (by omega) (by omega) ?_; intro v0 w3 hown0 hb3; have hA3 := HA2.out.below hb3 (by omega); have HA3 := Lib.hid hA3; clear hA3 HA2 hA2) | (refine wpList_load_row rfl _ (.tmp 7) rfl g7 rfl _ _ _ _ HA3.out Tryz.undSt rfl HI.out ?_))
  refine (mixed_any fs _ hst).mono ?_
  rintro e w4 ⟨rfl, hb4⟩
  have hs3 := hb3.size
  have hA4 := HA3.out.below hb4 (by omega)
  have hO4 := ownB_keep hown0 hb4 (Nat.le_refl _)
  have hB3 := hB2.trans (hb3.mono (by omega))
  have hB4 := hB3.trans (hb4.mono hB3.size)
  have hs4 : g7 + 1 ≤ w4.heap.size := by have := hb4.size; omega
  have hms := tenN_st 10 hst
  obtain ⟨ms, hmse⟩ : ∃ ms, ms = tenN 10 fs := ⟨_, rfl⟩
  rw [← hmse] at HR hms ⊢
  have hsl := sumL_len hms.1 hst.1
  have hwd : ∀ n ∈ sumL ms fs, 0 ≤ n ∧ n ≤ 4294967295 := fun n hn => by
    unfold sumL at hn
    rw [List.mem_iff_getElem] at hn
    obtain ⟨k, hk, rfl⟩ := hn
    rw [List.getElem_zipWith]
    exact add32_u _ _
  have HWD := Lib.hid hwd
  have HM := Lib.hid (fun n hn w => idxSt ms hms.1 n hn w)
  have hO0 : OwnB w4 (g7 + 1) v0 (storeL ((sumL ms fs).take 0)) := hO4
  clear HA3 hown0 hb3 hb4 hB3 hO4 hmse hwd hB2 hs2 hs3
  go_wp2
  go_loopw [8, 27] (fun v i wr => ∃ n : Nat, n ≤ 16 ∧ i = .int .i64 n ∧ OwnB wr (g7 + 1) v (storeL ((sumL ms fs).take n)) ∧ ArrW wr g7 fs ∧ g7 + 1 ≤ wr.heap.size ∧ Below w.heap.size w wr) (fun _ i _ => 16 - (intOf i).toNat)
  case atStart => exact ⟨0, Nat.zero_le _, rfl, hO0, hA4, hs4, hB4⟩
  case round =>
    obtain ⟨n, hn, rfl, hO, hA, hs, hB⟩ := hrel
    clear hO0 hA4 hs4 hB4
    by_cases hlt : n < 16
    · have hix := HM.out n hlt wr
      have hnf : n < fs.length := by rw [hst.1]; exact hlt
      have hnm : n < ms.length := by rw [hms.1]; exact hlt
      have hns : n < (sumL ms fs).length := by rw [hsl]; exact hlt
      have hc := hA.cell n hnf
      have hgm : ms.getD n 0 = ms[n] := by rw [List.getD_eq_getElem?_getD, List.getElem?_eq_getElem hnm]; rfl
      have hse : (sumL ms fs)[n] = add32 ms[n] fs[n] := by simp [sumL]
      have hsn := storeL_snoc (sumL ms fs) n hns
      rw [hse] at hsn
      rw [hgm] at hix
      obtain ⟨x, hx⟩ : ∃ x, x = ms[n] := ⟨_, rfl⟩
      obtain ⟨y, hy⟩ : ∃ y, y = fs[n] := ⟨_, rfl⟩
      rw [← hx] at hix hsn
      rw [← hy] at hc hsn
      have hw := wrap_add32 x y
      have hab := add32_u x y
      obtain ⟨a, ha⟩ : ∃ a, a = add32 x y := ⟨_, rfl⟩
      rw [← ha] at hw hab hsn
      have hll : (storeL ((sumL ms fs).take n)).length ≤ 100000000 := by rw [storeL_len]; simp; omega
      have HSN := Lib.hid hsn
      have HO := Lib.hid hO
      have HLL := Lib.hid hll
      clear hgm hse hsn hx hy ha hO hll
      go_wp2_with fail
      refine (appendLe_any _ _ a (g7 + 1) _ HO.out hab.1 hab.2 HLL.out hs).mono ?_
      rintro e w5 ⟨v5, rfl, hO5, hb5⟩
      rw [← HSN.out] at hO5
      have hA5 := hA.below hb5 (Nat.lt_succ_self _)
      have hB5 := hB.trans (hb5.mono (by omega))
      have hs5 : g7 + 1 ≤ w5.heap.size := Nat.le_trans hs hb5.size
      clear hA hB hb5 HO hs hc hix
      go_wp2
      go_roundw
      case rel => exact ⟨n + 1, by omega, by go_num, hO5, hA5, hs5, hB5⟩
      case measure => simp [intOf]; omega
    · have hn16 : n = 16 := by omega
      rw [hn16, List.take_of_length_le (by rw [hsl]; exact Nat.le_refl _)] at hO
      have hcv := conv_ownB hO
      clear hn16
      go_wp2
      go_ret
      exact ⟨ret_str HR.out.symm, hB⟩
end Go.Proofs.YtfjaincogbdeiaaGreatDoor
