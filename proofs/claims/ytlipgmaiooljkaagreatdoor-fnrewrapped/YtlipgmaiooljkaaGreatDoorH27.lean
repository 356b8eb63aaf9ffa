/- Joined: W5h, W5i, W5k, W6a. -/
import Derived.Test.YtlipgmaiooljkaaGreatDoorH3
import Derived.Test.YtlipgmaiooljkaaGreatDoorH5
import Derived.Test.YtlipgmaiooljkaaGreatDoorH12
import Derived.Test.YtlipgmaiooljkaaGreatDoorH26
/- W5h -/
namespace Go.Proofs.YtlipgmaiooljkaaGreatDoor
open Go.ChangeShapes Go.WideShapes Go.ChangeAt Go.RowKit Go.Shelf
set_option linter.unusedVariables false

theorem shaRoundL (l : List Int) (hl : l.length = 8) (wk : Int) (w : World) :
    Calls Tryz.prog 178 #[.agg (stK .u32 l), .int .u32 wk] w fun en w' => en = .returned (.agg (stK .u32 (shaR wk l))) ∧ Below w.heap.size w w' := by
  match l, hl with
  | [a, b, c, d, e, f, g, h], _ => exact shaRound_any a b c d e f g h wk w
/-- The sums, so many of them laid. -/
def sumN (fin st : List Int) : Nat → List Int
  | 0 => fin
  | n + 1 => (sumN fin st n).set n (add32 (fin.getD n 0) (st.getD n 0))
theorem sumN_len (fin st : List Int) : ∀ n, (sumN fin st n).length = fin.length
  | 0 => rfl
  | n + 1 => by rw [sumN, List.length_set, sumN_len fin st n]
theorem sumN_all (fin st : List Int) (h1 : fin.length = 8) (h2 : st.length = 8) : sumN fin st 8 = List.zipWith add32 fin st := by
  match fin, h1, st, h2 with
  | [_, _, _, _, _, _, _, _], _, [_, _, _, _, _, _, _, _], _ => rfl
theorem sumN_get (fin st : List Int) (j : Nat) : ∀ n, n ≤ j → (sumN fin st n).getD j 0 = fin.getD j 0
  | 0, _ => rfl
  | n + 1, h => by
    have ih := sumN_get fin st j n (by omega)
    rw [List.getD_eq_getElem?_getD] at ih ⊢
    rw [sumN, List.getElem?_set_ne (by omega)]
    exact ih
theorem load_arr_runN {w : World} {t ty e : TypeId} {k : IntKind} {N : Nat} {zs : List Int} {o : Oper} {a : Act} (x : Operand) (g : Nat) (ho : o.op = .load ty x) (hx : a.eval x = .pointer (some ⟨g, 0, none⟩)) (h : Arr w g t k zs)
    (hu : Tryz.prog.underlying ty = some (.array N e)) (hi : (Tryz.prog.info? ty).map (·.size) = some (stK k zs).size) :
    (execOp a.eval o).run Tryz.prog w = .ok (.value (.agg (stK k zs))) w := by
  unfold execOp
  simp only [ho, hx, Instr.loadAt, Instr.sureAddr, Sem.run_bind, Sem.run_pure, Result.andThen_ok, run_loadVar_row w g t ty (stK k zs) (0, 0) (.array N e) h hu rfl hi]

set_option maxRecDepth 100000 in
set_option maxHeartbeats 4000000 in
theorem stepped_any (st : List Int) (s : ByteArray) (w : World) (hst : st.length = 8) (hs : s.size = 64) (hK : KTab w) :
    Calls Tryz.prog 162 #[.agg (stK .u32 st), .string s] w fun e w' => e = .returned (.agg (stK .u32 (stepL st (beL s.data.toList)))) ∧ Below w.heap.size w w' := by
  have HBW := Lib.hid (blockWords_any s · hs)
  have hwl : (sch (beL s.data.toList) 48).length = 64 := sch_len _ (by rw [beL_len]; simp; omega) _
  have HOU : Hid (stepL st (beL s.data.toList) = List.zipWith add32 (rndN (sch (beL s.data.toList) 48) st 64) st) := Lib.hid rfl
  have hkl := kTab_len
  obtain ⟨tk, hKT⟩ := hK
  have HRN : Hid (∀ ws n, rndN ws st (n + 1) = shaR (add32 (ws.getD n 0) (kTab.getD n 0)) (rndN ws st n)) := Lib.hid (fun _ _ => rfl)
  generalize kTab = kt at hkl hKT HRN
  generalize stepL st (beL s.data.toList) = out at HOU ⊢
  obtain ⟨ws, hws⟩ : ∃ ws, ws = sch (beL s.data.toList) 48 := ⟨_, rfl⟩
  rw [← hws] at HBW HOU hwl
  have HRL := Lib.hid (fun n => rndN_len ws st hst n)
  have HI : Hid (∀ zs : List Int, zs.length = 8 → (Tryz.prog.info? 176).map (·.size) = some (stK .u32 zs).size) := Lib.hid (fun zs hz => by rw [stK_size, hz]; exact Tryz.infS5)
  have HX := Lib.hid (fun j hj w => idxArr ws hwl Tryz.undW j hj w)
  have HST := Lib.hid hst
  have HWL := Lib.hid hwl
  have HKL := Lib.hid hkl
  have hgl := hKT.lt
  clear hws hwl hkl hs hst
  -- the start
  have hA1 : Arr ((w.alloc (.cells (stK .u32 st) 176)).alloc z8) w.heap.size 176 .u32 st := (Arr.new w 176 .u32 st).alloc z8
  have hs1 : (w.alloc (.cells (stK .u32 st) 176)).heap.size = w.heap.size + 1 := by simp
  have hZ1 : Arr ((w.alloc (.cells (stK .u32 st) 176)).alloc z8) (w.heap.size + 1) 176 .u32 (List.replicate 8 0) := by
    have := heap_alloc_new (w.alloc (.cells (stK .u32 st) 176)) z8
    rw [hs1] at this; exact this
  have hK1 : Arr ((w.alloc (.cells (stK .u32 st) 176)).alloc z8) 4 tk .u32 kt := (hKT.alloc _).alloc _
  have hB1 : Below w.heap.size w ((w.alloc (.cells (stK .u32 st) 176)).alloc z8) := ((Below.refl _ _).alloc (Nat.le_refl _) _).alloc (by simp) _
  have hs2 : ((w.alloc (.cells (stK .u32 st) 176)).alloc z8).heap.size = w.heap.size + 2 := by simp
  have HA1 := Lib.hid hA1
  have HZ1 := Lib.hid hZ1
  have HK1 := Lib.hid hK1
  have HB1 := Lib.hid hB1
  have HS2 := Lib.hid hs2
  obtain ⟨W1, hW1⟩ : ∃ W1, W1 = (w.alloc (.cells (stK .u32 st) 176)).alloc z8 := ⟨_, rfl⟩
  have hN2 : Arr (W1.alloc z8) (w.heap.size + 1 + 1) 176 .u32 (List.replicate 8 0) := by
    have := heap_alloc_new W1 z8
    rw [hW1, hs2] at this; rw [hW1]; exact this
  have hN3 : Arr ((W1.alloc z8).setRow (w.heap.size + 1 + 1) (stK .u32 st)) (w.heap.size + 1 + 1) 176 .u32 (rndN ws st 0) := setRow_heap _ _ _ _ _ _ hN2
  have HN2 := Lib.hid hN2
  rw [← hW1] at hA1 hZ1 hK1 hB1 hs2
  have hA3 := (hA1.alloc z8).otherRow (w.heap.size + 1 + 1) (stK .u32 st) (by omega)
  have hZ3 := (hZ1.alloc z8).otherRow (w.heap.size + 1 + 1) (stK .u32 st) (by omega)
  have hK3 := (hK1.alloc z8).otherRow (w.heap.size + 1 + 1) (stK .u32 st) (by omega)
  have hB3 := below_setRow (hB1.alloc (by omega) z8) (g := w.heap.size + 1 + 1) (by omega) (stK .u32 st)
  have hs3 : ((W1.alloc z8).setRow (w.heap.size + 1 + 1) (stK .u32 st)).heap.size = w.heap.size + 3 := by rw [size_setRow, World.size_alloc, hs2]
  have HSZ := Lib.hid (show (stK .u32 (List.replicate 8 0)).size = (stK .u32 st).size by rw [stK_size, stK_size, HST.out]; rfl)
  have HW1 := Lib.hid hW1
  rw [hW1] at HN2
  clear hA1 hZ1 hK1 hB1 hs1 hs2 hKT hN2 hW1 HZ1 HK1 HB1 HS2
  go_enter Tryz.func162, Tryz.ntmps162
  go_wp2_with (first | (refine wpList_load_row rfl _ (.tmp 2) rfl w.heap.size rfl _ _ _ _ HA1.out Tryz.undS5 rfl (HI.out _ HST.out) ?_) | (refine wpList_store_row rfl _ (.tmp 5) (.tmp 9) rfl (w.heap.size + 1 + 1) _ rfl rfl _ _ HN2.out (HI.out _ HST.out) HSZ.out (stK_one _ _) ?_))
  show Calls _ _ _ (((((w.alloc (.cells (stK .u32 st) 176)).alloc z8)).alloc z8).setRow (w.heap.size + 1 + 1) (stK .u32 st)) _
  rw [← HW1.out]
  generalize (W1.alloc z8).setRow (w.heap.size + 1 + 1) (stK .u32 st) = w3 at hN3 hA3 hZ3 hK3 hB3 hs3 ⊢
  clear HA1 HN2 HW1 HSZ
  refine (HBW.out _).mono ?_
  rintro e w4 ⟨rfl, hb4⟩
  have hN4 := hN3.below hb4 hN3.lt
  have hA4 := hA3.below hb4 hA3.lt
  have hZ4 := hZ3.below hb4 hZ3.lt
  have hK4 := hK3.below hb4 hK3.lt
  have hB4 := hB3.trans (hb4.mono hB3.size)
  have hs4 : w.heap.size + 3 ≤ w4.heap.size := by have := hb4.size; omega
  clear hN3 hA3 hZ3 hK3 hB3 hs3 hb4 HBW
  go_wp2
  go_loopw [12] (fun i wr => ∃ n : Nat, n ≤ 64 ∧ i = .int .i64 n ∧ Arr wr (w.heap.size + 1 + 1) 176 .u32 (rndN ws st n) ∧ Arr wr w.heap.size 176 .u32 st ∧ Arr wr (w.heap.size + 1) 176 .u32 (List.replicate 8 0) ∧ Arr wr 4 tk .u32 kt ∧ w.heap.size + 3 ≤ wr.heap.size ∧ Below w.heap.size w wr) (fun i _ => 64 - (intOf i).toNat)
  case atStart => exact ⟨0, Nat.zero_le _, rfl, hN4, hA4, hZ4, hK4, hs4, hB4⟩
  case round =>
    obtain ⟨n, hn, rfl, hN, hA, hZ, hK, hsz, hB⟩ := hrel
    clear hN4 hA4 hZ4 hK4 hs4 hB4
    by_cases hlt : n < 64
    · have hix := HX.out n hlt wr
      have hkc := hK.cell n (by rw [HKL.out]; exact hlt)
      have hrn := HRN.out ws n
      rw [getD_get (l := kt) (by rw [HKL.out]; exact hlt)] at hrn
      obtain ⟨kn, hkn⟩ : ∃ kn, kn = kt[n]'(by rw [HKL.out]; exact hlt) := ⟨_, rfl⟩
      rw [← hkn] at hkc hrn
      obtain ⟨x, hx⟩ : ∃ x, x = ws.getD n 0 := ⟨_, rfl⟩
      rw [← hx] at hix hrn
      have hl1 := HRL.out n
      have hl2 := HRL.out (n + 1)
      generalize rndN ws st n = l1 at hN hrn hl1
      obtain ⟨l2, e2⟩ : ∃ l2, l2 = rndN ws st (n + 1) := ⟨_, rfl⟩
      rw [← e2] at hrn hl2
      have HE2 := Lib.hid e2
      have HRN1 := Lib.hid hrn
      have HL1 := Lib.hid hl1
      have HL2 := Lib.hid hl2
      have HKC := Lib.hid hkc
      have hni : (n : Int) < 64 := by omega
      clear hrn hkn hx hkc e2 hl1 hl2
      go_wp2
      refine wp_region_T (fun w' => w'.cell? ⟨4, n, none⟩ = some (.int .u32 kn)) (fun w' => Arr w' (w.heap.size + 1 + 1) 176 .u32 l1) 7 (by kernel_rfl) 8 rfl ?_
      refine wpAnyT_takesA (md := .any) 3 (by kernel_rfl) (by intro d v c a w h; cases d <;> exact h) [1, 2, 3, 4, 5] _ _ _ (by decide) (by kernel_rfl) ⟨HKC.out, fun _ => hN.drew⟩ ?_
      simp only [pick, List.filterMap_cons, List.filterMap_nil, List.getElem?_cons_zero, List.getElem?_cons_succ]
      iterate 5 (refine wpIf_step ?_ (by kernel_rfl) ?_ ?_; rotate_left; (intro w' hkc; go_simp); try with_reducible rfl)
      refine wpIf_nil (fun hS => ?_)
      refine wpAnyT_takesB (md := .any) 2 (by kernel_rfl) (by intro d v c a w h; cases d <;> exact h) [0] _ _ _ (by decide) (by kernel_rfl) (by kernel_rfl) (by kernel_rfl) hS ?_
      simp only [pick, List.filterMap_cons, List.filterMap_nil, List.getElem?_cons_zero]
      refine wpIf_step (.agg (stK .u32 l1)) (by kernel_rfl) (fun w' hw => by refine load_arr_runN (.tmp 5) (w.heap.size + 1 + 1) ?_ ?_ hw.2 Tryz.undS5 (HI.out _ HL1.out) <;> rfl) ?_
      refine wpIf_nil (fun hS2 => ?_)
      clear hS
      refine wpAnyT_one 6 1 (by kernel_rfl) rfl (by kernel_rfl) (fun K hK2 => ?_)
      go_simp
      have hrd := shaRoundL l1 HL1.out (IntKind.u32.wrap (x + kn)) wr.drew
      rw [show shaR (IntKind.u32.wrap (x + kn)) l1 = l2 by rw [HRN1.out, IntKind.wrap_u32']; rfl] at hrd
      refine hrd.mono ?_
      rintro en w5 ⟨rfl, hb5⟩
      clear hrd
      have hN5 := hN.drew.below hb5 hN.lt
      have hA5 := hA.drew.below hb5 hA.lt
      have hZ5 := hZ.drew.below hb5 hZ.lt
      have hK5 := hK.drew.below hb5 hK.lt
      have hB5 := hB.drew.trans (hb5.mono hB.drew.size)
      have hs5 : w.heap.size + 3 ≤ w5.heap.size := Nat.le_trans hsz hb5.size
      have hkc5 : w5.cell? ⟨4, n, none⟩ = some (.int .u32 kn) := by
        have h1 := HKC.out
        rw [cell_of_row _ _ _ _ _ _ hK] at h1
        rw [cell_of_row _ _ _ _ _ _ hK5]; exact h1
      refine hK2 _ _ ⟨hkc5, fun _ => hN5⟩ (fun hS3 => ?_)
      clear hK2 K hS2 hb5 hN hA hZ hK hB hsz hS3
      have hK6 := hK5.otherRow (w.heap.size + 1 + 1) (stK .u32 l2) (by omega)
      have hA6 := hA5.otherRow (w.heap.size + 1 + 1) (stK .u32 l2) (by omega)
      have hZ6 := hZ5.otherRow (w.heap.size + 1 + 1) (stK .u32 l2) (by omega)
      have hN6 := hN5.row l2 (by rw [HL1.out, HL2.out])
      have hB6 := below_setRow hB5 (g := w.heap.size + 1 + 1) (by omega) (stK .u32 l2)
      have hs6 : w.heap.size + 3 ≤ (w5.setRow (w.heap.size + 1 + 1) (stK .u32 l2)).heap.size := by rw [size_setRow]; exact hs5
      refine wpAnyT_one 7 0 (by kernel_rfl) rfl (by kernel_rfl) (fun K hK2 => ?_)
      refine wp_store_row _ (.tmp 5) (.tmp 22) rfl (w.heap.size + 1 + 1) (stK .u32 l2) rfl rfl _ _ hN5 (HI.out _ HL2.out) (by rw [stK_size, stK_size, HL1.out, HL2.out]) (stK_one _ _) ?_
      have hkc6 : (w5.setRow (w.heap.size + 1 + 1) (stK .u32 l2)).cell? ⟨4, n, none⟩ = some (.int .u32 kn) := by
        rw [cell_of_row _ _ _ _ _ _ hK5] at hkc5
        rw [cell_of_row _ _ _ _ _ _ hK6]; exact hkc5
      refine hK2 _ _ ⟨hkc6, fun h => by exact absurd h (by decide)⟩ (fun hS6 => ?_)
      clear hK2 K hN5 hA5 hZ5 hK5 hB5 hs5 hkc5 hkc6 hS6
      refine wpAnyT_over (by kernel_rfl) ?_
      generalize w5.setRow (w.heap.size + 1 + 1) (stK .u32 l2) = w6 at hK6 hA6 hZ6 hN6 hB6 hs6 ⊢
      rw [HE2.out] at hN6
      clear hix HRN1 HKC HL1 HL2 HE2
      go_wp2
      go_roundw
      case rel => exact ⟨n + 1, by omega, by go_num, hN6, hA6, hZ6, hK6, hs6, hB6⟩
      case measure => simp [intOf]; omega
    · have hne : n = 64 := by omega
      have hn64 : ¬ n < 64 := by omega
      rw [hne] at hN
      have hfl := HRL.out 64
      have HOU2 := HOU
      generalize rndN ws st 64 = fin at hN hfl HOU2
      rw [← sumN_all fin st hfl HST.out] at HOU2
      have HFL := Lib.hid hfl
      have hN0 : Arr wr (w.heap.size + 1 + 1) 176 .u32 (sumN fin st 0) := hN
      clear hne hfl hK hN HOU HRN HX
      go_wp2
      go_loopw [24] (fun i wr => ∃ n : Nat, n ≤ 8 ∧ i = .int .i64 n ∧ Arr wr (w.heap.size + 1 + 1) 176 .u32 (sumN fin st n) ∧ Arr wr w.heap.size 176 .u32 st ∧ Arr wr (w.heap.size + 1) 176 .u32 (List.replicate 8 0) ∧ Below w.heap.size w wr) (fun i _ => 8 - (intOf i).toNat)
      case atStart => exact ⟨0, Nat.zero_le _, rfl, hN0, hA, hZ, hB⟩
      case round =>
        clear hN0 hA hZ hB hsz
        obtain ⟨j, hj, rfl, hN, hA, hZ, hB⟩ := hrel
        by_cases hjl : j < 8
        · have hjs : j < (sumN fin st j).length := by rw [sumN_len, HFL.out]; exact hjl
          have hc5 := hN.cell j hjs
          have hf5 := hN.frozen j
          have hc2 := hA.cell j (by rw [HST.out]; exact hjl)
          have hg := sumN_get fin st j j (Nat.le_refl _)
          have hst' : sumN fin st (j + 1) = (sumN fin st j).set j (add32 (fin.getD j 0) (st.getD j 0)) := rfl
          rw [← getD_get hjs, hg] at hc5
          rw [← getD_get (l := st) (by rw [HST.out]; exact hjl)] at hc2
          generalize fin.getD j 0 = x at hc5 hst'
          generalize st.getD j 0 = y at hc2 hst'
          have hN2 := hN.set j (add32 x y)
          rw [← hst'] at hN2
          have hA2 := hA.other (w.heap.size + 1 + 1) j (.int .u32 (add32 x y)) (by omega)
          have hZ2 := hZ.other (w.heap.size + 1 + 1) j (.int .u32 (add32 x y)) (by omega)
          have hB2 := (hB.setCell (p := ⟨w.heap.size + 1 + 1, j, none⟩) (by simp; omega) (.int .u32 (add32 x y))).drew
          have hwa : IntKind.u32.wrap (x + y) = add32 x y := IntKind.wrap_u32' _
          have hji : (j : Int) < 8 := by omega
          have HN2 := Lib.hid hN2
          have HA2 := Lib.hid hA2
          have HZ2 := Lib.hid hZ2
          have HB2 := Lib.hid hB2
          have HC5 := Lib.hid hc5
          have HF5 := Lib.hid hf5
          have HC2 := Lib.hid hc2
          have HA := Lib.hid hA
          clear hst' hg hjs hN hA hZ hB hN2 hA2 hZ2 hB2 hc5 hf5 hc2
          generalize add32 x y = z at hwa HN2 HA2 HZ2 HB2
          go_wp2
          refine wp_region_T (fun w' => w'.cell? ⟨w.heap.size, j, none⟩ = some (.int .u32 y)) (fun w' => w'.cell? ⟨w.heap.size + 1 + 1, j, none⟩ = some (.int .u32 x)) 8 (by kernel_rfl) 9 rfl ?_
          refine wpAnyT_takesA (md := .any) 4 (by kernel_rfl) (by intro d v c a w h; cases d <;> exact h) [0, 1, 3, 4, 5] _ _ _ (by decide) (by kernel_rfl) ⟨HC2.out, fun _ => HC5.out⟩ ?_
          simp only [pick, List.filterMap_cons, List.filterMap_nil, List.getElem?_cons_zero, List.getElem?_cons_succ]
          iterate 5 (refine wpIf_step ?_ (by kernel_rfl) ?_ ?_; rotate_left; (intro w' hc2; go_simp); try with_reducible rfl)
          refine wpIf_nil (fun hS => ?_)
          refine wpAnyT_takesB (md := .any) 3 (by kernel_rfl) (by intro d v c a w h; cases d <;> exact h) [2] _ _ _ (by decide) (by kernel_rfl) (by kernel_rfl) (by kernel_rfl) hS ?_
          simp only [pick, List.filterMap_cons, List.filterMap_nil, List.getElem?_cons_zero, List.getElem?_cons_succ]
          iterate 1 (refine wpIf_step ?_ (by kernel_rfl) ?_ ?_; rotate_left; (rintro w' ⟨hc2, hc5⟩; go_simp); try with_reducible rfl)
          refine wpIf_nil (fun hS2 => ?_)
          clear hS
          refine wpAnyT_takesA (md := .any) 1 (by kernel_rfl) (by intro d v c a w h; cases d <;> exact h) [6, 7] _ _ _ (by decide) (by kernel_rfl) hS2 ?_
          simp only [pick, List.filterMap_cons, List.filterMap_nil, List.getElem?_cons_zero, List.getElem?_cons_succ]
          iterate 2 (refine wpIf_step ?_ (by kernel_rfl) ?_ ?_; rotate_left; (intro w' hc2; go_simp); try with_reducible rfl)
          refine wpIf_nil (fun hS => ?_)
          clear hS2 hS
          refine wpAnyT_one 8 0 (by kernel_rfl) rfl (by kernel_rfl) (fun K hK => ?_)
          have hc5 := HC5.out
          have hf5 := HF5.out
          go_simp
          refine hK _ _ ⟨?_, fun h => by exact absurd h (by decide)⟩ (fun hS => ?_)
          · have h1 := HC2.out
            rw [cell_of_row _ _ _ _ _ _ HA.out] at h1
            exact (cell_of_row _ _ _ _ _ _ HA2.out).trans h1
          clear hK K hS hc5 hf5
          refine wpAnyT_over (by kernel_rfl) ?_
          go_wp2
          go_roundw
          case rel => exact ⟨j + 1, by omega, by go_num, HN2.out, HA2.out, HZ2.out, HB2.out⟩
          case measure => simp [intOf]; omega
        · have hj8 : j = 8 := by omega
          have hjn : ¬ j < 8 := by omega
          rw [hj8, ← HOU2.out] at hN
          have hol : out.length = 8 := by rw [HOU2.out, sumN_len]; exact HFL.out
          have HIO := Lib.hid (HI.out out hol)
          have HSZ := Lib.hid (show (stK .u32 (List.replicate 8 0)).size = (stK .u32 out).size by rw [stK_size, stK_size, hol]; rfl)
          have hZ2 := hZ.row out (by rw [hol]; rfl)
          have hB2 := below_setRow hB (g := w.heap.size + 1) (by omega) (stK .u32 out)
          have HN := Lib.hid hN
          have HZ := Lib.hid hZ
          have HZ2 := Lib.hid hZ2
          clear hj8 hN hZ hZ2 hA hol
          go_wp2_with (first | (refine wpList_load_row rfl _ (.tmp 5) rfl (w.heap.size + 1 + 1) rfl _ _ _ _ HN.out Tryz.undS5 rfl HIO.out ?_) | (refine wpList_store_row rfl _ (.tmp 4) (.tmp 36) rfl (w.heap.size + 1) _ rfl rfl _ _ HZ.out HIO.out HSZ.out (stK_one _ _) ?_))
          refine bodyPost_ret (results_cell_row rfl _ _ (w.heap.size + 1) _ (stK .u32 out) _ _ rfl HZ2.out Tryz.undS5 rfl HIO.out) rfl ?_
          exact ⟨rfl, hB2⟩
end Go.Proofs.YtlipgmaiooljkaaGreatDoor

/- W5i -/
namespace Go.Proofs.YtlipgmaiooljkaaGreatDoor
open Go.ChangeShapes Go.WideShapes Go.ChangeAt Go.RowKit Go.Shelf
set_option linter.unusedVariables false

end Go.Proofs.YtlipgmaiooljkaaGreatDoor

/- W5k -/
namespace Go.Proofs.YtlipgmaiooljkaaGreatDoor
open Go.ChangeShapes Go.WideShapes Go.ChangeAt Go.RowKit Go.Shelf
set_option linter.unusedVariables false

set_option maxRecDepth 100000 in
set_option maxHeartbeats 4000000 in
theorem digestOf_any (t : ByteArray) (w : World) (ht : t.size ≤ 100000) (hF : FTab w) (hK : KTab w) :
    Calls Tryz.prog 138 #[.string t] w fun e w' => e = .returned (.string (shaD t)) ∧ Below w.heap.size w w' := by
  have HP := Lib.hid (shaPadded_any t · ht)
  have hpm := padS_mod t
  have hpl := padS_le t
  have HE : Hid (shaD t = ⟨(stoB (blksN (padS t) ((padS t).size / 64))).toArray⟩) := Lib.hid rfl
  generalize shaD t = out at HE ⊢
  generalize padS t = p at HP hpm hpl HE
  have hpb : p.size ≤ 200000 := by omega
  have HPM := Lib.hid hpm
  have HBL := Lib.hid (blksN_len p)
  have HBW := Lib.hid (blksN_words p)
  have HB0 : Hid (blksN p 0 = sha0) := Lib.hid rfl
  have HBS : Hid (∀ n, blksN p (n + 1) = stepL (blksN p n) (beL (blk p n).data.toList)) := Lib.hid (fun _ => rfl)
  have HI : Hid (∀ zs : List Int, zs.length = 8 → (Tryz.prog.info? 176).map (·.size) = some (stK .u32 zs).size) := Lib.hid (fun zs hz => by rw [stK_size, hz]; exact Tryz.infS5)
  obtain ⟨tf, hF⟩ := hF
  have HK0 := Lib.hid hK
  rw [← HB0.out] at hF
  have hl0 := HBL.out 0
  have HF := Lib.hid hF
  obtain ⟨f0, hf0⟩ : ∃ f0, f0 = blksN p 0 := ⟨_, rfl⟩
  rw [← hf0] at HF hl0
  have HF0 := Lib.hid hf0
  clear hf0
  have HL0 := Lib.hid hl0
  have hN2 := heap_alloc_new w z8
  have hN3 : Arr ((w.alloc z8).setRow w.heap.size (stK .u32 f0)) w.heap.size 176 .u32 f0 := setRow_heap _ _ _ _ _ _ hN2
  have hB3 : Below w.heap.size w ((w.alloc z8).setRow w.heap.size (stK .u32 f0)) := below_setRow ((Below.refl _ _).alloc (Nat.le_refl _) z8) (Nat.le_refl _) _
  have hs3 : ((w.alloc z8).setRow w.heap.size (stK .u32 f0)).heap.size = w.heap.size + 1 := by rw [size_setRow, World.size_alloc]
  have HN2 := Lib.hid hN2
  have HSZ := Lib.hid (show (stK .u32 (List.replicate 8 0)).size = (stK .u32 f0).size by rw [stK_size, stK_size, hl0]; rfl)
  clear hpm hpl ht hK hF hN2 HB0
  go_enter Tryz.func138, Tryz.ntmps138
  go_wp2_with (first | (refine wpList_load_row rfl _ (.global 2) rfl 2 rfl _ _ _ _ HF.out Tryz.undS5 rfl (HI.out _ HL0.out) ?_) | (refine wpList_store_row rfl _ (.tmp 3) (.tmp 6) rfl w.heap.size _ rfl rfl _ _ HN2.out (HI.out _ HL0.out) HSZ.out (stK_one _ _) ?_))
  show Calls _ _ _ ((w.alloc z8).setRow w.heap.size (stK .u32 f0)) _
  generalize (w.alloc z8).setRow w.heap.size (stK .u32 f0) = w3 at hN3 hB3 hs3 ⊢
  refine (HP.out _).mono ?_
  rintro e w4 ⟨rfl, hb4⟩
  have hN4 := hN3.below hb4 hN3.lt
  have hB4 := hB3.trans (hb4.mono hB3.size)
  have hs4 : w.heap.size + 1 ≤ w4.heap.size := by have := hb4.size; omega
  rw [HF0.out] at hN4
  clear hN3 hB3 hs3 hb4 HF HN2 HSZ HP hl0 HL0
  go_wp2
  go_loopw [5] (fun i wr => ∃ k n : Nat, Hid (n = 64 * k) ∧ n ≤ p.size ∧ i = .int .i64 n ∧ Arr wr w.heap.size 176 .u32 (blksN p k) ∧ w.heap.size + 1 ≤ wr.heap.size ∧ Below w.heap.size w wr) (fun i _ => p.size - (intOf i).toNat)
  case atStart => exact ⟨0, 0, Lib.hid rfl, Nat.zero_le _, rfl, hN4, hs4, hB4⟩
  case round =>
    obtain ⟨k, n, hnk, hn, rfl, hN, hsz, hB⟩ := hrel
    clear hN4 hs4 hB4
    by_cases hlt : n < p.size
    · have hfit : n + 64 ≤ p.size := by have := HPM.out; have := hnk.out; omega
      obtain ⟨q, hq⟩ : ∃ q, q = n + 64 := ⟨_, rfl⟩
      have hbe : blk p k = p.extract n q := by rw [hq, hnk.out]; rfl
      have hbs : (p.extract n q).size = 64 := by rw [ByteArray.size_extract]; omega
      have hst := HBS.out k
      rw [hbe] at hst
      have hl1 := HBL.out k
      have hl2 := HBL.out (k + 1)
      have hKr : KTab wr := HK0.out.below hB (Nat.le_refl _)
      generalize blksN p k = l1 at hN hst hl1
      obtain ⟨l2, e2⟩ : ∃ l2, l2 = blksN p (k + 1) := ⟨_, rfl⟩
      rw [← e2] at hst hl2
      have HE2 := Lib.hid e2
      have HBX := Lib.hid hbs
      have HST := Lib.hid hst
      have HL1 := Lib.hid hl1
      have HL2 := Lib.hid hl2
      have w1 : IntKind.i64.wrap ((n : Int) + 64) = (q : Int) := by rw [show (n : Int) + 64 = (q : Int) by omega]; exact IntWalk.i64_in _ (by omega)
      have hu1 : (n : Int) ≤ (q : Int) := by omega
      have hu2 : (q : Int) ≤ (p.size : Int) := by omega
      have hu3 : n ≤ q := by omega
      have hu4 : q ≤ p.size := by omega
      have HQ := Lib.hid hq
      have hu5 : n < q := by omega
      clear hst hl1 hl2 e2 hbe hbs hq hfit
      go_wp2
      refine wp_region_T (fun w' => True) (fun w' => Arr w' w.heap.size 176 .u32 l1) 7 (by kernel_rfl) 8 rfl ?_
      refine wpAnyT_takesA (md := .any) 3 (by kernel_rfl) (by intro d v c a w h; cases d <;> exact h) [1, 2, 3, 4, 5] _ _ _ (by decide) (by kernel_rfl) ⟨trivial, fun _ => hN.drew⟩ ?_
      simp only [pick, List.filterMap_cons, List.filterMap_nil, List.getElem?_cons_zero, List.getElem?_cons_succ]
      iterate 5 (refine wpIf_step ?_ (by kernel_rfl) ?_ ?_; rotate_left; (intro w' _; go_simp); try with_reducible rfl)
      refine wpIf_nil (fun hS => ?_)
      refine wpAnyT_takesB (md := .any) 2 (by kernel_rfl) (by intro d v c a w h; cases d <;> exact h) [0] _ _ _ (by decide) (by kernel_rfl) (by kernel_rfl) (by kernel_rfl) hS ?_
      simp only [pick, List.filterMap_cons, List.filterMap_nil, List.getElem?_cons_zero]
      refine wpIf_step (.agg (stK .u32 l1)) (by kernel_rfl) (fun w' hw => by refine load_arr_runN (.tmp 3) w.heap.size ?_ ?_ hw.2 Tryz.undS5 (HI.out _ HL1.out) <;> rfl) ?_
      refine wpIf_nil (fun hS2 => ?_)
      clear hS
      refine wpAnyT_one 6 1 (by kernel_rfl) rfl (by kernel_rfl) (fun K hK2 => ?_)
      go_simp
      have hrd := stepped_any l1 (p.extract n q) wr.drew HL1.out HBX.out hKr
      rw [← HST.out] at hrd
      refine hrd.mono ?_
      rintro en w5 ⟨rfl, hb5⟩
      clear hrd
      have hN5 := hN.drew.below hb5 hN.lt
      have hB5 := hB.drew.trans (hb5.mono hB.drew.size)
      have hs5 : w.heap.size + 1 ≤ w5.heap.size := Nat.le_trans hsz hb5.size
      refine hK2 _ _ ⟨trivial, fun _ => hN5⟩ (fun hS3 => ?_)
      clear hK2 K hS2 hb5 hN hB hsz hS3 hKr
      have hN6 := hN5.row l2 (by rw [HL1.out, HL2.out])
      have hB6 := below_setRow hB5 (g := w.heap.size) (Nat.le_refl _) (stK .u32 l2)
      have hs6 : w.heap.size + 1 ≤ (w5.setRow w.heap.size (stK .u32 l2)).heap.size := by rw [size_setRow]; exact hs5
      refine wpAnyT_one 7 0 (by kernel_rfl) rfl (by kernel_rfl) (fun K hK2 => ?_)
      refine wp_store_row _ (.tmp 3) (.tmp 21) rfl w.heap.size (stK .u32 l2) rfl rfl _ _ hN5 (HI.out _ HL2.out) (by rw [stK_size, stK_size, HL1.out, HL2.out]) (stK_one _ _) ?_
      refine hK2 _ _ ⟨trivial, fun h => by exact absurd h (by decide)⟩ (fun hS6 => ?_)
      clear hK2 K hN5 hB5 hs5 hS6
      refine wpAnyT_over (by kernel_rfl) ?_
      generalize w5.setRow w.heap.size (stK .u32 l2) = w6 at hN6 hB6 hs6 ⊢
      rw [HE2.out] at hN6
      clear HST HL1 HL2 HE2 HBX
      go_wp2
      go_roundw
      case rel => exact ⟨k + 1, q, Lib.hid (by rw [HQ.out, hnk.out]; omega), hu4, rfl, hN6, hs6, hB6⟩
      case measure => simp [intOf]; omega
    · have hke : k = p.size / 64 := by have := hnk.out; have := HPM.out; omega
      rw [hke] at hN
      have hfl := HBL.out (p.size / 64)
      have hfw := HBW.out (p.size / 64)
      have HE2 := HE
      generalize blksN p (p.size / 64) = fin at hN hfl hfw HE2
      have HTX := Lib.hid (fun w => stateText_any fin w hfl hfw)
      have HIO := Lib.hid (HI.out fin hfl)
      have HN := Lib.hid hN
      clear hke hfl hfw hN HE HBL HBW HBS
      go_wp2_with (refine wpList_load_row rfl _ (.tmp 3) rfl w.heap.size rfl _ _ _ _ HN.out Tryz.undS5 rfl HIO.out ?_)
      refine (HTX.out _).mono ?_
      rintro en w5 ⟨rfl, hb5⟩
      have hB5 := hB.trans (hb5.mono hB.size)
      rw [← HE2.out]
      go_wp2
      go_ret
      exact ⟨rfl, hB5⟩

end Go.Proofs.YtlipgmaiooljkaaGreatDoor

/- W6a -/
namespace Go.Proofs.YtlipgmaiooljkaaGreatDoor
open Go.ChangeShapes Go.WideShapes Go.ChangeAt Go.RowKit Go.Shelf
set_option linter.unusedVariables false

/-- A key that fits, and a key of a block. -/
def hKey (key : ByteArray) : ByteArray := if 64 < key.size then shaD key else key
theorem hKey_le (key : ByteArray) : (hKey key).size ≤ 64 := by
  unfold hKey
  split
  · rw [shaD_size]; omega
  · omega
def bkB (key : ByteArray) : ByteArray := hKey key ++ nghB (64 - (hKey key).size)
theorem bkB_size (key : ByteArray) : (bkB key).size = 64 := by
  have := hKey_le key
  unfold bkB; rw [ByteArray.size_append, nghB_size]; omega
def repB (b : UInt8) : ByteArray := ⟨(List.replicate 64 b).toArray⟩
theorem repB_size (b : UInt8) : (repB b).size = 64 := by show (List.replicate 64 b).toArray.size = 64; simp
theorem repeatL_byte (b : UInt8) : ∀ n, Lib.repeatL [b] n = List.replicate n b
  | 0 => rfl
  | n + 1 => by rw [Lib.repeatL, repeatL_byte b n]; rfl
theorem xorB_size (a b : ByteArray) (h : a.size ≤ b.size) : (xorB a b).size = a.size := by
  unfold xorB; rw [ba_list_size, xorL_len _ _ (by simpa using h)]; simp
/-- A text of which each byte is turned by another one. -/
def wkB (b : UInt8) (k : ByteArray) : ByteArray := xorB k (repB b)
theorem wkB_size (b : UInt8) (k : ByteArray) (h : k.size = 64) : (wkB b k).size = 64 := by
  unfold wkB; rw [xorB_size _ _ (by rw [repB_size]; omega), h]
def hmB (key text : ByteArray) : ByteArray := shaD (wkB 92 (bkB key) ++ shaD (wkB 54 (bkB key) ++ text))
theorem hmB_size (key text : ByteArray) : (hmB key text).size = 32 := shaD_size _
def hmR (key text : ByteArray) : ByteArray := if key.size ≤ 4000 ∧ text.size ≤ 4000 then hmB key text else ⟨#[]⟩

set_option maxRecDepth 100000 in
set_option maxHeartbeats 1600000 in
theorem blockKey_any (key : ByteArray) (w : World) (hk : key.size ≤ 100000) (hF : FTab w) (hK : KTab w) :
    Calls Tryz.prog 137 #[.string key] w fun e w' => e = .returned (.string (bkB key)) ∧ Below w.heap.size w w' := by
  have HE : Hid (bkB key = hKey key ++ nghB (64 - (hKey key).size)) := Lib.hid rfl
  by_cases h : 64 < key.size
  · have HD := Lib.hid (digestOf_any key w hk hF hK)
    rw [show hKey key = shaD key from if_pos h] at HE
    have hs : (shaD key).size ≤ 64 := by rw [shaD_size]; omega
    obtain ⟨D, hD⟩ : ∃ D, D = shaD key := ⟨_, rfl⟩
    rw [← hD] at HD hs HE
    have HN := Lib.hid (fun w => noughts_any (64 - D.size) w (by omega))
    rw [show ((64 - D.size : Nat) : Int) = 64 - (D.size : Int) by omega] at HN
    have hns : (nghB (64 - D.size)).size = 64 - D.size := nghB_size _
    generalize nghB (64 - D.size) = X at HN HE hns
    have hsum : D.size + X.size ≤ 100 := by omega
    clear hF hK hD hns
    go_enter Tryz.func137, Tryz.ntmps137
    go_wp2_with fail
    refine HD.out.mono ?_
    rintro e w1 ⟨rfl, hb1⟩
    go_wp2_with fail
    refine (HN.out _).mono ?_
    rintro e w2 ⟨rfl, hb2⟩
    go_wp2
    go_ret
    exact ⟨ret_str HE.out.symm, hb1.trans (hb2.mono hb1.size)⟩
  · have hs : key.size ≤ 64 := by omega
    rw [show hKey key = key from if_neg h] at HE
    have HN := Lib.hid (fun w => noughts_any (64 - key.size) w (by omega))
    rw [show ((64 - key.size : Nat) : Int) = 64 - (key.size : Int) by omega] at HN
    have hns : (nghB (64 - key.size)).size = 64 - key.size := nghB_size _
    generalize nghB (64 - key.size) = X at HN HE hns
    have hsum : key.size + X.size ≤ 100 := by omega
    clear hF hK hns
    go_enter Tryz.func137, Tryz.ntmps137
    go_wp2_with fail
    refine (HN.out _).mono ?_
    rintro e w2 ⟨rfl, hb2⟩
    go_wp2
    go_ret
    exact ⟨ret_str HE.out.symm, hb2⟩

set_option maxRecDepth 100000 in
set_option maxHeartbeats 4000000 in
theorem implHmac_any (key text : ByteArray) (w : World) (hk : key.size ≤ maxLen) (ht : text.size ≤ maxLen) (hF : FTab w) (hK : KTab w) :
    Calls Tryz.prog 100 #[.string key, .string text] w fun e w' => e = .returned (.string (hmR key text)) ∧ Below w.heap.size w w' := by
  unfold maxLen at hk ht
  by_cases h1 : key.size ≤ 4000
  · by_cases h2 : text.size ≤ 4000
    · have HE : Hid (hmR key text = shaD (xorB (bkB key) (repB 92) ++ shaD (xorB (bkB key) (repB 54) ++ text))) := Lib.hid (by unfold hmR; rw [if_pos ⟨h1, h2⟩]; rfl)
      have hF0 := Lib.hid hF
      have hK0 := Lib.hid hK
      have HB := Lib.hid (blockKey_any key w (by omega) hF hK)
      have hbs := bkB_size key
      obtain ⟨B, hB⟩ : ∃ B, B = bkB key := ⟨_, rfl⟩
      rw [← hB] at HB HE hbs
      have HR1 := Lib.hid (fun w => Tryz.strings_Repeat ⟨#[54]⟩ 64 w (by omega) (by show 1 * 64 ≤ _; omega))
      rw [show (⟨#[54]⟩ : ByteArray).data.toList = [54] from rfl, repeatL_byte] at HR1
      have HR2 := Lib.hid (fun w => Tryz.strings_Repeat ⟨#[92]⟩ 64 w (by omega) (by show 1 * 64 ≤ _; omega))
      rw [show (⟨#[92]⟩ : ByteArray).data.toList = [92] from rfl, repeatL_byte] at HR2
      have hr1 := repB_size 54
      have hr2 := repB_size 92
      change Hid (∀ w : World, Calls _ _ _ _ fun e w' => e = .returned (.string (repB 54)) ∧ _) at HR1
      change Hid (∀ w : World, Calls _ _ _ _ fun e w' => e = .returned (.string (repB 92)) ∧ _) at HR2
      generalize repB 54 = R1 at HR1 HE hr1
      generalize repB 92 = R2 at HR2 HE hr2
      have HX1 := Lib.hid (fun w => implXor_any B R1 w (by unfold maxLen; omega) (by unfold maxLen; omega))
      have HX2 := Lib.hid (fun w => implXor_any B R2 w (by unfold maxLen; omega) (by unfold maxLen; omega))
      rw [show xorR B R1 = xorB B R1 by unfold xorR; rw [if_pos ⟨by omega, by omega⟩]] at HX1
      rw [show xorR B R2 = xorB B R2 by unfold xorR; rw [if_pos ⟨by omega, by omega⟩]] at HX2
      have hx1 := xorB_size B R1 (by omega)
      have hx2 := xorB_size B R2 (by omega)
      generalize xorB B R1 = X1 at HX1 HE hx1
      generalize xorB B R2 = X2 at HX2 HE hx2
      obtain ⟨A1, hA1⟩ : ∃ A, X1 ++ text = A := ⟨_, rfl⟩
      have hs1 : A1.size = X1.size + text.size := by rw [← hA1, ByteArray.size_append]
      rw [hA1] at HE
      have HD1 := Lib.hid (fun w hF hK => digestOf_any A1 w (by omega) hF hK)
      have hi := shaD_size A1
      generalize shaD A1 = I at HD1 HE hi
      obtain ⟨A2, hA2⟩ : ∃ A, X2 ++ I = A := ⟨_, rfl⟩
      have hs2 : A2.size = X2.size + I.size := by rw [← hA2, ByteArray.size_append]
      rw [hA2] at HE
      have HD2 := Lib.hid (fun w hF hK => digestOf_any A2 w (by omega) hF hK)
      generalize shaD A2 = O at HD2 HE
      have k1 : X1.size + text.size ≤ 6000 := by omega
      have k2 : X2.size + I.size ≤ 6000 := by omega
      have hd1 : ¬ (4000 < (key.size : Int)) := by omega
      have hd2 : ¬ (4000 < (text.size : Int)) := by omega
      rw [HE.out]
      clear HE hF hK hB hs1 hs2 hx1 hx2 hi hr1 hr2 hbs h1 h2
      go_enter Tryz.func100, Tryz.ntmps100
      go_wp2_with fail
      refine HB.out.mono ?_
      rintro e w1 ⟨rfl, hb1⟩
      clear HB
      go_wp2_with fail
      refine (HR1.out _).mono ?_
      rintro e w2 ⟨rfl, hb2⟩
      have hB2 := hb1.trans (hb2.mono hb1.size)
      clear HR1 hb1 hb2
      go_wp2_with fail
      refine (HX1.out _).mono ?_
      rintro e w3 ⟨rfl, hb3⟩
      have hB3 := hB2.trans (hb3.mono hB2.size)
      clear HX1 hB2 hb3
      go_wp2_with fail
      refine (HD1.out _ (hF0.out.below hB3 (Nat.le_refl _)) (hK0.out.below hB3 (Nat.le_refl _))).mono ?_
      rintro e w4 ⟨rfl, hb4⟩
      have hB4 := hB3.trans (hb4.mono hB3.size)
      clear HD1 hB3 hb4
      go_wp2_with fail
      refine (HR2.out _).mono ?_
      rintro e w5 ⟨rfl, hb5⟩
      have hB5 := hB4.trans (hb5.mono hB4.size)
      clear HR2 hB4 hb5
      go_wp2_with fail
      refine (HX2.out _).mono ?_
      rintro e w6 ⟨rfl, hb6⟩
      have hB6 := hB5.trans (hb6.mono hB5.size)
      clear HX2 hB5 hb6
      go_wp2_with fail
      refine (HD2.out _ (hF0.out.below hB6 (Nat.le_refl _)) (hK0.out.below hB6 (Nat.le_refl _))).mono ?_
      rintro e w7 ⟨rfl, hb7⟩
      have hB7 := hB6.trans (hb7.mono hB6.size)
      clear HD2 hB6 hb7
      go_wp2
      go_ret
      exact ⟨rfl, hB7⟩
    · have HE : Hid (hmR key text = ⟨#[]⟩) := Lib.hid (by unfold hmR; rw [if_neg (by omega)])
      have hd1 : ¬ (4000 < (key.size : Int)) := by omega
      have hd2 : 4000 < (text.size : Int) := by omega
      rw [HE.out]
      clear HE h1 h2
      go_enter Tryz.func100, Tryz.ntmps100
      go_wp2
      go_ret
      exact ⟨rfl, Below.refl _ _⟩
  · have HE : Hid (hmR key text = ⟨#[]⟩) := Lib.hid (by unfold hmR; rw [if_neg (by omega)])
    have hd1 : 4000 < (key.size : Int) := by omega
    rw [HE.out]
    clear HE h1
    go_enter Tryz.func100, Tryz.ntmps100
    go_wp2
    go_ret
    exact ⟨rfl, Below.refl _ _⟩
end Go.Proofs.YtlipgmaiooljkaaGreatDoor
