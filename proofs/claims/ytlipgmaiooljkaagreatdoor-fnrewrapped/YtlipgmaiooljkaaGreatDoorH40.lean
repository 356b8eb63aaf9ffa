/- Joined: W3j, W3h, W3k. -/
import Derived.Test.YtlipgmaiooljkaaGreatDoorH2
import Derived.Test.YtlipgmaiooljkaaGreatDoorH18
import Derived.Test.YtlipgmaiooljkaaGreatDoorH38
import Derived.Test.YtlipgmaiooljkaaGreatDoorH39
/- W3j -/
namespace Go.Proofs.YtlipgmaiooljkaaGreatDoor
open Go.ChangeShapes Go.WideShapes Go.ChangeAt Go.RowKit
set_option linter.unusedVariables false

theorem bc_ofNat (n : Nat) : bc (UInt8.ofNat (n % 256)) = .int .u8 ((n % 256 : Nat) : Int) := by unfold bc; rw [ofNat_toNat8 _ (by omega)]

set_option maxRecDepth 100000 in
set_option maxHeartbeats 1600000 in
theorem addedBytes_any (a b : ByteArray) (w : World) (ha : a.size = 16) (hb : b.size = 16) :
    Calls Tryz.prog 131 #[.string a, .string b] w fun e w' => e = .returned (.string ⟨(sumR 16 a.data.toList b.data.toList).toArray⟩) ∧ Below w.heap.size w w' := by
  have hal : a.data.toList.length = 16 := by simpa using ha
  have hbl : b.data.toList.length = 16 := by simpa using hb
  have HE : Hid (leBy 16 (leNat (a.data.toList.take 16) + leNat (b.data.toList.take 16)) = sumR 16 a.data.toList b.data.toList) := Lib.hid (by
    rw [List.take_of_length_le (by omega), List.take_of_length_le (by omega)]; rfl)
  have HS := Lib.hid (ov_step a.data.toList b.data.toList)
  have HAL := Lib.hid hal
  have HBL := Lib.hid hbl
  have ha1 : a.size ≤ 16 := by omega
  have ha2 : 16 ≤ a.size := by omega
  have hb2 : 16 ≤ b.size := by omega
  clear ha hb hal hbl
  go_enter Tryz.func131, Tryz.ntmps131
  go_wp2_with (at_make; refine wpList_makeB rfl _ _ rfl w.heap.size .i64 .i64 _ rfl rfl (by omega) (by omega) (Nat.le_refl _) ?_; intro v0 w0 hown0 hb0)
  go_loopw [5, 6, 13] (fun v o i wr => ∃ k : Nat, k ≤ a.size ∧ i = .int .i64 k ∧ o = .int .i64 (ovN a.data.toList b.data.toList k : Nat) ∧ OwnB wr w.heap.size v (leBy k (leNat (a.data.toList.take k) + leNat (b.data.toList.take k))) ∧ Below w.heap.size w wr)
    (fun _ _ i _ => a.size - (intOf i).toNat)
  case atStart => exact ⟨0, Nat.zero_le _, rfl, by simp [ovN, leNat], hown0, hb0⟩
  case round =>
    obtain ⟨k, hk, rfl, rfl, hown, hbel⟩ := hrel
    clear hown0 hb0
    have hsz := hbel.size
    by_cases hlt : k < a.size
    · have hkb : k < b.size := by omega
      obtain ⟨e1, e2, e3⟩ := HS.out k (by rw [HAL.out]; omega) (by rw [HBL.out]; omega)
      have hxa : a.data.toList[k]'(by rw [HAL.out]; omega) = a[k] := rfl
      have hxb : b.data.toList[k]'(by rw [HBL.out]; omega) = b[k] := rfl
      rw [hxa, hxb] at e1 e2
      obtain ⟨o, ho⟩ : ∃ o, o = ovN a.data.toList b.data.toList k := ⟨_, rfl⟩
      rw [← ho] at e1 e2 e3 ⊢
      have hx := a[k].toNat_lt
      have hy := b[k].toNat_lt
      obtain ⟨sm, hsm⟩ : ∃ sm, sm = o + (a[k].toNat + b[k].toNat) := ⟨_, rfl⟩
      rw [← hsm] at e1 e2
      have hsmb : sm ≤ 511 := by omega
      have hi1 : (k : Int) < (a.size : Int) := by omega
      have hi2 : (k : Int) < (b.size : Int) := by omega
      have w1 : IntKind.i64.wrap (a[k].toNat : Int) = (a[k].toNat : Int) := IntWalk.i64_in _ (by omega)
      have w2 : IntKind.i64.wrap (b[k].toNat : Int) = (b[k].toNat : Int) := IntWalk.i64_in _ (by omega)
      have w3 : IntKind.i64.wrap ((a[k].toNat : Int) + (b[k].toNat : Int)) = (a[k].toNat : Int) + (b[k].toNat : Int) := IntWalk.i64_in _ (by omega)
      have w4 : IntKind.i64.wrap ((o : Int) + ((a[k].toNat : Int) + (b[k].toNat : Int))) = (sm : Int) := by
        rw [show (o : Int) + ((a[k].toNat : Int) + (b[k].toNat : Int)) = (sm : Int) by omega]; exact IntWalk.i64_in _ (by omega)
      have hll : (leBy k (leNat (a.data.toList.take k) + leNat (b.data.toList.take k))).length + 1 ≤ 1000000000 := by rw [leBy_len]; omega
      have w5 : IntKind.u8.wrap (sm : Int) = ((sm % 256 : Nat) : Int) := by rw [IntKind.wrap_u8']; omega
      have w6 : (sm : Int) / 256 = ((sm / 256 : Nat) : Int) := by omega
      have hcell : (#[Value.int .u8 ((sm % 256 : Nat) : Int)] : Array Value).toList = [UInt8.ofNat (sm % 256)].map bc := by rw [List.map_cons, bc_ofNat]; rfl
      obtain ⟨lo, hlo⟩ : ∃ lo, lo = sm % 256 := ⟨_, rfl⟩
      obtain ⟨hi, hhi⟩ : ∃ hi, hi = sm / 256 := ⟨_, rfl⟩
      rw [← hlo] at w5 hcell e2
      rw [← hhi] at w6 e1
      have HC := Lib.hid hcell
      have E1 := Lib.hid e1
      have E2 := Lib.hid e2
      have HLL := Lib.hid hll
      clear e1 e2 ho hsm hxa hxb hll hcell hlo hhi
      go_wp2
      refine wp_region_free_tail 12 (by kernel_rfl) (by kernel_rfl) (by decide) (by kernel_rfl) (by intro d v c a w h; cases d <;> exact h) ?_
      simp only [List.take_succ_cons, List.take_zero, List.drop_succ_cons, List.drop_zero]
      iterate 12 (refine wpFree_step ?_ (by rfl) ?_ ?_; rotate_left; (intro w; go_simp); try with_reducible rfl)
      refine wpFree_nil ?_
      go_wp2_with (at_builtin; refine wpList_appB rfl (.tmp 27) (.tmp 30) rfl w.heap.size _ _ rfl (hown.drew.alloc _) wr.heap.size 1 _ _ [UInt8.ofNat lo] rfl (heap_alloc_new wr.drew _) HC.out rfl (by decide) HLL.out (by simp; omega) ?_; intro v1 w1 hown1 hb1)
      rw [← E2.out] at hown1
      have hb2' := (hbel.drew.alloc hsz _).trans hb1
      clear hb1 hown
      go_wp2
      go_roundw
      case rel => exact ⟨k + 1, by omega, by go_num, by rw [E1.out], hown1, hb2'⟩
      case measure => simp [intOf]; omega
    · have hke : k = 16 := by omega
      have hcv := conv_ownB hown
      rw [hke, HE.out] at hcv
      clear hke
      go_wp2
      go_ret
      exact ⟨rfl, hbel⟩

theorem sumR_len (n : Nat) (a b : List UInt8) : (sumR n a b).length = n := leBy_len _ _
theorem tagPart_list (t : ByteArray) (m b : Nat) (hb : b = min (m + 16) t.size) : (t.extract m b).data.toList = (t.data.toList.drop m).take 16 := by
  subst hb
  rw [ByteArray.data_extract, Array.toList_extract, List.extract_eq_take_drop]
  rcases Nat.lt_or_ge (m + 16) t.size with h | h
  · rw [Nat.min_eq_left (Nat.le_of_lt h), show m + 16 - m = 16 by omega]
  · rw [Nat.min_eq_right h, List.take_of_length_le (by simp), List.take_of_length_le (by simp; omega)]
theorem ba_append3 (a b : ByteArray) : (a ++ b).data.toList = a.data.toList ++ b.data.toList := by
  rw [ByteArray.data_append, Array.toList_append]
theorem blk_text (t : ByteArray) (k b : Nat) (hb : b = min (16 * k + 16) t.size) : leNat ((t.extract (16 * k) b ++ ⟨#[1]⟩ : ByteArray).data.toList) = blkN t k := by
  rw [ba_append3, tagPart_list t (16 * k) b hb]; rfl

theorem lt_of_prm2 {v : Nat} (h : v < prm) : v < 1361129467683753853853498429727072845824 := Nat.lt_of_lt_of_le h (by unfold prm; decide)
theorem load_arr_run {w : World} {t ty e : TypeId} {k : IntKind} {zs : List Int} {o : Oper} {a : Act} (x : Operand) (g : Nat) (ho : o.op = .load ty x) (hx : a.eval x = .pointer (some ⟨g, 0, none⟩)) (h : Arr w g t k zs)
    (hu : Tryz.prog.underlying ty = some (.array 5 e)) (hi : (Tryz.prog.info? ty).map (·.size) = some (stK k zs).size) :
    (execOp a.eval o).run Tryz.prog w = .ok (.value (.agg (stK k zs))) w := by
  unfold execOp
  simp only [ho, hx, Instr.loadAt, Instr.sureAddr, Sem.run_bind, Sem.run_pure, Result.andThen_ok, run_loadVar_row w g t ty (stK k zs) (0, 0) (.array 5 e) h hu rfl hi]

set_option maxRecDepth 100000 in
set_option maxHeartbeats 3200000 in
theorem implTag_any (key t : ByteArray) (w : World) (hk : key.size = 32) (ht : t.size ≤ 8000) :
    Calls Tryz.prog 95 #[.string key, .string t] w fun e w' => e = .returned (.string ⟨(sumR 16 ((leBy 17 (accN (facN key) t (nBlk t))).take 16) (key.data.toList.drop 16)).toArray⟩) ∧ Below w.heap.size w w' := by
  have HT := Lib.hid (tagFactor_any key · hk)
  have hd1 : ((key.size : Int) != 32) = false := by simp [hk]
  have hd2 : decide (8000 < (t.size : Int)) = false := by simp; omega
  have hfl := facN_lt key
  obtain ⟨r, hr⟩ : ∃ r, r = facN key := ⟨_, rfl⟩
  rw [← hr] at HT hfl ⊢
  have HFL := Lib.hid hfl
  have HI := Lib.hid (Tryz.infNL (partsL r) (partsL_len _))
  have hk16 : 16 ≤ key.size := by omega
  have HK := Lib.hid hk
  clear hr hfl hk
  go_enter Tryz.func95, Tryz.ntmps95
  go_wp2_with fail
  refine (HT.out _).mono ?_
  rintro e w1 ⟨rfl, hb1⟩
  clear HT
  rename_i hK
  refine hK _ _ ?_
  clear hK
  refine step_to (v := .pointer (some ⟨w1.heap.size, 0, none⟩)) (w' := w1.alloc n5Z) rfl (by first | kernel_rfl | rfl | (go_simp; rfl)) ?_
  refine wpList_store_row rfl _ (.tmp 5) (.tmp 18) rfl w1.heap.size (stK .u64 (partsL r)) rfl rfl _ _ (heap_alloc_new w1 n5Z) HI.out (by rw [stK_size, partsL_len]; rfl) (stK_one _ _) ?_
  have hF2 : Arr ((w1.alloc n5Z).setRow w1.heap.size (stK .u64 (partsL r))) w1.heap.size 138 .u64 (partsL r) := setRow_heap _ _ _ _ _ _ (heap_alloc_new w1 n5Z)
  have hB2 : Below w.heap.size w ((w1.alloc n5Z).setRow w1.heap.size (stK .u64 (partsL r))) := below_setRow (hb1.alloc hb1.size _) hb1.size _
  have hs2 : ((w1.alloc n5Z).setRow w1.heap.size (stK .u64 (partsL r))).heap.size = w1.heap.size + 1 := by rw [size_setRow, World.size_alloc]
  have hs1 := hb1.size
  obtain ⟨w2, hw2⟩ : ∃ w2, w2 = (w1.alloc n5Z).setRow w1.heap.size (stK .u64 (partsL r)) := ⟨_, rfl⟩
  rw [← hw2] at hF2 hB2 hs2 ⊢
  obtain ⟨g5, hg5⟩ : ∃ g5, g5 = w1.heap.size := ⟨_, rfl⟩
  rw [← hg5] at hF2 hs2 hs1 ⊢
  clear hw2 hg5 hb1
  have hF3 := hF2.alloc n5Z
  have hA3 : Arr (w2.alloc n5Z) (g5 + 1) 138 .u64 (partsL (accN r t 0)) := by
    have h := heap_alloc_new w2 n5Z
    rw [hs2] at h
    show Arr (w2.alloc n5Z) (g5 + 1) 138 .u64 (partsL 0)
    rw [partsL_zero]; exact h
  have hB3 : Below w.heap.size w (w2.alloc n5Z) := hB2.alloc (by omega) _
  go_wp2
  clear hF2 hB2 hs2
  go_loopw [7] (fun i wr => ∃ k m : Nat, Hid (m = 16 * k) ∧ m ≤ t.size + 15 ∧ i = .int .i64 m ∧ Arr wr g5 138 .u64 (partsL r) ∧ Arr wr (g5 + 1) 138 .u64 (partsL (accN r t k)) ∧ Below w.heap.size w wr) (fun i _ => t.size + 16 - (intOf i).toNat)
  case atStart => exact ⟨0, 0, Lib.hid rfl, Nat.zero_le _, rfl, hF3, hA3, hB3⟩
  case round =>
    obtain ⟨k, m, hmk, hm, rfl, hF, hA, hB⟩ := hrel
    clear hF3 hA3 hB3
    have hal := accN_lt r t k
    have hbl := blkN_lt t k
    have HST : Hid ((accN r t k + blkN t k) % prm * r % prm = accN r t (k + 1)) := Lib.hid rfl
    obtain ⟨acc, hacc⟩ : ∃ acc, acc = accN r t k := ⟨_, rfl⟩
    rw [← hacc] at hA hal HST
    have HAC := Lib.hid (lt_of_prm2 hal)
    have HBL := Lib.hid hbl
    have HIA := Lib.hid (Tryz.infNL (partsL acc) (partsL_len _))
    have HIN := Lib.hid (Tryz.infNL (partsL (accN r t (k + 1))) (partsL_len _))
    have HACC := Lib.hid hacc
    clear hal hbl hacc
    by_cases hlt : m < t.size
    · by_cases hend : t.size < m + 16
      · have hmn : ((t.size : Int) < (m : Int) + 16) := by omega
        have hps : (t.extract m t.size).size ≤ 16 := by rw [ByteArray.size_extract]; omega
        have hpm : t.size = min (m + 16) t.size := by omega
        have HPM := Lib.hid hpm
        have HPS := Lib.hid hps
        clear hpm hps
        go_wp2
        obtain ⟨p, hp⟩ : ∃ p, p = t.extract m t.size := ⟨_, rfl⟩
        rw [← hp] at HPS ⊢
        have hps := HPS.out
        have HN : Hid (leNat ((p ++ ⟨#[1]⟩ : ByteArray).data.toList) = blkN t k) := Lib.hid (by
          have e := hmk.out
          have h2 := HPM.out
          rw [hp]
          subst e
          exact blk_text t k _ h2)
        have zz : ¬ (9223372036854775807 < p.size + 1) := by omega
        clear hp HPM HPS
        refine wp_region_T (fun w' => Arr w' g5 138 .u64 (partsL r)) (fun w' => Arr w' (g5 + 1) 138 .u64 (partsL acc)) 7 (by kernel_rfl) 8 rfl ?_
        refine wpAnyT_takesA (md := .any) 5 (by kernel_rfl) (by intro d v c a w h; cases d <;> exact h) [1, 2, 5] _ _ _ (by decide) (by kernel_rfl) ⟨hF.drew, fun _ => hA.drew⟩ ?_
        simp only [pick, List.filterMap_cons, List.filterMap_nil, List.getElem?_cons_zero, List.getElem?_cons_succ]
        iterate 2 (refine wpIf_step ?_ (by kernel_rfl) ?_ ?_; rotate_left; (intro w _; go_simp); try with_reducible rfl)
        refine wpIf_step (.agg (stK .u64 (partsL r))) (by kernel_rfl) (fun w hw => by refine load_arr_run (.tmp 5) g5 ?_ ?_ hw Tryz.undN HI.out <;> rfl) ?_
        refine wpIf_nil (fun hS => ?_)
        refine wpAnyT_takesB (md := .any) 4 (by kernel_rfl) (by intro d v c a w h; cases d <;> exact h) [0] _ _ _ (by decide) (by kernel_rfl) (by kernel_rfl) (by kernel_rfl) hS ?_
        simp only [pick, List.filterMap_cons, List.filterMap_nil, List.getElem?_cons_zero]
        refine wpIf_step (.agg (stK .u64 (partsL acc))) (by kernel_rfl) (fun w hw => by refine load_arr_run (.tmp 6) (g5 + 1) ?_ ?_ hw.2 Tryz.undN HIA.out <;> rfl) ?_
        refine wpIf_nil (fun hS2 => ?_)
        clear hS
        refine wpAnyT_one 3 3 (by kernel_rfl) rfl (by kernel_rfl) (fun K hK => ?_)
        go_simp
        have hn := numberOf_any (p ++ ⟨#[1]⟩)
        rw [HN.out] at hn
        have hps17 : (p ++ ⟨#[1]⟩ : ByteArray).size ≤ 17 := by rw [ByteArray.size_append]; show p.size + 1 ≤ 17; omega
        refine (hn _ hps17 HBL.out).mono ?_
        rintro e w3 ⟨rfl, hb3⟩
        have hF3 := hF.drew.below hb3 hF.lt
        have hA3 := hA.drew.below hb3 hA.lt
        have hB3 := hB.drew.trans (hb3.mono hB.drew.size)
        refine hK _ _ ⟨hF3, fun _ => hA3⟩ (fun hS3 => ?_)
        clear hK K hS2 hn hps17 hb3
        refine wpAnyT_one 4 2 (by kernel_rfl) rfl (by kernel_rfl) (fun K hK => ?_)
        go_simp
        refine (sumOf_any acc (blkN t k) _ HAC.out HBL.out).mono ?_
        rintro e w4 ⟨rfl, hb4⟩
        have hF4 := hF3.below hb4 hF3.lt
        have hA4 := hA3.below hb4 hA3.lt
        have hB4 := hB3.trans (hb4.mono hB3.size)
        refine hK _ _ ⟨hF4, fun _ => hA4⟩ (fun hS4 => ?_)
        clear hK K hS3 hb4 hF3 hA3 hB3
        refine wpAnyT_one 6 1 (by kernel_rfl) rfl (by kernel_rfl) (fun K hK => ?_)
        go_simp
        refine (productOf_any ((acc + blkN t k) % prm) r _ (lt_of_prm2 (Nat.mod_lt _ prm_pos)) HFL.out).mono ?_
        rintro e w5 ⟨rfl, hb5⟩
        have hF5 := hF4.below hb5 hF4.lt
        have hA5 := hA4.below hb5 hA4.lt
        have hB5 := hB4.trans (hb5.mono hB4.size)
        refine hK _ _ ⟨hF5, fun _ => hA5⟩ (fun hS5 => ?_)
        clear hK K hS4 hb5 hF4 hA4 hB4
        rw [HST.out]
        have hF6 := hF5.otherRow (g5 + 1) (stK .u64 (partsL (accN r t (k + 1)))) (by omega)
        have hA6 := hA5.row (partsL (accN r t (k + 1))) (by rw [partsL_len, partsL_len])
        have hB6 := below_setRow hB5 (g := g5 + 1) (by omega) (stK .u64 (partsL (accN r t (k + 1))))
        refine wpAnyT_one 7 0 (by kernel_rfl) rfl (by kernel_rfl) (fun K hK => ?_)
        refine wp_store_row _ (.tmp 6) (.tmp 39) rfl (g5 + 1) (stK .u64 (partsL (accN r t (k + 1)))) rfl rfl _ _ hA5 HIN.out (by rw [stK_size, stK_size, partsL_len, partsL_len]) (stK_one _ _) ?_
        refine hK _ _ ⟨hF6, fun h => by exact absurd h (by decide)⟩ (fun hS6 => ?_)
        clear hK K hS5 hF5 hA5 hB5
        refine wpAnyT_over (by kernel_rfl) ?_
        go_wp2
        go_roundw
        case rel => exact ⟨k + 1, m + 16, Lib.hid (by rw [hmk.out]; omega), by omega, by go_num, hF6, hA6, hB6⟩
        case measure => simp [intOf]; omega
      · have hmn : ¬ ((t.size : Int) < (m : Int) + 16) := by omega
        have hps : (t.extract m (m + 16)).size ≤ 16 := by rw [ByteArray.size_extract]; omega
        have hpm : (m + 16) = min (m + 16) t.size := by omega
        have HPM := Lib.hid hpm
        have HPS := Lib.hid hps
        clear hpm hps
        go_wp2
        obtain ⟨p, hp⟩ : ∃ p, p = t.extract m (m + 16) := ⟨_, rfl⟩
        rw [← hp] at HPS ⊢
        have hps := HPS.out
        have HN : Hid (leNat ((p ++ ⟨#[1]⟩ : ByteArray).data.toList) = blkN t k) := Lib.hid (by
          have e := hmk.out
          have h2 := HPM.out
          rw [hp]
          subst e
          exact blk_text t k _ h2)
        have zz : ¬ (9223372036854775807 < p.size + 1) := by omega
        clear hp HPM HPS
        refine wp_region_T (fun w' => Arr w' g5 138 .u64 (partsL r)) (fun w' => Arr w' (g5 + 1) 138 .u64 (partsL acc)) 7 (by kernel_rfl) 8 rfl ?_
        refine wpAnyT_takesA (md := .any) 5 (by kernel_rfl) (by intro d v c a w h; cases d <;> exact h) [1, 2, 5] _ _ _ (by decide) (by kernel_rfl) ⟨hF.drew, fun _ => hA.drew⟩ ?_
        simp only [pick, List.filterMap_cons, List.filterMap_nil, List.getElem?_cons_zero, List.getElem?_cons_succ]
        iterate 2 (refine wpIf_step ?_ (by kernel_rfl) ?_ ?_; rotate_left; (intro w _; go_simp); try with_reducible rfl)
        refine wpIf_step (.agg (stK .u64 (partsL r))) (by kernel_rfl) (fun w hw => by refine load_arr_run (.tmp 5) g5 ?_ ?_ hw Tryz.undN HI.out <;> rfl) ?_
        refine wpIf_nil (fun hS => ?_)
        refine wpAnyT_takesB (md := .any) 4 (by kernel_rfl) (by intro d v c a w h; cases d <;> exact h) [0] _ _ _ (by decide) (by kernel_rfl) (by kernel_rfl) (by kernel_rfl) hS ?_
        simp only [pick, List.filterMap_cons, List.filterMap_nil, List.getElem?_cons_zero]
        refine wpIf_step (.agg (stK .u64 (partsL acc))) (by kernel_rfl) (fun w hw => by refine load_arr_run (.tmp 6) (g5 + 1) ?_ ?_ hw.2 Tryz.undN HIA.out <;> rfl) ?_
        refine wpIf_nil (fun hS2 => ?_)
        clear hS
        refine wpAnyT_one 3 3 (by kernel_rfl) rfl (by kernel_rfl) (fun K hK => ?_)
        go_simp
        have hn := numberOf_any (p ++ ⟨#[1]⟩)
        rw [HN.out] at hn
        have hps17 : (p ++ ⟨#[1]⟩ : ByteArray).size ≤ 17 := by rw [ByteArray.size_append]; show p.size + 1 ≤ 17; omega
        refine (hn _ hps17 HBL.out).mono ?_
        rintro e w3 ⟨rfl, hb3⟩
        have hF3 := hF.drew.below hb3 hF.lt
        have hA3 := hA.drew.below hb3 hA.lt
        have hB3 := hB.drew.trans (hb3.mono hB.drew.size)
        refine hK _ _ ⟨hF3, fun _ => hA3⟩ (fun hS3 => ?_)
        clear hK K hS2 hn hps17 hb3
        refine wpAnyT_one 4 2 (by kernel_rfl) rfl (by kernel_rfl) (fun K hK => ?_)
        go_simp
        refine (sumOf_any acc (blkN t k) _ HAC.out HBL.out).mono ?_
        rintro e w4 ⟨rfl, hb4⟩
        have hF4 := hF3.below hb4 hF3.lt
        have hA4 := hA3.below hb4 hA3.lt
        have hB4 := hB3.trans (hb4.mono hB3.size)
        refine hK _ _ ⟨hF4, fun _ => hA4⟩ (fun hS4 => ?_)
        clear hK K hS3 hb4 hF3 hA3 hB3
        refine wpAnyT_one 6 1 (by kernel_rfl) rfl (by kernel_rfl) (fun K hK => ?_)
        go_simp
        refine (productOf_any ((acc + blkN t k) % prm) r _ (lt_of_prm2 (Nat.mod_lt _ prm_pos)) HFL.out).mono ?_
        rintro e w5 ⟨rfl, hb5⟩
        have hF5 := hF4.below hb5 hF4.lt
        have hA5 := hA4.below hb5 hA4.lt
        have hB5 := hB4.trans (hb5.mono hB4.size)
        refine hK _ _ ⟨hF5, fun _ => hA5⟩ (fun hS5 => ?_)
        clear hK K hS4 hb5 hF4 hA4 hB4
        rw [HST.out]
        have hF6 := hF5.otherRow (g5 + 1) (stK .u64 (partsL (accN r t (k + 1)))) (by omega)
        have hA6 := hA5.row (partsL (accN r t (k + 1))) (by rw [partsL_len, partsL_len])
        have hB6 := below_setRow hB5 (g := g5 + 1) (by omega) (stK .u64 (partsL (accN r t (k + 1))))
        refine wpAnyT_one 7 0 (by kernel_rfl) rfl (by kernel_rfl) (fun K hK => ?_)
        refine wp_store_row _ (.tmp 6) (.tmp 39) rfl (g5 + 1) (stK .u64 (partsL (accN r t (k + 1)))) rfl rfl _ _ hA5 HIN.out (by rw [stK_size, stK_size, partsL_len, partsL_len]) (stK_one _ _) ?_
        refine hK _ _ ⟨hF6, fun h => by exact absurd h (by decide)⟩ (fun hS6 => ?_)
        clear hK K hS5 hF5 hA5 hB5
        refine wpAnyT_over (by kernel_rfl) ?_
        go_wp2
        go_roundw
        case rel => exact ⟨k + 1, m + 16, Lib.hid (by rw [hmk.out]; omega), by omega, by go_num, hF6, hA6, hB6⟩
        case measure => simp [intOf]; omega
    · have hkn : k = nBlk t := by have := hmk.out; unfold nBlk; omega
      have hts := txtR_size acc
      have htl : ((txtR acc).extract 0 16).data.toList = (leBy 17 acc).take 16 := by
        rw [ByteArray.data_extract, Array.toList_extract, List.extract_eq_take_drop]
        show ((leBy 17 acc).drop 0).take (16 - 0) = _
        simp
      have hkl : (key.extract 16 key.size).data.toList = key.data.toList.drop 16 := by
        rw [ByteArray.data_extract, Array.toList_extract, List.extract_eq_take_drop, List.take_of_length_le (by simp)]
      have hzz1 : ((txtR acc).extract 0 16).size = 16 := by rw [ByteArray.size_extract, hts]; rfl
      have hzz2 : (key.extract 16 key.size).size = 16 := by rw [ByteArray.size_extract, HK.out]; rfl
      have had := fun w => addedBytes_any ((txtR acc).extract 0 16) (key.extract 16 key.size) w hzz1 hzz2
      rw [htl, hkl] at had
      have HADD := Lib.hid had
      have hR : sumR 16 ((leBy 17 (accN r t (nBlk t))).take 16) (key.data.toList.drop 16) = sumR 16 ((leBy 17 acc).take 16) (key.data.toList.drop 16) := by rw [← hkn, ← HACC.out]
      obtain ⟨RR, hRR⟩ : ∃ RR : ByteArray, RR = ⟨(sumR 16 ((leBy 17 acc).take 16) (key.data.toList.drop 16)).toArray⟩ := ⟨_, rfl⟩
      rw [← hRR] at HADD
      have HRR : Hid (RR = ⟨(sumR 16 ((leBy 17 (accN r t (nBlk t))).take 16) (key.data.toList.drop 16)).toArray⟩) := Lib.hid (by rw [hR, hRR])
      obtain ⟨X, hX⟩ : ∃ X, X = txtR acc := ⟨_, rfl⟩
      rw [← hX] at HADD hts
      have hnt := fun w => numberText_any acc w HAC.out
      rw [← hX] at hnt
      have HNT := Lib.hid hnt
      have hx16 : (16 : Int) ≤ (X.size : Int) := by omega
      have hx16' : 16 ≤ X.size := by omega
      have hk16' : (16 : Int) ≤ (key.size : Int) := by omega
      clear hkn htl hkl hzz1 hzz2 had hR hRR hX hnt hts HST HBL HIN HACC HAC HFL
      go_wp2
      refine wp_region_T (fun w' => Arr w' (g5 + 1) 138 .u64 (partsL acc)) (fun _ => True) 6 (by kernel_rfl) 7 rfl ?_
      refine wpAnyT_takesA (md := .any) 4 (by kernel_rfl) (by intro d v c a w h; cases d <;> exact h) [0, 3, 4] _ _ _ (by decide) (by kernel_rfl) ⟨hA.drew, fun _ => trivial⟩ ?_
      simp only [pick, List.filterMap_cons, List.filterMap_nil, List.getElem?_cons_zero, List.getElem?_cons_succ]
      refine wpIf_step (.agg (stK .u64 (partsL acc))) (by kernel_rfl) (fun w hw => by refine load_arr_run (.tmp 6) (g5 + 1) ?_ ?_ hw Tryz.undN HIA.out <;> rfl) ?_
      iterate 2 (refine wpIf_step ?_ (by kernel_rfl) ?_ ?_; rotate_left; (intro w _; go_simp); try with_reducible rfl)
      refine wpIf_nil (fun hS => ?_)
      refine wpAnyT_one 1 3 (by kernel_rfl) rfl (by kernel_rfl) (fun K hK => ?_)
      go_simp
      refine (HNT.out _).mono ?_
      rintro e w3 ⟨rfl, hb3⟩
      have hA3 := hA.drew.below hb3 hA.lt
      have hB3 := hB.drew.trans (hb3.mono hB.drew.size)
      refine hK _ _ ⟨hA3, fun _ => trivial⟩ (fun hS3 => ?_)
      clear hK K hS hb3
      refine wpAnyT_takesA (md := .any) 2 (by kernel_rfl) (by intro d v c a w h; cases d <;> exact h) [2] _ _ _ (by decide) (by kernel_rfl) hS3 ?_
      simp only [pick, List.filterMap_cons, List.filterMap_nil, List.getElem?_cons_zero, List.getElem?_cons_succ]
      iterate 1 (refine wpIf_step ?_ (by kernel_rfl) ?_ ?_; rotate_left; (intro w _; go_simp); try with_reducible rfl)
      refine wpIf_nil (fun hS4 => ?_)
      clear hS3
      refine wpAnyT_one 5 1 (by kernel_rfl) rfl (by kernel_rfl) (fun K hK => ?_)
      go_simp
      refine (HADD.out _).mono ?_
      rintro e w5 ⟨rfl, hb5⟩
      have hA5 := hA3.below hb5 hA3.lt
      have hB5 := hB3.trans (hb5.mono hB3.size)
      refine hK _ _ ⟨hA5, fun _ => trivial⟩ (fun hS5 => ?_)
      clear hK K hS4 hb5 hA3 hB3
      refine wpAnyT_one 6 0 (by kernel_rfl) rfl (by kernel_rfl) (fun K hK => ?_)
      go_simp
      refine hK _ _ ⟨hA5, fun _ => trivial⟩ (fun hS6 => ?_)
      clear hK K
      refine wpAnyT_over (by kernel_rfl) ?_
      go_wp2
      go_ret
      exact ⟨ret_str HRR.out, hB5⟩
end Go.Proofs.YtlipgmaiooljkaaGreatDoor

/- W3h -/
namespace Go.Proofs.YtlipgmaiooljkaaGreatDoor
open Go.ChangeShapes Go.WideShapes Go.ChangeAt Go.RowKit
set_option linter.unusedVariables false

theorem val17_lt (s : ByteArray) (h : s.size = 17) : leNat s.data.toList < 2 ^ 136 := by
  have := leNat_lt s.data.toList
  rw [show s.data.toList.length = 17 by simpa using h] at this
  exact this
theorem okR_txt (s : ByteArray) (h : s.size = 17) : ((txtR (leNat s.data.toList % 2 ^ 130 % prm)).toList == s.toList) = okR s := by
  rw [str_eq]
  have hv := val17_lt s h
  have hsl : s.data.toList.length = 17 := by simpa using h
  have hback : leBy 17 (leNat s.data.toList) = s.data.toList := by have := leBy_leNat s.data.toList; rw [hsl] at this; exact this
  unfold okR
  by_cases hl : leNat s.data.toList < prm
  · have e : leNat s.data.toList % 2 ^ 130 % prm = leNat s.data.toList := by
      unfold prm at hl ⊢
      generalize leNat s.data.toList = v at *
      omega
    have e2 : txtR (leNat s.data.toList) = s := by
      unfold txtR; rw [hback]
    rw [e, e2]; simp [h, hl]
  · have hne : txtR (leNat s.data.toList % 2 ^ 130 % prm) ≠ s := by
      intro e'
      have e := e'.symm
      have e3 : leNat s.data.toList = leNat s.data.toList % 2 ^ 130 % prm % 256 ^ 17 := by
        have := congrArg (fun b : ByteArray => leNat b.data.toList) e
        simp only [txtR] at this
        rw [leNat_leBy] at this
        exact this
      have := Nat.mod_lt (leNat s.data.toList % 2 ^ 130) prm_pos
      have h4 := Nat.mod_le (leNat s.data.toList % 2 ^ 130 % prm) (256 ^ 17)
      omega
    simp [hne, h, hl]

/-- NumAdd, NumMul, as the document says them. -/
def addR (a b : ByteArray) : ByteArray := if okR a = true ∧ okR b = true then txtR ((leNat a.data.toList + leNat b.data.toList) % prm) else ⟨#[]⟩
def mulR (a b : ByteArray) : ByteArray := if okR a = true ∧ okR b = true then txtR (leNat a.data.toList * leNat b.data.toList % prm) else ⟨#[]⟩
theorem okR_lt {s : ByteArray} (h : okR s = true) : s.size = 17 ∧ leNat s.data.toList < prm := by
  unfold okR at h; exact of_decide_eq_true h
theorem lt_of_prm {v : Nat} (h : v < prm) : v < 1361129467683753853853498429727072845824 := Nat.lt_of_lt_of_le h (by unfold prm; decide)

theorem l3LoadP_any (s : ByteArray) (w : World) (hs : s.size ≤ 17) (hv : leNat s.data.toList < 1361129467683753853853498429727072845824) :
    Calls Tryz.prog 116 #[.string s] w fun e w' => e = .returned (.agg (stK .i64 (partsL (leNat s.data.toList)))) ∧ Below w.heap.size w w' := by
  have h := l3Load_any s w hs
  rw [Nat.mod_eq_of_lt (show leNat s.data.toList < 2 ^ 130 from hv)] at h
  exact h

end Go.Proofs.YtlipgmaiooljkaaGreatDoor

/- W3k -/
namespace Go.Proofs.YtlipgmaiooljkaaGreatDoor
open Go.ChangeShapes Go.WideShapes Go.ChangeAt Go.RowKit
set_option linter.unusedVariables false

set_option maxRecDepth 100000 in
set_option maxHeartbeats 3200000 in
theorem l3Tag_any (key t : ByteArray) (w : World) (hk : key.size = 32) (ht : t.size ≤ 100000) :
    Calls Tryz.prog 87 #[.string key, .string t] w fun e w' => e = .returned (.string ⟨(sumR 16 ((leBy 17 (accN (facN key) t (nBlk t))).take 16) (key.data.toList.drop 16)).toArray⟩) ∧ Below w.heap.size w w' := by
  have hks : (key.extract 0 16).size = 16 := by rw [ByteArray.size_extract]; omega
  have hkl : (key.extract 0 16).data.toList = key.data.toList.take 16 := by
    rw [ByteArray.data_extract, Array.toList_extract, List.extract_eq_take_drop]; simp
  have hfl := facN_lt key
  have hcl := fun w => l3Clamp_any (key.extract 0 16) w hks
  rw [hkl] at hcl
  obtain ⟨C, hC⟩ : ∃ C : ByteArray, C = ⟨(bytesOf (clZ (intsOf (key.data.toList.take 16)))).toArray⟩ := ⟨_, rfl⟩
  rw [← hC] at hcl
  have hCl : C.data.toList = bytesOf (clZ (intsOf (key.data.toList.take 16))) := by rw [hC]
  have hCn : leNat C.data.toList = facN key := by rw [hCl]; rfl
  have hCs : C.size ≤ 17 := by
    have h1 : C.data.toList.length ≤ 16 := by rw [hCl]; unfold bytesOf; rw [List.length_map, clZ_len]; unfold intsOf; rw [List.length_map, List.length_take]; omega
    have h2 : C.data.toList.length = C.size := by simp
    omega
  have hld := fun w => l3LoadP_any C w hCs (by rw [hCn]; exact hfl)
  rw [hCn] at hld
  obtain ⟨r, hr⟩ : ∃ r, r = facN key := ⟨_, rfl⟩
  rw [← hr] at hld hfl ⊢
  have HCL := Lib.hid hcl
  have HLD := Lib.hid hld
  have HFL := Lib.hid hfl
  have HI := Lib.hid (Tryz.infSL (partsL r) (partsL_len _))
  have hk16 : (16 : Int) ≤ (key.size : Int) := by omega
  have hk16n : 16 ≤ key.size := by omega
  have HK := Lib.hid hk
  clear hr hfl hld hcl hC hCl hCn hCs hks hkl hk
  go_enter Tryz.func87, Tryz.ntmps87
  go_wp2_with fail
  refine (HCL.out _).mono ?_
  rintro e w0 ⟨rfl, hb0⟩
  go_wp2_with fail
  refine (HLD.out _).mono ?_
  rintro e w1 ⟨rfl, hb1'⟩
  have hb1 := hb0.trans (hb1'.mono hb0.size)
  clear HCL HLD hb0 hb1'
  rename_i hK
  refine hK _ _ ?_
  clear hK
  refine step_to (v := .pointer (some ⟨w1.heap.size, 0, none⟩)) (w' := w1.alloc s5Z) rfl (by first | kernel_rfl | rfl | (go_simp; rfl)) ?_
  refine wpList_store_row rfl _ (.tmp 5) (.tmp 16) rfl w1.heap.size (stK .i64 (partsL r)) rfl rfl _ _ (heap_alloc_new w1 s5Z) HI.out (by rw [stK_size, partsL_len]; rfl) (stK_one _ _) ?_
  have hF2 : Arr ((w1.alloc s5Z).setRow w1.heap.size (stK .i64 (partsL r))) w1.heap.size 127 .i64 (partsL r) := setRow_heap _ _ _ _ _ _ (heap_alloc_new w1 s5Z)
  have hB2 : Below w.heap.size w ((w1.alloc s5Z).setRow w1.heap.size (stK .i64 (partsL r))) := below_setRow (hb1.alloc hb1.size _) hb1.size _
  have hs2 : ((w1.alloc s5Z).setRow w1.heap.size (stK .i64 (partsL r))).heap.size = w1.heap.size + 1 := by rw [size_setRow, World.size_alloc]
  have hs1 := hb1.size
  obtain ⟨w2, hw2⟩ : ∃ w2, w2 = (w1.alloc s5Z).setRow w1.heap.size (stK .i64 (partsL r)) := ⟨_, rfl⟩
  rw [← hw2] at hF2 hB2 hs2 ⊢
  obtain ⟨g5, hg5⟩ : ∃ g5, g5 = w1.heap.size := ⟨_, rfl⟩
  rw [← hg5] at hF2 hs2 hs1 ⊢
  clear hw2 hg5 hb1
  have hF3 := hF2.alloc s5Z
  have hA3 : Arr (w2.alloc s5Z) w2.heap.size 127 .i64 (partsL (accN r t 0)) := by
    have h := heap_alloc_new w2 s5Z
    show Arr (w2.alloc s5Z) w2.heap.size 127 .i64 (partsL 0)
    rw [partsL_zero]; exact h
  have hB3 : Below w.heap.size w (w2.alloc s5Z) := hB2.alloc (by omega) _
  have hg56 : g5 < w2.heap.size := by omega
  have hwg : w.heap.size ≤ w2.heap.size := by omega
  clear hs2
  go_wp2
  obtain ⟨g6, hg6⟩ : ∃ g6, g6 = w2.heap.size := ⟨_, rfl⟩
  rw [← hg6] at hA3 hg56 hwg ⊢
  clear hF2 hB2 hg6
  go_loopw [7] (fun i wr => ∃ k m : Nat, Hid (m = 16 * k) ∧ m ≤ t.size + 15 ∧ i = .int .i64 m ∧ Arr wr g5 127 .i64 (partsL r) ∧ Arr wr g6 127 .i64 (partsL (accN r t k)) ∧ Below w.heap.size w wr) (fun i _ => t.size + 16 - (intOf i).toNat)
  case atStart => exact ⟨0, 0, Lib.hid rfl, Nat.zero_le _, rfl, hF3, hA3, hB3⟩
  case round =>
    obtain ⟨k, m, hmk, hm, rfl, hF, hA, hB⟩ := hrel
    clear hF3 hA3 hB3
    have hal := accN_lt r t k
    have hbl := blkN_lt t k
    have HST : Hid ((accN r t k + blkN t k) % prm * r % prm = accN r t (k + 1)) := Lib.hid rfl
    obtain ⟨acc, hacc⟩ : ∃ acc, acc = accN r t k := ⟨_, rfl⟩
    rw [← hacc] at hA hal HST
    have HAC := Lib.hid (lt_of_prm2 hal)
    have HBL := Lib.hid hbl
    have HIA := Lib.hid (Tryz.infSL (partsL acc) (partsL_len _))
    have HIN := Lib.hid (Tryz.infSL (partsL (accN r t (k + 1))) (partsL_len _))
    have HACC := Lib.hid hacc
    clear hal hbl hacc
    by_cases hlt : m < t.size
    · by_cases hend : t.size < m + 16
      · have hmn : ((t.size : Int) < (m : Int) + 16) := by omega
        have hps : (t.extract m t.size).size ≤ 16 := by rw [ByteArray.size_extract]; omega
        have hpm : t.size = min (m + 16) t.size := by omega
        have HPM := Lib.hid hpm
        have HPS := Lib.hid hps
        clear hpm hps
        go_wp2
        obtain ⟨p, hp⟩ : ∃ p, p = t.extract m t.size := ⟨_, rfl⟩
        rw [← hp] at HPS ⊢
        have hps := HPS.out
        have HN : Hid (leNat ((p ++ ⟨#[1]⟩ : ByteArray).data.toList) = blkN t k) := Lib.hid (by
          have e := hmk.out
          have h2 := HPM.out
          rw [hp]
          subst e
          exact blk_text t k _ h2)
        have zz : ¬ (9223372036854775807 < p.size + 1) := by omega
        clear hp HPM HPS
        refine wp_region_T (fun w' => Arr w' g5 127 .i64 (partsL r)) (fun w' => Arr w' (g6) 127 .i64 (partsL acc)) 7 (by kernel_rfl) 8 rfl ?_
        refine wpAnyT_takesA (md := .any) 5 (by kernel_rfl) (by intro d v c a w h; cases d <;> exact h) [1, 2, 5] _ _ _ (by decide) (by kernel_rfl) ⟨hF.drew, fun _ => hA.drew⟩ ?_
        simp only [pick, List.filterMap_cons, List.filterMap_nil, List.getElem?_cons_zero, List.getElem?_cons_succ]
        iterate 2 (refine wpIf_step ?_ (by kernel_rfl) ?_ ?_; rotate_left; (intro w _; go_simp); try with_reducible rfl)
        refine wpIf_step (.agg (stK .i64 (partsL r))) (by kernel_rfl) (fun w hw => by refine load_arr_run (.tmp 5) g5 ?_ ?_ hw Tryz.undS HI.out <;> rfl) ?_
        refine wpIf_nil (fun hS => ?_)
        refine wpAnyT_takesB (md := .any) 4 (by kernel_rfl) (by intro d v c a w h; cases d <;> exact h) [0] _ _ _ (by decide) (by kernel_rfl) (by kernel_rfl) (by kernel_rfl) hS ?_
        simp only [pick, List.filterMap_cons, List.filterMap_nil, List.getElem?_cons_zero]
        refine wpIf_step (.agg (stK .i64 (partsL acc))) (by kernel_rfl) (fun w hw => by refine load_arr_run (.tmp 6) (g6) ?_ ?_ hw.2 Tryz.undS HIA.out <;> rfl) ?_
        refine wpIf_nil (fun hS2 => ?_)
        clear hS
        refine wpAnyT_one 3 3 (by kernel_rfl) rfl (by kernel_rfl) (fun K hK => ?_)
        go_simp
        have hn := l3LoadP_any (p ++ ⟨#[1]⟩)
        rw [HN.out] at hn
        have hps17 : (p ++ ⟨#[1]⟩ : ByteArray).size ≤ 17 := by rw [ByteArray.size_append]; show p.size + 1 ≤ 17; omega
        refine (hn _ hps17 HBL.out).mono ?_
        rintro e w3 ⟨rfl, hb3⟩
        have hF3 := hF.drew.below hb3 hF.lt
        have hA3 := hA.drew.below hb3 hA.lt
        have hB3 := hB.drew.trans (hb3.mono hB.drew.size)
        refine hK _ _ ⟨hF3, fun _ => hA3⟩ (fun hS3 => ?_)
        clear hK K hS2 hn hps17 hb3
        refine wpAnyT_one 4 2 (by kernel_rfl) rfl (by kernel_rfl) (fun K hK => ?_)
        go_simp
        refine (l3Add_any acc (blkN t k) _ HAC.out HBL.out).mono ?_
        rintro e w4 ⟨rfl, hb4⟩
        have hF4 := hF3.below hb4 hF3.lt
        have hA4 := hA3.below hb4 hA3.lt
        have hB4 := hB3.trans (hb4.mono hB3.size)
        refine hK _ _ ⟨hF4, fun _ => hA4⟩ (fun hS4 => ?_)
        clear hK K hS3 hb4 hF3 hA3 hB3
        refine wpAnyT_one 6 1 (by kernel_rfl) rfl (by kernel_rfl) (fun K hK => ?_)
        go_simp
        refine (l3Mul_any ((acc + blkN t k) % prm) r _ (lt_of_prm2 (Nat.mod_lt _ prm_pos)) HFL.out).mono ?_
        rintro e w5 ⟨rfl, hb5⟩
        have hF5 := hF4.below hb5 hF4.lt
        have hA5 := hA4.below hb5 hA4.lt
        have hB5 := hB4.trans (hb5.mono hB4.size)
        refine hK _ _ ⟨hF5, fun _ => hA5⟩ (fun hS5 => ?_)
        clear hK K hS4 hb5 hF4 hA4 hB4
        rw [HST.out]
        have hF6 := hF5.otherRow (g6) (stK .i64 (partsL (accN r t (k + 1)))) (by omega)
        have hA6 := hA5.row (partsL (accN r t (k + 1))) (by rw [partsL_len, partsL_len])
        have hB6 := below_setRow hB5 (g := g6) (by omega) (stK .i64 (partsL (accN r t (k + 1))))
        refine wpAnyT_one 7 0 (by kernel_rfl) rfl (by kernel_rfl) (fun K hK => ?_)
        refine wp_store_row _ (.tmp 6) (.tmp 38) rfl (g6) (stK .i64 (partsL (accN r t (k + 1)))) rfl rfl _ _ hA5 HIN.out (by rw [stK_size, stK_size, partsL_len, partsL_len]) (stK_one _ _) ?_
        refine hK _ _ ⟨hF6, fun h => by exact absurd h (by decide)⟩ (fun hS6 => ?_)
        clear hK K hS5 hF5 hA5 hB5
        refine wpAnyT_over (by kernel_rfl) ?_
        go_wp2
        go_roundw
        case rel => exact ⟨k + 1, m + 16, Lib.hid (by rw [hmk.out]; omega), by omega, by go_num, hF6, hA6, hB6⟩
        case measure => simp [intOf]; omega
      · have hmn : ¬ ((t.size : Int) < (m : Int) + 16) := by omega
        have hps : (t.extract m (m + 16)).size ≤ 16 := by rw [ByteArray.size_extract]; omega
        have hpm : (m + 16) = min (m + 16) t.size := by omega
        have HPM := Lib.hid hpm
        have HPS := Lib.hid hps
        clear hpm hps
        go_wp2
        obtain ⟨p, hp⟩ : ∃ p, p = t.extract m (m + 16) := ⟨_, rfl⟩
        rw [← hp] at HPS ⊢
        have hps := HPS.out
        have HN : Hid (leNat ((p ++ ⟨#[1]⟩ : ByteArray).data.toList) = blkN t k) := Lib.hid (by
          have e := hmk.out
          have h2 := HPM.out
          rw [hp]
          subst e
          exact blk_text t k _ h2)
        have zz : ¬ (9223372036854775807 < p.size + 1) := by omega
        clear hp HPM HPS
        refine wp_region_T (fun w' => Arr w' g5 127 .i64 (partsL r)) (fun w' => Arr w' (g6) 127 .i64 (partsL acc)) 7 (by kernel_rfl) 8 rfl ?_
        refine wpAnyT_takesA (md := .any) 5 (by kernel_rfl) (by intro d v c a w h; cases d <;> exact h) [1, 2, 5] _ _ _ (by decide) (by kernel_rfl) ⟨hF.drew, fun _ => hA.drew⟩ ?_
        simp only [pick, List.filterMap_cons, List.filterMap_nil, List.getElem?_cons_zero, List.getElem?_cons_succ]
        iterate 2 (refine wpIf_step ?_ (by kernel_rfl) ?_ ?_; rotate_left; (intro w _; go_simp); try with_reducible rfl)
        refine wpIf_step (.agg (stK .i64 (partsL r))) (by kernel_rfl) (fun w hw => by refine load_arr_run (.tmp 5) g5 ?_ ?_ hw Tryz.undS HI.out <;> rfl) ?_
        refine wpIf_nil (fun hS => ?_)
        refine wpAnyT_takesB (md := .any) 4 (by kernel_rfl) (by intro d v c a w h; cases d <;> exact h) [0] _ _ _ (by decide) (by kernel_rfl) (by kernel_rfl) (by kernel_rfl) hS ?_
        simp only [pick, List.filterMap_cons, List.filterMap_nil, List.getElem?_cons_zero]
        refine wpIf_step (.agg (stK .i64 (partsL acc))) (by kernel_rfl) (fun w hw => by refine load_arr_run (.tmp 6) (g6) ?_ ?_ hw.2 Tryz.undS HIA.out <;> rfl) ?_
        refine wpIf_nil (fun hS2 => ?_)
        clear hS
        refine wpAnyT_one 3 3 (by kernel_rfl) rfl (by kernel_rfl) (fun K hK => ?_)
        go_simp
        have hn := l3LoadP_any (p ++ ⟨#[1]⟩)
        rw [HN.out] at hn
        have hps17 : (p ++ ⟨#[1]⟩ : ByteArray).size ≤ 17 := by rw [ByteArray.size_append]; show p.size + 1 ≤ 17; omega
        refine (hn _ hps17 HBL.out).mono ?_
        rintro e w3 ⟨rfl, hb3⟩
        have hF3 := hF.drew.below hb3 hF.lt
        have hA3 := hA.drew.below hb3 hA.lt
        have hB3 := hB.drew.trans (hb3.mono hB.drew.size)
        refine hK _ _ ⟨hF3, fun _ => hA3⟩ (fun hS3 => ?_)
        clear hK K hS2 hn hps17 hb3
        refine wpAnyT_one 4 2 (by kernel_rfl) rfl (by kernel_rfl) (fun K hK => ?_)
        go_simp
        refine (l3Add_any acc (blkN t k) _ HAC.out HBL.out).mono ?_
        rintro e w4 ⟨rfl, hb4⟩
        have hF4 := hF3.below hb4 hF3.lt
        have hA4 := hA3.below hb4 hA3.lt
        have hB4 := hB3.trans (hb4.mono hB3.size)
        refine hK _ _ ⟨hF4, fun _ => hA4⟩ (fun hS4 => ?_)
        clear hK K hS3 hb4 hF3 hA3 hB3
        refine wpAnyT_one 6 1 (by kernel_rfl) rfl (by kernel_rfl) (fun K hK => ?_)
        go_simp
        refine (l3Mul_any ((acc + blkN t k) % prm) r _ (lt_of_prm2 (Nat.mod_lt _ prm_pos)) HFL.out).mono ?_
        rintro e w5 ⟨rfl, hb5⟩
        have hF5 := hF4.below hb5 hF4.lt
        have hA5 := hA4.below hb5 hA4.lt
        have hB5 := hB4.trans (hb5.mono hB4.size)
        refine hK _ _ ⟨hF5, fun _ => hA5⟩ (fun hS5 => ?_)
        clear hK K hS4 hb5 hF4 hA4 hB4
        rw [HST.out]
        have hF6 := hF5.otherRow (g6) (stK .i64 (partsL (accN r t (k + 1)))) (by omega)
        have hA6 := hA5.row (partsL (accN r t (k + 1))) (by rw [partsL_len, partsL_len])
        have hB6 := below_setRow hB5 (g := g6) (by omega) (stK .i64 (partsL (accN r t (k + 1))))
        refine wpAnyT_one 7 0 (by kernel_rfl) rfl (by kernel_rfl) (fun K hK => ?_)
        refine wp_store_row _ (.tmp 6) (.tmp 38) rfl (g6) (stK .i64 (partsL (accN r t (k + 1)))) rfl rfl _ _ hA5 HIN.out (by rw [stK_size, stK_size, partsL_len, partsL_len]) (stK_one _ _) ?_
        refine hK _ _ ⟨hF6, fun h => by exact absurd h (by decide)⟩ (fun hS6 => ?_)
        clear hK K hS5 hF5 hA5 hB5
        refine wpAnyT_over (by kernel_rfl) ?_
        go_wp2
        go_roundw
        case rel => exact ⟨k + 1, m + 16, Lib.hid (by rw [hmk.out]; omega), by omega, by go_num, hF6, hA6, hB6⟩
        case measure => simp [intOf]; omega
    · have hkn : k = nBlk t := by have := hmk.out; unfold nBlk; omega
      have hts := txtR_size acc
      have HTL : Hid ((txtR acc).data.toList = leBy 17 acc) := Lib.hid rfl
      obtain ⟨X, hX⟩ : ∃ X, X = txtR acc := ⟨_, rfl⟩
      rw [← hX] at HTL hts
      have hnt := fun w => l3Store_any acc w HAC.out
      rw [← hX] at hnt
      have HNT := Lib.hid hnt
      have hkl : (key.data.toList.drop 16).length = 16 := by rw [List.length_drop]; have := HK.out; simp; omega
      have htl : ((leBy 17 acc).take 16).length = 16 := by rw [List.length_take, leBy_len]; rfl
      obtain ⟨A, hAe⟩ : ∃ A, A = (leBy 17 acc).take 16 := ⟨_, rfl⟩
      obtain ⟨B, hBe⟩ : ∃ B, B = key.data.toList.drop 16 := ⟨_, rfl⟩
      have HR : Hid (sumR 16 A B = sumR 16 ((leBy 17 (accN r t (nBlk t))).take 16) (key.data.toList.drop 16)) := Lib.hid (by rw [hAe, hBe, ← hkn, ← HACC.out])
      have HGA : Hid (∀ (j : Nat) (h : j < 16) (h2 : j < A.length) (h3 : j < X.size), A[j] = X[j]) := Lib.hid (fun j h h2 h3 => by
        have e1 : X[j] = X.data.toList[j]'(by simpa using h3) := rfl
        rw [e1]
        have e2 := HTL.out
        simp only [hAe, List.getElem_take, e2])
      have HGB : Hid (∀ (j : Nat) (h : j < B.length) (h3 : 16 + j < key.size), B[j] = key[16 + j]) := Lib.hid (fun j h h3 => by
        have e1 : key[16 + j] = key.data.toList[16 + j]'(by simpa using h3) := rfl
        rw [e1]
        simp only [hBe, List.getElem_drop])
      rw [← hAe] at htl
      rw [← hBe] at hkl
      have HAL := Lib.hid htl
      have HBL2 := Lib.hid hkl
      have HS := Lib.hid (ov_step A B)
      have HE : Hid (leBy 16 (leNat (A.take 16) + leNat (B.take 16)) = sumR 16 A B) := Lib.hid (by
        rw [List.take_of_length_le (by omega), List.take_of_length_le (by omega)]; rfl)
      have hx17 : 17 ≤ X.size := by omega
      have hk32 : 32 ≤ key.size := by have := HK.out; omega
      have HAA := Lib.hid hA
      clear hkn hX hnt hkl htl hts HST HBL HIN HACC HAC HFL hAe hBe hA
      go_wp2_with (first | (refine wpList_load_row rfl _ (.tmp 6) rfl g6 rfl _ _ _ _ HAA.out Tryz.undS rfl HIA.out ?_))
      refine (HNT.out _).mono ?_
      rintro e w3 ⟨rfl, hb3⟩
      have hB3 := hB.trans (hb3.mono hB.size)
      clear hb3 hB HNT HAA hF
      have hs3 := hB3.size
      go_wp2
      go_loopw [10, 11, 12] (fun o v i wr => ∃ j : Nat, j ≤ 16 ∧ i = .int .i64 j ∧ o = .int .i64 (ovN A B j : Nat) ∧ OwnB wr w.heap.size v (leBy j (leNat (A.take j) + leNat (B.take j))) ∧ Below w.heap.size w wr)
        (fun _ _ i _ => 16 - (intOf i).toNat)
      case atStart => exact ⟨0, Nat.zero_le _, rfl, by simp [ovN, leNat], OwnB.lit w3 _ hs3, hB3.alloc hs3 _⟩
      case round =>
        obtain ⟨j, hj, rfl, rfl, hown, hbel⟩ := hrel
        clear hB3 hs3
        have hsz := hbel.size
        by_cases hjt : j < 16
        · obtain ⟨e1, e2, e3⟩ := HS.out j (by rw [HAL.out]; omega) (by rw [HBL2.out]; omega)
          have hxa := HGA.out j hjt (by rw [HAL.out]; omega) (by omega)
          have hxb := HGB.out j (by rw [HBL2.out]; omega) (by omega)
          have hjX : j < X.size := by omega
          have hjK : 16 + j < key.size := by omega
          rw [hxa, hxb] at e1 e2
          obtain ⟨o, ho⟩ : ∃ o, o = ovN A B j := ⟨_, rfl⟩
          rw [← ho] at e1 e2 e3 ⊢
          have hx := X[j].toNat_lt
          have hy := key[16 + j].toNat_lt
          obtain ⟨sm, hsm⟩ : ∃ sm, sm = o + (X[j].toNat + key[16 + j].toNat) := ⟨_, rfl⟩
          rw [← hsm] at e1 e2
          have hsmb : sm ≤ 511 := by omega
          have hi1 : (j : Int) < (X.size : Int) := by omega
          have hi2 : 16 + (j : Int) < (key.size : Int) := by omega
          have hi3 : 0 ≤ 16 + (j : Int) := by omega
          have ht3 : (16 + (j : Int)).toNat = 16 + j := by omega
          have w0 : IntKind.i64.wrap (16 + (j : Int)) = 16 + (j : Int) := IntWalk.i64_in _ (by omega)
          have w1 : IntKind.i64.wrap (X[j].toNat : Int) = (X[j].toNat : Int) := IntWalk.i64_in _ (by omega)
          have w2 : IntKind.i64.wrap (key[16 + j].toNat : Int) = (key[16 + j].toNat : Int) := IntWalk.i64_in _ (by omega)
          have w3 : IntKind.i64.wrap ((o : Int) + (X[j].toNat : Int)) = (o : Int) + (X[j].toNat : Int) := IntWalk.i64_in _ (by omega)
          have w4 : IntKind.i64.wrap ((o : Int) + (X[j].toNat : Int) + (key[16 + j].toNat : Int)) = (sm : Int) := by
            rw [show (o : Int) + (X[j].toNat : Int) + (key[16 + j].toNat : Int) = (sm : Int) by omega]; exact IntWalk.i64_in _ (by omega)
          have hll : (leBy j (leNat (A.take j) + leNat (B.take j))).length + 1 ≤ 1000000000 := by rw [leBy_len]; omega
          have w5 : IntKind.u8.wrap (((sm % 256 : Nat)) : Int) = ((sm % 256 : Nat) : Int) := by rw [IntKind.wrap_u8']; omega
          have w7 : (sm : Int) % 256 = ((sm % 256 : Nat) : Int) := by omega
          have w6 : (sm : Int) / 256 = ((sm / 256 : Nat) : Int) := by omega
          have hcell : (#[Value.int .u8 ((sm % 256 : Nat) : Int)] : Array Value).toList = [UInt8.ofNat (sm % 256)].map bc := by rw [List.map_cons, bc_ofNat]; rfl
          obtain ⟨lo, hlo⟩ : ∃ lo, lo = sm % 256 := ⟨_, rfl⟩
          obtain ⟨hi, hhi⟩ : ∃ hi, hi = sm / 256 := ⟨_, rfl⟩
          rw [← hlo] at w5 w7 hcell e2
          rw [← hhi] at w6 e1
          have HC := Lib.hid hcell
          have E1 := Lib.hid e1
          have E2 := Lib.hid e2
          have HLL := Lib.hid hll
          clear e1 e2 ho hsm hxa hxb hll hcell hlo hhi
          go_wp2
          refine wp_region_free_tail 13 (by kernel_rfl) (by kernel_rfl) (by decide) (by kernel_rfl) (by intro d v c a w h; cases d <;> exact h) ?_
          simp only [List.take_succ_cons, List.take_zero, List.drop_succ_cons, List.drop_zero]
          iterate 13 (refine wpFree_step ?_ (by rfl) ?_ ?_; rotate_left; (intro w; go_simp); try with_reducible rfl)
          refine wpFree_nil ?_
          go_wp2_with (at_builtin; refine wpList_appB rfl (.tmp 58) (.tmp 62) rfl w.heap.size _ _ rfl (hown.drew.alloc _) wr.heap.size 1 _ _ [UInt8.ofNat lo] rfl (heap_alloc_new wr.drew _) HC.out rfl (by decide) HLL.out (by simp; omega) ?_; intro v1 w1 hown1 hb1)
          rw [← E2.out] at hown1
          have hb2' := (hbel.drew.alloc hsz _).trans hb1
          clear hb1 hown
          go_wp2
          go_roundw
          case rel => exact ⟨j + 1, by omega, by go_num, by rw [E1.out], hown1, hb2'⟩
          case measure => simp [intOf]; omega
        · have hke : j = 16 := by omega
          have hcv := conv_ownB hown
          rw [hke, HE.out] at hcv
          clear hke
          go_wp2
          go_ret
          exact ⟨ret_str (by rw [HR.out]), hbel⟩

set_option maxRecDepth 100000 in
set_option maxHeartbeats 2000000 in
theorem implTagOf_any (key t : ByteArray) (w : World) (hk : key.size ≤ maxLen) (ht : t.size ≤ maxLen) :
    Calls Tryz.prog 95 #[.string key, .string t] w fun e w' => e = .returned (.string (tagR key t)) ∧ Below w.heap.size w w' := by
  unfold maxLen at hk ht
  by_cases hall : key.size = 32 ∧ t.size ≤ 8000
  · have h := implTag_any key t w hall.1 hall.2
    unfold tagR; rw [if_pos hall]; exact h
  · have HR : Hid (tagR key t = ⟨#[]⟩) := Lib.hid (by unfold tagR; rw [if_neg hall])
    by_cases g1 : key.size = 32
    · have hd1 : ((key.size : Int) != 32) = false := by simp [g1]
      have g5 : ¬ t.size ≤ 8000 := fun h => hall ⟨g1, h⟩
      clear hall g1
      go_enter Tryz.func95, Tryz.ntmps95
      go_wp2
      go_ret
      exact ⟨ret_str HR.out.symm, Below.refl _ _⟩
    · have hd1 : ((key.size : Int) != 32) = true := by simp; omega
      clear hall g1
      go_enter Tryz.func95, Tryz.ntmps95
      go_wp2
      go_ret
      exact ⟨ret_str HR.out.symm, Below.refl _ _⟩

end Go.Proofs.YtlipgmaiooljkaaGreatDoor
