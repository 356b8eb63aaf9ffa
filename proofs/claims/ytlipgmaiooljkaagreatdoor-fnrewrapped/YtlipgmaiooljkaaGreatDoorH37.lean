/- Joined: W3e. -/
import Derived.IntWalk
import Derived.Test.YtlipgmaiooljkaaGreatDoorH35
/- W3e -/
namespace Go.Proofs.YtlipgmaiooljkaaGreatDoor
open Go.ChangeShapes Go.WideShapes Go.ChangeAt Go.RowKit
set_option linter.unusedVariables false

/-- The parts when so many have been carried, as the reference goes. -/
def syL (x : Num5) : Nat → List Int
  | 0 => [(x.a : Int), (x.b : Int), (x.c : Int), (x.d : Int), (x.e : Int)]
  | 1 => [(x.a : Int) % 67108864, (cb x : Int), (x.c : Int), (x.d : Int), (x.e : Int)]
  | 2 => [(x.a : Int) % 67108864, (cb x : Int) % 67108864, (cc x : Int), (x.d : Int), (x.e : Int)]
  | 3 => [(x.a : Int) % 67108864, (cb x : Int) % 67108864, (cc x : Int) % 67108864, (cd x : Int), (x.e : Int)]
  | 4 => [(x.a : Int) % 67108864, (cb x : Int) % 67108864, (cc x : Int) % 67108864, (cd x : Int) % 67108864, (ce x : Int)]
  | _ => (carry x).list
theorem syL_len (x : Num5) (k : Nat) : (syL x k).length = 5 := by unfold syL; split <;> rfl
theorem sy_step (x : Num5) (k : Nat) (h : k < 4) (hx : x.bd 576460752303423488 576460752303423488) : ∃ z u : Int, (syL x k)[k]? = some z ∧ (syL x k)[k + 1]? = some u ∧ 0 ≤ z ∧ z < 1152921504606846976 ∧ 0 ≤ u ∧ u < 576460752303423488 ∧
    syL x (k + 1) = ((syL x k).set k (z % 67108864)).set (k + 1) (u + z / 67108864) := by
  obtain ⟨h1, h2, h3, h4, h5⟩ := hx
  have e1 : cb x = x.b + x.a / 67108864 := rfl
  have e2 : cc x = x.c + cb x / 67108864 := rfl
  have e3 : cd x = x.d + cc x / 67108864 := rfl
  have e4 : ce x = x.e + cd x / 67108864 := rfl
  match k, h with
  | 0, _ => exact ⟨x.a, x.b, rfl, rfl, by omega, by omega, by omega, by omega, by simp [syL, e1]⟩
  | 1, _ => exact ⟨cb x, x.c, rfl, rfl, by omega, by omega, by omega, by omega, by simp only [syL, e2]; simp⟩
  | 2, _ => exact ⟨cc x, x.d, rfl, rfl, by omega, by omega, by omega, by omega, by simp only [syL, e3]; simp⟩
  | 3, _ => exact ⟨cd x, x.e, rfl, rfl, by omega, by omega, by omega, by omega, by simp only [syL, e4]; simp⟩
theorem sy_last (x : Num5) (hx : x.bd 576460752303423488 576460752303423488) : ∃ z u : Int, (syL x 4)[4]? = some z ∧ (syL x 4)[0]? = some u ∧ 0 ≤ z ∧ z < 1152921504606846976 ∧ 0 ≤ u ∧ u < 576460752303423488 ∧
    syL x 5 = ((syL x 4).set 4 (z % 67108864)).set 0 (u + 5 * (z / 67108864)) := by
  obtain ⟨h1, h2, h3, h4, h5⟩ := hx
  have e1 : cb x = x.b + x.a / 67108864 := rfl
  have e2 : cc x = x.c + cb x / 67108864 := rfl
  have e3 : cd x = x.d + cc x / 67108864 := rfl
  have e4 : ce x = x.e + cd x / 67108864 := rfl
  exact ⟨ce x, (x.a : Int) % 67108864, rfl, rfl, by omega, by omega, by omega, by omega, by simp [syL, Num5.list, carry]⟩
theorem Arr.cellO {w : World} {g : Nat} {t : TypeId} {k : IntKind} {zs : List Int} {z : Int} (h : Arr w g t k zs) (j : Nat) (hj : zs[j]? = some z) : w.cell? ⟨g, j, none⟩ = some (.int k z) := by
  obtain ⟨hl, e⟩ := List.getElem?_eq_some_iff.1 hj
  rw [h.cell j hl, e]

def s5Z : Obj := Obj.cells #[Value.int IntKind.i64 0, Value.int IntKind.i64 0, Value.int IntKind.i64 0, Value.int IntKind.i64 0, Value.int IntKind.i64 0] 127
theorem Tryz.infS : (Tryz.prog.info? 127).map (·.size) = some 5 := by kernel_rfl
theorem Tryz.undS : Tryz.prog.underlying 127 = some (.array 5 2) := by kernel_rfl
theorem Tryz.infSL (zs : List Int) (h : zs.length = 5) : (Tryz.prog.info? 127).map (·.size) = some (stK .i64 zs).size := by rw [stK_size, h]; exact Tryz.infS

set_option maxRecDepth 100000 in
set_option maxHeartbeats 1600000 in
theorem l3Carry_any (x : Num5) (w : World) (hx : x.bd 576460752303423488 576460752303423488) :
    Calls Tryz.prog 171 #[.agg (stK .i64 x.list)] w fun e w' => e = .returned (.agg (stK .i64 (carry3 x).list)) ∧ Below w.heap.size w w' := by
  go_enter Tryz.func171, Tryz.ntmps171
  go_wp2
  have hA0 : Arr ((w.alloc (.cells (stK .i64 x.list) 127)).alloc s5Z) w.heap.size 127 .i64 (carryN 0 x).list := (Arr.new w _ _ _).alloc _
  have hZ0 : ((w.alloc (.cells (stK .i64 x.list) 127)).alloc s5Z).heap[w.heap.size + 1]? = some s5Z := by
    have := heap_alloc_new (w.alloc (.cells (stK .i64 x.list) 127)) s5Z
    simpa using this
  have hB0 : Below w.heap.size w ((w.alloc (.cells (stK .i64 x.list) 127)).alloc s5Z) := ((Below.refl _ _).alloc (Nat.le_refl _) _).alloc (by simp) _
  go_loopw [3] (fun i wr => ∃ k : Nat, k ≤ 3 ∧ i = .int .i64 k ∧ Arr wr w.heap.size 127 .i64 (carryN k x).list ∧ wr.heap[w.heap.size + 1]? = some s5Z ∧ Below w.heap.size w wr)
    (fun i _ => 3 - (intOf i).toNat)
  case atStart => exact ⟨0, Nat.zero_le _, rfl, hA0, hZ0, hB0⟩
  case round =>
    obtain ⟨k, hk, rfl, hA, hZ, hB⟩ := hrel
    clear hA0 hZ0 hB0
    by_cases hlt : k < 3
    · obtain ⟨y, hy⟩ : ∃ y, y = carryN k x := ⟨_, rfl⟩
      have hyb := carryN_bd hx k
      rw [← hy] at hA hyb
      have HY := Lib.hid hy
      clear hy
      go_wp2
      go_loopw [4] (fun i wr => ∃ j : Nat, j ≤ 5 ∧ i = .int .i64 j ∧ Arr wr w.heap.size 127 .i64 (syL y j) ∧ wr.heap[w.heap.size + 1]? = some s5Z ∧ Below w.heap.size w wr)
        (fun i _ => 5 - (intOf i).toNat)
      case atStart => exact ⟨0, Nat.zero_le _, rfl, hA, hZ, hB⟩
      case round =>
        obtain ⟨j, hj, rfl, hA1, hZ1, hB1⟩ := hrel
        clear hA hZ hB
        by_cases hj4 : j < 4
        · obtain ⟨z, u, hz, hu, hz0, hz1, hu0, hu1, hst⟩ := sy_step y j hj4 hyb
          have hc0 := hA1.cellO j hz
          have hc1 := hA1.cellO (j + 1) hu
          have hf0 := hA1.frozen j
          have hf1 := hA1.frozen (j + 1)
          have hd : ((j : Int) == 4) = false := by simp; omega
          have hA2 := (hA1.set j (z % 67108864)).set (j + 1) (u + z / 67108864)
          rw [← hst] at hA2
          have HA2 := Lib.hid hA2
          clear hst hz hu hA2 hA1
          go_wp2
          go_roundw
          case rel => exact ⟨j + 1, by omega, by go_num, HA2.out, (heap_setCell_other _ _ _ _ (by simp)).trans ((heap_setCell_other _ _ _ _ (by simp)).trans hZ1), (hB1.setCell (p := ⟨w.heap.size, j, none⟩) (Nat.le_refl _) _).setCell (p := ⟨w.heap.size, j + 1, none⟩) (Nat.le_refl _) _⟩
          case measure => simp [intOf]; omega
        · by_cases hj5 : j < 5
          · have hj4' : j = 4 := by omega
            subst hj4'
            obtain ⟨z, u, hz, hu, hz0, hz1, hu0, hu1, hst⟩ := sy_last y hyb
            have hc0 := hA1.cellO 4 hz
            have hc1 := hA1.cellO 0 hu
            have hf0 := hA1.frozen 4
            have hf1 := hA1.frozen 0
            have hA2 := (hA1.set 4 (z % 67108864)).set 0 (u + 5 * (z / 67108864))
            rw [← hst] at hA2
            have HA2 := Lib.hid hA2
            clear hst hz hu hA2 hA1
            go_wp2
            go_roundw
            case rel => exact ⟨4 + 1, by omega, by go_num, HA2.out, (heap_setCell_other _ _ _ _ (by simp)).trans ((heap_setCell_other _ _ _ _ (by simp)).trans hZ1), (hB1.setCell (p := ⟨w.heap.size, 4, none⟩) (Nat.le_refl _) _).setCell (p := ⟨w.heap.size, 0, none⟩) (Nat.le_refl _) _⟩
            case measure => simp [intOf]
          · have hj5' : j = 5 := by omega
            rw [hj5'] at hA1
            have hA2 : Arr wr w.heap.size 127 .i64 (carryN (k + 1) x).list := by
              show Arr wr w.heap.size 127 .i64 (carry (carryN k x)).list
              rw [← HY.out]; exact hA1
            clear hj5' hA1
            go_wp2
            go_roundw
            case rel => exact ⟨k + 1, by omega, by go_num, hA2, hZ1, hB1⟩
            case measure => simp [intOf]; omega
    · have hk3 : k = 3 := by omega
      rw [hk3] at hA
      have HA : Hid (Arr wr w.heap.size 127 .i64 (carry3 x).list) := Lib.hid hA
      have HI := Lib.hid (Tryz.infSL (carry3 x).list rfl)
      have HZ := Lib.hid hZ
      clear hk3 hA hZ
      go_wp2_with (first | (refine wpList_load_row rfl _ (.tmp 1) rfl w.heap.size rfl _ _ _ _ HA.out Tryz.undS rfl HI.out ?_) | (refine wpList_store_row rfl _ (.tmp 2) (.tmp 41) rfl (w.heap.size + 1) _ rfl rfl _ _ HZ.out HI.out rfl (stK_one _ _) ?_))
      refine bodyPost_ret (results_cell_row rfl _ _ (w.heap.size + 1) _ _ _ _ rfl (setRow_heap _ _ _ _ _ _ HZ.out) Tryz.undS rfl HI.out) rfl ?_
      exact ⟨rfl, below_setRow hB (by omega) _⟩

/-- The parts, with five more. -/
def more5 (c : Num5) : Num5 := ⟨c.a + 5, c.b, c.c, c.d, c.e⟩
def low5 (x : Num5) : Num5 := ⟨x.a % 67108864, cb x % 67108864, cc x % 67108864, cd x % 67108864, ce x % 67108864⟩
theorem low5_list (x : Num5) : cyL x 5 = (low5 x).list := by simp [cyL, Num5.list, low5]
theorem low5_bd (x : Num5) : (low5 x).bd 67108864 67108864 := by unfold low5 Num5.bd; dsimp only; omega
theorem low5_val (x : Num5) : (low5 x).val + 1361129467683753853853498429727072845824 * (ce x / 67108864) = x.val := by
  unfold Num5.val val5 low5 ce cd cc cb
  dsimp only
  omega
theorem ce_le (c : Num5) (h : c.bd 67108864 67108864) : ce (more5 c) / 67108864 ≤ 1 := by
  obtain ⟨h1, h2, h3, h4, h5⟩ := h
  unfold ce cd cc cb more5
  dsimp only
  omega
theorem more5_val (c : Num5) : (more5 c).val = c.val + 5 := by unfold more5 Num5.val val5; dsimp only; omega
theorem least_over (c : Num5) (h : c.bd 67108864 67108864) (ho : 0 < cyO (more5 c) 5) : cyL (more5 c) 5 = partsL (c.val % prm) := by
  have h1 := ce_le c h
  have h2 := low5_val (more5 c)
  have h3 := bd_val (low5_bd (more5 c))
  have h4 := bd_val h
  rw [more5_val] at h2
  have h5 : 0 < ce (more5 c) / 67108864 := by simp only [cyO] at ho; omega
  have h6 : ce (more5 c) / 67108864 = 1 := by omega
  rw [h6] at h2
  rw [low5_list, ← partsL_val (low5_bd _)]
  congr 1
  unfold prm
  omega
theorem least_under (c : Num5) (h : c.bd 67108864 67108864) (ho : ¬ 0 < cyO (more5 c) 5) : c.list = partsL (c.val % prm) := by
  have h2 := low5_val (more5 c)
  have h3 := bd_val (low5_bd (more5 c))
  rw [more5_val] at h2
  have h6 : ce (more5 c) / 67108864 = 0 := by simp only [cyO] at ho; omega
  rw [h6] at h2
  rw [Nat.mod_eq_of_lt (by unfold prm; omega), partsL_val h]
theorem more5_list (c : Num5) : c.list.set 0 ((c.a : Int) + 5) = cyL (more5 c) 0 := by simp [Num5.list, cyL, more5]

set_option maxRecDepth 100000 in
set_option maxHeartbeats 1600000 in
theorem l3Least_any (x : Num5) (w : World) (hx : x.bd 576460752303423488 576460752303423488) :
    Calls Tryz.prog 151 #[.agg (stK .i64 x.list)] w fun e w' => e = .returned (.agg (stK .i64 (leftL x))) ∧ Below w.heap.size w w' := by
  have HL : Hid (leftL x = partsL ((carry3 x).val % prm)) := Lib.hid (by unfold leftL; rw [carry3_mod])
  have hcb := carry3_bd hx
  have hA0 : Arr ((w.alloc (.cells (stK .i64 x.list) 127)).alloc s5Z) w.heap.size 127 .i64 x.list := (Arr.new w _ _ _).alloc _
  have hZ0 : ((w.alloc (.cells (stK .i64 x.list) 127)).alloc s5Z).heap[w.heap.size + 1]? = some s5Z := by
    have := heap_alloc_new (w.alloc (.cells (stK .i64 x.list) 127)) s5Z
    simpa using this
  have hB0 : Below w.heap.size w ((w.alloc (.cells (stK .i64 x.list) 127)).alloc s5Z) := ((Below.refl _ _).alloc (Nat.le_refl _) _).alloc (by simp) _
  have HA0 := Lib.hid hA0
  have HI := Lib.hid (Tryz.infSL x.list rfl)
  have HI2 := Lib.hid (Tryz.infSL (carry3 x).list rfl)
  go_enter Tryz.func151, Tryz.ntmps151
  go_wp2_with (first | (refine wpList_load_row rfl _ (.tmp 1) rfl w.heap.size rfl _ _ _ _ HA0.out Tryz.undS rfl HI.out ?_))
  refine (l3Carry_any x _ hx).mono ?_
  rintro e w1 ⟨rfl, hb1⟩
  have hA1 := hA0.below hb1 (by simp; omega)
  have hZ1 := (hb1.block (w.heap.size + 1) (by simp)).trans hZ0
  have hB1 := hB0.trans (hb1.mono hB0.size)
  have hs1 : w.heap.size + 2 ≤ w1.heap.size := by have := hb1.size; simpa using this
  obtain ⟨c, hc⟩ : ∃ c, c = carry3 x := ⟨_, rfl⟩
  rw [← hc] at HL hcb HI2
  rw [← hc]
  rename_i hK
  refine hK _ _ ?_
  clear hK HA0 hA0 hZ0 hB0 hb1 hc
  refine wpList_store_row rfl _ (.tmp 1) (.tmp 7) rfl w.heap.size (stK .i64 c.list) rfl rfl _ _ hA1 HI2.out rfl (stK_one _ _) ?_
  have hA2 := hA1.row c.list rfl
  have hZ2 := (setRow_other w1 w.heap.size (w.heap.size + 1) (stK .i64 c.list) (by omega)).trans hZ1
  have hB2 := below_setRow hB1 (Nat.le_refl _) (stK .i64 c.list)
  have hs2 : w.heap.size + 2 ≤ (w1.setRow w.heap.size (stK .i64 c.list)).heap.size := by rw [size_setRow]; exact hs1
  obtain ⟨w2, hw2⟩ : ∃ w2, w2 = w1.setRow w.heap.size (stK .i64 c.list) := ⟨_, rfl⟩
  rw [← hw2] at hA2 hZ2 hB2 hs2 ⊢
  clear hw2 hA1 hZ1 hB1 hs1
  have HA2 := Lib.hid hA2
  have hA3 : Arr ((w2.alloc s5Z).setRow w2.heap.size (stK .i64 c.list)) w2.heap.size 127 .i64 c.list := setRow_heap _ _ _ _ _ _ (heap_alloc_new w2 s5Z)
  have hX3 : Arr ((w2.alloc s5Z).setRow w2.heap.size (stK .i64 c.list)) w.heap.size 127 .i64 c.list := (hA2.alloc s5Z).otherRow _ _ (by omega)
  have hZ3 : ((w2.alloc s5Z).setRow w2.heap.size (stK .i64 c.list)).heap[w.heap.size + 1]? = some s5Z := by
    rw [setRow_other _ _ _ _ (by omega), heap_alloc_old _ _ (by omega)]; exact hZ2
  have hB3 : Below w.heap.size w ((w2.alloc s5Z).setRow w2.heap.size (stK .i64 c.list)) := below_setRow (hB2.alloc (by omega) _) (by omega) _
  have hc3 := hA3.cellO (z := (c.a : Int)) 0 rfl
  have hf3 := hA3.frozen 0
  have hA4 := hA3.set 0 ((c.a : Int) + 5)
  rw [more5_list] at hA4
  have hX4 := hX3.other w2.heap.size 0 (.int .i64 ((c.a : Int) + 5)) (by omega)
  have hZ4 := (heap_setCell_other ((w2.alloc s5Z).setRow w2.heap.size (stK .i64 c.list)) ⟨w2.heap.size, 0, none⟩ (w.heap.size + 1) (.int .i64 ((c.a : Int) + 5)) (by simp; omega)).trans hZ3
  have hB4 := hB3.setCell (p := ⟨w2.heap.size, 0, none⟩) (by simp; omega) (.int .i64 ((c.a : Int) + 5))
  have hm5 : (more5 c).bd 576460752303423488 576460752303423488 := by
    obtain ⟨h1, h2, h3, h4, h5⟩ := hcb
    unfold more5 Num5.bd
    dsimp only
    omega
  have hca : c.a < 67108864 := hcb.1
  have HA4 := Lib.hid hA4
  have HX4 := Lib.hid hX4
  have HZ4 := Lib.hid hZ4
  have HB4 := Lib.hid hB4
  unfold s5Z at hc3 hf3
  clear hA3 hX3 hZ3 hB3 hA4 hX4 hZ4 hB4 hA2 hZ2
  go_wp2_with (first | (refine wpList_load_row rfl _ (.tmp 1) rfl w.heap.size rfl _ _ _ _ HA2.out Tryz.undS rfl HI2.out ?_) | (refine wpList_store_row rfl _ (.tmp 3) (.tmp 8) rfl w2.heap.size _ rfl rfl _ _ (heap_alloc_new w2 s5Z) HI2.out rfl (stK_one _ _) ?_))
  go_loopw [4, 5] (fun o i wr => ∃ k : Nat, k ≤ 5 ∧ i = .int .i64 k ∧ o = .int .i64 (cyO (more5 c) k) ∧ Arr wr w2.heap.size 127 .i64 (cyL (more5 c) k) ∧ Arr wr w.heap.size 127 .i64 c.list ∧ wr.heap[w.heap.size + 1]? = some s5Z ∧ Below w.heap.size w wr)
    (fun _ i _ => 5 - (intOf i).toNat)
  case atStart => exact ⟨0, Nat.zero_le _, rfl, rfl, HA4.out, HX4.out, HZ4.out, HB4.out⟩
  case round =>
    obtain ⟨k, hk, rfl, rfl, hA, hX, hZ, hB⟩ := hrel
    clear HA4 HX4 HZ4 HB4 hc3 hf3 HA2
    obtain ⟨g3, hg3⟩ : ∃ g3, g3 = w2.heap.size := ⟨_, rfl⟩
    rw [← hg3] at hA hs2 ⊢
    clear hg3 hB2
    have hlen := cyL_len (more5 c) k
    by_cases hlt : k < 5
    · obtain ⟨z, hz, hz0, hz1, ho0, ho1, hL, hO⟩ := cy_step (more5 c) k hlt hm5
      obtain ⟨o, ho⟩ : ∃ o, o = cyO (more5 c) k := ⟨_, rfl⟩
      rw [← ho] at ho0 ho1 hL hO ⊢
      have hc := hA.cellO k hz
      have hf := hA.frozen k
      have hA2 := (hA.set k (z + o)).set k ((z + o) % 67108864)
      rw [List.set_set, ← hL] at hA2
      have HA2 := Lib.hid hA2
      have HO := Lib.hid hO
      clear hA hA2 hL hO hz ho hlen
      go_wp2
      go_roundw
      case rel => exact ⟨k + 1, by omega, by go_num, by rw [HO.out], HA2.out, (hX.other _ _ _ (by omega)).other _ _ _ (by omega), (heap_setCell_other _ _ _ _ (by simp; omega)).trans ((heap_setCell_other _ _ _ _ (by simp; omega)).trans hZ), (hB.setCell (p := ⟨g3, k, none⟩) (by simp; omega) _).setCell (p := ⟨g3, k, none⟩) (by simp; omega) _⟩
      case measure => simp [intOf]; omega
    · have hk5 : k = 5 := by omega
      rw [hk5] at hA ⊢
      have HI3 := Lib.hid (Tryz.infSL (cyL (more5 c) 5) rfl)
      have HA := Lib.hid hA
      have HX := Lib.hid hX
      have HZ := Lib.hid hZ
      have hov := least_over c hcb
      have hun := least_under c hcb
      obtain ⟨o, ho⟩ : ∃ o, o = cyO (more5 c) 5 := ⟨_, rfl⟩
      rw [← ho] at hov hun ⊢
      have HOV := Lib.hid hov
      have HUN := Lib.hid hun
      clear hA hX hZ hlen hk5 ho hov hun
      by_cases hpos : 0 < o
      · have hd : decide (0 < o) = true := by simp [hpos]
        have HE : Hid (leftL x = cyL (more5 c) 5) := Lib.hid (by rw [HL.out, HOV.out hpos])
        go_wp2_with (first | (refine wpList_load_row rfl _ (.tmp 3) rfl g3 rfl _ _ _ _ HA.out Tryz.undS rfl HI3.out ?_) | (refine wpList_store_row rfl _ (.tmp 2) (.tmp 36) rfl (w.heap.size + 1) _ rfl rfl _ _ HZ.out HI3.out rfl (stK_one _ _) ?_))
        refine bodyPost_ret (results_cell_row rfl _ _ (w.heap.size + 1) _ _ _ _ rfl (setRow_heap _ _ _ _ _ _ HZ.out) Tryz.undS rfl HI3.out) rfl ?_
        exact ⟨by rw [HE.out], below_setRow hB (by omega) _⟩
      · have hd : decide (0 < o) = false := by simp; omega
        have HE : Hid (leftL x = c.list) := Lib.hid (by rw [HL.out, HUN.out hpos])
        go_wp2_with (first | (refine wpList_load_row rfl _ (.tmp 1) rfl w.heap.size rfl _ _ _ _ HX.out Tryz.undS rfl HI2.out ?_) | (refine wpList_store_row rfl _ (.tmp 2) (.tmp 37) rfl (w.heap.size + 1) _ rfl rfl _ _ HZ.out HI2.out rfl (stK_one _ _) ?_))
        refine bodyPost_ret (results_cell_row rfl _ _ (w.heap.size + 1) _ _ _ _ rfl (setRow_heap _ _ _ _ _ _ HZ.out) Tryz.undS rfl HI2.out) rfl ?_
        exact ⟨by rw [HE.out], below_setRow hB (by omega) _⟩
end Go.Proofs.YtlipgmaiooljkaaGreatDoor
