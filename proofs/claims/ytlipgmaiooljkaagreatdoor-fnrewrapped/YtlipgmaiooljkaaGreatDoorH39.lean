/- Joined: W3b, W3f. -/
import Derived.StillTailTactics
import Derived.IntWalk
import Derived.Test.YtlipgmaiooljkaaGreatDoorH2
import Derived.Test.YtlipgmaiooljkaaGreatDoorH35
import Derived.Test.YtlipgmaiooljkaaGreatDoorH37
/- W3b -/
namespace Go.Proofs.YtlipgmaiooljkaaGreatDoor
open Go.ChangeShapes Go.WideShapes Go.ChangeAt Go.RowKit
set_option linter.unusedVariables false

set_option maxRecDepth 100000 in
set_option maxHeartbeats 1600000 in
theorem sumOf5_any (x y : Num5) (w : World) (hx : x.bd 67108864 67108864) (hy : y.bd 67108864 67108864) :
    Calls Tryz.prog 129 #[.agg (stK .u64 x.list), .agg (stK .u64 y.list)] w fun e w' => e = .returned (.agg (stK .u64 (leftL (addN x y)))) ∧ Below w.heap.size w w' := by
  go_enter Tryz.func129, Tryz.ntmps129
  go_wp2
  obtain ⟨W0, hW0⟩ : ∃ W0, W0 = ((w.alloc (.cells (stK .u64 x.list) 138)).alloc (.cells (stK .u64 y.list) 138)).alloc n5Z := ⟨_, rfl⟩
  have hA0 : Arr W0 w.heap.size 138 .u64 (addL x.list y.list 0) := by rw [hW0]; exact ((Arr.new w _ _ _).alloc _).alloc _
  have hY0 : Arr W0 (w.heap.size + 1) 138 .u64 y.list := by
    have := (Arr.new (w.alloc (.cells (stK .u64 x.list) 138)) 138 .u64 y.list).alloc n5Z
    rw [hW0]; simpa using this
  have hZ0 : W0.heap[w.heap.size + 2]? = some n5Z := by
    have := heap_alloc_new ((w.alloc (.cells (stK .u64 x.list) 138)).alloc (.cells (stK .u64 y.list) 138)) n5Z
    rw [hW0]; simpa using this
  have hB0 : Below w.heap.size w W0 := by rw [hW0]; exact (((Below.refl _ _).alloc (Nat.le_refl _) _).alloc (by simp) _).alloc (by simp; omega) _
  go_loopw [6] (fun i wr => ∃ k : Nat, k ≤ 5 ∧ i = .int .i64 k ∧ Arr wr w.heap.size 138 .u64 (addL x.list y.list k) ∧ Arr wr (w.heap.size + 1) 138 .u64 y.list ∧ wr.heap[w.heap.size + 2]? = some n5Z ∧ Below w.heap.size w wr)
    (fun i _ => 5 - (intOf i).toNat)
  case atStart => subst hW0; exact ⟨0, Nat.zero_le _, rfl, hA0, hY0, hZ0, hB0⟩
  case round =>
    obtain ⟨k, hk, rfl, hA, hY, hZ, hB⟩ := hrel
    clear hA0 hY0 hZ0 hB0 hW0 W0
    have hlen := addL_len (num5_len x) (num5_len y) k hk
    by_cases hlt : k < 5
    · have hlx : k < x.list.length := by rw [num5_len]; exact hlt
      have hly : k < y.list.length := by rw [num5_len]; exact hlt
      have hc := hA.cell k (by rw [hlen]; exact hlt)
      have hget := addL_get (num5_len x) (num5_len y) k hlt (by rw [hlen]; exact hlt)
      rw [hget] at hc
      have hc2 := hY.cell k hly
      have hf := hA.frozen k
      have hst := addL_step (num5_len x) (num5_len y) k hlt
      obtain ⟨z, hz⟩ : ∃ z, z = x.list[k]'hlx := ⟨_, rfl⟩
      obtain ⟨u, hu⟩ : ∃ u, u = y.list[k]'hly := ⟨_, rfl⟩
      have hzb := list_get_bd hx k hlx
      have hub := list_get_bd hy k hly
      rw [← hz] at hc hst hzb
      rw [← hu] at hc2 hst hub
      obtain ⟨hz0, hz1⟩ := hzb
      obtain ⟨hu0, hu1⟩ := hub
      have hA2 := hA.set k (z + u)
      rw [hst] at hA2
      have HA2 := Lib.hid hA2
      have hwr : IntKind.u64.wrap (z + u) = z + u := IntWalk.u64_in _ (by omega)
      clear hA hA2 hst hz hu hlen hget
      go_wp2
      go_still_tail 8, (by kernel_rfl)
      change wpList _ _ _ _ _ wr.drew
      have hc1 : wr.drew.cell? ⟨w.heap.size, k, none⟩ = some (.int .u64 z) := hc
      have hf1 : wr.drew.frozen? ⟨w.heap.size, k, none⟩ = false := hf
      go_wp2
      go_roundw
      case rel => exact ⟨k + 1, by omega, by go_num, HA2.out, hY.other _ _ _ (by omega), (heap_setCell_other _ _ _ _ (by simp)).trans hZ, below_drewN (hB.setCell (p := ⟨w.heap.size, k, none⟩) (Nat.le_refl _) _) 1⟩
      case measure => simp [intOf]; omega
    · have hk5 : k = 5 := by omega
      rw [hk5, addL_end x y] at hA
      have hlt1 := hA.lt
      have hlt2 := (Array.getElem?_eq_some_iff.1 hZ).1
      have HA := Lib.hid hA
      have HI := Lib.hid (Tryz.infNL (addN x y).list rfl)
      have HI2 := Lib.hid (Tryz.infNL (leftL (addN x y)) rfl)
      clear hk5 hlen
      go_wp2_with (first | (refine wpList_load_row rfl _ (.tmp 2) rfl w.heap.size rfl _ _ _ _ HA.out Tryz.undN rfl HI.out ?_))
      refine (belowPrime_any _ _ (addN_bd hx hy)).mono ?_
      rintro e w1 ⟨rfl, hb1⟩
      have hZ1 := (hb1.block (w.heap.size + 2) hlt2).trans hZ
      have hB1 := hB.trans (hb1.mono hB.size)
      rename_i hK
      refine hK _ _ ?_
      refine wpList_store_row rfl _ (.tmp 4) (.tmp 19) rfl (w.heap.size + 2) (stK .u64 (leftL (addN x y))) rfl rfl _ _ hZ1 HI2.out rfl (stK_one _ _) ?_
      clear hK
      go_wp2
      refine bodyPost_ret (results_cell_row rfl _ _ (w.heap.size + 2) _ _ _ _ rfl (setRow_heap _ _ _ _ _ _ hZ1) Tryz.undN rfl HI2.out) rfl ?_
      exact ⟨rfl, below_setRow hB1 (by omega) _⟩

/-- The sum, what is left by the prime. -/
theorem sumOf_any (u v : Nat) (w : World) (hu : u < 1361129467683753853853498429727072845824) (hv : v < 1361129467683753853853498429727072845824) :
    Calls Tryz.prog 129 #[.agg (stK .u64 (partsL u)), .agg (stK .u64 (partsL v))] w fun e w' => e = .returned (.agg (stK .u64 (partsL ((u + v) % prm)))) ∧ Below w.heap.size w w' := by
  have h := sumOf5_any (num5 u) (num5 v) w (num5_bd u) (num5_bd v)
  unfold leftL at h
  rw [addN_val, num5_val u hu, num5_val v hv] at h
  exact h

theorem getD_of {o : List Int} {k : Nat} (h : k < o.length) : o.getD k 0 = o[k] := by rw [List.getD_eq_getElem?_getD, List.getElem?_eq_getElem h]; rfl
theorem Arr.cellD {w : World} {g : Nat} {t : TypeId} {k : IntKind} {zs : List Int} (h : Arr w g t k zs) (j : Nat) (hj : j < zs.length) : w.cell? ⟨g, j, none⟩ = some (.int k (zs.getD j 0)) := by
  rw [getD_of hj]; exact h.cell j hj
theorem list_getD_bd {x : Num5} (hx : x.bd 67108864 67108864) (k : Nat) (h : k < 5) : 0 ≤ x.list.getD k 0 ∧ x.list.getD k 0 < 67108864 := by
  have h' : k < x.list.length := by rw [num5_len]; exact h
  rw [getD_of h']; exact list_get_bd hx k h'

set_option maxRecDepth 100000 in
set_option maxHeartbeats 1600000 in
theorem productOf5_any (x y : Num5) (w : World) (hx : x.bd 67108864 67108864) (hy : y.bd 67108864 67108864) :
    Calls Tryz.prog 128 #[.agg (stK .u64 x.list), .agg (stK .u64 y.list)] w fun e w' => e = .returned (.agg (stK .u64 (leftL (mul5 x y)))) ∧ Below w.heap.size w w' := by
  go_enter Tryz.func128, Tryz.ntmps128
  go_wp2
  obtain ⟨W0, hW0⟩ : ∃ W0, W0 = (((w.alloc (.cells (stK .u64 x.list) 138)).alloc (.cells (stK .u64 y.list) 138)).alloc n5Z).alloc n5Z := ⟨_, rfl⟩
  have hX0 : Arr W0 w.heap.size 138 .u64 x.list := by rw [hW0]; exact (((Arr.new w _ _ _).alloc _).alloc _).alloc _
  have hY0 : Arr W0 (w.heap.size + 1) 138 .u64 y.list := by
    have := ((Arr.new (w.alloc (.cells (stK .u64 x.list) 138)) 138 .u64 y.list).alloc n5Z).alloc n5Z
    rw [hW0]; simpa using this
  have hZ0 : W0.heap[w.heap.size + 2]? = some n5Z := by
    have h := heap_alloc_new ((w.alloc (.cells (stK .u64 x.list) 138)).alloc (.cells (stK .u64 y.list) 138)) n5Z
    rw [hW0, heap_alloc_old _ _ (by simp)]; simpa using h
  have hA0 : Arr W0 (w.heap.size + 3) 138 .u64 (mulN x.list y.list 0) := by
    have h := heap_alloc_new (((w.alloc (.cells (stK .u64 x.list) 138)).alloc (.cells (stK .u64 y.list) 138)).alloc n5Z) n5Z
    show W0.heap[w.heap.size + 3]? = some n5Z
    rw [hW0]; simpa using h
  have hB0 : Below w.heap.size w W0 := by rw [hW0]; exact ((((Below.refl _ _).alloc (Nat.le_refl _) _).alloc (by simp) _).alloc (by simp; omega) _).alloc (by simp; omega) _
  go_loopw [9] (fun i wr => ∃ k : Nat, k ≤ 5 ∧ i = .int .i64 k ∧ Arr wr (w.heap.size + 3) 138 .u64 (mulN x.list y.list k) ∧ Arr wr w.heap.size 138 .u64 x.list ∧ Arr wr (w.heap.size + 1) 138 .u64 y.list ∧ wr.heap[w.heap.size + 2]? = some n5Z ∧ Below w.heap.size w wr)
    (fun i _ => 5 - (intOf i).toNat)
  case atStart => subst hW0; exact ⟨0, Nat.zero_le _, rfl, hA0, hX0, hY0, hZ0, hB0⟩
  case round =>
    obtain ⟨k, hk, rfl, hA, hX, hY, hZ, hB⟩ := hrel
    clear hA0 hX0 hY0 hZ0 hB0 hW0 W0
    by_cases hlt : k < 5
    · go_wp2
      go_loopw [12] (fun i wr => ∃ j : Nat, j ≤ 5 ∧ i = .int .i64 j ∧ Arr wr (w.heap.size + 3) 138 .u64 (mulRow x.list y.list k j (mulN x.list y.list k)) ∧ Arr wr w.heap.size 138 .u64 x.list ∧ Arr wr (w.heap.size + 1) 138 .u64 y.list ∧ wr.heap[w.heap.size + 2]? = some n5Z ∧ Below w.heap.size w wr)
        (fun i _ => 5 - (intOf i).toNat)
      case atStart => exact ⟨0, Nat.zero_le _, rfl, hA, hX, hY, hZ, hB⟩
      case round =>
        obtain ⟨j, hj, rfl, hA1, hX1, hY1, hZ1, hB1⟩ := hrel
        clear hA hX hY hZ hB
        by_cases hjt : j < 5
        · obtain ⟨o, ho⟩ : ∃ o, o = mulRow x.list y.list k j (mulN x.list y.list k) := ⟨_, rfl⟩
          have hol : o.length = 5 := by rw [ho, mulRow_len, mulN_len]
          have hub := upto_row hx hy k hlt _ _ (upto_mul hx hy k (by omega)) j hj ((k + j) % 5)
          have hst : mulRow x.list y.list k (j + 1) (mulN x.list y.list k) = o.set ((k + j) % 5) (o.getD ((k + j) % 5) 0 + mulAt x.list y.list k j) := by rw [ho]; rfl
          rw [← ho] at hA1 hub
          have hmb := mulAt_bd hx hy k j hlt hjt
          obtain ⟨q, hq⟩ : ∃ q, q = (k + j) % 5 := ⟨_, rfl⟩
          have hq5 : q < 5 := by omega
          have hqi : ((k : Int) + (j : Int)) % 5 = (q : Int) := by omega
          rw [← hq] at hst hub
          obtain ⟨r, hr⟩ : ∃ r, r = o.getD q 0 := ⟨_, rfl⟩
          have hc0 := hX1.cellD k (by rw [num5_len]; exact hlt)
          have hc1 := hY1.cellD j (by rw [num5_len]; exact hjt)
          have hc2 := hA1.cellD q (by omega)
          have hf2 := hA1.frozen q
          have hbx := list_getD_bd hx k hlt
          have hby := list_getD_bd hy j hjt
          have hma : mulAt x.list y.list k j = if 5 ≤ k + j then x.list.getD k 0 * y.list.getD j 0 * 5 else x.list.getD k 0 * y.list.getD j 0 := rfl
          rw [← hr] at hc2 hst hub
          obtain ⟨a, ha⟩ : ∃ a, a = x.list.getD k 0 := ⟨_, rfl⟩
          obtain ⟨b, hb⟩ : ∃ b, b = y.list.getD j 0 := ⟨_, rfl⟩
          rw [← ha] at hc0 hbx hma
          rw [← hb] at hc1 hby hma
          have hpm := part_mul a b hbx.1 hbx.2 hby.1 hby.2
          obtain ⟨hub0, hub1⟩ := hub
          have hub2 : r ≤ 562949953421312000 := by omega
          obtain ⟨p, hp⟩ : ∃ p, p = a * b := ⟨_, rfl⟩
          have hw1 : IntKind.u64.wrap (a * b) = p := by rw [hp]; exact IntWalk.u64_in _ (by omega)
          rw [← hp] at hpm hma
          obtain ⟨hp0, hp1⟩ := hpm
          have HST := Lib.hid hst
          have HMA := Lib.hid hma
          have HA1 := Lib.hid hA1
          clear hst hma hr ha hb hp ho hol hmb hub1 hbx hby hq hA1
          by_cases h5 : 5 ≤ k + j
          · have h5i : decide (5 ≤ (k : Int) + (j : Int)) = true := by simp; omega
            go_wp2
            go_quiet (fail)
            go_wp2
            go_roundw
            case rel =>
              have hA2 := HA1.out.set q (r + p * 5)
              rw [show r + p * 5 = r + mulAt x.list y.list k j by rw [HMA.out, if_pos h5], ← HST.out] at hA2
              rw [show r + p * 5 = r + mulAt x.list y.list k j by rw [HMA.out, if_pos h5]]
              exact ⟨j + 1, by omega, by go_num, hA2, hX1.other _ _ _ (by omega), hY1.other _ _ _ (by omega), (heap_setCell_other _ _ _ _ (by simp)).trans hZ1, (below_drewN hB1 _).setCell (p := ⟨w.heap.size + 3, q, none⟩) (by simp) _⟩
            case measure => simp [intOf]; omega
          · have h5i : decide (5 ≤ (k : Int) + (j : Int)) = false := by simp; omega
            go_wp2
            go_quiet (fail)
            go_wp2
            go_roundw
            case rel =>
              have hA2 := HA1.out.set q (r + p)
              rw [show r + p = r + mulAt x.list y.list k j by rw [HMA.out, if_neg h5], ← HST.out] at hA2
              rw [show r + p = r + mulAt x.list y.list k j by rw [HMA.out, if_neg h5]]
              exact ⟨j + 1, by omega, by go_num, hA2, hX1.other _ _ _ (by omega), hY1.other _ _ _ (by omega), (heap_setCell_other _ _ _ _ (by simp)).trans hZ1, (below_drewN hB1 _).setCell (p := ⟨w.heap.size + 3, q, none⟩) (by simp) _⟩
            case measure => simp [intOf]; omega
        · have hj5 : j = 5 := by omega
          rw [hj5] at hA1
          change Arr wr (w.heap.size + 3) 138 .u64 (mulN x.list y.list (k + 1)) at hA1
          clear hj5
          go_wp2
          go_roundw
          case rel => exact ⟨k + 1, by omega, by go_num, hA1, hX1, hY1, hZ1, hB1⟩
          case measure => simp [intOf]; omega
    · have hk5 : k = 5 := by omega
      rw [hk5, mulN_end x y] at hA
      have hlt1 := hA.lt
      have hlt2 := (Array.getElem?_eq_some_iff.1 hZ).1
      have HA := Lib.hid hA
      have HI := Lib.hid (Tryz.infNL (mul5 x y).list rfl)
      have HI2 := Lib.hid (Tryz.infNL (leftL (mul5 x y)) rfl)
      clear hk5
      go_wp2_with (first | (refine wpList_load_row rfl _ (.tmp 5) rfl (w.heap.size + 3) rfl _ _ _ _ HA.out Tryz.undN rfl HI.out ?_))
      refine (belowPrime_any _ _ (mul5_bd hx hy)).mono ?_
      rintro e w1 ⟨rfl, hb1⟩
      have hZ1 := (hb1.block (w.heap.size + 2) hlt2).trans hZ
      have hB1 := hB.trans (hb1.mono hB.size)
      rename_i hK
      refine hK _ _ ?_
      refine wpList_store_row rfl _ (.tmp 4) (.tmp 40) rfl (w.heap.size + 2) (stK .u64 (leftL (mul5 x y))) rfl rfl _ _ hZ1 HI2.out rfl (stK_one _ _) ?_
      clear hK
      go_wp2
      refine bodyPost_ret (results_cell_row rfl _ _ (w.heap.size + 2) _ _ _ _ rfl (setRow_heap _ _ _ _ _ _ hZ1) Tryz.undN rfl HI2.out) rfl ?_
      exact ⟨rfl, below_setRow hB1 (by omega) _⟩

/-- The product, what is left by the prime. -/
theorem productOf_any (u v : Nat) (w : World) (hu : u < 1361129467683753853853498429727072845824) (hv : v < 1361129467683753853853498429727072845824) :
    Calls Tryz.prog 128 #[.agg (stK .u64 (partsL u)), .agg (stK .u64 (partsL v))] w fun e w' => e = .returned (.agg (stK .u64 (partsL (u * v % prm)))) ∧ Below w.heap.size w w' := by
  have h := productOf5_any (num5 u) (num5 v) w (num5_bd u) (num5_bd v)
  unfold leftL at h
  rw [mul5_val, num5_val u hu, num5_val v hv] at h
  exact h
end Go.Proofs.YtlipgmaiooljkaaGreatDoor

/- W3f -/
namespace Go.Proofs.YtlipgmaiooljkaaGreatDoor
open Go.ChangeShapes Go.WideShapes Go.ChangeAt Go.RowKit
set_option linter.unusedVariables false

set_option maxRecDepth 100000 in
set_option maxHeartbeats 1600000 in
theorem l3Add5_any (x y : Num5) (w : World) (hx : x.bd 67108864 67108864) (hy : y.bd 67108864 67108864) :
    Calls Tryz.prog 119 #[.agg (stK .i64 x.list), .agg (stK .i64 y.list)] w fun e w' => e = .returned (.agg (stK .i64 (leftL (addN x y)))) ∧ Below w.heap.size w w' := by
  go_enter Tryz.func119, Tryz.ntmps119
  go_wp2
  obtain ⟨W0, hW0⟩ : ∃ W0, W0 = ((w.alloc (.cells (stK .i64 x.list) 127)).alloc (.cells (stK .i64 y.list) 127)).alloc s5Z := ⟨_, rfl⟩
  have hA0 : Arr W0 w.heap.size 127 .i64 (addL x.list y.list 0) := by rw [hW0]; exact ((Arr.new w _ _ _).alloc _).alloc _
  have hY0 : Arr W0 (w.heap.size + 1) 127 .i64 y.list := by
    have := (Arr.new (w.alloc (.cells (stK .i64 x.list) 127)) 127 .i64 y.list).alloc s5Z
    rw [hW0]; simpa using this
  have hZ0 : W0.heap[w.heap.size + 2]? = some s5Z := by
    have := heap_alloc_new ((w.alloc (.cells (stK .i64 x.list) 127)).alloc (.cells (stK .i64 y.list) 127)) s5Z
    rw [hW0]; simpa using this
  have hB0 : Below w.heap.size w W0 := by rw [hW0]; exact (((Below.refl _ _).alloc (Nat.le_refl _) _).alloc (by simp) _).alloc (by simp; omega) _
  go_loopw [5] (fun i wr => ∃ k : Nat, k ≤ 5 ∧ i = .int .i64 k ∧ Arr wr w.heap.size 127 .i64 (addL x.list y.list k) ∧ Arr wr (w.heap.size + 1) 127 .i64 y.list ∧ wr.heap[w.heap.size + 2]? = some s5Z ∧ Below w.heap.size w wr)
    (fun i _ => 5 - (intOf i).toNat)
  case atStart => subst hW0; exact ⟨0, Nat.zero_le _, rfl, hA0, hY0, hZ0, hB0⟩
  case round =>
    obtain ⟨k, hk, rfl, hA, hY, hZ, hB⟩ := hrel
    clear hA0 hY0 hZ0 hB0 hW0 W0
    have hlen := addL_len (num5_len x) (num5_len y) k hk
    by_cases hlt : k < 5
    · have hlx : k < x.list.length := by rw [num5_len]; exact hlt
      have hly : k < y.list.length := by rw [num5_len]; exact hlt
      have hc := hA.cell k (by rw [hlen]; exact hlt)
      have hget := addL_get (num5_len x) (num5_len y) k hlt (by rw [hlen]; exact hlt)
      rw [hget] at hc
      have hc2 := hY.cell k hly
      have hf := hA.frozen k
      have hst := addL_step (num5_len x) (num5_len y) k hlt
      obtain ⟨z, hz⟩ : ∃ z, z = x.list[k]'hlx := ⟨_, rfl⟩
      obtain ⟨u, hu⟩ : ∃ u, u = y.list[k]'hly := ⟨_, rfl⟩
      have hzb := list_get_bd hx k hlx
      have hub := list_get_bd hy k hly
      rw [← hz] at hc hst hzb
      rw [← hu] at hc2 hst hub
      obtain ⟨hz0, hz1⟩ := hzb
      obtain ⟨hu0, hu1⟩ := hub
      have hA2 := hA.set k (z + u)
      rw [hst] at hA2
      have HA2 := Lib.hid hA2
      have hwr : IntKind.i64.wrap (z + u) = z + u := IntWalk.i64_in _ (by omega)
      clear hA hA2 hst hz hu hlen hget
      go_wp2
      go_still_tail 9, (by kernel_rfl)
      change wpList _ _ _ _ _ wr.drew
      have hc1 : wr.drew.cell? ⟨w.heap.size, k, none⟩ = some (.int .i64 z) := hc
      have hf1 : wr.drew.frozen? ⟨w.heap.size, k, none⟩ = false := hf
      go_wp2
      go_roundw
      case rel => exact ⟨k + 1, by omega, by go_num, HA2.out, hY.other _ _ _ (by omega), (heap_setCell_other _ _ _ _ (by simp)).trans hZ, below_drewN (hB.setCell (p := ⟨w.heap.size, k, none⟩) (Nat.le_refl _) _) 1⟩
      case measure => simp [intOf]; omega
    · have hk5 : k = 5 := by omega
      rw [hk5, addL_end x y] at hA
      have hlt1 := hA.lt
      have hlt2 := (Array.getElem?_eq_some_iff.1 hZ).1
      have HA := Lib.hid hA
      have HI := Lib.hid (Tryz.infSL (addN x y).list rfl)
      have HI2 := Lib.hid (Tryz.infSL (leftL (addN x y)) rfl)
      clear hk5 hlen
      go_wp2_with (first | (refine wpList_load_row rfl _ (.tmp 2) rfl w.heap.size rfl _ _ _ _ HA.out Tryz.undS rfl HI.out ?_))
      refine (l3Least_any _ _ (addN_bd hx hy)).mono ?_
      rintro e w1 ⟨rfl, hb1⟩
      have hZ1 := (hb1.block (w.heap.size + 2) hlt2).trans hZ
      have hB1 := hB.trans (hb1.mono hB.size)
      rename_i hK
      refine hK _ _ ?_
      refine wpList_store_row rfl _ (.tmp 4) (.tmp 20) rfl (w.heap.size + 2) (stK .i64 (leftL (addN x y))) rfl rfl _ _ hZ1 HI2.out rfl (stK_one _ _) ?_
      clear hK
      go_wp2
      refine bodyPost_ret (results_cell_row rfl _ _ (w.heap.size + 2) _ _ _ _ rfl (setRow_heap _ _ _ _ _ _ hZ1) Tryz.undS rfl HI2.out) rfl ?_
      exact ⟨rfl, below_setRow hB1 (by omega) _⟩

/-- The sum, what is left by the prime. -/
theorem l3Add_any (u v : Nat) (w : World) (hu : u < 1361129467683753853853498429727072845824) (hv : v < 1361129467683753853853498429727072845824) :
    Calls Tryz.prog 119 #[.agg (stK .i64 (partsL u)), .agg (stK .i64 (partsL v))] w fun e w' => e = .returned (.agg (stK .i64 (partsL ((u + v) % prm)))) ∧ Below w.heap.size w w' := by
  have h := l3Add5_any (num5 u) (num5 v) w (num5_bd u) (num5_bd v)
  unfold leftL at h
  rw [addN_val, num5_val u hu, num5_val v hv] at h
  exact h

set_option maxRecDepth 100000 in
set_option maxHeartbeats 1600000 in
theorem l3Mul5_any (x y : Num5) (w : World) (hx : x.bd 67108864 67108864) (hy : y.bd 67108864 67108864) :
    Calls Tryz.prog 118 #[.agg (stK .i64 x.list), .agg (stK .i64 y.list)] w fun e w' => e = .returned (.agg (stK .i64 (leftL (mul5 x y)))) ∧ Below w.heap.size w w' := by
  go_enter Tryz.func118, Tryz.ntmps118
  go_wp2
  obtain ⟨W0, hW0⟩ : ∃ W0, W0 = (((w.alloc (.cells (stK .i64 x.list) 127)).alloc (.cells (stK .i64 y.list) 127)).alloc s5Z).alloc s5Z := ⟨_, rfl⟩
  have hX0 : Arr W0 w.heap.size 127 .i64 x.list := by rw [hW0]; exact (((Arr.new w _ _ _).alloc _).alloc _).alloc _
  have hY0 : Arr W0 (w.heap.size + 1) 127 .i64 y.list := by
    have := ((Arr.new (w.alloc (.cells (stK .i64 x.list) 127)) 127 .i64 y.list).alloc s5Z).alloc s5Z
    rw [hW0]; simpa using this
  have hZ0 : W0.heap[w.heap.size + 2]? = some s5Z := by
    have h := heap_alloc_new ((w.alloc (.cells (stK .i64 x.list) 127)).alloc (.cells (stK .i64 y.list) 127)) s5Z
    rw [hW0, heap_alloc_old _ _ (by simp)]; simpa using h
  have hA0 : Arr W0 (w.heap.size + 3) 127 .i64 (mulN x.list y.list 0) := by
    have h := heap_alloc_new (((w.alloc (.cells (stK .i64 x.list) 127)).alloc (.cells (stK .i64 y.list) 127)).alloc s5Z) s5Z
    show W0.heap[w.heap.size + 3]? = some s5Z
    rw [hW0]; simpa using h
  have hB0 : Below w.heap.size w W0 := by rw [hW0]; exact ((((Below.refl _ _).alloc (Nat.le_refl _) _).alloc (by simp) _).alloc (by simp; omega) _).alloc (by simp; omega) _
  go_loopw [6] (fun i wr => ∃ k : Nat, k ≤ 5 ∧ i = .int .i64 k ∧ Arr wr (w.heap.size + 3) 127 .i64 (mulN x.list y.list k) ∧ Arr wr w.heap.size 127 .i64 x.list ∧ Arr wr (w.heap.size + 1) 127 .i64 y.list ∧ wr.heap[w.heap.size + 2]? = some s5Z ∧ Below w.heap.size w wr)
    (fun i _ => 5 - (intOf i).toNat)
  case atStart => subst hW0; exact ⟨0, Nat.zero_le _, rfl, hA0, hX0, hY0, hZ0, hB0⟩
  case round =>
    obtain ⟨k, hk, rfl, hA, hX, hY, hZ, hB⟩ := hrel
    clear hA0 hX0 hY0 hZ0 hB0 hW0 W0
    by_cases hlt : k < 5
    · go_wp2
      go_loopw [7] (fun i wr => ∃ j : Nat, j ≤ 5 ∧ i = .int .i64 j ∧ Arr wr (w.heap.size + 3) 127 .i64 (mulRow x.list y.list k j (mulN x.list y.list k)) ∧ Arr wr w.heap.size 127 .i64 x.list ∧ Arr wr (w.heap.size + 1) 127 .i64 y.list ∧ wr.heap[w.heap.size + 2]? = some s5Z ∧ Below w.heap.size w wr)
        (fun i _ => 5 - (intOf i).toNat)
      case atStart => exact ⟨0, Nat.zero_le _, rfl, hA, hX, hY, hZ, hB⟩
      case round =>
        obtain ⟨j, hj, rfl, hA1, hX1, hY1, hZ1, hB1⟩ := hrel
        clear hA hX hY hZ hB
        by_cases hjt : j < 5
        · obtain ⟨o, ho⟩ : ∃ o, o = mulRow x.list y.list k j (mulN x.list y.list k) := ⟨_, rfl⟩
          have hol : o.length = 5 := by rw [ho, mulRow_len, mulN_len]
          have hub := upto_row hx hy k hlt _ _ (upto_mul hx hy k (by omega)) j hj ((k + j) % 5)
          have hst : mulRow x.list y.list k (j + 1) (mulN x.list y.list k) = o.set ((k + j) % 5) (o.getD ((k + j) % 5) 0 + mulAt x.list y.list k j) := by rw [ho]; rfl
          rw [← ho] at hA1 hub
          have hmb := mulAt_bd hx hy k j hlt hjt
          obtain ⟨q, hq⟩ : ∃ q, q = (k + j) % 5 := ⟨_, rfl⟩
          have hq5 : q < 5 := by omega
          have hqi : ((k : Int) + (j : Int)) % 5 = (q : Int) := by omega
          rw [← hq] at hst hub
          obtain ⟨r, hr⟩ : ∃ r, r = o.getD q 0 := ⟨_, rfl⟩
          have hc0 := hX1.cellD k (by rw [num5_len]; exact hlt)
          have hc1 := hY1.cellD j (by rw [num5_len]; exact hjt)
          have hc2 := hA1.cellD q (by omega)
          have hf2 := hA1.frozen q
          have hbx := list_getD_bd hx k hlt
          have hby := list_getD_bd hy j hjt
          have hma : mulAt x.list y.list k j = if 5 ≤ k + j then x.list.getD k 0 * y.list.getD j 0 * 5 else x.list.getD k 0 * y.list.getD j 0 := rfl
          rw [← hr] at hc2 hst hub
          obtain ⟨a, ha⟩ : ∃ a, a = x.list.getD k 0 := ⟨_, rfl⟩
          obtain ⟨b, hb⟩ : ∃ b, b = y.list.getD j 0 := ⟨_, rfl⟩
          rw [← ha] at hc0 hbx hma
          rw [← hb] at hc1 hby hma
          have hpm := part_mul a b hbx.1 hbx.2 hby.1 hby.2
          obtain ⟨hub0, hub1⟩ := hub
          have hub2 : r ≤ 562949953421312000 := by omega
          obtain ⟨p, hp⟩ : ∃ p, p = a * b := ⟨_, rfl⟩
          have hw1 : IntKind.i64.wrap (a * b) = p := by rw [hp]; exact IntWalk.i64_in _ (by omega)
          rw [← hp] at hpm hma
          obtain ⟨hp0, hp1⟩ := hpm
          have HST := Lib.hid hst
          have HMA := Lib.hid hma
          have HA1 := Lib.hid hA1
          clear hst hma hr ha hb hp ho hol hmb hub1 hbx hby hq hA1
          by_cases h5 : 5 ≤ k + j
          · have h5i : decide (5 ≤ (k : Int) + (j : Int)) = true := by simp; omega
            go_wp2
            go_quiet (fail)
            go_wp2
            go_roundw
            case rel =>
              have hA2 := HA1.out.set q (r + 5 * p)
              rw [show r + 5 * p = r + mulAt x.list y.list k j by rw [HMA.out, if_pos h5]; omega, ← HST.out] at hA2
              rw [show r + 5 * p = r + mulAt x.list y.list k j by rw [HMA.out, if_pos h5]; omega]
              exact ⟨j + 1, by omega, by go_num, hA2, hX1.other _ _ _ (by omega), hY1.other _ _ _ (by omega), (heap_setCell_other _ _ _ _ (by simp)).trans hZ1, (below_drewN hB1 _).setCell (p := ⟨w.heap.size + 3, q, none⟩) (by simp) _⟩
            case measure => simp [intOf]; omega
          · have h5i : decide (5 ≤ (k : Int) + (j : Int)) = false := by simp; omega
            go_wp2
            go_quiet (fail)
            go_wp2
            go_roundw
            case rel =>
              have hA2 := HA1.out.set q (r + p)
              rw [show r + p = r + mulAt x.list y.list k j by rw [HMA.out, if_neg h5], ← HST.out] at hA2
              rw [show r + p = r + mulAt x.list y.list k j by rw [HMA.out, if_neg h5]]
              exact ⟨j + 1, by omega, by go_num, hA2, hX1.other _ _ _ (by omega), hY1.other _ _ _ (by omega), (heap_setCell_other _ _ _ _ (by simp)).trans hZ1, (below_drewN hB1 _).setCell (p := ⟨w.heap.size + 3, q, none⟩) (by simp) _⟩
            case measure => simp [intOf]; omega
        · have hj5 : j = 5 := by omega
          rw [hj5] at hA1
          change Arr wr (w.heap.size + 3) 127 .i64 (mulN x.list y.list (k + 1)) at hA1
          clear hj5
          go_wp2
          go_roundw
          case rel => exact ⟨k + 1, by omega, by go_num, hA1, hX1, hY1, hZ1, hB1⟩
          case measure => simp [intOf]; omega
    · have hk5 : k = 5 := by omega
      rw [hk5, mulN_end x y] at hA
      have hlt1 := hA.lt
      have hlt2 := (Array.getElem?_eq_some_iff.1 hZ).1
      have HA := Lib.hid hA
      have HI := Lib.hid (Tryz.infSL (mul5 x y).list rfl)
      have HI2 := Lib.hid (Tryz.infSL (leftL (mul5 x y)) rfl)
      clear hk5
      go_wp2_with (first | (refine wpList_load_row rfl _ (.tmp 5) rfl (w.heap.size + 3) rfl _ _ _ _ HA.out Tryz.undS rfl HI.out ?_))
      refine (l3Least_any _ _ (mul5_bd hx hy)).mono ?_
      rintro e w1 ⟨rfl, hb1⟩
      have hZ1 := (hb1.block (w.heap.size + 2) hlt2).trans hZ
      have hB1 := hB.trans (hb1.mono hB.size)
      rename_i hK
      refine hK _ _ ?_
      refine wpList_store_row rfl _ (.tmp 4) (.tmp 45) rfl (w.heap.size + 2) (stK .i64 (leftL (mul5 x y))) rfl rfl _ _ hZ1 HI2.out rfl (stK_one _ _) ?_
      clear hK
      go_wp2
      refine bodyPost_ret (results_cell_row rfl _ _ (w.heap.size + 2) _ _ _ _ rfl (setRow_heap _ _ _ _ _ _ hZ1) Tryz.undS rfl HI2.out) rfl ?_
      exact ⟨rfl, below_setRow hB1 (by omega) _⟩

/-- The product, what is left by the prime. -/
theorem l3Mul_any (u v : Nat) (w : World) (hu : u < 1361129467683753853853498429727072845824) (hv : v < 1361129467683753853853498429727072845824) :
    Calls Tryz.prog 118 #[.agg (stK .i64 (partsL u)), .agg (stK .i64 (partsL v))] w fun e w' => e = .returned (.agg (stK .i64 (partsL (u * v % prm)))) ∧ Below w.heap.size w w' := by
  have h := l3Mul5_any (num5 u) (num5 v) w (num5_bd u) (num5_bd v)
  unfold leftL at h
  rw [mul5_val, num5_val u hu, num5_val v hv] at h
  exact h
end Go.Proofs.YtlipgmaiooljkaaGreatDoor
