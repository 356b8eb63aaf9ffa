/- Joined: W3a. -/
import Derived.Test.YtlipgmaiooljkaaGreatDoorH2
import Derived.Test.YtlipgmaiooljkaaGreatDoorH11
import Derived.Test.YtlipgmaiooljkaaGreatDoorH18
/- W3a -/
namespace Go.Proofs.YtlipgmaiooljkaaGreatDoor
open Go.ChangeShapes Go.WideShapes Go.ChangeAt Go.RowKit
set_option linter.unusedVariables false

theorem and26 (y : Int) (h0 : 0 ≤ y) (h1 : y < 18446744073709551616) : bits .and .u64 y 67108863 = y % 67108864 := by
  rw [u64_and _ _ h0 (by omega) (by omega) (by omega)]
  have : y.toNat &&& (67108863 : Int).toNat = y.toNat % 2 ^ 26 := by
    rw [show (67108863 : Int).toNat = 2 ^ 26 - 1 from rfl, Nat.and_two_pow_sub_one_eq_mod]
  rw [this]; omega

/-- The parts when so many have been carried. -/
def cyL (x : Num5) : Nat → List Int
  | 0 => [(x.a : Int), (x.b : Int), (x.c : Int), (x.d : Int), (x.e : Int)]
  | 1 => [(x.a : Int) % 67108864, (x.b : Int), (x.c : Int), (x.d : Int), (x.e : Int)]
  | 2 => [(x.a : Int) % 67108864, (cb x : Int) % 67108864, (x.c : Int), (x.d : Int), (x.e : Int)]
  | 3 => [(x.a : Int) % 67108864, (cb x : Int) % 67108864, (cc x : Int) % 67108864, (x.d : Int), (x.e : Int)]
  | 4 => [(x.a : Int) % 67108864, (cb x : Int) % 67108864, (cc x : Int) % 67108864, (cd x : Int) % 67108864, (x.e : Int)]
  | _ => [(x.a : Int) % 67108864, (cb x : Int) % 67108864, (cc x : Int) % 67108864, (cd x : Int) % 67108864, (ce x : Int) % 67108864]
def cyO (x : Num5) : Nat → Int
  | 0 => 0
  | 1 => (x.a : Int) / 67108864
  | 2 => (cb x : Int) / 67108864
  | 3 => (cc x : Int) / 67108864
  | 4 => (cd x : Int) / 67108864
  | _ => (ce x : Int) / 67108864
theorem cyL_len (x : Num5) (k : Nat) : (cyL x k).length = 5 := by unfold cyL; split <;> rfl
theorem cy_step (x : Num5) (k : Nat) (h : k < 5) (hx : x.bd 576460752303423488 576460752303423488) : ∃ z : Int, (cyL x k)[k]? = some z ∧ 0 ≤ z ∧ z < 576460752303423488 ∧ 0 ≤ cyO x k ∧ cyO x k < 17179869184 ∧
    cyL x (k + 1) = (cyL x k).set k ((z + cyO x k) % 67108864) ∧ cyO x (k + 1) = (z + cyO x k) / 67108864 := by
  obtain ⟨h1, h2, h3, h4, h5⟩ := hx
  have e1 : cb x = x.b + x.a / 67108864 := rfl
  have e2 : cc x = x.c + cb x / 67108864 := rfl
  have e3 : cd x = x.d + cc x / 67108864 := rfl
  have e4 : ce x = x.e + cd x / 67108864 := rfl
  match k, h with
  | 0, _ => exact ⟨x.a, rfl, by omega, by omega, by simp [cyO], by simp [cyO], by simp [cyL, cyO], by simp [cyO]⟩
  | 1, _ => exact ⟨x.b, rfl, by omega, by omega, by simp only [cyO]; omega, by simp only [cyO]; omega, by simp [cyL, cyO, e1], by simp [cyO, e1]⟩
  | 2, _ => exact ⟨x.c, rfl, by omega, by omega, by simp only [cyO]; omega, by simp only [cyO]; omega, by simp only [cyL, cyO, e2]; simp, by simp only [cyO, e2]; simp⟩
  | 3, _ => exact ⟨x.d, rfl, by omega, by omega, by simp only [cyO]; omega, by simp only [cyO]; omega, by simp only [cyL, cyO, e3]; simp, by simp only [cyO, e3]; simp⟩
  | 4, _ => exact ⟨x.e, rfl, by omega, by omega, by simp only [cyO]; omega, by simp only [cyO]; omega, by simp only [cyL, cyO, e4]; simp, by simp only [cyO, e4]; simp⟩
theorem cy_end (x : Num5) : (cyL x 5).set 0 ((x.a : Int) % 67108864 + 5 * cyO x 5) = (carry x).list := by
  simp [cyL, cyO, Num5.list, carry]

theorem cy_bd (x : Num5) (hx : x.bd 576460752303423488 576460752303423488) : 0 ≤ cyO x 5 ∧ cyO x 5 < 17179869184 := by
  obtain ⟨h1, h2, h3, h4, h5⟩ := hx
  have e1 : cb x = x.b + x.a / 67108864 := rfl
  have e2 : cc x = x.c + cb x / 67108864 := rfl
  have e3 : cd x = x.d + cc x / 67108864 := rfl
  have e4 : ce x = x.e + cd x / 67108864 := rfl
  simp only [cyO]
  omega
def n5Z : Obj := Obj.cells #[Value.int IntKind.u64 0, Value.int IntKind.u64 0, Value.int IntKind.u64 0, Value.int IntKind.u64 0, Value.int IntKind.u64 0] 138
theorem Tryz.infN : (Tryz.prog.info? 138).map (·.size) = some 5 := by kernel_rfl
theorem Tryz.undN : Tryz.prog.underlying 138 = some (.array 5 111) := by kernel_rfl
theorem Tryz.infNL (zs : List Int) (h : zs.length = 5) : (Tryz.prog.info? 138).map (·.size) = some (stK .u64 zs).size := by rw [stK_size, h]; exact Tryz.infN
theorem num5_len (x : Num5) : x.list.length = 5 := rfl

set_option maxRecDepth 100000 in
set_option maxHeartbeats 1600000 in
theorem carried_any (x : Num5) (w : World) (hx : x.bd 576460752303423488 576460752303423488) :
    Calls Tryz.prog 175 #[.agg (stK .u64 x.list)] w fun e w' => e = .returned (.agg (stK .u64 (carry x).list)) ∧ Below w.heap.size w w' := by
  go_enter Tryz.func175, Tryz.ntmps175
  go_wp2
  have hA0 : Arr ((w.alloc (.cells (stK .u64 x.list) 138)).alloc n5Z) w.heap.size 138 .u64 (cyL x 0) := (Arr.new w _ _ _).alloc _
  have hZ0 : ((w.alloc (.cells (stK .u64 x.list) 138)).alloc n5Z).heap[w.heap.size + 1]? = some n5Z := by
    have := heap_alloc_new (w.alloc (.cells (stK .u64 x.list) 138)) n5Z
    simpa using this
  have hB0 : Below w.heap.size w ((w.alloc (.cells (stK .u64 x.list) 138)).alloc n5Z) := ((Below.refl _ _).alloc (Nat.le_refl _) _).alloc (by simp) _
  go_loopw [3, 5] (fun o i wr => ∃ k : Nat, k ≤ 5 ∧ i = .int .i64 k ∧ o = .int .u64 (cyO x k) ∧ Arr wr w.heap.size 138 .u64 (cyL x k) ∧ wr.heap[w.heap.size + 1]? = some n5Z ∧ Below w.heap.size w wr)
    (fun _ i _ => 5 - (intOf i).toNat)
  case atStart => exact ⟨0, Nat.zero_le _, rfl, rfl, hA0, hZ0, hB0⟩
  case round =>
    obtain ⟨k, hk, rfl, rfl, hA, hZ, hB⟩ := hrel
    clear hA0 hZ0 hB0
    have hlen := cyL_len x k
    by_cases hlt : k < 5
    · obtain ⟨z, hz, hz0, hz1, ho0, ho1, hL, hO⟩ := cy_step x k hlt hx
      obtain ⟨o, ho⟩ : ∃ o, o = cyO x k := ⟨_, rfl⟩
      rw [← ho] at ho0 ho1 hL hO ⊢
      have hc := hA.cell k (by rw [hlen]; exact hlt)
      have hz' : (cyL x k)[k]'(by rw [hlen]; exact hlt) = z := by rw [List.getElem?_eq_getElem (by rw [hlen]; exact hlt)] at hz; exact Option.some.inj hz
      rw [hz'] at hc
      have hf := hA.frozen k
      have hA2 := (hA.set k (z + o)).set k ((z + o) % 67108864)
      rw [List.set_set, ← hL] at hA2
      have hn := and26 (z + o) (by omega) (by omega)
      have HA2 := Lib.hid hA2
      have HO := Lib.hid hO
      clear hA hA2 hL hO hz hz' ho hlen
      go_wp2
      go_roundw
      case rel => exact ⟨k + 1, by omega, by go_num, by rw [HO.out], HA2.out, by rw [heap_setCell_other _ _ _ _ (by simp), heap_setCell_other _ _ _ _ (by simp)]; exact hZ, (hB.setCell (p := ⟨w.heap.size, k, none⟩) (Nat.le_refl _) _).setCell (p := ⟨w.heap.size, k, none⟩) (Nat.le_refl _) _⟩
      case measure => simp [intOf]; omega
    · have hk5 : k = 5 := by omega
      subst hk5
      have hc := hA.cell 0 (by rw [hlen]; decide)
      have hz' : (cyL x 5)[0]'(by rw [hlen]; decide) = (x.a : Int) % 67108864 := rfl
      rw [hz'] at hc
      have hf := hA.frozen 0
      have ho := cy_bd x hx
      obtain ⟨o, ho'⟩ : ∃ o, o = cyO x 5 := ⟨_, rfl⟩
      have hA2 := hA.set 0 ((x.a : Int) % 67108864 + 5 * cyO x 5)
      have hB2 := hB.setCell (p := ⟨w.heap.size, 0, none⟩) (Nat.le_refl _) (.int .u64 ((x.a : Int) % 67108864 + 5 * cyO x 5))
      have hZ2 := heap_setCell_other wr ⟨w.heap.size, 0, none⟩ (w.heap.size + 1) (.int .u64 ((x.a : Int) % 67108864 + 5 * cyO x 5)) (by simp)
      rw [hZ] at hZ2
      rw [cy_end x] at hA2
      rw [← ho'] at ho hA2 hB2 hZ2 ⊢
      obtain ⟨ho0, ho1⟩ := ho
      have HA2 := Lib.hid hA2
      have HZ2 := Lib.hid hZ2
      obtain ⟨a0, ha0⟩ : ∃ a0, a0 = (x.a : Int) % 67108864 := ⟨_, rfl⟩
      have hab : 0 ≤ a0 ∧ a0 < 67108864 := by omega
      obtain ⟨hab0, hab1⟩ := hab
      rw [← ha0] at hc HA2 hB2 HZ2
      have HI := Lib.hid (Tryz.infNL (carry x).list rfl)
      clear hA hA2 hz' ho' hlen hZ hZ2 ha0
      go_wp2_with (first | (refine wpList_load_row rfl _ (.tmp 1) rfl w.heap.size rfl _ _ _ _ HA2.out Tryz.undN rfl HI.out ?_) | (refine wpList_store_row rfl _ (.tmp 2) (.tmp 30) rfl (w.heap.size + 1) _ rfl rfl _ _ HZ2.out HI.out rfl (stK_one _ _) ?_))
      refine bodyPost_ret (results_cell_row rfl _ _ (w.heap.size + 1) _ _ _ _ rfl (setRow_heap _ _ _ _ _ _ HZ2.out) Tryz.undN rfl HI.out) rfl ?_
      exact ⟨rfl, below_setRow hB2 (by omega) _⟩

theorem eqN (a b c d e a' b' c' d' e' : Int) (w : World) : (Op.equalIn 10000 138 (.agg #[.int .u64 a, .int .u64 b, .int .u64 c, .int .u64 d, .int .u64 e]) (.agg #[.int .u64 a', .int .u64 b', .int .u64 c', .int .u64 d', .int .u64 e'])).run Tryz.prog w = .ok (a == a' && (b == b' && (c == c' && (d == d' && e == e')))) w := by
  have u3 := Tryz.underlying111
  have a3 := Tryz.isAgg111
  have z3 := Tryz.sizeOf111
  rw [show (10000 : Nat) = 9999 + 1 from rfl, Op.equalIn]
  simp only [Sem.run_bind, run_underlying Tryz.undN, Result.andThen_ok]
  simp only [Std.Legacy.Range.forIn_eq_forIn_range', Std.Legacy.Range.size, Nat.sub_zero, Nat.add_sub_cancel, Nat.div_one, List.range'_succ, List.range'_zero, List.forIn_cons, List.forIn_nil]
  go_simp
  by_cases h1 : a = a' <;> by_cases h2 : b = b' <;> by_cases h3 : c = c' <;> by_cases h4 : d = d' <;> by_cases h5 : e = e' <;> simp [h1, h2, h3, h4, h5]

def carryN : Nat → Num5 → Num5
  | 0, x => x
  | k + 1, x => carry (carryN k x)
theorem bd_mono {x : Num5} {A B A' B' : Nat} (h : x.bd A B) (hA : A ≤ A') (hB : B ≤ B') : x.bd A' B' := by
  obtain ⟨h1, h2, h3, h4, h5⟩ := h
  exact ⟨by omega, by omega, by omega, by omega, by omega⟩
theorem carryN_bd {x : Num5} (hx : x.bd 576460752303423488 576460752303423488) (k : Nat) : (carryN k x).bd 576460752303423488 576460752303423488 := by
  induction k with
  | zero => exact hx
  | succ k ih => exact bd_mono (carry_bd1 ih) (by decide) (by decide)

/-- What is left by the prime, as parts. -/
def leftL (x : Num5) : List Int := partsL (x.val % prm)
theorem left_small {x : Num5} (hx : x.bd 576460752303423488 576460752303423488) (h1 : ¬ (67108859 ≤ (carry3 x).a ∧ (carry3 x).b = 67108863 ∧ (carry3 x).c = 67108863 ∧ (carry3 x).d = 67108863 ∧ (carry3 x).e = 67108863)) : (carry3 x).list = leftL x := by
  unfold leftL
  rw [← carry3_mod, Nat.mod_eq_of_lt (small_mod (carry3_bd hx) h1), partsL_val (carry3_bd hx)]
theorem left_great {x : Num5} (hx : x.bd 576460752303423488 576460752303423488) (ha : 67108859 ≤ (carry3 x).a) (hb : (carry3 x).b = 67108863) (hc : (carry3 x).c = 67108863) (hd : (carry3 x).d = 67108863) (he : (carry3 x).e = 67108863) :
    leftL x = [((carry3 x).a : Int) - 67108859, 0, 0, 0, 0] := by
  unfold leftL
  have hbd := carry3_bd hx
  rw [← carry3_mod, great_mod hbd ha hb hc hd he]
  have := hbd.1
  unfold partsL part
  simp only [Nat.reduceMul, Nat.reducePow]
  congr 1
  · omega
  · congr 1
    · omega
    · congr 1
      · omega
      · congr 1
        · omega
        · congr 1
          omega

set_option maxRecDepth 100000 in
set_option maxHeartbeats 1600000 in
theorem belowPrime_any (x : Num5) (w : World) (hx : x.bd 576460752303423488 576460752303423488) :
    Calls Tryz.prog 156 #[.agg (stK .u64 x.list)] w fun e w' => e = .returned (.agg (stK .u64 (leftL x))) ∧ Below w.heap.size w w' := by
  go_enter Tryz.func156, Tryz.ntmps156
  go_wp2
  have hA0 : Arr ((w.alloc (.cells (stK .u64 x.list) 138)).alloc n5Z) w.heap.size 138 .u64 (carryN 0 x).list := (Arr.new w _ _ _).alloc _
  have hZ0 : ((w.alloc (.cells (stK .u64 x.list) 138)).alloc n5Z).heap[w.heap.size + 1]? = some n5Z := by
    have := heap_alloc_new (w.alloc (.cells (stK .u64 x.list) 138)) n5Z
    simpa using this
  have hB0 : Below w.heap.size w ((w.alloc (.cells (stK .u64 x.list) 138)).alloc n5Z) := ((Below.refl _ _).alloc (Nat.le_refl _) _).alloc (by simp) _
  go_loopw [3] (fun i wr => ∃ k : Nat, k ≤ 3 ∧ i = .int .i64 k ∧ Arr wr w.heap.size 138 .u64 (carryN k x).list ∧ wr.heap[w.heap.size + 1]? = some n5Z ∧ Below w.heap.size w wr)
    (fun i _ => 3 - (intOf i).toNat)
  case atStart => exact ⟨0, Nat.zero_le _, rfl, hA0, hZ0, hB0⟩
  case round =>
    obtain ⟨k, hk, rfl, hA, hZ, hB⟩ := hrel
    clear hA0 hZ0 hB0
    by_cases hlt : k < 3
    · have HA := Lib.hid hA
      have HI := Lib.hid (Tryz.infNL (carryN k x).list rfl)
      have HI2 := Lib.hid (Tryz.infNL (carryN (k + 1) x).list rfl)
      have hlt1 := hA.lt
      have hlt2 := (Array.getElem?_eq_some_iff.1 hZ).1
      go_wp2_with (first | (refine wpList_load_row rfl _ (.tmp 1) rfl w.heap.size rfl _ _ _ _ HA.out Tryz.undN rfl HI.out ?_))
      refine (carried_any _ _ (carryN_bd hx k)).mono ?_
      rintro e w1 ⟨rfl, hb1⟩
      have hA1 := hA.below hb1 hlt1
      have hZ1 := (hb1.block (w.heap.size + 1) hlt2).trans hZ
      have hB1 := hB.trans (hb1.mono hB.size)
      rename_i hK
      refine hK _ _ ?_
      refine wpList_store_row rfl _ (.tmp 1) (.tmp 6) rfl w.heap.size (stK .u64 (carryN (k + 1) x).list) rfl rfl _ _ hA1 HI2.out rfl (stK_one _ _) ?_
      have hA2 := hA1.row (carryN (k + 1) x).list rfl
      have hZ2 := (setRow_other w1 w.heap.size (w.heap.size + 1) (stK .u64 (carryN (k + 1) x).list) (by omega)).trans hZ1
      have hB2 := below_setRow hB1 (Nat.le_refl _) (stK .u64 (carryN (k + 1) x).list)
      clear hK hA1 hZ1 hB1 hb1 HA hA hZ hB
      go_wp2
      go_roundw
      case rel => exact ⟨k + 1, by omega, by go_num, hA2, hZ2, hB2⟩
      case measure => simp [intOf]; omega
    · have hk3 : k = 3 := by omega
      rw [hk3] at hA
      have hbd := carry3_bd hx
      have hs := fun h => left_small hx h
      have hg := fun h1 h2 h3 h4 h5 => left_great hx h1 h2 h3 h4 h5
      change Arr wr w.heap.size 138 .u64 (carry3 x).list at hA
      obtain ⟨y, hy⟩ : ∃ y, y = carry3 x := ⟨_, rfl⟩
      rw [← hy] at hA hbd hs hg
      clear hy hk3
      obtain ⟨a, b, c, d, e⟩ := y
      obtain ⟨ha1, hb1, hc1, hd1, he1⟩ := hbd
      dsimp only at ha1 hb1 hc1 hd1 he1 hs hg
      have hc := hA.cell 0 (Nat.zero_lt_succ _)
      change wr.cell? ⟨w.heap.size, 0, none⟩ = some (.int .u64 (a : Int)) at hc
      have hc' := hA.cell 1 (by exact Nat.lt_of_sub_eq_succ rfl)
      change wr.cell? ⟨w.heap.size, 1, none⟩ = some (.int .u64 (b : Int)) at hc'
      have hc2 := hA.cell 2 (by exact Nat.lt_of_sub_eq_succ rfl)
      change wr.cell? ⟨w.heap.size, 2, none⟩ = some (.int .u64 (c : Int)) at hc2
      have hc3 := hA.cell 3 (by exact Nat.lt_of_sub_eq_succ rfl)
      change wr.cell? ⟨w.heap.size, 3, none⟩ = some (.int .u64 (d : Int)) at hc3
      have hc4 := hA.cell 4 (by exact Nat.lt_of_sub_eq_succ rfl)
      change wr.cell? ⟨w.heap.size, 4, none⟩ = some (.int .u64 (e : Int)) at hc4
      have HA := Lib.hid hA
      have HZ := Lib.hid hZ
      have HS := Lib.hid hs
      have HG := Lib.hid hg
      have HI := Lib.hid (Tryz.infNL (Num5.mk a b c d e).list rfl)
      clear hs hg hA hZ hx
      have hq := eqN (a : Int) (b : Int) (c : Int) (d : Int) (e : Int) (a : Int) 67108863 67108863 67108863 67108863 wr
      by_cases ha : 67108859 ≤ a
      · by_cases hbe : b = 67108863 ∧ c = 67108863 ∧ d = 67108863 ∧ e = 67108863
        · obtain ⟨rfl, rfl, rfl, rfl⟩ := hbe
          have hg := HG.out ha rfl rfl rfl rfl
          have HG2 := Lib.hid hg
          have HI2 := Lib.hid (Tryz.infNL [(a : Int) - 67108859, 0, 0, 0, 0] rfl)
          have hq' : (Op.equalIn 10000 138 (.agg #[.int .u64 (a : Int), .int .u64 67108863, .int .u64 67108863, .int .u64 67108863, .int .u64 67108863]) (.agg #[.int .u64 (a : Int), .int .u64 67108863, .int .u64 67108863, .int .u64 67108863, .int .u64 67108863])).run Tryz.prog wr = .ok true wr := by
            rw [eqN]; simp
          clear hq hg
          go_wp2_with (first | (refine wpList_store_row rfl _ (.tmp 2) (.tmp 21) rfl (w.heap.size + 1) (stK .u64 [(a : Int) - 67108859, 0, 0, 0, 0]) rfl rfl _ _ HZ.out HI2.out rfl (stK_one _ _) ?_))
          refine bodyPost_ret (results_cell_row rfl _ _ (w.heap.size + 1) _ _ _ _ rfl (setRow_heap _ _ _ _ _ _ HZ.out) Tryz.undN rfl HI2.out) rfl ?_
          exact ⟨by rw [HG2.out], below_setRow hB (by omega) _⟩
        · have hs := HS.out (by omega)
          have HS2 := Lib.hid hs
          have hq' : (Op.equalIn 10000 138 (.agg #[.int .u64 (a : Int), .int .u64 (b : Int), .int .u64 (c : Int), .int .u64 (d : Int), .int .u64 (e : Int)]) (.agg #[.int .u64 (a : Int), .int .u64 67108863, .int .u64 67108863, .int .u64 67108863, .int .u64 67108863])).run Tryz.prog wr = .ok false wr := by
            rw [eqN]
            have : ((a : Int) == a && ((b : Int) == 67108863 && ((c : Int) == 67108863 && ((d : Int) == 67108863 && (e : Int) == 67108863)))) = false := by
              simp only [Bool.and_eq_false_iff, beq_eq_false_iff_ne]; omega
            rw [this]
          clear hq hs hbe
          go_wp2_with (first | (refine wpList_load_row rfl _ (.tmp 1) rfl w.heap.size rfl _ _ _ _ HA.out Tryz.undN rfl HI.out ?_) | (refine wpList_store_row rfl _ (.tmp 2) (.tmp 22) rfl (w.heap.size + 1) _ rfl rfl _ _ HZ.out HI.out rfl (stK_one _ _) ?_))
          refine bodyPost_ret (results_cell_row rfl _ _ (w.heap.size + 1) _ _ _ _ rfl (setRow_heap _ _ _ _ _ _ HZ.out) Tryz.undN rfl HI.out) rfl ?_
          exact ⟨by rw [← HS2.out], below_setRow hB (by omega) _⟩
      · have hs := HS.out (by omega)
        have HS2 := Lib.hid hs
        clear hq hs hc' hc2 hc3 hc4
        go_wp2_with (first | (refine wpList_load_row rfl _ (.tmp 1) rfl w.heap.size rfl _ _ _ _ HA.out Tryz.undN rfl HI.out ?_) | (refine wpList_store_row rfl _ (.tmp 2) (.tmp 22) rfl (w.heap.size + 1) _ rfl rfl _ _ HZ.out HI.out rfl (stK_one _ _) ?_))
        refine bodyPost_ret (results_cell_row rfl _ _ (w.heap.size + 1) _ _ _ _ rfl (setRow_heap _ _ _ _ _ _ HZ.out) Tryz.undN rfl HI.out) rfl ?_
        exact ⟨by rw [← HS2.out], below_setRow hB (by omega) _⟩
end Go.Proofs.YtlipgmaiooljkaaGreatDoor
