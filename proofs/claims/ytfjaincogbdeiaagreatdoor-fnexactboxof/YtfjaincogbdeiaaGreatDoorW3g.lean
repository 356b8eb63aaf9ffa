/- Contracts: numbers of the reference from and to bytes. -/
import Derived.Test.YtfjaincogbdeiaaGreatDoorW3e
import Derived.Test.YtfjaincogbdeiaaGreatDoorW3d
import Derived.Laws.DeepStrings4
import Derived.IntWalk
namespace Go.Proofs.YtfjaincogbdeiaaGreatDoor
open Go.ChangeShapes Go.WideShapes Go.ChangeAt Go.RowKit
set_option linter.unusedVariables false

theorem byte_dig (s : ByteArray) (q : Nat) (h : q < s.size) : s[q].toNat = dig 8 q (leNat s.data.toList) := by
  rw [leNat_dig s.data.toList q (by simpa using h)]; rfl

theorem bit_facts (c r t d : Nat) (hc : c < 256) (ht : t < 26) (hd : c / 2 ^ r % 2 = d) : ∃ y z : Nat, wrap64 ((c : Int) / 2 ^ r) = (y : Int) ∧ (y : Int).tmod 2 = (d : Int) ∧ (y : Int) % 2 = (d : Int) ∧ wrap64 ((d : Int) * 2 ^ t) = (z : Int) ∧ z = d * 2 ^ t ∧ z ≤ 2 * 33554432 ∧ y < 256 ∧ d < 2 := by
  have hyb : c / 2 ^ r < 256 := Nat.lt_of_le_of_lt (Nat.div_le_self _ _) hc
  have hd2 : d < 2 := by rw [← hd]; exact Nat.mod_lt _ (by decide)
  have hzb : d * 2 ^ t ≤ 2 * 33554432 := Nat.mul_le_mul (Nat.le_of_lt hd2) (pow_le25 t ht)
  have e1 : (c : Int) / 2 ^ r = ((c / 2 ^ r : Nat) : Int) := by simp
  have e2 : (d : Int) * 2 ^ t = ((d * 2 ^ t : Nat) : Int) := by simp
  refine ⟨c / 2 ^ r, d * 2 ^ t, ?_, ?_, ?_, ?_, rfl, hzb, hyb, hd2⟩
  · rw [e1]; generalize c / 2 ^ r = y at *; simp only [wrap64]; omega
  · generalize c / 2 ^ r = y at *; rw [Int.tmod_eq_emod_of_nonneg (by omega)]; omega
  · generalize c / 2 ^ r = y at *; omega
  · rw [e2]; generalize d * 2 ^ t = z at *; simp only [wrap64]; omega

set_option maxRecDepth 100000 in
set_option maxHeartbeats 1600000 in
theorem l3Load_any (s : ByteArray) (w : World) (hs : s.size ≤ 17) :
    Calls Tryz.prog 131 #[.string s] w fun e w' => e = .returned (.agg (stK .i64 (partsL (leNat s.data.toList % 2 ^ 130)))) ∧ Below w.heap.size w w' := by
  have hvl := leNat_lt s.data.toList
  obtain ⟨v, hv⟩ : ∃ v, v = leNat s.data.toList := ⟨_, rfl⟩
  have hsl : s.data.toList.length = s.size := by simp
  rw [hsl, pow256, ← hv] at hvl
  rw [← hv]
  obtain ⟨u, hu⟩ : ∃ u, u = v % 2 ^ 130 := ⟨_, rfl⟩
  rw [← hu]
  have HU := Lib.hid hu
  clear hu
  have HV := Lib.hid hv
  have HVL := Lib.hid hvl
  clear hv hvl hsl
  go_enter Tryz.func131, Tryz.ntmps131
  go_wp2
  obtain ⟨W0, hW0⟩ : ∃ W0, W0 = (w.alloc s5Z).alloc s5Z := ⟨_, rfl⟩
  have hA0 : Arr W0 (w.heap.size + 1) 151 .i64 (partsL (v % 2 ^ 0)) := by
    have h := heap_alloc_new (w.alloc s5Z) s5Z
    rw [Nat.pow_zero, Nat.mod_one, partsL_zero]
    show W0.heap[w.heap.size + 1]? = some s5Z
    rw [hW0]; simpa using h
  have hZ0 : W0.heap[w.heap.size]? = some s5Z := by
    have h := heap_alloc_new w s5Z
    rw [hW0, heap_alloc_old _ _ (by simp)]; simpa using h
  have hB0 : Below w.heap.size w W0 := by rw [hW0]; exact ((Below.refl _ _).alloc (Nat.le_refl _) _).alloc (by simp) _
  go_loopw [4] (fun i wr => ∃ k : Nat, k ≤ 8 * s.size ∧ k ≤ 130 ∧ i = .int .i64 k ∧ Arr wr (w.heap.size + 1) 151 .i64 (partsL (v % 2 ^ k)) ∧ wr.heap[w.heap.size]? = some s5Z ∧ Below w.heap.size w wr)
    (fun i _ => 130 - (intOf i).toNat)
  case atStart => subst hW0; exact ⟨0, Nat.zero_le _, Nat.zero_le _, rfl, hA0, hZ0, hB0⟩
  case round =>
    obtain ⟨k, hk, hk2, rfl, hA, hZ, hB⟩ := hrel
    clear hA0 hZ0 hB0 hW0 W0
    by_cases hlt : k < 8 * s.size ∧ k < 130
    · obtain ⟨hl1, hl2⟩ := hlt
      have hi1 : (k : Int) < 8 * (s.size : Int) := by omega
      have hi2 : (k : Int) < 130 := by omega
      have hbit := partsL_bit v k hl2
      have hd8 := dig_at 8 k v (by decide)
      obtain ⟨q, hq⟩ : ∃ q, q = k / 8 := ⟨_, rfl⟩
      obtain ⟨r, hr⟩ : ∃ r, r = k % 8 := ⟨_, rfl⟩
      obtain ⟨p, hp⟩ : ∃ p, p = k / 26 := ⟨_, rfl⟩
      obtain ⟨t, ht⟩ : ∃ t, t = k % 26 := ⟨_, rfl⟩
      rw [← hq, ← hr] at hd8
      rw [← hp, ← ht] at hbit
      have hqi : (k : Int) / 8 = (q : Int) := by omega
      have hri : (k : Int) % 8 = (r : Int) := by omega
      have hpi : (k : Int) / 26 = (p : Int) := by omega
      have hti : (k : Int) % 26 = (t : Int) := by omega
      have hqs : q < s.size := by omega
      have hqs' : (q : Int) < (s.size : Int) := by omega
      have hr8 : r < 8 := by omega
      have hp5 : p < 5 := by omega
      have ht26 : t < 26 := by omega
      have hwr : IntKind.u64.wrap (r : Int) = (r : Int) := IntWalk.u64_in _ (by omega)
      have hwt : IntKind.u64.wrap (t : Int) = (t : Int) := IntWalk.u64_in _ (by omega)
      have hc := hA.cellP p hp5
      have hf := hA.frozen p
      have hpl := part_lt p (v % 2 ^ k)
      have hbd := byte_dig s q hqs
      rw [← HV.out] at hbd
      rw [← hbd] at hd8
      obtain ⟨d, hd⟩ : ∃ d, d = v / 2 ^ k % 2 := ⟨_, rfl⟩
      rw [← hd] at hd8 hbit
      obtain ⟨y, z, hw1, htm, htm', hw2, hz, hzb, hyb, hd2⟩ := bit_facts s[q].toNat r t d s[q].toNat_lt ht26 hd8
      rw [← hz] at hbit
      have hA2 := hA.set p ((part p (v % 2 ^ k) : Int) + (z : Int))
      rw [← hbit] at hA2
      have HA2 := Lib.hid hA2
      clear hq hr hp ht hbd hd hz hbit hA hA2 hd8
      go_wp2
      go_roundw
      case rel => exact ⟨k + 1, by omega, by omega, by go_num, HA2.out, (heap_setCell_other _ _ _ _ (by simp)).trans hZ, hB.setCell (p := ⟨w.heap.size + 1, p, none⟩) (by simp) _⟩
      case measure => simp [intOf]; omega
    · have hE : v % 2 ^ k = u := by
        rw [HU.out]
        by_cases h130 : k = 130
        · rw [h130]
        · have hk8 : k = 8 * s.size := by omega
          have h1 := HVL.out
          rw [← hk8] at h1
          rw [Nat.mod_eq_of_lt h1, Nat.mod_eq_of_lt (Nat.lt_of_lt_of_le h1 (Nat.pow_le_pow_right (by decide) hk2))]
      rw [hE] at hA
      have HA := Lib.hid hA
      have HZ := Lib.hid hZ
      have HI := Lib.hid (Tryz.infSL (partsL u) (partsL_len u))
      clear hE hA hZ
      by_cases hl1 : k < 8 * s.size
      · have hi1 : (k : Int) < 8 * (s.size : Int) := by omega
        have hi2 : ¬ (k : Int) < 130 := by omega
        go_wp2_with (first | (refine wpList_load_row rfl _ (.tmp 3) rfl (w.heap.size + 1) rfl _ _ _ _ HA.out Tryz.undS rfl HI.out ?_) | (refine wpList_store_row rfl _ (.tmp 2) (.tmp 41) rfl w.heap.size _ rfl rfl _ _ HZ.out HI.out (by rw [stK_size]; rfl) (stK_one _ _) ?_))
        refine bodyPost_ret (results_cell_row rfl _ _ w.heap.size _ _ _ _ rfl (setRow_heap _ _ _ _ _ _ HZ.out) Tryz.undS rfl HI.out) rfl ?_
        exact ⟨rfl, below_setRow hB (by omega) _⟩
      · have hi1 : ¬ (k : Int) < 8 * (s.size : Int) := by omega
        go_wp2_with (first | (refine wpList_load_row rfl _ (.tmp 3) rfl (w.heap.size + 1) rfl _ _ _ _ HA.out Tryz.undS rfl HI.out ?_) | (refine wpList_store_row rfl _ (.tmp 2) (.tmp 41) rfl w.heap.size _ rfl rfl _ _ HZ.out HI.out (by rw [stK_size]; rfl) (stK_one _ _) ?_))
        refine bodyPost_ret (results_cell_row rfl _ _ w.heap.size _ _ _ _ rfl (setRow_heap _ _ _ _ _ _ HZ.out) Tryz.undS rfl HI.out) rfl ?_
        exact ⟨rfl, below_setRow hB (by omega) _⟩

theorem bytesL_zero : bytesL 17 0 = List.replicate 17 0 := by
  apply List.ext_getElem
  · simp [bytesL]
  · intro j h1 h2
    rw [bytesL_get 17 0 j (by simpa using h2), List.getElem_replicate]; simp [dig]
theorem bytes_conv {l : List UInt8} : (l.map (fun c => (c.toNat : Int))).map (Value.int .u8) = l.map bc := by simp [bc]

theorem bit_facts2 (c r t d o : Nat) (hr : r < 8) (hd : c / 2 ^ t % 2 = d) (ho : o + d * 2 ^ r < 256) : ∃ y z : Nat, IntKind.u8.wrap ((c : Int) / 2 ^ t) = (y : Int) ∧ (y : Int).tmod 2 = (d : Int) ∧ (y : Int) % 2 = (d : Int) ∧ IntKind.u8.wrap ((d : Int) * 2 ^ r) = (z : Int) ∧ z = d * 2 ^ r ∧ IntKind.u8.wrap ((o : Int) + (z : Int)) = (o : Int) + (z : Int) ∧ y < 256 ∧ z < 256 := by
  have hd2 : d < 2 := by rw [← hd]; exact Nat.mod_lt _ (by decide)
  have e1 : (c : Int) / 2 ^ t = ((c / 2 ^ t : Nat) : Int) := by simp
  have e2 : (d : Int) * 2 ^ r = ((d * 2 ^ r : Nat) : Int) := by simp
  refine ⟨c / 2 ^ t % 256, d * 2 ^ r, ?_, ?_, ?_, ?_, rfl, ?_, Nat.mod_lt _ (by decide), ?_⟩
  · rw [e1]; generalize c / 2 ^ t = y at *; rw [IntKind.wrap_u8']; omega
  · generalize c / 2 ^ t = y at *; rw [Int.tmod_eq_emod_of_nonneg (by omega)]; omega
  · generalize c / 2 ^ t = y at *; omega
  · rw [e2]; generalize d * 2 ^ r = z at *; rw [IntKind.wrap_u8']; omega
  · generalize d * 2 ^ r = z at *; rw [IntKind.wrap_u8']; omega
  · generalize d * 2 ^ r = z at *; omega
theorem ownK_cellO {e : TypeId} {k : IntKind} {w : World} {base g cap n : Nat} {zs : List Int} {z : Int} (h : OwnK e k w base (.slice (some ⟨g, 0, none⟩) n cap) zs) (hn : n = zs.length) (j : Nat) (hz : zs[j]? = some z) : w.cell? ⟨g, j, none⟩ = some (.int k z) := by
  subst hn
  obtain ⟨hl, e⟩ := List.getElem?_eq_some_iff.1 hz
  have := World.ownsRow.cellAt h j (by omega)
  rw [this]
  have hk' : j < (zs.map (Value.int k)).length := by rw [List.length_map]; exact hl
  rw [List.getElem?_eq_getElem hk', List.getElem_map, e]
theorem conv_ownK {w : World} {base : Nat} {val : Value} {v : Nat} (h : OwnK 5 .u8 w base val (bytesL 17 v)) : (convert 56 9 val).run Tryz.prog w = .ok (.string (txtR v)) w := by
  have h' : OwnB w base val (leBy 17 v) := by
    unfold OwnB
    unfold OwnK at h
    rw [bytesL_len, ← leBy_dig, bytes_conv] at h
    rw [leBy_len]
    exact h
  exact conv_ownB h'

set_option maxRecDepth 100000 in
set_option maxHeartbeats 1600000 in
theorem l3Store_any (v : Nat) (w : World) (hv : v < 1361129467683753853853498429727072845824) :
    Calls Tryz.prog 135 #[.agg (stK .i64 (partsL v))] w fun e w' => e = .returned (.string (txtR v)) ∧ Below w.heap.size w w' := by
  have HV : Hid (v % 2 ^ 130 = v) := Lib.hid (Nat.mod_eq_of_lt hv)
  clear hv
  have hX0 := Arr.new w 151 .i64 (partsL v)
  have hB0 : Below w.heap.size w (w.alloc (.cells (stK .i64 (partsL v)) 151)) := (Below.refl _ _).alloc (Nat.le_refl _) _
  have HX0 := Lib.hid hX0
  have HB0 := Lib.hid hB0
  clear hX0 hB0
  go_enter Tryz.func135, Tryz.ntmps135
  go_wp2_with (at_make; refine wpList_fullK Tryz.underlying56 Tryz.infoU8 (by decide) rfl _ _ rfl (w.heap.size + 1) .i64 .i64 17 rfl rfl (by decide) (by simp) ?_; intro w1 hown hgr)
  have hX1 := HX0.out.below hgr (by simp)
  have hB1 := HB0.out.trans (hgr.mono (by simp))
  have hO1 : OwnK 5 .u8 w1 (w.heap.size + 1) (.slice (some ⟨w.heap.size + 1, 0, none⟩) 17 17) (bytesL 17 (v % 2 ^ 0)) := by
    rw [Nat.pow_zero, Nat.mod_one, bytesL_zero]
    simpa using hown
  clear HX0 HB0 hgr hown
  go_loopw [4] (fun i wr => ∃ k : Nat, k ≤ 130 ∧ i = .int .i64 k ∧ OwnK 5 .u8 wr (w.heap.size + 1) (.slice (some ⟨w.heap.size + 1, 0, none⟩) 17 17) (bytesL 17 (v % 2 ^ k)) ∧ Arr wr w.heap.size 151 .i64 (partsL v) ∧ Below w.heap.size w wr)
    (fun i _ => 130 - (intOf i).toNat)
  case atStart => exact ⟨0, Nat.zero_le _, rfl, hO1, hX1, hB1⟩
  case round =>
    obtain ⟨k, hk, rfl, hO, hX, hB⟩ := hrel
    clear hO1 hX1 hB1
    have hbl := bytesL_len 17 (v % 2 ^ k)
    by_cases hlt : k < 130
    · have hi2 : (k : Int) < 130 := by omega
      have hbit := bytesL_bit 17 v k
      have hd26 := dig_at 26 k v (by decide)
      have hdl := dig_lt 8 (k / 8) (v % 2 ^ (k + 1))
      rw [dig_bit 8 k v (k / 8) (by decide), if_pos rfl] at hdl
      have hg : (bytesL 17 (v % 2 ^ k))[k / 8]? = some ((dig 8 (k / 8) (v % 2 ^ k) : Nat) : Int) := by
        rw [List.getElem?_eq_getElem (by rw [hbl]; omega), bytesL_get 17 _ _ (by omega)]
      obtain ⟨q, hq⟩ : ∃ q, q = k / 8 := ⟨_, rfl⟩
      obtain ⟨r, hr⟩ : ∃ r, r = k % 8 := ⟨_, rfl⟩
      obtain ⟨p, hp⟩ : ∃ p, p = k / 26 := ⟨_, rfl⟩
      obtain ⟨t, ht⟩ : ∃ t, t = k % 26 := ⟨_, rfl⟩
      rw [← hp, ← ht, ← part_dig] at hd26
      rw [← hq, ← hr] at hbit hdl
      rw [← hq] at hg
      have hqi : (k : Int) / 8 = (q : Int) := by omega
      have hri : (k : Int) % 8 = (r : Int) := by omega
      have hpi : (k : Int) / 26 = (p : Int) := by omega
      have hti : (k : Int) % 26 = (t : Int) := by omega
      have hq17 : q < 17 := by omega
      have hr8 : r < 8 := by omega
      have hp5 : p < 5 := by omega
      have ht26 : t < 26 := by omega
      have hwr : IntKind.u64.wrap (r : Int) = (r : Int) := IntWalk.u64_in _ (by omega)
      have hwt : IntKind.u64.wrap (t : Int) = (t : Int) := IntWalk.u64_in _ (by omega)
      have hc := hX.cellP p hp5
      have hpl := part_lt p v
      obtain ⟨o, ho⟩ : ∃ o, o = dig 8 q (v % 2 ^ k) := ⟨_, rfl⟩
      obtain ⟨d, hd⟩ : ∃ d, d = v / 2 ^ k % 2 := ⟨_, rfl⟩
      rw [← hd] at hd26 hbit hdl
      rw [← ho] at hbit hdl hg
      obtain ⟨y, z, hw1, htm, htm', hw2, hz, hw3, hyb, hzb⟩ := bit_facts2 (part p v) r t d o hr8 hd26 hdl
      rw [← hz] at hbit hdl
      have hob : o < 256 := by omega
      have hc2 := ownK_cellO hO hbl.symm q hg
      have hf2 := hO.free hbl.symm q
      have hO2 := hO.set hbl.symm q ((o : Int) + (z : Int))
      rw [← hbit] at hO2
      have HO2 := Lib.hid hO2
      clear hq hr hp ht hd hz hbit hO hO2 hd26 hdl hg ho hbl
      go_wp2
      go_roundw
      case rel => exact ⟨k + 1, by omega, by go_num, HO2.out, hX.other _ _ _ (by omega), hB.setCell (p := ⟨w.heap.size + 1, q, none⟩) (by simp) _⟩
      case measure => simp [intOf]; omega
    · have hke : k = 130 := by omega
      rw [hke, HV.out] at hO
      have hcv := conv_ownK hO
      clear hke hbl
      go_wp2
      go_ret
      exact ⟨rfl, hB⟩
end Go.Proofs.YtfjaincogbdeiaaGreatDoor
