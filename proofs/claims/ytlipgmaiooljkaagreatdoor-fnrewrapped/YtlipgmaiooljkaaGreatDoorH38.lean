/- Joined: W3g, W3i. -/
import Derived.Laws.DeepStrings4
import Derived.IntWalk
import Derived.Laws.IdiomStrings
import Derived.Test.YtlipgmaiooljkaaGreatDoorH2
import Derived.Test.YtlipgmaiooljkaaGreatDoorH36
import Derived.Test.YtlipgmaiooljkaaGreatDoorH37
/- W3g -/
namespace Go.Proofs.YtlipgmaiooljkaaGreatDoor
open Go.ChangeShapes Go.WideShapes Go.ChangeAt Go.RowKit
set_option linter.unusedVariables false

theorem byte_dig (s : ByteArray) (q : Nat) (h : q < s.size) : s[q].toNat = dig 8 q (leNat s.data.toList) := by
  rw [leNat_dig s.data.toList q (by simpa using h)]; rfl

theorem bit_facts (c r t d : Nat) (hc : c < 256) (ht : t < 26) (hd : c / 2 ^ r % 2 = d) : ∃ y z : Nat, wrap64 ((c : Int) / 2 ^ r) = (y : Int) ∧ (y : Int).tmod 2 = (d : Int) ∧ (y : Int) % 2 = (d : Int) ∧ wrap64 ((d : Int) * 2 ^ t) = (z : Int) ∧ z = d * 2 ^ t ∧ z ≤ 2 * 33554432 ∧ y < 256 ∧ d < 2 := by
  have hyb : c / 2 ^ r < 256 := Nat.lt_of_le_of_lt (Nat.div_le_self _ _) hc
  have hd2 : d < 2 := by rw [← hd]; exact Nat.mod_lt _ (by decide)
  have hzb : d * 2 ^ t ≤ 2 * 33554432 := Nat.mul_le_mul (Nat.le_of_lt hd2) (pow_le25 t ht)
  have e1 : (c : Int) / 2 ^ r = ((c / 2 ^ r : Nat) : Int) := by simp
  have e2 : (d : Int) * 2 ^ t = ((d * 2 ^ t : Nat) : Int) := by simp
  refine ⟨c / 2 ^ r, d * 2 ^ t, ?_, ?_, ?_, ?_, rfl, hzb, hyb, hd2⟩
  · rw [e1]; generalize c / 2 ^ r = y at *; simp only [wrap64]; omega
  · generalize c / 2 ^ r = y at *; rw [Int.tmod_eq_emod_of_nonneg (by omega)]; omega
  · generalize c / 2 ^ r = y at *; omega
  · rw [e2]; generalize d * 2 ^ t = z at *; simp only [wrap64]; omega

set_option maxRecDepth 100000 in
set_option maxHeartbeats 1600000 in
theorem l3Load_any (s : ByteArray) (w : World) (hs : s.size ≤ 17) :
    Calls Tryz.prog 116 #[.string s] w fun e w' => e = .returned (.agg (stK .i64 (partsL (leNat s.data.toList % 2 ^ 130)))) ∧ Below w.heap.size w w' := by
  have hvl := leNat_lt s.data.toList
  obtain ⟨v, hv⟩ : ∃ v, v = leNat s.data.toList := ⟨_, rfl⟩
  have hsl : s.data.toList.length = s.size := by simp
  rw [hsl, pow256, ← hv] at hvl
  rw [← hv]
  obtain ⟨u, hu⟩ : ∃ u, u = v % 2 ^ 130 := ⟨_, rfl⟩
  rw [← hu]
  have HU := Lib.hid hu
  clear hu
  have HV := Lib.hid hv
  have HVL := Lib.hid hvl
  clear hv hvl hsl
  go_enter Tryz.func116, Tryz.ntmps116
  go_wp2
  obtain ⟨W0, hW0⟩ : ∃ W0, W0 = (w.alloc s5Z).alloc s5Z := ⟨_, rfl⟩
  have hA0 : Arr W0 (w.heap.size + 1) 127 .i64 (partsL (v % 2 ^ 0)) := by
    have h := heap_alloc_new (w.alloc s5Z) s5Z
    rw [Nat.pow_zero, Nat.mod_one, partsL_zero]
    show W0.heap[w.heap.size + 1]? = some s5Z
    rw [hW0]; simpa using h
  have hZ0 : W0.heap[w.heap.size]? = some s5Z := by
    have h := heap_alloc_new w s5Z
    rw [hW0, heap_alloc_old _ _ (by simp)]; simpa using h
  have hB0 : Below w.heap.size w W0 := by rw [hW0]; exact ((Below.refl _ _).alloc (Nat.le_refl _) _).alloc (by simp) _
  go_loopw [4] (fun i wr => ∃ k : Nat, k ≤ 8 * s.size ∧ k ≤ 130 ∧ i = .int .i64 k ∧ Arr wr (w.heap.size + 1) 127 .i64 (partsL (v % 2 ^ k)) ∧ wr.heap[w.heap.size]? = some s5Z ∧ Below w.heap.size w wr)
    (fun i _ => 130 - (intOf i).toNat)
  case atStart => subst hW0; exact ⟨0, Nat.zero_le _, Nat.zero_le _, rfl, hA0, hZ0, hB0⟩
  case round =>
    obtain ⟨k, hk, hk2, rfl, hA, hZ, hB⟩ := hrel
    clear hA0 hZ0 hB0 hW0 W0
    by_cases hlt : k < 8 * s.size ∧ k < 130
    · obtain ⟨hl1, hl2⟩ := hlt
      have hi1 : (k : Int) < 8 * (s.size : Int) := by omega
      have hi2 : (k : Int) < 130 := by omega
      have hbit := partsL_bit v k hl2
      have hd8 := dig_at 8 k v (by decide)
      obtain ⟨q, hq⟩ : ∃ q, q = k / 8 := ⟨_, rfl⟩
      obtain ⟨r, hr⟩ : ∃ r, r = k % 8 := ⟨_, rfl⟩
      obtain ⟨p, hp⟩ : ∃ p, p = k / 26 := ⟨_, rfl⟩
      obtain ⟨t, ht⟩ : ∃ t, t = k % 26 := ⟨_, rfl⟩
      rw [← hq, ← hr] at hd8
      rw [← hp, ← ht] at hbit
      have hqi : (k : Int) / 8 = (q : Int) := by omega
      have hri : (k : Int) % 8 = (r : Int) := by omega
      have hpi : (k : Int) / 26 = (p : Int) := by omega
      have hti : (k : Int) % 26 = (t : Int) := by omega
      have hqs : q < s.size := by omega
      have hqs' : (q : Int) < (s.size : Int) := by omega
      have hr8 : r < 8 := by omega
      have hp5 : p < 5 := by omega
      have ht26 : t < 26 := by omega
      have hwr : IntKind.u64.wrap (r : Int) = (r : Int) := IntWalk.u64_in _ (by omega)
      have hwt : IntKind.u64.wrap (t : Int) = (t : Int) := IntWalk.u64_in _ (by omega)
      have hc := hA.cellP p hp5
      have hf := hA.frozen p
      have hpl := part_lt p (v % 2 ^ k)
      have hbd := byte_dig s q hqs
      rw [← HV.out] at hbd
      rw [← hbd] at hd8
      obtain ⟨d, hd⟩ : ∃ d, d = v / 2 ^ k % 2 := ⟨_, rfl⟩
      rw [← hd] at hd8 hbit
      obtain ⟨y, z, hw1, htm, htm', hw2, hz, hzb, hyb, hd2⟩ := bit_facts s[q].toNat r t d s[q].toNat_lt ht26 hd8
      rw [← hz] at hbit
      have hA2 := hA.set p ((part p (v % 2 ^ k) : Int) + (z : Int))
      rw [← hbit] at hA2
      have HA2 := Lib.hid hA2
      clear hq hr hp ht hbd hd hz hbit hA hA2 hd8
      go_wp2
      go_roundw
      case rel => exact ⟨k + 1, by omega, by omega, by go_num, HA2.out, (heap_setCell_other _ _ _ _ (by simp)).trans hZ, hB.setCell (p := ⟨w.heap.size + 1, p, none⟩) (by simp) _⟩
      case measure => simp [intOf]; omega
    · have hE : v % 2 ^ k = u := by
        rw [HU.out]
        by_cases h130 : k = 130
        · rw [h130]
        · have hk8 : k = 8 * s.size := by omega
          have h1 := HVL.out
          rw [← hk8] at h1
          rw [Nat.mod_eq_of_lt h1, Nat.mod_eq_of_lt (Nat.lt_of_lt_of_le h1 (Nat.pow_le_pow_right (by decide) hk2))]
      rw [hE] at hA
      have HA := Lib.hid hA
      have HZ := Lib.hid hZ
      have HI := Lib.hid (Tryz.infSL (partsL u) (partsL_len u))
      clear hE hA hZ
      by_cases hl1 : k < 8 * s.size
      · have hi1 : (k : Int) < 8 * (s.size : Int) := by omega
        have hi2 : ¬ (k : Int) < 130 := by omega
        go_wp2_with (first | (refine wpList_load_row rfl _ (.tmp 3) rfl (w.heap.size + 1) rfl _ _ _ _ HA.out Tryz.undS rfl HI.out ?_) | (refine wpList_store_row rfl _ (.tmp 2) (.tmp 41) rfl w.heap.size _ rfl rfl _ _ HZ.out HI.out (by rw [stK_size]; rfl) (stK_one _ _) ?_))
        refine bodyPost_ret (results_cell_row rfl _ _ w.heap.size _ _ _ _ rfl (setRow_heap _ _ _ _ _ _ HZ.out) Tryz.undS rfl HI.out) rfl ?_
        exact ⟨rfl, below_setRow hB (by omega) _⟩
      · have hi1 : ¬ (k : Int) < 8 * (s.size : Int) := by omega
        go_wp2_with (first | (refine wpList_load_row rfl _ (.tmp 3) rfl (w.heap.size + 1) rfl _ _ _ _ HA.out Tryz.undS rfl HI.out ?_) | (refine wpList_store_row rfl _ (.tmp 2) (.tmp 41) rfl w.heap.size _ rfl rfl _ _ HZ.out HI.out (by rw [stK_size]; rfl) (stK_one _ _) ?_))
        refine bodyPost_ret (results_cell_row rfl _ _ w.heap.size _ _ _ _ rfl (setRow_heap _ _ _ _ _ _ HZ.out) Tryz.undS rfl HI.out) rfl ?_
        exact ⟨rfl, below_setRow hB (by omega) _⟩

theorem bytesL_zero : bytesL 17 0 = List.replicate 17 0 := by
  apply List.ext_getElem
  · simp [bytesL]
  · intro j h1 h2
    rw [bytesL_get 17 0 j (by simpa using h2), List.getElem_replicate]; simp [dig]
theorem bytes_conv {l : List UInt8} : (l.map (fun c => (c.toNat : Int))).map (Value.int .u8) = l.map bc := by simp [bc]

theorem bit_facts2 (c r t d o : Nat) (hr : r < 8) (hd : c / 2 ^ t % 2 = d) (ho : o + d * 2 ^ r < 256) : ∃ y z : Nat, IntKind.u8.wrap ((c : Int) / 2 ^ t) = (y : Int) ∧ (y : Int).tmod 2 = (d : Int) ∧ (y : Int) % 2 = (d : Int) ∧ IntKind.u8.wrap ((d : Int) * 2 ^ r) = (z : Int) ∧ z = d * 2 ^ r ∧ IntKind.u8.wrap ((o : Int) + (z : Int)) = (o : Int) + (z : Int) ∧ y < 256 ∧ z < 256 := by
  have hd2 : d < 2 := by rw [← hd]; exact Nat.mod_lt _ (by decide)
  have e1 : (c : Int) / 2 ^ t = ((c / 2 ^ t : Nat) : Int) := by simp
  have e2 : (d : Int) * 2 ^ r = ((d * 2 ^ r : Nat) : Int) := by simp
  refine ⟨c / 2 ^ t % 256, d * 2 ^ r, ?_, ?_, ?_, ?_, rfl, ?_, Nat.mod_lt _ (by decide), ?_⟩
  · rw [e1]; generalize c / 2 ^ t = y at *; rw [IntKind.wrap_u8']; omega
  · generalize c / 2 ^ t = y at *; rw [Int.tmod_eq_emod_of_nonneg (by omega)]; omega
  · generalize c / 2 ^ t = y at *; omega
  · rw [e2]; generalize d * 2 ^ r = z at *; rw [IntKind.wrap_u8']; omega
  · generalize d * 2 ^ r = z at *; rw [IntKind.wrap_u8']; omega
  · generalize d * 2 ^ r = z at *; omega
theorem ownK_cellO {e : TypeId} {k : IntKind} {w : World} {base g cap n : Nat} {zs : List Int} {z : Int} (h : OwnK e k w base (.slice (some ⟨g, 0, none⟩) n cap) zs) (hn : n = zs.length) (j : Nat) (hz : zs[j]? = some z) : w.cell? ⟨g, j, none⟩ = some (.int k z) := by
  subst hn
  obtain ⟨hl, e⟩ := List.getElem?_eq_some_iff.1 hz
  have := World.ownsRow.cellAt h j (by omega)
  rw [this]
  have hk' : j < (zs.map (Value.int k)).length := by rw [List.length_map]; exact hl
  rw [List.getElem?_eq_getElem hk', List.getElem_map, e]
theorem conv_ownK {w : World} {base : Nat} {val : Value} {v : Nat} (h : OwnK 5 .u8 w base val (bytesL 17 v)) : (convert 36 9 val).run Tryz.prog w = .ok (.string (txtR v)) w := by
  have h' : OwnB w base val (leBy 17 v) := by
    unfold OwnB
    unfold OwnK at h
    rw [bytesL_len, ← leBy_dig, bytes_conv] at h
    rw [leBy_len]
    exact h
  exact conv_ownB h'

set_option maxRecDepth 100000 in
set_option maxHeartbeats 1600000 in
theorem l3Store_any (v : Nat) (w : World) (hv : v < 1361129467683753853853498429727072845824) :
    Calls Tryz.prog 120 #[.agg (stK .i64 (partsL v))] w fun e w' => e = .returned (.string (txtR v)) ∧ Below w.heap.size w w' := by
  have HV : Hid (v % 2 ^ 130 = v) := Lib.hid (Nat.mod_eq_of_lt hv)
  clear hv
  have hX0 := Arr.new w 127 .i64 (partsL v)
  have hB0 : Below w.heap.size w (w.alloc (.cells (stK .i64 (partsL v)) 127)) := (Below.refl _ _).alloc (Nat.le_refl _) _
  have HX0 := Lib.hid hX0
  have HB0 := Lib.hid hB0
  clear hX0 hB0
  go_enter Tryz.func120, Tryz.ntmps120
  go_wp2_with (at_make; refine wpList_fullK Tryz.underlying36 Tryz.infoU8 (by decide) rfl _ _ rfl (w.heap.size + 1) .i64 .i64 17 rfl rfl (by decide) (by simp) ?_; intro w1 hown hgr)
  have hX1 := HX0.out.below hgr (by simp)
  have hB1 := HB0.out.trans (hgr.mono (by simp))
  have hO1 : OwnK 5 .u8 w1 (w.heap.size + 1) (.slice (some ⟨w.heap.size + 1, 0, none⟩) 17 17) (bytesL 17 (v % 2 ^ 0)) := by
    rw [Nat.pow_zero, Nat.mod_one, bytesL_zero]
    simpa using hown
  clear HX0 HB0 hgr hown
  go_loopw [4] (fun i wr => ∃ k : Nat, k ≤ 130 ∧ i = .int .i64 k ∧ OwnK 5 .u8 wr (w.heap.size + 1) (.slice (some ⟨w.heap.size + 1, 0, none⟩) 17 17) (bytesL 17 (v % 2 ^ k)) ∧ Arr wr w.heap.size 127 .i64 (partsL v) ∧ Below w.heap.size w wr)
    (fun i _ => 130 - (intOf i).toNat)
  case atStart => exact ⟨0, Nat.zero_le _, rfl, hO1, hX1, hB1⟩
  case round =>
    obtain ⟨k, hk, rfl, hO, hX, hB⟩ := hrel
    clear hO1 hX1 hB1
    have hbl := bytesL_len 17 (v % 2 ^ k)
    by_cases hlt : k < 130
    · have hi2 : (k : Int) < 130 := by omega
      have hbit := bytesL_bit 17 v k
      have hd26 := dig_at 26 k v (by decide)
      have hdl := dig_lt 8 (k / 8) (v % 2 ^ (k + 1))
      rw [dig_bit 8 k v (k / 8) (by decide), if_pos rfl] at hdl
      have hg : (bytesL 17 (v % 2 ^ k))[k / 8]? = some ((dig 8 (k / 8) (v % 2 ^ k) : Nat) : Int) := by
        rw [List.getElem?_eq_getElem (by rw [hbl]; omega), bytesL_get 17 _ _ (by omega)]
      obtain ⟨q, hq⟩ : ∃ q, q = k / 8 := ⟨_, rfl⟩
      obtain ⟨r, hr⟩ : ∃ r, r = k % 8 := ⟨_, rfl⟩
      obtain ⟨p, hp⟩ : ∃ p, p = k / 26 := ⟨_, rfl⟩
      obtain ⟨t, ht⟩ : ∃ t, t = k % 26 := ⟨_, rfl⟩
      rw [← hp, ← ht, ← part_dig] at hd26
      rw [← hq, ← hr] at hbit hdl
      rw [← hq] at hg
      have hqi : (k : Int) / 8 = (q : Int) := by omega
      have hri : (k : Int) % 8 = (r : Int) := by omega
      have hpi : (k : Int) / 26 = (p : Int) := by omega
      have hti : (k : Int) % 26 = (t : Int) := by omega
      have hq17 : q < 17 := by omega
      have hr8 : r < 8 := by omega
      have hp5 : p < 5 := by omega
      have ht26 : t < 26 := by omega
      have hwr : IntKind.u64.wrap (r : Int) = (r : Int) := IntWalk.u64_in _ (by omega)
      have hwt : IntKind.u64.wrap (t : Int) = (t : Int) := IntWalk.u64_in _ (by omega)
      have hc := hX.cellP p hp5
      have hpl := part_lt p v
      obtain ⟨o, ho⟩ : ∃ o, o = dig 8 q (v % 2 ^ k) := ⟨_, rfl⟩
      obtain ⟨d, hd⟩ : ∃ d, d = v / 2 ^ k % 2 := ⟨_, rfl⟩
      rw [← hd] at hd26 hbit hdl
      rw [← ho] at hbit hdl hg
      obtain ⟨y, z, hw1, htm, htm', hw2, hz, hw3, hyb, hzb⟩ := bit_facts2 (part p v) r t d o hr8 hd26 hdl
      rw [← hz] at hbit hdl
      have hob : o < 256 := by omega
      have hc2 := ownK_cellO hO hbl.symm q hg
      have hf2 := hO.free hbl.symm q
      have hO2 := hO.set hbl.symm q ((o : Int) + (z : Int))
      rw [← hbit] at hO2
      have HO2 := Lib.hid hO2
      clear hq hr hp ht hd hz hbit hO hO2 hd26 hdl hg ho hbl
      go_wp2
      go_roundw
      case rel => exact ⟨k + 1, by omega, by go_num, HO2.out, hX.other _ _ _ (by omega), hB.setCell (p := ⟨w.heap.size + 1, q, none⟩) (by simp) _⟩
      case measure => simp [intOf]; omega
    · have hke : k = 130 := by omega
      rw [hke, HV.out] at hO
      have hcv := conv_ownK hO
      clear hke hbl
      go_wp2
      go_ret
      exact ⟨rfl, hB⟩
end Go.Proofs.YtlipgmaiooljkaaGreatDoor

/- W3i -/
namespace Go.Proofs.YtlipgmaiooljkaaGreatDoor
open Go.ChangeShapes Go.WideShapes Go.ChangeAt Go.RowKit
set_option linter.unusedVariables false

/-- The block g begins with these bytes, which may be written. -/
def BRow (w : World) (g : Nat) (zs : List Int) : Prop := ∃ (rest : Array Value) (fr : Nat × Nat), w.heap[g]? = some (.cells ((zs.map (Value.int .u8)).toArray ++ rest) 5 fr) ∧ zs.length ≤ fr.1
theorem BRow.cell {w : World} {g : Nat} {zs : List Int} (h : BRow w g zs) (j : Nat) (hj : j < zs.length) : w.cell? ⟨g, j, none⟩ = some (.int .u8 (zs.getD j 0)) := by
  obtain ⟨rest, fr, hh, _⟩ := h
  rw [cell_of_row w g j _ _ fr hh, Array.getElem?_append_left (by simpa using hj)]
  simp [hj]
theorem BRow.frozen {w : World} {g : Nat} {zs : List Int} (h : BRow w g zs) (j : Nat) (hj : j < zs.length) : w.frozen? ⟨g, j, none⟩ = false := by
  obtain ⟨rest, fr, hh, hl⟩ := h
  obtain ⟨lo, hi⟩ := fr
  simp only [World.frozen?, hh]
  have : ¬ lo ≤ j := by simp at hl; omega
  simp [this]
theorem BRow.lt {w : World} {g : Nat} {zs : List Int} (h : BRow w g zs) : g < w.heap.size := by
  obtain ⟨rest, fr, hh, _⟩ := h
  exact (Array.getElem?_eq_some_iff.1 hh).1
theorem BRow.set {w : World} {g : Nat} {zs : List Int} (h : BRow w g zs) (j : Nat) (hj : j < zs.length) (x : Int) : BRow (w.setCell ⟨g, j, none⟩ (.int .u8 x)) g (zs.set j x) := by
  obtain ⟨rest, fr, hh, hl⟩ := h
  refine ⟨rest, fr, ?_, by simpa using hl⟩
  have e : (w.setCell ⟨g, j, none⟩ (.int .u8 x)).heap[g]? = some (.cells (((zs.map (Value.int .u8)).toArray ++ rest).setIfInBounds j (.int .u8 x)) 5 fr) := by
    simp [World.setCell, Array.getElem?_modify, hh]
  rw [e, Array.setIfInBounds_append_left (by simpa using hj)]
  simp [List.map_set]
theorem BRow.below {w w' : World} {B g : Nat} {zs : List Int} (h : BRow w g zs) (hb : Below B w w') (hg : g < B) : BRow w' g zs := by
  obtain ⟨rest, fr, hh, hl⟩ := h
  exact ⟨rest, fr, (hb.block g hg).trans hh, hl⟩
/-- []byte(s) -/
theorem bytes_conv_any (s : ByteArray) (w : World) : ∃ cap w', (convert 9 36 (.string s)).run Tryz.prog w = .ok (.slice (some ⟨w.heap.size, 0, none⟩) s.size cap) w' ∧ BRow w' w.heap.size (intsOf s.data.toList) ∧ Below w.heap.size w w' := by
  refine ⟨_, _, run_bytes_of_string (P := Tryz.prog) w 9 36 5 s Tryz.underlying9 Tryz.underlying36 Tryz.underlying5, ?_, ?_⟩
  · refine ⟨Array.replicate (grownCap w s.size 0 5 - s.size) (.int .u8 0), ((bytesRow s (grownCap w s.size 0 5)).size, (bytesRow s (grownCap w s.size 0 5)).size + 1), ?_, ?_⟩
    · rw [show w.heap.size = w.drew.heap.size from rfl]
      rw [heap_alloc_new w.drew _]
      congr 2
      unfold bytesRow intsOf
      rw [List.map_map]
      congr 1
      apply Array.toList_inj.1
      simp
    · simp [bytesRow, intsOf]
  · exact (Below.refl _ _).drew.alloc (Nat.le_refl _) _
/-- string(b) -/
theorem BRow.text {w : World} {g : Nat} {zs : List Int} (h : BRow w g zs) (hz : ByteZ zs) (cap n : Nat) (hn : n = zs.length) : (convert 36 9 (.slice (some ⟨g, 0, none⟩) n cap)).run Tryz.prog w = .ok (.string ⟨(bytesOf zs).toArray⟩) w := by
  subst hn
  have hl : (bytesOf zs).length = zs.length := by simp [bytesOf]
  have := run_convert_bytes_back (P := Tryz.prog) w 36 9 5 ⟨g, 0, none⟩ cap (bytesOf zs) Tryz.underlying36 Tryz.underlying5 Tryz.underlying9 ?_
  · rw [hl] at this; exact this
  · intro j hj
    have hj' : j < zs.length := by rw [← hl]; exact hj
    rw [Addr.add_lit, Nat.zero_add, h.cell j hj']
    have hk := hz j
    have e : zs.getD j 0 = zs[j] := by rw [List.getD_eq_getElem?_getD, List.getElem?_eq_getElem hj']; rfl
    rw [e] at hk ⊢
    simp only [bytesOf, List.getElem_map]
    rw [ofNat_toNat8 _ (by omega)]
    congr 2
    omega

theorem ix4_0 (w : World) : Sem.run Tryz.prog (Instr.index 167 (.agg #[.int .i64 3, .int .i64 7, .int .i64 11, .int .i64 15]) (.int .i64 ((0 : Nat) : Int))) w = .ok (.int .i64 3) w := by kernel_rfl
theorem ix4_1 (w : World) : Sem.run Tryz.prog (Instr.index 167 (.agg #[.int .i64 3, .int .i64 7, .int .i64 11, .int .i64 15]) (.int .i64 ((1 : Nat) : Int))) w = .ok (.int .i64 7) w := by kernel_rfl
theorem ix4_2 (w : World) : Sem.run Tryz.prog (Instr.index 167 (.agg #[.int .i64 3, .int .i64 7, .int .i64 11, .int .i64 15]) (.int .i64 ((2 : Nat) : Int))) w = .ok (.int .i64 11) w := by kernel_rfl
theorem ix4_3 (w : World) : Sem.run Tryz.prog (Instr.index 167 (.agg #[.int .i64 3, .int .i64 7, .int .i64 11, .int .i64 15]) (.int .i64 ((3 : Nat) : Int))) w = .ok (.int .i64 15) w := by kernel_rfl
theorem ix4 (n m : Nat) (hn : n < 4) (hm : m = 4 * n + 3) (w : World) : Sem.run Tryz.prog (Instr.index 167 (.agg #[.int .i64 3, .int .i64 7, .int .i64 11, .int .i64 15]) (.int .i64 (n : Int))) w = .ok (.int .i64 (m : Int)) w := by
  subst hm
  have hc : n = 0 ∨ n = 1 ∨ n = 2 ∨ n = 3 := by omega
  rcases hc with rfl | rfl | rfl | rfl
  · exact ix4_0 w
  · exact ix4_1 w
  · exact ix4_2 w
  · exact ix4_3 w
theorem ix3_0 (w : World) : Sem.run Tryz.prog (Instr.index 168 (.agg #[.int .i64 4, .int .i64 8, .int .i64 12]) (.int .i64 ((0 : Nat) : Int))) w = .ok (.int .i64 4) w := by kernel_rfl
theorem ix3_1 (w : World) : Sem.run Tryz.prog (Instr.index 168 (.agg #[.int .i64 4, .int .i64 8, .int .i64 12]) (.int .i64 ((1 : Nat) : Int))) w = .ok (.int .i64 8) w := by kernel_rfl
theorem ix3_2 (w : World) : Sem.run Tryz.prog (Instr.index 168 (.agg #[.int .i64 4, .int .i64 8, .int .i64 12]) (.int .i64 ((2 : Nat) : Int))) w = .ok (.int .i64 12) w := by kernel_rfl
theorem ix3 (n m : Nat) (hn : n < 3) (hm : m = 4 * n + 4) (w : World) : Sem.run Tryz.prog (Instr.index 168 (.agg #[.int .i64 4, .int .i64 8, .int .i64 12]) (.int .i64 (n : Int))) w = .ok (.int .i64 (m : Int)) w := by
  subst hm
  have hc : n = 0 ∨ n = 1 ∨ n = 2 := by omega
  rcases hc with rfl | rfl | rfl
  · exact ix3_0 w
  · exact ix3_1 w
  · exact ix3_2 w

set_option maxRecDepth 100000 in
set_option maxHeartbeats 1600000 in
theorem tagFactor_any (key : ByteArray) (w : World) (hk : key.size = 32) :
    Calls Tryz.prog 127 #[.string key] w fun e w' => e = .returned (.agg (stK .u64 (partsL (facN key)))) ∧ Below w.heap.size w w' := by
  have hk16 : 16 ≤ key.size := by omega
  have hk16' : (16 : Int) ≤ (key.size : Int) := by omega
  have hkl : (key.extract 0 16).data.toList = key.data.toList.take 16 := by
    rw [ByteArray.data_extract, Array.toList_extract, List.extract_eq_take_drop]; simp
  have hks : (key.extract 0 16).size = 16 := by rw [ByteArray.size_extract]; omega
  obtain ⟨s, hs⟩ : ∃ s, s = key.extract 0 16 := ⟨_, rfl⟩
  have HS := Lib.hid hs
  rw [← hs] at hkl hks
  obtain ⟨zs, hzs⟩ : ∃ zs, zs = intsOf s.data.toList := ⟨_, rfl⟩
  have hzb : ByteZ zs := by rw [hzs]; exact byteZ_intsOf _
  have hzl : zs.length = 16 := by rw [hzs]; simp [intsOf, hks]
  have HF : Hid (facN key = leNat (bytesOf (clZ zs))) := Lib.hid (by unfold facN; rw [hzs, hkl])
  have hZ0 : (w.alloc n5Z).heap[w.heap.size]? = some n5Z := heap_alloc_new w n5Z
  have hB0 : Below w.heap.size w (w.alloc n5Z) := (Below.refl _ _).alloc (Nat.le_refl _) _
  obtain ⟨cap, w1, hrun, hrow, hb1⟩ := bytes_conv_any s (w.alloc n5Z)
  have hcs : (w.alloc n5Z).heap.size = w.heap.size + 1 := by simp
  rw [hcs] at hrun hrow
  rw [hks] at hrun
  rw [← hzs] at hrow
  rw [hs] at hrun
  have hZ1 := (hb1.block w.heap.size (by rw [hcs]; omega)).trans hZ0
  have hB1 := hB0.trans (hb1.mono hB0.size)
  unfold n5Z at hrun
  clear hk hkl hks hs hzs hZ0 hB0 hb1 hcs
  go_enter Tryz.func127, Tryz.ntmps127
  go_wp2
  clear hrun
  go_loopw [12] (fun i wr => ∃ k : Nat, k ≤ 4 ∧ i = .int .i64 k ∧ BRow wr (w.heap.size + 1) (cl1 zs k) ∧ wr.heap[w.heap.size]? = some n5Z ∧ Below w.heap.size w wr) (fun i _ => 4 - (intOf i).toNat)
  case atStart => exact ⟨0, Nat.zero_le _, rfl, hrow, hZ1, hB1⟩
  case round =>
    obtain ⟨k, hk, rfl, hA, hZ, hB⟩ := hrel
    clear hrow hZ1 hB1
    have hlen := cl1_len zs k
    by_cases hlt : k < 4
    · obtain ⟨m, hm⟩ : ∃ m, m = 4 * k + 3 := ⟨_, rfl⟩
      have hix := ix4 k m hlt hm wr
      have hml : m < (cl1 zs k).length := by rw [hlen, hzl]; omega
      have hm16 : m < 16 := by omega
      have hc := hA.cell m hml
      have hf := hA.frozen m hml
      have hzz := cl1_byte hzb k m
      have hst : cl1 zs (k + 1) = (cl1 zs k).set m ((cl1 zs k).getD m 0 % 16) := by rw [hm]; rfl
      obtain ⟨x, hx⟩ : ∃ x, x = (cl1 zs k).getD m 0 := ⟨_, rfl⟩
      rw [← hx] at hc hzz hst
      have han := and15' x hzz.1 hzz.2
      have hA2 := hA.set m hml (x % 16)
      rw [← hst] at hA2
      have HA2 := Lib.hid hA2
      clear hm hst hx hA hA2 hlen hml
      go_wp2
      go_roundw
      case rel => exact ⟨k + 1, by omega, by go_num, HA2.out, (heap_setCell_other _ _ _ _ (by simp)).trans hZ, hB.setCell (p := ⟨w.heap.size + 1, m, none⟩) (by simp) _⟩
      case measure => simp [intOf]; omega
    · have hk4 : k = 4 := by omega
      rw [hk4] at hA
      have hyb := cl1_byte hzb 4
      have hyl : (cl1 zs 4).length = 16 := by rw [cl1_len, hzl]
      have HF2 : Hid (facN key = leNat (bytesOf (cl2 (cl1 zs 4) 3))) := HF
      obtain ⟨ys, hys⟩ : ∃ ys, ys = cl1 zs 4 := ⟨_, rfl⟩
      rw [← hys] at hA hyb hyl HF2
      clear hk4 hys hlen HF hzb hzl
      go_wp2
      go_loopw [23] (fun i wr => ∃ k : Nat, k ≤ 3 ∧ i = .int .i64 k ∧ BRow wr (w.heap.size + 1) (cl2 ys k) ∧ wr.heap[w.heap.size]? = some n5Z ∧ Below w.heap.size w wr) (fun i _ => 3 - (intOf i).toNat)
      case atStart => exact ⟨0, Nat.zero_le _, rfl, hA, hZ, hB⟩
      case round =>
        obtain ⟨j, hj, rfl, hA1, hZ1, hB1⟩ := hrel
        clear hA hZ hB
        have hlen := cl2_len ys j
        by_cases hjt : j < 3
        · obtain ⟨m, hm⟩ : ∃ m, m = 4 * j + 4 := ⟨_, rfl⟩
          have hix := ix3 j m hjt hm wr
          have hml : m < (cl2 ys j).length := by rw [hlen, hyl]; omega
          have hm16 : m < 16 := by omega
          have hc := hA1.cell m hml
          have hf := hA1.frozen m hml
          have hzz := cl2_byte hyb j m
          have hst : cl2 ys (j + 1) = (cl2 ys j).set m ((cl2 ys j).getD m 0 / 4 * 4) := by rw [hm]; rfl
          obtain ⟨x, hx⟩ : ∃ x, x = (cl2 ys j).getD m 0 := ⟨_, rfl⟩
          rw [← hx] at hc hzz hst
          have han := and252 x hzz.1 hzz.2
          have hA2 := hA1.set m hml (x / 4 * 4)
          rw [← hst] at hA2
          have HA2 := Lib.hid hA2
          clear hm hst hx hA1 hA2 hlen hml
          go_wp2
          go_roundw
          case rel => exact ⟨j + 1, by omega, by go_num, HA2.out, (heap_setCell_other _ _ _ _ (by simp)).trans hZ1, hB1.setCell (p := ⟨w.heap.size + 1, m, none⟩) (by simp) _⟩
          case measure => simp [intOf]; omega
        · have hj3 : j = 3 := by omega
          rw [hj3] at hA1 hlen
          have hqb := cl2_byte hyb 3
          obtain ⟨qs, hqs⟩ : ∃ qs, qs = cl2 ys 3 := ⟨_, rfl⟩
          rw [← hqs] at hA1 hlen hqb HF2
          have hcv := hA1.text hqb cap 16 (by rw [hlen, hyl])
          have hfl := facN_lt key
          obtain ⟨T, hT⟩ : ∃ T : ByteArray, T = ⟨(bytesOf qs).toArray⟩ := ⟨_, rfl⟩
          rw [← hT] at hcv
          have hTl : T.data.toList = bytesOf qs := by rw [hT]
          have hTs : T.size ≤ 17 := by
            have : T.data.toList.length = 16 := by rw [hTl]; simp [bytesOf, hlen, hyl]
            have h2 : T.data.toList.length = T.size := by simp
            omega
          have hn := numberOf_any T
          rw [hTl, ← HF2.out] at hn
          have HN := Lib.hid (fun w => hn w hTs hfl)
          have hlt2 := (Array.getElem?_eq_some_iff.1 hZ1).1
          have HI := Lib.hid (Tryz.infNL (partsL (facN key)) (partsL_len _))
          clear hj3 hqs hT hTl hn hfl hTs hlen hqb HF2
          go_wp2_with fail
          refine (HN.out _).mono ?_
          rintro e w2 ⟨rfl, hb2⟩
          have hZ2 := (hb2.block w.heap.size hlt2).trans hZ1
          have hB2 := hB1.trans (hb2.mono hB1.size)
          rename_i hK
          refine hK _ _ ?_
          refine wpList_store_row rfl _ (.tmp 2) (.tmp 35) rfl w.heap.size (stK .u64 (partsL (facN key))) rfl rfl _ _ hZ2 HI.out (by rw [stK_size, partsL_len]; rfl) (stK_one _ _) ?_
          clear hK
          go_wp2
          refine bodyPost_ret (results_cell_row rfl _ _ w.heap.size _ _ _ _ rfl (setRow_heap _ _ _ _ _ _ hZ2) Tryz.undN rfl HI.out) rfl ?_
          exact ⟨rfl, below_setRow hB2 (Nat.le_refl _) _⟩

theorem andNot3 (x : Int) (h0 : 0 ≤ x) (h1 : x < 256) : bits .andNot .u8 x 3 = x / 4 * 4 := by
  have h : ∀ n : Fin 256, bits .andNot .u8 (n.val : Int) 3 = (n.val : Int) / 4 * 4 := by decide +kernel
  have := h ⟨x.toNat, by omega⟩
  simp only at this
  rw [Int.toNat_of_nonneg h0] at this
  exact this

set_option maxRecDepth 100000 in
set_option maxHeartbeats 1600000 in
theorem l3Clamp_any (s : ByteArray) (w : World) (hs : s.size = 16) :
    Calls Tryz.prog 117 #[.string s] w fun e w' => e = .returned (.string ⟨(bytesOf (clZ (intsOf s.data.toList))).toArray⟩) ∧ Below w.heap.size w w' := by
  obtain ⟨zs, hzs⟩ : ∃ zs, zs = intsOf s.data.toList := ⟨_, rfl⟩
  have hzb : ByteZ zs := by rw [hzs]; exact byteZ_intsOf _
  have hzl : zs.length = 16 := by rw [hzs]; simp [intsOf, hs]
  obtain ⟨cap, w1, hrun, hrow, hB1⟩ := bytes_conv_any s w
  rw [← hzs] at hrow ⊢
  rw [hs] at hrun
  have HF : Hid (clZ zs = cl2 (cl1 zs 4) 3) := Lib.hid rfl
  clear hs hzs
  go_enter Tryz.func117, Tryz.ntmps117
  go_wp2
  clear hrun
  go_loopw [4] (fun i wr => ∃ k m : Nat, k ≤ 4 ∧ Hid (m = 4 * k + 3) ∧ m ≤ 19 ∧ i = .int .i64 m ∧ BRow wr w.heap.size (cl1 zs k) ∧ Below w.heap.size w wr) (fun i _ => 20 - (intOf i).toNat)
  case atStart => exact ⟨0, 3, Nat.zero_le _, Lib.hid rfl, by omega, rfl, hrow, hB1⟩
  case round =>
    obtain ⟨k, m, hk, hm, hm19, rfl, hA, hB⟩ := hrel
    clear hrow hB1
    have hlen := cl1_len zs k
    by_cases hlt : m < 16
    · have hml : m < (cl1 zs k).length := by rw [hlen, hzl]; omega
      have hc := hA.cell m hml
      have hf := hA.frozen m hml
      have hzz := cl1_byte hzb k m
      have hst : cl1 zs (k + 1) = (cl1 zs k).set m ((cl1 zs k).getD m 0 % 16) := by rw [hm.out]; rfl
      obtain ⟨x, hx⟩ : ∃ x, x = (cl1 zs k).getD m 0 := ⟨_, rfl⟩
      rw [← hx] at hc hzz hst
      obtain ⟨hz0, hz1⟩ := hzz
      have htm : x.tmod 16 = x % 16 := Int.tmod_eq_emod_of_nonneg hz0
      have hA2 := hA.set m hml (x % 16)
      rw [← hst] at hA2
      have HA2 := Lib.hid hA2
      have hk4 : k < 4 := by have := hm.out; omega
      clear hst hx hA hA2 hlen hml
      go_wp2
      go_roundw
      case rel => exact ⟨k + 1, m + 4, by omega, Lib.hid (by rw [hm.out]; omega), by omega, by go_num, HA2.out, hB.setCell (p := ⟨w.heap.size, m, none⟩) (Nat.le_refl _) _⟩
      case measure => simp [intOf]; omega
    · have hk4 : k = 4 := by have := hm.out; omega
      rw [hk4] at hA
      have hyb := cl1_byte hzb 4
      have hyl : (cl1 zs 4).length = 16 := by rw [cl1_len, hzl]
      obtain ⟨ys, hys⟩ : ∃ ys, ys = cl1 zs 4 := ⟨_, rfl⟩
      rw [← hys] at hA hyb hyl HF
      clear hk4 hys hlen hzb hzl
      go_wp2
      go_loopw [5] (fun i wr => ∃ k m : Nat, k ≤ 3 ∧ Hid (m = 4 * k + 4) ∧ m ≤ 19 ∧ i = .int .i64 m ∧ BRow wr w.heap.size (cl2 ys k) ∧ Below w.heap.size w wr) (fun i _ => 20 - (intOf i).toNat)
      case atStart => exact ⟨0, 4, Nat.zero_le _, Lib.hid rfl, by omega, rfl, hA, hB⟩
      case round =>
        obtain ⟨j, q, hj, hq, hq19, rfl, hA1, hB1⟩ := hrel
        clear hA hB
        have hlen := cl2_len ys j
        by_cases hjt : q < 16
        · have hml : q < (cl2 ys j).length := by rw [hlen, hyl]; omega
          have hc := hA1.cell q hml
          have hf := hA1.frozen q hml
          have hzz := cl2_byte hyb j q
          have hst : cl2 ys (j + 1) = (cl2 ys j).set q ((cl2 ys j).getD q 0 / 4 * 4) := by rw [hq.out]; rfl
          obtain ⟨x, hx⟩ : ∃ x, x = (cl2 ys j).getD q 0 := ⟨_, rfl⟩
          rw [← hx] at hc hzz hst
          have han := andNot3 x hzz.1 hzz.2
          have hA2 := hA1.set q hml (x / 4 * 4)
          rw [← hst] at hA2
          have HA2 := Lib.hid hA2
          have hj3 : j < 3 := by have := hq.out; omega
          clear hst hx hA1 hA2 hlen hml
          go_wp2
          go_roundw
          case rel => exact ⟨j + 1, q + 4, by omega, Lib.hid (by rw [hq.out]; omega), by omega, by go_num, HA2.out, hB1.setCell (p := ⟨w.heap.size, q, none⟩) (Nat.le_refl _) _⟩
          case measure => simp [intOf]; omega
        · have hj3 : j = 3 := by have := hq.out; omega
          rw [hj3] at hA1 hlen
          have hqb := cl2_byte hyb 3
          rw [← HF.out] at hA1 hlen hqb
          have hcv := hA1.text hqb cap 16 (by rw [hlen, hyl])
          clear hj3 hlen hqb
          go_wp2
          go_ret
          exact ⟨rfl, hB1⟩
end Go.Proofs.YtlipgmaiooljkaaGreatDoor
