/- Joined: W3c, W3d. -/
import Derived.IntWalk
import Derived.Laws.DeepStrings4
import Derived.Test.YtlipgmaiooljkaaGreatDoorH2
import Derived.Test.YtlipgmaiooljkaaGreatDoorH35
/- W3c -/
namespace Go.Proofs.YtlipgmaiooljkaaGreatDoor
open Go.ChangeShapes Go.WideShapes Go.ChangeAt Go.RowKit
set_option linter.unusedVariables false

theorem leNat_take_succ (s : ByteArray) (k : Nat) (h : k < s.size) : leNat (s.data.toList.take (k + 1)) = leNat (s.data.toList.take k) + s[k].toNat * 2 ^ (8 * k) := by
  rw [List.take_succ_eq_append_getElem (by simpa using h), leNat_append, ← pow256]
  have hl : (s.data.toList.take k).length = k := by simp; omega
  rw [hl]
  simp [leNat, Nat.mul_comm]
  rfl
theorem leNat_take_lt (s : ByteArray) (k : Nat) (h : k ≤ s.size) : leNat (s.data.toList.take k) < 2 ^ (8 * k) := by
  have := leNat_lt (s.data.toList.take k)
  have hl : (s.data.toList.take k).length = k := by simp; omega
  rw [hl, pow256] at this
  exact this
theorem leNat_take_le : ∀ (l : List UInt8) (k : Nat), leNat (l.take k) ≤ leNat l
  | [], k => by simp
  | c :: l, 0 => by simp [leNat]
  | c :: l, k + 1 => by
    have := leNat_take_le l k
    simp only [List.take_succ_cons, leNat]
    omega
theorem or64 (x y : Int) (X Y j : Nat) (hx : x = X) (hy : y = Y * 2 ^ j) (hX : X < 2 ^ j) (hj : X + Y * 2 ^ j < 18446744073709551616) : bits .or .u64 x y = ((X + Y * 2 ^ j : Nat) : Int) := by
  subst hx hy
  have e : ((Y : Int) * 2 ^ j) = ((Y * 2 ^ j : Nat) : Int) := by simp
  rw [e, u64_or _ _ (by omega) (by omega) (by omega) (by omega)]
  rw [Int.toNat_natCast, Int.toNat_natCast]
  have : X ||| (Y * 2 ^ j) = X + Y * 2 ^ j := by
    rw [Nat.or_comm, Nat.mul_comm, ← Nat.two_pow_add_eq_or_of_lt hX]; omega
  rw [this]
theorem partsL_zero : partsL 0 = [0, 0, 0, 0, 0] := by simp [partsL, part]
theorem pow_le25 (sh : Nat) (h : sh < 26) : 2 ^ sh ≤ 33554432 := by
  have := Nat.pow_le_pow_right (n := 2) (by decide) (show sh ≤ 25 by omega)
  omega
theorem partsL_len (v : Nat) : (partsL v).length = 5 := rfl
theorem partsL_getD (v j : Nat) (h : j < 5) : (partsL v).getD j 0 = (part j v : Int) := by
  match j, h with
  | 0, _ => rfl
  | 1, _ => rfl
  | 2, _ => rfl
  | 3, _ => rfl
  | 4, _ => rfl
theorem Arr.cellP {w : World} {g : Nat} {t : TypeId} {k : IntKind} {v : Nat} (h : Arr w g t k (partsL v)) (j : Nat) (hj : j < 5) : w.cell? ⟨g, j, none⟩ = some (.int k (part j v : Int)) := by
  have h1 := h.cell j (by rw [partsL_len]; exact hj)
  have h2 := partsL_getD v j hj
  rw [List.getD_eq_getElem?_getD, List.getElem?_eq_getElem (by rw [partsL_len]; exact hj)] at h2
  rw [h1]
  exact congrArg some (congrArg (Value.int k) h2)

set_option maxRecDepth 100000 in
set_option maxHeartbeats 1600000 in
theorem numberOf_any (s : ByteArray) (w : World) (hs : s.size ≤ 17) (hv : leNat s.data.toList < 1361129467683753853853498429727072845824) :
    Calls Tryz.prog 130 #[.string s] w fun e w' => e = .returned (.agg (stK .u64 (partsL (leNat s.data.toList)))) ∧ Below w.heap.size w w' := by
  have HV := Lib.hid hv
  clear hv
  go_enter Tryz.func130, Tryz.ntmps130
  go_wp2
  obtain ⟨W0, hW0⟩ : ∃ W0, W0 = (w.alloc n5Z).alloc n5Z := ⟨_, rfl⟩
  have hA0 : Arr W0 (w.heap.size + 1) 138 .u64 (partsL (leNat (s.data.toList.take 0))) := by
    have h := heap_alloc_new (w.alloc n5Z) n5Z
    have e0 : leNat (s.data.toList.take 0) = 0 := by rw [List.take_zero]; rfl
    rw [e0, partsL_zero]
    show W0.heap[w.heap.size + 1]? = some n5Z
    rw [hW0]; simpa using h
  have hZ0 : W0.heap[w.heap.size]? = some n5Z := by
    have h := heap_alloc_new w n5Z
    rw [hW0, heap_alloc_old _ _ (by simp)]; simpa using h
  have hB0 : Below w.heap.size w W0 := by rw [hW0]; exact ((Below.refl _ _).alloc (Nat.le_refl _) _).alloc (by simp) _
  go_loopw [11] (fun i wr => ∃ k : Nat, k ≤ s.size ∧ i = .int .i64 k ∧ Arr wr (w.heap.size + 1) 138 .u64 (partsL (leNat (s.data.toList.take k))) ∧ wr.heap[w.heap.size]? = some n5Z ∧ Below w.heap.size w wr)
    (fun i _ => s.size - (intOf i).toNat)
  case atStart => subst hW0; exact ⟨0, Nat.zero_le _, rfl, hA0, hZ0, hB0⟩
  case round =>
    obtain ⟨k, hk, rfl, hA, hZ, hB⟩ := hrel
    clear hA0 hZ0 hB0 hW0 W0
    by_cases hlt : k < s.size
    · have hsn := leNat_take_succ s k hlt
      have hvl := leNat_take_lt s k hk
      have hle := leNat_take_le s.data.toList (k + 1)
      have hb := s[k].toNat_lt
      obtain ⟨v, hvv⟩ : ∃ v, v = leNat (s.data.toList.take k) := ⟨_, rfl⟩
      rw [← hvv] at hA hsn hvl
      obtain ⟨b, hbb⟩ : ∃ b, b = s[k].toNat := ⟨_, rfl⟩
      rw [← hbb] at hsn hb
      have hlow := part_low v k (by omega) hvl
      have hfull : v + b * 2 ^ (8 * k) < 1361129467683753853853498429727072845824 := by have := HV.out; omega
      have hlast := byte_last v b k (by omega) hfull hb
      have hby := partsL_byte v b k (by omega) hvl hb
      have hby0 := partsL_byte0 v b k (by omega) hvl hb
      obtain ⟨p, hp⟩ : ∃ p, p = 8 * k / 26 := ⟨_, rfl⟩
      obtain ⟨sh, hsh⟩ : ∃ sh, sh = 8 * k % 26 := ⟨_, rfl⟩
      rw [← hp, ← hsh] at hlow hby hby0
      rw [← hp] at hlast
      rw [← hsh] at hlast
      have hpi : 8 * (k : Int) / 26 = (p : Int) := by omega
      have hsi : 8 * (k : Int) % 26 = (sh : Int) := by omega
      have hp5 : p < 5 := by omega
      have hs26 : sh < 26 := by omega
      have hc0 := hA.cellP p hp5
      have hf0 := hA.frozen p
      have hpl := part_lt p v
      have HSN := Lib.hid hsn
      have HBB := Lib.hid hbb
      have h2p := pow_le25 sh hs26
      obtain ⟨wd, hwd⟩ : ∃ wd, wd = b * 2 ^ sh := ⟨_, rfl⟩
      have hwb : wd ≤ 256 * 33554432 := by rw [hwd]; exact Nat.mul_le_mul (by omega) h2p
      have hmod := wide_mod b sh hs26
      rw [← hwd] at hlast hby hby0 hmod
      have hw1 : IntKind.u64.wrap (s[k].toNat : Int) = (b : Int) := by rw [← hbb]; exact IntWalk.u64_in _ (by omega)
      have hw2 : IntKind.u64.wrap ((b : Int) * 2 ^ sh) = (wd : Int) := by
        have e : (b : Int) * 2 ^ sh = (wd : Int) := by rw [hwd]; simp
        rw [e]; exact IntWalk.u64_in _ (by omega)
      obtain ⟨lo, hlo⟩ : ∃ lo, lo = wd % 67108864 := ⟨_, rfl⟩
      have han : bits .and .u64 (wd : Int) 67108863 = (lo : Int) := by rw [and26 _ (by omega) (by omega)]; omega
      obtain ⟨pn, hpn⟩ : ∃ pn, pn = part p v + lo := ⟨_, rfl⟩
      have hor : bits .or .u64 (part p v : Int) (lo : Int) = (pn : Int) := by
        have hm2 : lo = b % 2 ^ (26 - sh) * 2 ^ sh := by rw [hlo, hmod]
        rw [or64 _ _ (part p v) (b % 2 ^ (26 - sh)) sh rfl (by rw [hm2]; simp) hlow.1 (by rw [← hm2]; omega), ← hm2, ← hpn]
      obtain ⟨ov, hov⟩ : ∃ ov, ov = wd / 67108864 := ⟨_, rfl⟩
      have hovi : (wd : Int) / 67108864 = (ov : Int) := by omega
      rw [← hlo, ← hpn, ← hov] at hby
      rw [← hlo, ← hpn, ← hov] at hby0
      rw [← hov] at hlast
      have HLOW := Lib.hid hlow.2
      have HL := Lib.hid hlast
      have HBY := Lib.hid hby
      have HBY0 := Lib.hid hby0
      have hA2 := hA.set p (pn : Int)
      have hovb : ov < 256 := by omega
      clear hp hsh hsn hbb hvv hvl hle hfull hwd hmod hlo hpn hov hlow hlast hby hby0
      by_cases ho : ov = 0
      · have hd : ((ov : Int) != 0) = false := by simp [ho]
        have hA3 : Arr (wr.setCell ⟨w.heap.size + 1, p, none⟩ (.int .u64 (pn : Int))) (w.heap.size + 1) 138 .u64 (partsL (leNat (s.data.toList.take (k + 1)))) := by
          rw [HSN.out, HBY0.out ho]; exact hA2
        have HA3 := Lib.hid hA3
        clear hA3 hA2 ho hA
        go_wp2
        go_roundw
        case rel => exact ⟨k + 1, by omega, by go_num, HA3.out, (heap_setCell_other _ _ _ _ (by simp)).trans hZ, hB.setCell (p := ⟨w.heap.size + 1, p, none⟩) (by simp) _⟩
        case measure => simp [intOf]; omega
      · have hd : ((ov : Int) != 0) = true := by simp [ho]
        have hp1 : p + 1 < 5 := HL.out ho
        have hc1 := hA.cellP (p + 1) hp1
        rw [HLOW.out] at hc1
        have hf1 := hA.frozen (p + 1)
        have hor2 : bits .or .u64 0 (ov : Int) = (ov : Int) := by
          have := or64 0 (ov : Int) 0 ov 0 rfl (by simp) (by simp) (by simp; omega)
          simpa using this
        have hA3 : Arr ((wr.setCell ⟨w.heap.size + 1, p, none⟩ (.int .u64 (pn : Int))).setCell ⟨w.heap.size + 1, p + 1, none⟩ (.int .u64 (ov : Int))) (w.heap.size + 1) 138 .u64 (partsL (leNat (s.data.toList.take (k + 1)))) := by
          rw [HSN.out, HBY.out]; exact hA2.set (p + 1) (ov : Int)
        have HA3 := Lib.hid hA3
        clear hA3 hA2 ho hA
        go_wp2
        go_roundw
        case rel => exact ⟨k + 1, by omega, by go_num, HA3.out, (heap_setCell_other _ _ _ _ (by simp)).trans ((heap_setCell_other _ _ _ _ (by simp)).trans hZ), (hB.setCell (p := ⟨w.heap.size + 1, p, none⟩) (by simp) _).setCell (p := ⟨w.heap.size + 1, p + 1, none⟩) (by simp) _⟩
        case measure => simp [intOf]; omega
    · have hke : k = s.size := by omega
      rw [hke, List.take_of_length_le (by simp)] at hA
      have HA := Lib.hid hA
      have HI := Lib.hid (Tryz.infNL (partsL (leNat s.data.toList)) rfl)
      have HZ := Lib.hid hZ
      clear hke hA hZ
      go_wp2_with (first | (refine wpList_load_row rfl _ (.tmp 3) rfl (w.heap.size + 1) rfl _ _ _ _ HA.out Tryz.undN rfl HI.out ?_) | (refine wpList_store_row rfl _ (.tmp 2) (.tmp 45) rfl w.heap.size _ rfl rfl _ _ HZ.out HI.out rfl (stK_one _ _) ?_))
      refine bodyPost_ret (results_cell_row rfl _ _ w.heap.size _ _ _ _ rfl (setRow_heap _ _ _ _ _ _ HZ.out) Tryz.undN rfl HI.out) rfl ?_
      exact ⟨rfl, below_setRow hB (by omega) _⟩
end Go.Proofs.YtlipgmaiooljkaaGreatDoor

/- W3d -/
namespace Go.Proofs.YtlipgmaiooljkaaGreatDoor
open Go.ChangeShapes Go.WideShapes Go.ChangeAt Go.RowKit
set_option linter.unusedVariables false

def outL (v k : Nat) : List Int := (bytesL 17 v).take k ++ List.replicate (17 - k) 0
theorem outL_len (v k : Nat) (h : k ≤ 17) : (outL v k).length = 17 := by unfold outL; simp [bytesL_len]; omega
theorem outL_step (v k : Nat) (h : k < 17) : (outL v k).set k ((dig 8 k v : Nat) : Int) = outL v (k + 1) := by
  have e := set_copy (bytesL 17 v) k (by rw [bytesL_len]; exact h)
  rw [bytesL_len] at e
  have hg : (bytesL 17 v).getD k 0 = ((dig 8 k v : Nat) : Int) := by
    rw [List.getD_eq_getElem?_getD, List.getElem?_eq_getElem (by rw [bytesL_len]; exact h), bytesL_get 17 v k h]; rfl
  rw [hg] at e
  exact e
theorem outL_end (v : Nat) : outL v 17 = bytesL 17 v := by
  unfold outL; rw [List.take_of_length_le (by rw [bytesL_len]; exact Nat.le_refl _)]; simp
/-- So many bytes of a number, as a text. -/
def txtR (v : Nat) : ByteArray := ⟨(leBy 17 v).toArray⟩
theorem txtR_size (v : Nat) : (txtR v).size = 17 := by
  show (leBy 17 v).toArray.size = 17
  rw [List.size_toArray, leBy_len]
theorem conv_txt {w : World} {g : Nat} {t : TypeId} {v : Nat} (h : Arr w g t .u8 (bytesL 17 v)) (cap : Nat) :
    (convert 36 9 (.slice (some ⟨g, 0, none⟩) 17 cap)).run Tryz.prog w = .ok (.string (txtR v)) w := by
  have := run_convert_bytes_back (P := Tryz.prog) w 36 9 5 ⟨g, 0, none⟩ cap (leBy 17 v) Tryz.underlying36 Tryz.underlying5 Tryz.underlying9 ?_
  · rw [leBy_len] at this
    exact this
  · intro j hj
    have hj' : j < (bytesL 17 v).length := by rw [bytesL_len, ← leBy_len 17 v]; exact hj
    have hc := h.cell j hj'
    rw [Addr.add_lit, Nat.zero_add, hc]
    have e := leBy_dig 17 v
    have : (bytesL 17 v)[j]'hj' = ((leBy 17 v)[j].toNat : Int) := by simp only [← e, List.getElem_map]; rfl
    rw [this]; rfl
theorem byteZ : stK .u8 (outL 0 0) = #[Value.int IntKind.u8 0, Value.int IntKind.u8 0, Value.int IntKind.u8 0, Value.int IntKind.u8 0, Value.int IntKind.u8 0, Value.int IntKind.u8 0, Value.int IntKind.u8 0, Value.int IntKind.u8 0, Value.int IntKind.u8 0, Value.int IntKind.u8 0, Value.int IntKind.u8 0, Value.int IntKind.u8 0, Value.int IntKind.u8 0, Value.int IntKind.u8 0, Value.int IntKind.u8 0, Value.int IntKind.u8 0, Value.int IntKind.u8 0] := rfl
theorem outL_zero (v : Nat) : outL v 0 = outL 0 0 := rfl

set_option maxRecDepth 100000 in
set_option maxHeartbeats 1600000 in
theorem numberText_any (v : Nat) (w : World) (hv : v < 1361129467683753853853498429727072845824) :
    Calls Tryz.prog 132 #[.agg (stK .u64 (partsL v))] w fun e w' => e = .returned (.string (txtR v)) ∧ Below w.heap.size w w' := by
  have HV := Lib.hid hv
  clear hv
  go_enter Tryz.func132, Tryz.ntmps132
  go_wp2
  obtain ⟨W0, hW0⟩ : ∃ W0, W0 = (w.alloc (.cells (stK .u64 (partsL v)) 138)).alloc (.cells (stK .u8 (outL 0 0)) 170) := ⟨_, rfl⟩
  have hX0 : Arr W0 w.heap.size 138 .u64 (partsL v) := by rw [hW0]; exact (Arr.new w _ _ _).alloc _
  have hA0 : Arr W0 (w.heap.size + 1) 170 .u8 (outL v 0) := by
    have h := Arr.new (w.alloc (.cells (stK .u64 (partsL v)) 138)) 170 .u8 (outL 0 0)
    rw [outL_zero, hW0]; simpa using h
  have hB0 : Below w.heap.size w W0 := by rw [hW0]; exact ((Below.refl _ _).alloc (Nat.le_refl _) _).alloc (by simp) _
  go_loopw [8] (fun i wr => ∃ k : Nat, k ≤ 17 ∧ i = .int .i64 k ∧ Arr wr (w.heap.size + 1) 170 .u8 (outL v k) ∧ Arr wr w.heap.size 138 .u64 (partsL v) ∧ Below w.heap.size w wr)
    (fun i _ => 17 - (intOf i).toNat)
  case atStart => subst hW0; exact ⟨0, Nat.zero_le _, rfl, hA0, hX0, hB0⟩
  case round =>
    obtain ⟨k, hk, rfl, hA, hX, hB⟩ := hrel
    clear hA0 hX0 hB0 hW0 W0
    by_cases hlt : k < 17
    · have hby := byte_of_parts v k hlt HV.out
      obtain ⟨p, hp⟩ : ∃ p, p = 8 * k / 26 := ⟨_, rfl⟩
      obtain ⟨sh, hsh⟩ : ∃ sh, sh = 8 * k % 26 := ⟨_, rfl⟩
      rw [← hp, ← hsh] at hby
      have hpi : 8 * (k : Int) / 26 = (p : Int) := by omega
      have hsi : 8 * (k : Int) % 26 = (sh : Int) := by omega
      have hp5 : p < 5 := by omega
      have hs26 : sh < 26 := by omega
      have hc0 := hX.cellP p hp5
      have hql := part_shift_lt v p sh hs26
      have hpl := part_lt p v
      obtain ⟨q, hq⟩ : ∃ q, q = part p v / 2 ^ sh := ⟨_, rfl⟩
      have hqi : (part p v : Int) / 2 ^ sh = (q : Int) := by rw [hq]; simp
      have hqb : q < 67108864 := by rw [hq]; exact Nat.lt_of_le_of_lt (Nat.div_le_self _ _) hpl
      obtain ⟨m, hm⟩ : ∃ m, m = 26 - sh := ⟨_, rfl⟩
      have hmi : (26 : Int) - (sh : Int) = (m : Int) := by omega
      rw [← hq, ← hm] at hby
      rw [← hq, ← hm] at hql
      have hf := hA.frozen k
      have hce := hA.cell k (by rw [outL_len v k hk]; exact hlt)
      obtain ⟨old, hold⟩ : ∃ old, old = (outL v k)[k]'(by rw [outL_len v k hk]; exact hlt) := ⟨_, rfl⟩
      rw [← hold] at hce
      have hA2 := hA.set k ((dig 8 k v : Nat) : Int)
      rw [outL_step v k hlt] at hA2
      have HA2 := Lib.hid hA2
      obtain ⟨dg, hdg⟩ : ∃ dg, dg = dig 8 k v := ⟨_, rfl⟩
      rw [← hdg] at HA2 hby
      clear hp hsh hq hA hA2 hold hdg
      by_cases hp1 : p + 1 < 5
      · have hd : decide ((p : Int) + 1 < 5) = true := by simp; omega
        have hc1 := hX.cellP (p + 1) hp1
        have hpl1 := part_lt (p + 1) v
        rw [if_pos hp1] at hby
        have h2m : 2 ^ m ≤ 67108864 := by
          have := Nat.pow_le_pow_right (n := 2) (by decide) (show m ≤ 26 by omega)
          omega
        obtain ⟨z, hz⟩ : ∃ z, z = part (p + 1) v * 2 ^ m := ⟨_, rfl⟩
        have hzb : z ≤ 67108864 * 67108864 := by rw [hz]; exact Nat.mul_le_mul (by omega) h2m
        have hw2 : IntKind.u64.wrap ((part (p + 1) v : Int) * 2 ^ m) = (z : Int) := by
          have e : (part (p + 1) v : Int) * 2 ^ m = (z : Int) := by rw [hz]; simp
          rw [e]; exact IntWalk.u64_in _ (by omega)
        obtain ⟨t, ht⟩ : ∃ t, t = q + z := ⟨_, rfl⟩
        have hor : bits .or .u64 (q : Int) (z : Int) = (t : Int) := by
          rw [or64 _ _ q (part (p + 1) v) m rfl (by rw [hz]; simp) hql (by rw [← hz]; omega), ← hz, ← ht]
        rw [← hz, ← ht] at hby
        have hw8 : IntKind.u8.wrap (t : Int) = (dg : Int) := by rw [IntKind.wrap_u8']; omega
        clear hz ht hby h2m hm
        go_wp2
        go_roundw
        case rel => exact ⟨k + 1, by omega, by go_num, HA2.out, hX.other _ _ _ (by omega), hB.setCell (p := ⟨w.heap.size + 1, k, none⟩) (by simp) _⟩
        case measure => simp [intOf]; omega
      · have hd : decide ((p : Int) + 1 < 5) = false := by simp; omega
        rw [if_neg hp1] at hby
        have hw8 : IntKind.u8.wrap (q : Int) = (dg : Int) := by rw [IntKind.wrap_u8']; omega
        clear hby hm
        go_wp2
        go_roundw
        case rel => exact ⟨k + 1, by omega, by go_num, HA2.out, hX.other _ _ _ (by omega), hB.setCell (p := ⟨w.heap.size + 1, k, none⟩) (by simp) _⟩
        case measure => simp [intOf]; omega
    · have hke : k = 17 := by omega
      rw [hke, outL_end] at hA
      have hcv := conv_txt hA 17
      clear hke
      go_wp2
      go_ret
      exact ⟨rfl, hB⟩

/-- The bytes of the prime. -/
abbrev prmB : ByteArray := ⟨#[251, 255, 255, 255, 255, 255, 255, 255, 255, 255, 255, 255, 255, 255, 255, 255, 3]⟩
theorem prmB_val : leNat prmB.data.toList = prm := by decide +kernel
theorem leNat_split (l : List UInt8) (i : Nat) (h : i < l.length) : leNat l = leNat (l.take i) + 256 ^ i * (l[i].toNat + 256 * leNat (l.drop (i + 1))) := by
  have e : l = l.take i ++ l.drop i := (List.take_append_drop i l).symm
  have hl : (l.take i).length = i := by simp; omega
  conv => lhs; rw [e]
  rw [leNat_append, hl, List.drop_eq_getElem_cons h, leNat]
theorem leNat_less (a b : List UInt8) (i : Nat) (ha : i < a.length) (hb : i < b.length) (hd : a.drop (i + 1) = b.drop (i + 1)) (hlt : a[i].toNat < b[i].toNat) : leNat a < leNat b := by
  rw [leNat_split a i ha, leNat_split b i hb, hd]
  have h1 := leNat_lt (a.take i)
  have hl : (a.take i).length = i := by simp; omega
  rw [hl] at h1
  have h2 : 256 ^ i * (a[i].toNat + 1 + 256 * leNat (b.drop (i + 1))) ≤ 256 ^ i * (b[i].toNat + 256 * leNat (b.drop (i + 1))) := Nat.mul_le_mul_left _ (by omega)
  rw [show a[i].toNat + 1 + 256 * leNat (b.drop (i + 1)) = (a[i].toNat + 256 * leNat (b.drop (i + 1))) + 1 by omega, Nat.mul_add, Nat.mul_one] at h2
  omega
/-- NumOk, as the document says it. -/
def okR (s : ByteArray) : Bool := decide (s.size = 17 ∧ leNat s.data.toList < prm)

end Go.Proofs.YtlipgmaiooljkaaGreatDoor
