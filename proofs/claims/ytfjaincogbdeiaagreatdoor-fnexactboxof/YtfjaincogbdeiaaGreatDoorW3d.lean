/- Contracts: a number of the program as a text; which texts are numbers. -/
import Derived.Test.YtfjaincogbdeiaaGreatDoorW3c
import Derived.Laws.DeepStrings4
namespace Go.Proofs.YtfjaincogbdeiaaGreatDoor
open Go.ChangeShapes Go.WideShapes Go.ChangeAt Go.RowKit
set_option linter.unusedVariables false

def outL (v k : Nat) : List Int := (bytesL 17 v).take k ++ List.replicate (17 - k) 0
theorem outL_len (v k : Nat) (h : k ≤ 17) : (outL v k).length = 17 := by unfold outL; simp [bytesL_len]; omega
theorem outL_step (v k : Nat) (h : k < 17) : (outL v k).set k ((dig 8 k v : Nat) : Int) = outL v (k + 1) := by
  have e := set_copy (bytesL 17 v) k (by rw [bytesL_len]; exact h)
  rw [bytesL_len] at e
  have hg : (bytesL 17 v).getD k 0 = ((dig 8 k v : Nat) : Int) := by
    rw [List.getD_eq_getElem?_getD, List.getElem?_eq_getElem (by rw [bytesL_len]; exact h), bytesL_get 17 v k h]; rfl
  rw [hg] at e
  exact e
theorem outL_end (v : Nat) : outL v 17 = bytesL 17 v := by
  unfold outL; rw [List.take_of_length_le (by rw [bytesL_len]; exact Nat.le_refl _)]; simp
/-- So many bytes of a number, as a text. -/
def txtR (v : Nat) : ByteArray := ⟨(leBy 17 v).toArray⟩
theorem txtR_size (v : Nat) : (txtR v).size = 17 := by
  show (leBy 17 v).toArray.size = 17
  rw [List.size_toArray, leBy_len]
theorem conv_txt {w : World} {g : Nat} {t : TypeId} {v : Nat} (h : Arr w g t .u8 (bytesL 17 v)) (cap : Nat) :
    (convert 56 9 (.slice (some ⟨g, 0, none⟩) 17 cap)).run Tryz.prog w = .ok (.string (txtR v)) w := by
  have := run_convert_bytes_back (P := Tryz.prog) w 56 9 5 ⟨g, 0, none⟩ cap (leBy 17 v) Tryz.underlying56 Tryz.underlying5 Tryz.underlying9 ?_
  · rw [leBy_len] at this
    exact this
  · intro j hj
    have hj' : j < (bytesL 17 v).length := by rw [bytesL_len, ← leBy_len 17 v]; exact hj
    have hc := h.cell j hj'
    rw [Addr.add_lit, Nat.zero_add, hc]
    have e := leBy_dig 17 v
    have : (bytesL 17 v)[j]'hj' = ((leBy 17 v)[j].toNat : Int) := by simp only [← e, List.getElem_map]; rfl
    rw [this]; rfl
theorem byteZ : stK .u8 (outL 0 0) = #[Value.int IntKind.u8 0, Value.int IntKind.u8 0, Value.int IntKind.u8 0, Value.int IntKind.u8 0, Value.int IntKind.u8 0, Value.int IntKind.u8 0, Value.int IntKind.u8 0, Value.int IntKind.u8 0, Value.int IntKind.u8 0, Value.int IntKind.u8 0, Value.int IntKind.u8 0, Value.int IntKind.u8 0, Value.int IntKind.u8 0, Value.int IntKind.u8 0, Value.int IntKind.u8 0, Value.int IntKind.u8 0, Value.int IntKind.u8 0] := rfl
theorem outL_zero (v : Nat) : outL v 0 = outL 0 0 := rfl

set_option maxRecDepth 100000 in
set_option maxHeartbeats 1600000 in
theorem numberText_any (v : Nat) (w : World) (hv : v < 1361129467683753853853498429727072845824) :
    Calls Tryz.prog 124 #[.agg (stK .u64 (partsL v))] w fun e w' => e = .returned (.string (txtR v)) ∧ Below w.heap.size w w' := by
  have HV := Lib.hid hv
  clear hv
  go_enter Tryz.func124, Tryz.ntmps124
  go_wp2
  obtain ⟨W0, hW0⟩ : ∃ W0, W0 = (w.alloc (.cells (stK .u64 (partsL v)) 143)).alloc (.cells (stK .u8 (outL 0 0)) 174) := ⟨_, rfl⟩
  have hX0 : Arr W0 w.heap.size 143 .u64 (partsL v) := by rw [hW0]; exact (Arr.new w _ _ _).alloc _
  have hA0 : Arr W0 (w.heap.size + 1) 174 .u8 (outL v 0) := by
    have h := Arr.new (w.alloc (.cells (stK .u64 (partsL v)) 143)) 174 .u8 (outL 0 0)
    rw [outL_zero, hW0]; simpa using h
  have hB0 : Below w.heap.size w W0 := by rw [hW0]; exact ((Below.refl _ _).alloc (Nat.le_refl _) _).alloc (by simp) _
  go_loopw [8] (fun i wr => ∃ k : Nat, k ≤ 17 ∧ i = .int .i64 k ∧ Arr wr (w.heap.size + 1) 174 .u8 (outL v k) ∧ Arr wr w.heap.size 143 .u64 (partsL v) ∧ Below w.heap.size w wr)
    (fun i _ => 17 - (intOf i).toNat)
  case atStart => subst hW0; exact ⟨0, Nat.zero_le _, rfl, hA0, hX0, hB0⟩
  case round =>
    obtain ⟨k, hk, rfl, hA, hX, hB⟩ := hrel
    clear hA0 hX0 hB0 hW0 W0
    by_cases hlt : k < 17
    · have hby := byte_of_parts v k hlt HV.out
      obtain ⟨p, hp⟩ : ∃ p, p = 8 * k / 26 := ⟨_, rfl⟩
      obtain ⟨sh, hsh⟩ : ∃ sh, sh = 8 * k % 26 := ⟨_, rfl⟩
      rw [← hp, ← hsh] at hby
      have hpi : 8 * (k : Int) / 26 = (p : Int) := by omega
      have hsi : 8 * (k : Int) % 26 = (sh : Int) := by omega
      have hp5 : p < 5 := by omega
      have hs26 : sh < 26 := by omega
      have hc0 := hX.cellP p hp5
      have hql := part_shift_lt v p sh hs26
      have hpl := part_lt p v
      obtain ⟨q, hq⟩ : ∃ q, q = part p v / 2 ^ sh := ⟨_, rfl⟩
      have hqi : (part p v : Int) / 2 ^ sh = (q : Int) := by rw [hq]; simp
      have hqb : q < 67108864 := by rw [hq]; exact Nat.lt_of_le_of_lt (Nat.div_le_self _ _) hpl
      obtain ⟨m, hm⟩ : ∃ m, m = 26 - sh := ⟨_, rfl⟩
      have hmi : (26 : Int) - (sh : Int) = (m : Int) := by omega
      rw [← hq, ← hm] at hby
      rw [← hq, ← hm] at hql
      have hf := hA.frozen k
      have hce := hA.cell k (by rw [outL_len v k hk]; exact hlt)
      obtain ⟨old, hold⟩ : ∃ old, old = (outL v k)[k]'(by rw [outL_len v k hk]; exact hlt) := ⟨_, rfl⟩
      rw [← hold] at hce
      have hA2 := hA.set k ((dig 8 k v : Nat) : Int)
      rw [outL_step v k hlt] at hA2
      have HA2 := Lib.hid hA2
      obtain ⟨dg, hdg⟩ : ∃ dg, dg = dig 8 k v := ⟨_, rfl⟩
      rw [← hdg] at HA2 hby
      clear hp hsh hq hA hA2 hold hdg
      by_cases hp1 : p + 1 < 5
      · have hd : decide ((p : Int) + 1 < 5) = true := by simp; omega
        have hc1 := hX.cellP (p + 1) hp1
        have hpl1 := part_lt (p + 1) v
        rw [if_pos hp1] at hby
        have h2m : 2 ^ m ≤ 67108864 := by
          have := Nat.pow_le_pow_right (n := 2) (by decide) (show m ≤ 26 by omega)
          omega
        obtain ⟨z, hz⟩ : ∃ z, z = part (p + 1) v * 2 ^ m := ⟨_, rfl⟩
        have hzb : z ≤ 67108864 * 67108864 := by rw [hz]; exact Nat.mul_le_mul (by omega) h2m
        have hw2 : IntKind.u64.wrap ((part (p + 1) v : Int) * 2 ^ m) = (z : Int) := by
          have e : (part (p + 1) v : Int) * 2 ^ m = (z : Int) := by rw [hz]; simp
          rw [e]; exact IntWalk.u64_in _ (by omega)
        obtain ⟨t, ht⟩ : ∃ t, t = q + z := ⟨_, rfl⟩
        have hor : bits .or .u64 (q : Int) (z : Int) = (t : Int) := by
          rw [or64 _ _ q (part (p + 1) v) m rfl (by rw [hz]; simp) hql (by rw [← hz]; omega), ← hz, ← ht]
        rw [← hz, ← ht] at hby
        have hw8 : IntKind.u8.wrap (t : Int) = (dg : Int) := by rw [IntKind.wrap_u8']; omega
        clear hz ht hby h2m hm
        go_wp2
        go_roundw
        case rel => exact ⟨k + 1, by omega, by go_num, HA2.out, hX.other _ _ _ (by omega), hB.setCell (p := ⟨w.heap.size + 1, k, none⟩) (by simp) _⟩
        case measure => simp [intOf]; omega
      · have hd : decide ((p : Int) + 1 < 5) = false := by simp; omega
        rw [if_neg hp1] at hby
        have hw8 : IntKind.u8.wrap (q : Int) = (dg : Int) := by rw [IntKind.wrap_u8']; omega
        clear hby hm
        go_wp2
        go_roundw
        case rel => exact ⟨k + 1, by omega, by go_num, HA2.out, hX.other _ _ _ (by omega), hB.setCell (p := ⟨w.heap.size + 1, k, none⟩) (by simp) _⟩
        case measure => simp [intOf]; omega
    · have hke : k = 17 := by omega
      rw [hke, outL_end] at hA
      have hcv := conv_txt hA 17
      clear hke
      go_wp2
      go_ret
      exact ⟨rfl, hB⟩

/-- The bytes of the prime. -/
abbrev prmB : ByteArray := ⟨#[251, 255, 255, 255, 255, 255, 255, 255, 255, 255, 255, 255, 255, 255, 255, 255, 3]⟩
theorem prmB_val : leNat prmB.data.toList = prm := by decide +kernel
theorem leNat_split (l : List UInt8) (i : Nat) (h : i < l.length) : leNat l = leNat (l.take i) + 256 ^ i * (l[i].toNat + 256 * leNat (l.drop (i + 1))) := by
  have e : l = l.take i ++ l.drop i := (List.take_append_drop i l).symm
  have hl : (l.take i).length = i := by simp; omega
  conv => lhs; rw [e]
  rw [leNat_append, hl, List.drop_eq_getElem_cons h, leNat]
theorem leNat_less (a b : List UInt8) (i : Nat) (ha : i < a.length) (hb : i < b.length) (hd : a.drop (i + 1) = b.drop (i + 1)) (hlt : a[i].toNat < b[i].toNat) : leNat a < leNat b := by
  rw [leNat_split a i ha, leNat_split b i hb, hd]
  have h1 := leNat_lt (a.take i)
  have hl : (a.take i).length = i := by simp; omega
  rw [hl] at h1
  have h2 : 256 ^ i * (a[i].toNat + 1 + 256 * leNat (b.drop (i + 1))) ≤ 256 ^ i * (b[i].toNat + 256 * leNat (b.drop (i + 1))) := Nat.mul_le_mul_left _ (by omega)
  rw [show a[i].toNat + 1 + 256 * leNat (b.drop (i + 1)) = (a[i].toNat + 256 * leNat (b.drop (i + 1))) + 1 by omega, Nat.mul_add, Nat.mul_one] at h2
  omega
/-- NumOk, as the document says it. -/
def okR (s : ByteArray) : Bool := decide (s.size = 17 ∧ leNat s.data.toList < prm)

end Go.Proofs.YtfjaincogbdeiaaGreatDoor
