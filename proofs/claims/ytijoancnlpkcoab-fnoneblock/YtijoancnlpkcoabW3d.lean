/- Contracts: a number of the program as a text; which texts are numbers. -/
import Derived.Test.YtijoancnlpkcoabW3c
import Derived.Laws.DeepStrings4
namespace Go.Proofs.Ytijoancnlpkcoab
open Go.ChangeShapes Go.WideShapes Go.ChangeAt Go.RowKit
set_option linter.unusedVariables false

def outL (v k : Nat) : List Int := (bytesL 17 v).take k ++ List.replicate (17 - k) 0
theorem outL_len (v k : Nat) (h : k ≤ 17) : (outL v k).length = 17 := by unfold outL; simp [bytesL_len]; omega
theorem outL_step (v k : Nat) (h : k < 17) : (outL v k).set k ((dig 8 k v : Nat) : Int) = outL v (k + 1) := by
  have e := set_copy (bytesL 17 v) k (by rw [bytesL_len]; exact h)
  rw [bytesL_len] at e
  have hg : (bytesL 17 v).getD k 0 = ((dig 8 k v : Nat) : Int) := by
    rw [List.getD_eq_getElem?_getD, List.getElem?_eq_getElem (by rw [bytesL_len]; exact h), bytesL_get 17 v k h]; rfl
  rw [hg] at e
  exact e
theorem outL_end (v : Nat) : outL v 17 = bytesL 17 v := by
  unfold outL; rw [List.take_of_length_le (by rw [bytesL_len]; exact Nat.le_refl _)]; simp
/-- So many bytes of a number, as a text. -/
def txtR (v : Nat) : ByteArray := ⟨(leBy 17 v).toArray⟩
theorem txtR_size (v : Nat) : (txtR v).size = 17 := by
  show (leBy 17 v).toArray.size = 17
  rw [List.size_toArray, leBy_len]
theorem conv_txt {w : World} {g : Nat} {t : TypeId} {v : Nat} (h : Arr w g t .u8 (bytesL 17 v)) (cap : Nat) :
    (convert 22 9 (.slice (some ⟨g, 0, none⟩) 17 cap)).run Try.prog w = .ok (.string (txtR v)) w := by
  have := run_convert_bytes_back (P := Try.prog) w 22 9 5 ⟨g, 0, none⟩ cap (leBy 17 v) Try.underlying22 Try.underlying5 Try.underlying9 ?_
  · rw [leBy_len] at this
    exact this
  · intro j hj
    have hj' : j < (bytesL 17 v).length := by rw [bytesL_len, ← leBy_len 17 v]; exact hj
    have hc := h.cell j hj'
    rw [Addr.add_lit, Nat.zero_add, hc]
    have e := leBy_dig 17 v
    have : (bytesL 17 v)[j]'hj' = ((leBy 17 v)[j].toNat : Int) := by simp only [← e, List.getElem_map]; rfl
    rw [this]; rfl
theorem byteZ : stK .u8 (outL 0 0) = #[Value.int IntKind.u8 0, Value.int IntKind.u8 0, Value.int IntKind.u8 0, Value.int IntKind.u8 0, Value.int IntKind.u8 0, Value.int IntKind.u8 0, Value.int IntKind.u8 0, Value.int IntKind.u8 0, Value.int IntKind.u8 0, Value.int IntKind.u8 0, Value.int IntKind.u8 0, Value.int IntKind.u8 0, Value.int IntKind.u8 0, Value.int IntKind.u8 0, Value.int IntKind.u8 0, Value.int IntKind.u8 0, Value.int IntKind.u8 0] := rfl
theorem outL_zero (v : Nat) : outL v 0 = outL 0 0 := rfl

set_option maxRecDepth 100000 in
set_option maxHeartbeats 1600000 in
theorem numberText_any (v : Nat) (w : World) (hv : v < 1361129467683753853853498429727072845824) :
    Calls Try.prog 27 #[.agg (stK .u64 (partsL v))] w fun e w' => e = .returned (.string (txtR v)) ∧ Below w.heap.size w w' := by
  have HV := Lib.hid hv
  clear hv
  go_enter Try.func27, Try.ntmps27
  go_wp2
  obtain ⟨W0, hW0⟩ : ∃ W0, W0 = (w.alloc (.cells (stK .u64 (partsL v)) 38)).alloc (.cells (stK .u8 (outL 0 0)) 50) := ⟨_, rfl⟩
  have hX0 : Arr W0 w.heap.size 38 .u64 (partsL v) := by rw [hW0]; exact (Arr.new w _ _ _).alloc _
  have hA0 : Arr W0 (w.heap.size + 1) 50 .u8 (outL v 0) := by
    have h := Arr.new (w.alloc (.cells (stK .u64 (partsL v)) 38)) 50 .u8 (outL 0 0)
    rw [outL_zero, hW0]; simpa using h
  have hB0 : Below w.heap.size w W0 := by rw [hW0]; exact ((Below.refl _ _).alloc (Nat.le_refl _) _).alloc (by simp) _
  go_loopw [8] (fun i wr => ∃ k : Nat, k ≤ 17 ∧ i = .int .i64 k ∧ Arr wr (w.heap.size + 1) 50 .u8 (outL v k) ∧ Arr wr w.heap.size 38 .u64 (partsL v) ∧ Below w.heap.size w wr)
    (fun i _ => 17 - (intOf i).toNat)
  case atStart => subst hW0; exact ⟨0, Nat.zero_le _, rfl, hA0, hX0, hB0⟩
  case round =>
    obtain ⟨k, hk, rfl, hA, hX, hB⟩ := hrel
    clear hA0 hX0 hB0 hW0 W0
    by_cases hlt : k < 17
    · have hby := byte_of_parts v k hlt HV.out
      obtain ⟨p, hp⟩ : ∃ p, p = 8 * k / 26 := ⟨_, rfl⟩
      obtain ⟨sh, hsh⟩ : ∃ sh, sh = 8 * k % 26 := ⟨_, rfl⟩
      rw [← hp, ← hsh] at hby
      have hpi : 8 * (k : Int) / 26 = (p : Int) := by omega
      have hsi : 8 * (k : Int) % 26 = (sh : Int) := by omega
      have hp5 : p < 5 := by omega
      have hs26 : sh < 26 := by omega
      have hc0 := hX.cellP p hp5
      have hql := part_shift_lt v p sh hs26
      have hpl := part_lt p v
      obtain ⟨q, hq⟩ : ∃ q, q = part p v / 2 ^ sh := ⟨_, rfl⟩
      have hqi : (part p v : Int) / 2 ^ sh = (q : Int) := by rw [hq]; simp
      have hqb : q < 67108864 := by rw [hq]; exact Nat.lt_of_le_of_lt (Nat.div_le_self _ _) hpl
      obtain ⟨m, hm⟩ : ∃ m, m = 26 - sh := ⟨_, rfl⟩
      have hmi : (26 : Int) - (sh : Int) = (m : Int) := by omega
      rw [← hq, ← hm] at hby
      rw [← hq, ← hm] at hql
      have hf := hA.frozen k
      have hce := hA.cell k (by rw [outL_len v k hk]; exact hlt)
      obtain ⟨old, hold⟩ : ∃ old, old = (outL v k)[k]'(by rw [outL_len v k hk]; exact hlt) := ⟨_, rfl⟩
      rw [← hold] at hce
      have hA2 := hA.set k ((dig 8 k v : Nat) : Int)
      rw [outL_step v k hlt] at hA2
      have HA2 := Lib.hid hA2
      obtain ⟨dg, hdg⟩ : ∃ dg, dg = dig 8 k v := ⟨_, rfl⟩
      rw [← hdg] at HA2 hby
      clear hp hsh hq hA hA2 hold hdg
      by_cases hp1 : p + 1 < 5
      · have hd : decide ((p : Int) + 1 < 5) = true := by simp; omega
        have hc1 := hX.cellP (p + 1) hp1
        have hpl1 := part_lt (p + 1) v
        rw [if_pos hp1] at hby
        have h2m : 2 ^ m ≤ 67108864 := by
          have := Nat.pow_le_pow_right (n := 2) (by decide) (show m ≤ 26 by omega)
          omega
        obtain ⟨z, hz⟩ : ∃ z, z = part (p + 1) v * 2 ^ m := ⟨_, rfl⟩
        have hzb : z ≤ 67108864 * 67108864 := by rw [hz]; exact Nat.mul_le_mul (by omega) h2m
        have hw2 : IntKind.u64.wrap ((part (p + 1) v : Int) * 2 ^ m) = (z : Int) := by
          have e : (part (p + 1) v : Int) * 2 ^ m = (z : Int) := by rw [hz]; simp
          rw [e]; exact IntWalk.u64_in _ (by omega)
        obtain ⟨t, ht⟩ : ∃ t, t = q + z := ⟨_, rfl⟩
        have hor : bits .or .u64 (q : Int) (z : Int) = (t : Int) := by
          rw [or64 _ _ q (part (p + 1) v) m rfl (by rw [hz]; simp) hql (by rw [← hz]; omega), ← hz, ← ht]
        rw [← hz, ← ht] at hby
        have hw8 : IntKind.u8.wrap (t : Int) = (dg : Int) := by rw [IntKind.wrap_u8']; omega
        clear hz ht hby h2m hm
        go_wp2
        go_roundw
        case rel => exact ⟨k + 1, by omega, by go_num, HA2.out, hX.other _ _ _ (by omega), hB.setCell (p := ⟨w.heap.size + 1, k, none⟩) (by simp) _⟩
        case measure => simp [intOf]; omega
      · have hd : decide ((p : Int) + 1 < 5) = false := by simp; omega
        rw [if_neg hp1] at hby
        have hw8 : IntKind.u8.wrap (q : Int) = (dg : Int) := by rw [IntKind.wrap_u8']; omega
        clear hby hm
        go_wp2
        go_roundw
        case rel => exact ⟨k + 1, by omega, by go_num, HA2.out, hX.other _ _ _ (by omega), hB.setCell (p := ⟨w.heap.size + 1, k, none⟩) (by simp) _⟩
        case measure => simp [intOf]; omega
    · have hke : k = 17 := by omega
      rw [hke, outL_end] at hA
      have hcv := conv_txt hA 17
      clear hke
      go_wp2
      go_ret
      exact ⟨rfl, hB⟩

/-- The bytes of the prime. -/
abbrev prmB : ByteArray := ⟨#[251, 255, 255, 255, 255, 255, 255, 255, 255, 255, 255, 255, 255, 255, 255, 255, 3]⟩
theorem prmB_val : leNat prmB.data.toList = prm := by decide +kernel
theorem leNat_split (l : List UInt8) (i : Nat) (h : i < l.length) : leNat l = leNat (l.take i) + 256 ^ i * (l[i].toNat + 256 * leNat (l.drop (i + 1))) := by
  have e : l = l.take i ++ l.drop i := (List.take_append_drop i l).symm
  have hl : (l.take i).length = i := by simp; omega
  conv => lhs; rw [e]
  rw [leNat_append, hl, List.drop_eq_getElem_cons h, leNat]
theorem leNat_less (a b : List UInt8) (i : Nat) (ha : i < a.length) (hb : i < b.length) (hd : a.drop (i + 1) = b.drop (i + 1)) (hlt : a[i].toNat < b[i].toNat) : leNat a < leNat b := by
  rw [leNat_split a i ha, leNat_split b i hb, hd]
  have h1 := leNat_lt (a.take i)
  have hl : (a.take i).length = i := by simp; omega
  rw [hl] at h1
  have h2 : 256 ^ i * (a[i].toNat + 1 + 256 * leNat (b.drop (i + 1))) ≤ 256 ^ i * (b[i].toNat + 256 * leNat (b.drop (i + 1))) := Nat.mul_le_mul_left _ (by omega)
  rw [show a[i].toNat + 1 + 256 * leNat (b.drop (i + 1)) = (a[i].toNat + 256 * leNat (b.drop (i + 1))) + 1 by omega, Nat.mul_add, Nat.mul_one] at h2
  omega
/-- NumOk, as the document says it. -/
def okR (s : ByteArray) : Bool := decide (s.size = 17 ∧ leNat s.data.toList < prm)

set_option maxRecDepth 100000 in
set_option maxHeartbeats 1600000 in
theorem implNumOk_any (s : ByteArray) (w : World) (hs : s.size ≤ maxLen) :
    Calls Try.prog 18 #[.string s] w fun e w' => e = .returned (.bool (okR s)) ∧ Below w.heap.size w w' := by
  unfold maxLen at hs
  by_cases h17 : s.size = 17
  · have hd : ((s.size : Int) != 17) = false := by simp [h17]
    have HK : Hid (okR s = decide (leNat s.data.toList < leNat prmB.data.toList)) := Lib.hid (by unfold okR; rw [prmB_val]; simp [h17])
    have h17' : 17 ≤ s.size := by omega
    have hsl : s.data.toList.length = 17 := by simpa using h17
    have HSL := Lib.hid hsl
    clear h17 hsl
    go_enter Try.func18, Try.ntmps18
    go_wp2
    go_loopw [3] (fun i wr => ∃ n : Nat, n ≤ 17 ∧ i = .int .i64 ((n : Int) - 1) ∧ Hid (s.data.toList.drop n = prmB.data.toList.drop n) ∧ Below w.heap.size w wr)
      (fun i _ => (intOf i + 1).toNat)
    case atStart => exact ⟨17, Nat.le_refl _, rfl, Lib.hid (by rw [List.drop_eq_nil_of_le (by rw [HSL.out]; exact Nat.le_refl _)]; rfl), Below.refl _ _⟩
    case round =>
      obtain ⟨n, hn, rfl, hdr, hB⟩ := hrel
      by_cases h0 : n = 0
      · subst h0
        go_wp2
        go_ret
        refine ⟨ret_bool ?_, hB⟩
        rw [HK.out]
        have e := hdr.out
        rw [List.drop_zero, List.drop_zero] at e
        rw [e]; simp
      · obtain ⟨j, rfl⟩ : ∃ j, n = j + 1 := ⟨n - 1, by omega⟩
        have hj : ((j + 1 : Nat) : Int) - 1 = (j : Int) := by omega
        rw [hj]
        clear hj
        have hjs : j < s.size := by omega
        have hjp : j < prmB.size := by show j < 17; omega
        have hi1 : (j : Int) < (s.size : Int) := by omega
        have hi2 : (j : Int) < 17 := by omega
        have hi3 : j < 17 := by omega
        have hcs : j < s.data.toList.length := by simpa using hjs
        have hcp : j < prmB.data.toList.length := hi3
        obtain ⟨x, hx⟩ : ∃ x, x = s[j] := ⟨_, rfl⟩
        obtain ⟨y, hy⟩ : ∃ y, y = prmB[j] := ⟨_, rfl⟩
        by_cases hxy : x = y
        · have hne : ((s[j].toNat : Int) != (prmB[j].toNat : Int)) = false := by rw [← hx, ← hy, hxy]; simp
          have HD : Hid (s.data.toList.drop j = prmB.data.toList.drop j) := Lib.hid (by
            rw [List.drop_eq_getElem_cons hcs, List.drop_eq_getElem_cons hcp, hdr.out]
            congr 1
            show s[j] = prmB[j]
            rw [← hx, ← hy, hxy])
          clear hx hy hxy hdr
          go_wp2
          go_quiet (fail)
          go_wp2
          go_roundw
          case rel => exact ⟨j, by omega, rfl, HD, below_drewN hB _⟩
          case measure => simp [intOf]
        · have hxn : x.toNat ≠ y.toNat := fun e => hxy (UInt8.toNat_inj.1 e)
          have hne : ((s[j].toNat : Int) != (prmB[j].toNat : Int)) = true := by rw [← hx, ← hy]; simp; omega
          have HE : Hid (okR s = decide (s[j].toNat < prmB[j].toNat)) := Lib.hid (by
            rw [HK.out]
            have e1 : s.data.toList[j]'hcs = x := by rw [hx]; rfl
            have e2 : prmB.data.toList[j]'hcp = y := by rw [hy]; rfl
            by_cases hl : x.toNat < y.toNat
            · rw [decide_eq_true (leNat_less _ _ j hcs hcp hdr.out (by rw [e1, e2]; exact hl)), ← hx, ← hy, decide_eq_true hl]
            · have hg := leNat_less _ _ j hcp hcs hdr.out.symm (by rw [e1, e2]; omega)
              rw [decide_eq_false (Nat.not_lt.2 (Nat.le_of_lt hg)), ← hx, ← hy, decide_eq_false hl])
          clear hx hy hxy hdr hxn
          go_wp2
          go_quiet (fail)
          go_wp2
          go_quiet (fail)
          go_wp2
          go_ret
          exact ⟨ret_bool HE.out.symm, below_drewN (below_drewN hB _) _⟩
  · have hd : ((s.size : Int) != 17) = true := by simp; omega
    have HK : Hid (okR s = false) := Lib.hid (by unfold okR; simp [h17])
    clear h17
    go_enter Try.func18, Try.ntmps18
    go_wp2
    go_ret
    exact ⟨ret_bool HK.out.symm, Below.refl _ _⟩
end Go.Proofs.Ytijoancnlpkcoab
