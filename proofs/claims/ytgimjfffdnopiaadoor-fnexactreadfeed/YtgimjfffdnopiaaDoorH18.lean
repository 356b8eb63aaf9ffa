/- Joined: W7j. -/
import Derived.Test.YtgimjfffdnopiaaDoorH17
/- W7j -/
namespace Go.Proofs.YtgimjfffdnopiaaDoor
open Go.ChangeShapes Go.WideShapes Go.ChangeAt Go.RowKit
set_option linter.unusedVariables false

def isDg (b : UInt8) : Bool := decide (48 ≤ b.toNat) && decide (b.toNat ≤ 57)
def valL (l : List UInt8) : Nat := l.foldl (fun n b => 10 * n + (b.toNat - 48)) 0
theorem valL_snoc (l : List UInt8) (b : UInt8) : valL (l ++ [b]) = 10 * valL l + (b.toNat - 48) := by unfold valL; rw [List.foldl_append]; rfl
/-- The number whose digits they are; -1 when there are others. -/
def dgI (s : ByteArray) : Int := if s.data.toList.all isDg = true then (valL s.data.toList : Int) else -1
theorem all_take_succ (l : List UInt8) (k : Nat) (h : k < l.length) (ha : (l.take k).all isDg = true) (hb : isDg l[k] = true) : (l.take (k + 1)).all isDg = true := by
  rw [List.take_succ_eq_append_getElem h, List.all_append, ha]; simp [hb]
theorem val_lt7 (l : List UInt8) : ∀ k, k ≤ l.length → (l.take k).all isDg = true → valL (l.take k) < 10 ^ k
  | 0, _, _ => by simp [valL]
  | k + 1, h, ha => by
    have hk : k < l.length := by omega
    rw [List.take_succ_eq_append_getElem hk] at ha ⊢
    rw [List.all_append, Bool.and_eq_true] at ha
    have := val_lt7 l k (by omega) ha.1
    have hb : isDg l[k] = true := by simpa using ha.2
    unfold isDg at hb
    simp at hb
    rw [valL_snoc, Nat.pow_succ]
    omega
theorem not_all (l : List UInt8) (k : Nat) (h : k < l.length) (hb : isDg l[k] = false) : l.all isDg = false := by
  rw [List.all_eq_false]
  exact ⟨l[k], List.getElem_mem h, by simp [hb]⟩

set_option maxRecDepth 100000 in
set_option maxHeartbeats 1600000 in
theorem digitsNumber_any (s : ByteArray) (w : World) (hs : s.size ≤ 10) :
    Calls Tryd.prog 51 #[.string s] w fun e w' => e = .returned (.int .i64 (dgI s)) ∧ w = w' := by
  have hl : s.data.toList.length = s.size := by simp
  have HG : Hid (∀ k (h : k < s.size) (h' : k < s.data.toList.length), s[k] = s.data.toList[k]) := Lib.hid (fun k h h' => by simp; rfl)
  have HE : Hid (dgI s = if s.data.toList.all isDg = true then (valL s.data.toList : Int) else -1) := Lib.hid rfl
  have HV := Lib.hid (val_lt7 s.data.toList)
  have HA := Lib.hid (all_take_succ s.data.toList)
  have HN := Lib.hid (not_all s.data.toList)
  have HL := Lib.hid hl
  have HSN : Hid (∀ k (h : k < s.data.toList.length), valL (s.data.toList.take (k + 1)) = 10 * valL (s.data.toList.take k) + ((s.data.toList[k]).toNat - 48)) := Lib.hid (fun k h => by rw [List.take_succ_eq_append_getElem h, valL_snoc])
  generalize dgI s = out at HE ⊢
  clear hl
  go_enter Tryd.func51, Tryd.ntmps51
  go_wp2
  go_loop [3, 7] (fun a b => ∃ k v : Nat, k ≤ s.size ∧ b = .int .i64 (k : Int) ∧ a = .int .i64 (v : Int) ∧ v < 10000000000 ∧ Hid (v = valL (s.data.toList.take k)) ∧ Hid ((s.data.toList.take k).all isDg = true)) (fun _ b => s.size - (intOf b).toNat)
  case atStart => exact ⟨0, 0, Nat.zero_le _, rfl, rfl, by omega, Lib.hid rfl, Lib.hid rfl⟩
  case round =>
    obtain ⟨k, v, hk, rfl, rfl, hv, HV1, HA1⟩ := hrel
    by_cases hlt : k < s.size
    · have hkl : k < s.data.toList.length := by rw [HL.out]; exact hlt
      have hgk := HG.out k hlt hkl
      have hbyte := (s[k]).toNat_lt
      have HSK := Lib.hid (HSN.out k hkl)
      rw [← hgk] at HSK
      by_cases hd : isDg s[k] = true
      · have HA2 := Lib.hid (HA.out k hkl HA1.out (by rw [← hgk]; exact hd))
        have hlt2 := HV.out (k + 1) (by omega) HA2.out
        have hp : 10 ^ (k + 1) ≤ 10 ^ 10 := Nat.pow_le_pow_right (by omega) (by omega)
        unfold isDg at hd
        simp at hd
        obtain ⟨hd1, hd2⟩ := hd
        have HV2 : Hid (10 * v + ((s[k]).toNat - 48) = valL (s.data.toList.take (k + 1)) ∧ 10 * v + ((s[k]).toNat - 48) < 10000000000) := Lib.hid (by
          rw [HSK.out, ← HV1.out]
          rw [HSK.out, ← HV1.out] at hlt2
          refine ⟨rfl, ?_⟩
          have : (10 : Nat) ^ 10 = 10000000000 := by decide
          omega)
        have z1 : ¬ (((s[k]).toNat : Int) < 48) := by omega
        have z2 : ¬ (57 < ((s[k]).toNat : Int)) := by omega
        clear hgk hp hlt2
        go_wp2
        refine ⟨⟨k + 1, 10 * v + ((s[k]).toNat - 48), by omega, by simp, by congr 1; omega, HV2.out.2, Lib.hid HV2.out.1, HA2⟩, ?_⟩
        simp [intOf]; omega
      · have hd' : isDg s[k] = false := by simpa using hd
        have HO : Hid ((-1 : Int) = out) := Lib.hid (by rw [HE.out, HN.out k hkl (by rw [← hgk]; exact hd')]; rfl)
        by_cases z1 : ((s[k]).toNat : Int) < 48
        · clear hgk hd hd'
          go_wp2
          go_ret
          exact ⟨ret_int HO.out, rfl⟩
        · have z2 : 57 < ((s[k]).toNat : Int) := by
            unfold isDg at hd'
            simp at hd'
            omega
          clear hgk hd hd'
          go_wp2
          go_ret
          exact ⟨ret_int HO.out, rfl⟩
    · have hke : k = s.size := by omega
      have HO : Hid ((v : Int) = out) := Lib.hid (by
        have ha := HA1.out
        rw [HE.out, HV1.out]
        rw [List.take_of_length_le (by rw [HL.out]; omega)] at ha ⊢
        rw [if_pos ha])
      clear hke
      go_wp2
      go_ret
      exact ⟨ret_int HO.out, rfl⟩

set_option maxRecDepth 100000 in
set_option maxHeartbeats 1600000 in
theorem l7Digits_any (s : ByteArray) (w : World) (hs : s.size ≤ 10) :
    Calls Tryd.prog 54 #[.string s] w fun e w' => e = .returned (.int .i64 (dgI s)) ∧ w = w' := by
  have hl : s.data.toList.length = s.size := by simp
  have HG : Hid (∀ k (h : k < s.size) (h' : k < s.data.toList.length), s[k] = s.data.toList[k]) := Lib.hid (fun k h h' => by simp; rfl)
  have HE : Hid (dgI s = if s.data.toList.all isDg = true then (valL s.data.toList : Int) else -1) := Lib.hid rfl
  have HV := Lib.hid (val_lt7 s.data.toList)
  have HA := Lib.hid (all_take_succ s.data.toList)
  have HN := Lib.hid (not_all s.data.toList)
  have HL := Lib.hid hl
  have HSN : Hid (∀ k (h : k < s.data.toList.length), valL (s.data.toList.take (k + 1)) = 10 * valL (s.data.toList.take k) + ((s.data.toList[k]).toNat - 48)) := Lib.hid (fun k h => by rw [List.take_succ_eq_append_getElem h, valL_snoc])
  generalize dgI s = out at HE ⊢
  clear hl
  go_enter Tryd.func54, Tryd.ntmps54
  go_wp2
  go_loop [3, 4] (fun a b => ∃ k v : Nat, k ≤ s.size ∧ b = .int .i64 (k : Int) ∧ a = .int .i64 (v : Int) ∧ v < 10000000000 ∧ Hid (v = valL (s.data.toList.take k)) ∧ Hid ((s.data.toList.take k).all isDg = true)) (fun _ b => s.size - (intOf b).toNat)
  case atStart => exact ⟨0, 0, Nat.zero_le _, rfl, rfl, by omega, Lib.hid rfl, Lib.hid rfl⟩
  case round =>
    obtain ⟨k, v, hk, rfl, rfl, hv, HV1, HA1⟩ := hrel
    by_cases hlt : k < s.size
    · have hkl : k < s.data.toList.length := by rw [HL.out]; exact hlt
      have hgk := HG.out k hlt hkl
      have hbyte := (s[k]).toNat_lt
      have HSK := Lib.hid (HSN.out k hkl)
      rw [← hgk] at HSK
      by_cases hd : isDg s[k] = true
      · have HA2 := Lib.hid (HA.out k hkl HA1.out (by rw [← hgk]; exact hd))
        have hlt2 := HV.out (k + 1) (by omega) HA2.out
        have hp : 10 ^ (k + 1) ≤ 10 ^ 10 := Nat.pow_le_pow_right (by omega) (by omega)
        unfold isDg at hd
        simp at hd
        obtain ⟨hd1, hd2⟩ := hd
        have HV2 : Hid (10 * v + ((s[k]).toNat - 48) = valL (s.data.toList.take (k + 1)) ∧ 10 * v + ((s[k]).toNat - 48) < 10000000000) := Lib.hid (by
          rw [HSK.out, ← HV1.out]
          rw [HSK.out, ← HV1.out] at hlt2
          refine ⟨rfl, ?_⟩
          have : (10 : Nat) ^ 10 = 10000000000 := by decide
          omega)
        have z1 : ¬ (((s[k]).toNat : Int) < 48) := by omega
        have z2 : ¬ (57 < ((s[k]).toNat : Int)) := by omega
        clear hgk hp hlt2
        go_wp2
        refine ⟨⟨k + 1, 10 * v + ((s[k]).toNat - 48), by omega, by simp, by congr 1; omega, HV2.out.2, Lib.hid HV2.out.1, HA2⟩, ?_⟩
        simp [intOf]; omega
      · have hd' : isDg s[k] = false := by simpa using hd
        have HO : Hid ((-1 : Int) = out) := Lib.hid (by rw [HE.out, HN.out k hkl (by rw [← hgk]; exact hd')]; rfl)
        by_cases z1 : ((s[k]).toNat : Int) < 48
        · clear hgk hd hd'
          go_wp2
          go_ret
          exact ⟨ret_int HO.out, rfl⟩
        · have z2 : 57 < ((s[k]).toNat : Int) := by
            unfold isDg at hd'
            simp at hd'
            omega
          clear hgk hd hd'
          go_wp2
          go_ret
          exact ⟨ret_int HO.out, rfl⟩
    · have hke : k = s.size := by omega
      have HO : Hid ((v : Int) = out) := Lib.hid (by
        have ha := HA1.out
        rw [HE.out, HV1.out]
        rw [List.take_of_length_le (by rw [HL.out]; omega)] at ha ⊢
        rw [if_pos ha])
      clear hke
      go_wp2
      go_ret
      exact ⟨ret_int HO.out, rfl⟩
end Go.Proofs.YtgimjfffdnopiaaDoor
