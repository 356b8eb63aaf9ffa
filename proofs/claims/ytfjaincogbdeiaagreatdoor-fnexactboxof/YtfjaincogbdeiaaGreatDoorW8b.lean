/- Contracts: texts without marks (chapter 8), of the reference. -/
import Derived.Test.YtfjaincogbdeiaaGreatDoorW8a
namespace Go.Proofs.YtfjaincogbdeiaaGreatDoor
open Go.ChangeShapes Go.WideShapes Go.ChangeAt Go.RowKit Go.Shelf
set_option linter.unusedVariables false

theorem byte_ne {c d : UInt8} (h : ¬ c = d) : ((c.toNat : Int) == (d.toNat : Int)) = false := by
  have : c.toNat ≠ d.toNat := fun e => h (UInt8.toNat_inj.1 e)
  have h2 : ¬ (c.toNat : Int) = (d.toNat : Int) := by omega
  simpa using h2

set_option maxHeartbeats 1600000 in
theorem l8Escape_any (c : UInt8) (w : World) : Calls Tryz.prog 125 #[.int .u8 (c.toNat : Int)] w fun e w' => e = .returned (.string (escS c)) ∧ w = w' := by
  by_cases h1 : c = 38
  · subst h1
    go_enter Tryz.func125, Tryz.ntmps125
    go_wp2
    go_ret
    exact ⟨rfl, rfl⟩
  by_cases h2 : c = 60
  · subst h2
    go_enter Tryz.func125, Tryz.ntmps125
    go_wp2
    go_ret
    exact ⟨rfl, rfl⟩
  by_cases h3 : c = 62
  · subst h3
    go_enter Tryz.func125, Tryz.ntmps125
    go_wp2
    go_ret
    exact ⟨rfl, rfl⟩
  by_cases h4 : c = 34
  · subst h4
    go_enter Tryz.func125, Tryz.ntmps125
    go_wp2
    go_ret
    exact ⟨rfl, rfl⟩
  have HE : Hid (escS c = ⟨#[]⟩) := Lib.hid (by unfold escS escM; rw [if_neg h1, if_neg h2, if_neg h3, if_neg h4])
  rw [HE.out]
  have e1 : ((c.toNat : Int) == 38) = false := byte_ne (d := 38) h1
  have e2 : ((c.toNat : Int) == 60) = false := byte_ne (d := 60) h2
  have e3 : ((c.toNat : Int) == 62) = false := byte_ne (d := 62) h3
  have e4 : ((c.toNat : Int) == 34) = false := byte_ne (d := 34) h4
  clear h1 h2 h3 h4 HE
  go_enter Tryz.func125, Tryz.ntmps125
  go_wp2
  go_ret
  exact ⟨rfl, rfl⟩
theorem one_byte (s : ByteArray) (k : Nat) (h : k < s.size) : (s.extract k (k + 1)).data.toList = [s[k]] := by
  rw [ByteArray.data_extract, Array.toList_extract]
  have hk : k < s.data.toList.length := by simpa using h
  simp only [List.extract, Nat.add_sub_cancel_left]
  rw [List.drop_eq_getElem_cons hk, List.take_succ_cons, List.take_zero]
  simp; rfl
theorem app8 (a b : ByteArray) : (a ++ b).data.toList = a.data.toList ++ b.data.toList := by rw [ByteArray.data_append, Array.toList_append]
theorem escS_empty (c : UInt8) : (escS c).toList.isEmpty = (escM c).isEmpty := by
  unfold escS
  rw [ByteArray.toList_eq]

set_option maxRecDepth 100000 in
set_option maxHeartbeats 2000000 in
theorem l8Escaped_any (s : ByteArray) (w : World) (hs : s.size ≤ 1000) :
    Calls Tryz.prog 90 #[.string s] w fun e w' => e = .returned (.string (escB s)) ∧ Below w.heap.size w w' := by
  have HE : Hid (escB s = ⟨(escL s.data.toList).toArray⟩) := Lib.hid rfl
  have hl : s.data.toList.length = s.size := by simp
  have HG : Hid (∀ k (h : k < s.size) (h' : k < s.data.toList.length), s[k] = s.data.toList[k]) := Lib.hid (fun k h h' => by simp; rfl)
  have HL := Lib.hid hl
  have HN := Lib.hid (escL_len)
  generalize escB s = out at HE ⊢
  clear hl
  go_enter Tryz.func90, Tryz.ntmps90
  go_wp2
  go_loop [3, 4] (fun v i => ∃ (k : Nat) (X : ByteArray), k ≤ s.size ∧ i = .int .i64 (k : Int) ∧ v = .string X ∧ Hid (X.data.toList = escL (s.data.toList.take k))) (fun _ i => s.size - (intOf i).toNat)
  case atStart => exact ⟨0, ⟨#[]⟩, Nat.zero_le _, rfl, rfl, Lib.hid rfl⟩
  case round =>
    obtain ⟨k, X, hk, rfl, rfl, HX⟩ := hrel
    have hXs : X.size ≤ 6000 := by
      have h1 : X.data.toList.length = X.size := by simp
      have h2 := HN.out (s.data.toList.take k)
      rw [← HX.out, h1] at h2
      have h3 : (s.data.toList.take k).length ≤ k := by rw [List.length_take]; omega
      omega
    by_cases hlt : k < s.size
    · have hkl : k < s.data.toList.length := by rw [HL.out]; exact hlt
      have HSN : Hid (escL (s.data.toList.take (k + 1)) = escL (s.data.toList.take k) ++ esc s[k]) := Lib.hid (by rw [List.take_succ_eq_append_getElem hkl, escL_snoc, HG.out k hlt hkl])
      have HC := Lib.hid (fun w => l8Escape_any s[k] w)
      have hem := escS_empty s[k]
      by_cases hm : escM s[k] = []
      · have he : esc s[k] = [s[k]] := if_pos hm
        have HO := one_byte s k hlt
        rw [he, ← HO, ← HX.out] at HSN
        have hs1 : (s.extract k (k + 1)).size = 1 := by rw [ByteArray.size_extract]; omega
        obtain ⟨P, hP⟩ : ∃ P, P = s.extract k (k + 1) := ⟨_, rfl⟩
        have hP' := hP.symm
        rw [← hP] at HSN hs1
        obtain ⟨Y, hY⟩ : ∃ Y, X ++ P = Y := ⟨_, rfl⟩
        have HY : Hid (Y.data.toList = escL (s.data.toList.take (k + 1))) := Lib.hid (by rw [← hY, app8, HSN.out])
        rw [show escS s[k] = ⟨#[]⟩ by unfold escS; rw [hm]] at HC
        have hsum : X.size + P.size ≤ 10000 := by omega
        have hk1 : (k : Int) + 1 ≤ (s.size : Int) := by omega
        clear hm he HO hP HSN hem
        go_wp2_with fail
        refine (HC.out _).mono ?_
        rintro e w1 ⟨rfl, rfl⟩
        go_wp2
        refine ⟨⟨k + 1, Y, by omega, by simp, rfl, HY⟩, ?_⟩
        simp [intOf]; omega
      · have he : esc s[k] = escM s[k] := if_neg hm
        have hP : (escS s[k]).data.toList = escM s[k] := by unfold escS; simp
        have hps : (escS s[k]).size ≤ 6 := by
          have h1 := esc_len s[k]
          rw [he, ← hP] at h1
          simpa using h1
        have hem2 : (escS s[k]).toList.isEmpty = false := by
          rw [hem]
          cases hq : escM s[k] with
          | nil => exact absurd hq hm
          | cons a b => rfl
        rw [he, ← hP, ← HX.out] at HSN
        generalize escS s[k] = P at HC hps hem2 HSN
        obtain ⟨Y, hY⟩ : ∃ Y, X ++ P = Y := ⟨_, rfl⟩
        have HY : Hid (Y.data.toList = escL (s.data.toList.take (k + 1))) := Lib.hid (by rw [← hY, app8, HSN.out])
        have hsum : X.size + P.size ≤ 10000 := by omega
        clear hm he hP HSN hem
        go_wp2_with fail
        refine (HC.out _).mono ?_
        rintro e w1 ⟨rfl, rfl⟩
        go_wp2
        refine ⟨⟨k + 1, Y, by omega, by simp, rfl, HY⟩, ?_⟩
        simp [intOf]; omega
    · have hke : k = s.size := by omega
      have HO : Hid (X = out) := Lib.hid (by apply ba_eq; rw [HX.out, HE.out, List.take_of_length_le (by rw [HL.out]; omega)])
      clear hke
      go_wp2
      go_ret
      exact ⟨ret_str HO.out, Below.refl _ _⟩

end Go.Proofs.YtfjaincogbdeiaaGreatDoor
