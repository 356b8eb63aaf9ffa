/- Joined: PlainD2. -/
import Derived.Test.YtgimjfffdnopiaaDoorH36
/- PlainD2 -/
namespace Go.Proofs.YtgimjfffdnopiaaDoor
set_option linter.unusedVariables false

theorem dg_back (b : UInt8) (n : Nat) (h : isDg b = true) (hn : n = b.toNat - 48) : UInt8.ofNat (48 + n) = b := by
  unfold isDg at h
  simp at h
  rw [hn, show 48 + (b.toNat - 48) = b.toNat by omega]
  exact UInt8.ofNat_toNat
theorem dg_lt (b : UInt8) (h : isDg b = true) : 48 ≤ b.toNat ∧ b.toNat - 48 < 10 := by
  unfold isDg at h
  simp at h
  omega
theorem val2 (a b : UInt8) : valL [a, b] = 10 * (a.toNat - 48) + (b.toNat - 48) := by simp [valL]
theorem val4 (a b c d : UInt8) : valL [a, b, c, d] = 1000 * (a.toNat - 48) + 100 * (b.toNat - 48) + 10 * (c.toNat - 48) + (d.toNat - 48) := by simp [valL]; omega
theorem two_back (a b : UInt8) (ha : isDg a = true) (hb : isDg b = true) : twoL (valL [a, b]) = [a, b] := by
  have h1 := dg_lt a ha
  have h2 := dg_lt b hb
  unfold twoL
  rw [val2, dg_back a _ ha (by omega), dg_back b _ hb (by omega)]
theorem four_back (a b c d : UInt8) (ha : isDg a = true) (hb : isDg b = true) (hc : isDg c = true) (hd : isDg d = true) (h : 1000 ≤ valL [a, b, c, d]) : Lib.decDigits (valL [a, b, c, d]) = [a, b, c, d] := by
  have h1 := dg_lt a ha
  have h2 := dg_lt b hb
  have h3 := dg_lt c hc
  have h4 := dg_lt d hd
  rw [val4] at h ⊢
  generalize hA : a.toNat - 48 = A at *
  generalize hB : b.toNat - 48 = B at *
  generalize hC : c.toNat - 48 = C at *
  generalize hD : d.toNat - 48 = D at *
  rw [Lib.decDigits.eq_def, dif_neg (by omega), Lib.decDigits.eq_def, dif_neg (by omega), Lib.decDigits.eq_def, dif_neg (by omega), Lib.decDigits.eq_def, dif_pos (by omega)]
  rw [dg_back a _ ha (by omega), dg_back b _ hb (by omega), dg_back c _ hc (by omega), dg_back d _ hd (by omega)]
  rfl
theorem dgI_list (s : ByteArray) (l : List UInt8) (h : s.data.toList = l) : dgI s = if l.all isDg = true then (valL l : Int) else -1 := by unfold dgI; rw [h]
theorem dgI_pos (s : ByteArray) (l : List UInt8) (h : s.data.toList = l) (hp : 0 ≤ dgI s) : l.all isDg = true ∧ dgI s = (valL l : Int) := by
  rw [dgI_list s l h] at hp ⊢
  split at hp
  · rename_i ha
    exact ⟨ha, if_pos ha⟩
  · omega
theorem ten_bytes (s : ByteArray) (h : s.size = 10) : ∃ b0 b1 b2 b3 b4 b5 b6 b7 b8 b9, s.data.toList = [b0, b1, b2, b3, b4, b5, b6, b7, b8, b9] := by
  have hl : s.data.toList.length = 10 := by simpa using h
  match hs : s.data.toList, hl with
  | [b0, b1, b2, b3, b4, b5, b6, b7, b8, b9], _ => exact ⟨b0, b1, b2, b3, b4, b5, b6, b7, b8, b9, rfl⟩
theorem ext_part (s : ByteArray) (l : List UInt8) (a b : Nat) (h : s.data.toList = l) : (s.extract a b).data.toList = (l.take b).drop a := by
  rw [ByteArray.data_extract, Array.toList_extract, h]; simp [List.extract, List.take_drop]
  by_cases hab : a ≤ b
  · rw [show a + (b - a) = b by omega]
  · rw [show a + (b - a) = a by omega]
    rw [List.drop_eq_nil_of_le (by simp; omega), List.drop_eq_nil_of_le (by simp; omega)]
theorem byte_list (s : ByteArray) (l : List UInt8) (k : Nat) (h : s.data.toList = l) (hk : k < l.length) : byteAt7 s k = (l[k]).toNat := by
  have hs : k < s.size := by rw [← h] at hk; simpa using hk
  rw [byteAt7_eq s k hs]
  subst h
  simp; rfl
theorem dtB_list (y m d : Nat) : (dtB y m d).data.toList = Lib.decDigits y ++ [45] ++ twoL m ++ [45] ++ twoL d := by
  unfold dtB
  rw [app7, app7, app7, app7]
  unfold decB twoB
  simp
theorem rd_iff (s : ByteArray) (hs : s.size = 10) : dateT (rY s) (rM s) (rD s) = s ↔ (byteAt7 s 4 = 45 ∧ byteAt7 s 7 = 45 ∧ dOk (rY s) (rM s) (rD s) = true) := by
  obtain ⟨b0, b1, b2, b3, b4, b5, b6, b7, b8, b9, hl⟩ := ten_bytes s hs
  have e1 : (s.extract 0 4).data.toList = [b0, b1, b2, b3] := ext_part s _ 0 4 hl
  have e2 : (s.extract 5 7).data.toList = [b5, b6] := ext_part s _ 5 7 hl
  have e3 : (s.extract 8 10).data.toList = [b8, b9] := ext_part s _ 8 10 hl
  have k4 : byteAt7 s 4 = b4.toNat := byte_list s _ 4 hl (by simp)
  have k7 : byteAt7 s 7 = b7.toNat := byte_list s _ 7 hl (by simp)
  constructor
  · intro he
    have hok : dOk (rY s) (rM s) (rD s) = true := by
      cases hc : dOk (rY s) (rM s) (rD s) with
      | true => rfl
      | false =>
        exfalso
        unfold dateT at he
        rw [hc] at he
        have : s.size = 0 := by rw [← he]; rfl
        omega
    obtain ⟨c1, c2, c3, c4, c5, c6, c7⟩ := (dOk_iff _ _ _).1 hok
    have hd : (dateT (rY s) (rM s) (rD s)).data.toList = s.data.toList := congrArg (fun b : ByteArray => b.data.toList) he
    unfold dateT at hd
    rw [if_pos hok, dtB_list, hl] at hd
    have h4 : (Lib.decDigits (rY s).toNat).length = 4 := by rw [Lib.decDigits_length, Lib.nDigits_unique 3 _ (by omega) (by omega)]
    obtain ⟨x0, x1, x2, x3, hx⟩ : ∃ x0 x1 x2 x3, Lib.decDigits (rY s).toNat = [x0, x1, x2, x3] := by
      match hq : Lib.decDigits (rY s).toNat, h4 with
      | [x0, x1, x2, x3], _ => exact ⟨x0, x1, x2, x3, rfl⟩
    rw [hx] at hd
    simp [twoL] at hd
    refine ⟨?_, ?_, hok⟩
    · rw [k4, ← hd.2.2.2.2.1]; rfl
    · rw [k7, ← hd.2.2.2.2.2.2.2.1]; rfl
  · rintro ⟨h4, h7, hok⟩
    obtain ⟨c1, c2, c3, c4, c5, c6, c7⟩ := (dOk_iff _ _ _).1 hok
    unfold dateT
    rw [if_pos hok]
    apply ba_eq
    rw [dtB_list, hl]
    obtain ⟨a1, v1⟩ := dgI_pos (s.extract 0 4) _ e1 (show 0 ≤ rY s by omega)
    obtain ⟨a2, v2⟩ := dgI_pos (s.extract 5 7) _ e2 (show 0 ≤ rM s by omega)
    obtain ⟨a3, v3⟩ := dgI_pos (s.extract 8 10) _ e3 (show 0 ≤ rD s by omega)
    simp only [List.all_cons, List.all_nil, Bool.and_eq_true, Bool.and_true] at a1 a2 a3
    have hy : rY s = (valL [b0, b1, b2, b3] : Int) := v1
    have hm : rM s = (valL [b5, b6] : Int) := v2
    have hd : rD s = (valL [b8, b9] : Int) := v3
    rw [hy] at c1
    rw [hy, hm, hd, Int.toNat_natCast, Int.toNat_natCast, Int.toNat_natCast, four_back b0 b1 b2 b3 a1.1 a1.2.1 a1.2.2.1 a1.2.2.2 (by omega), two_back b5 b6 a2.1 a2.2, two_back b8 b9 a3.1 a3.2]
    have q4 : b4 = 45 := UInt8.toNat_inj.1 (by rw [← k4, h4]; rfl)
    have q7 : b7 = 45 := UInt8.toNat_inj.1 (by rw [← k7, h7]; rfl)
    rw [q4, q7]; rfl
end Go.Proofs.YtgimjfffdnopiaaDoor
