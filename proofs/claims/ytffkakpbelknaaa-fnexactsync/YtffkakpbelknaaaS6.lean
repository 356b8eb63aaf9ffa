/- Joined: W8e, W8f. -/
import Derived.Lib.AppendStr
import Derived.Laws.DeepStrings4
import Derived.IntWalk
import Derived.Test.YtffkakpbelknaaaS2
import Derived.Test.YtffkakpbelknaaaS5
/- W8e -/
namespace Go.Proofs.Ytffkakpbelknaaa
open Go.ChangeShapes Go.WideShapes Go.ChangeAt Go.RowKit
set_option linter.unusedVariables false

def inB (b : UInt8) (lo hi : Nat) : Bool := decide (lo ≤ b.toNat) && decide (b.toNat ≤ hi)
def wiB (s : ByteArray) (lo hi : Nat) : Bool := s.data.toList.all fun b => inB b lo hi
def nmB (s : ByteArray) (most : Nat) : Bool := decide (1 ≤ s.size) && decide (s.size ≤ most) && wiB s 33 126
def ttB (s : ByteArray) : Bool := decide (s.size ≤ 24) && wiB s 32 126
theorem wi_out (s : ByteArray) (lo hi k : Nat) (h : k < s.size) (hb : inB s[k] lo hi = false) : wiB s lo hi = false := by
  have h' : k < s.data.toList.length := by simpa using h
  have e : s[k] = s.data.toList[k] := by simp; rfl
  rw [e] at hb
  cases hw : wiB s lo hi with
  | false => rfl
  | true =>
    unfold wiB at hw
    have := List.all_eq_true.1 hw _ (List.getElem_mem h')
    rw [hb] at this
    cases this
theorem wi_step (s : ByteArray) (lo hi k : Nat) (h : k < s.size) (hb : inB s[k] lo hi = true) (ht : (s.data.toList.take k).all (fun b => inB b lo hi) = true) : (s.data.toList.take (k + 1)).all (fun b => inB b lo hi) = true := by
  have h' : k < s.data.toList.length := by simpa using h
  have e : s[k] = s.data.toList[k] := by simp; rfl
  rw [e] at hb
  rw [List.take_succ_eq_append_getElem h', List.all_append, ht, List.all_cons, hb]
  rfl
theorem wi_end (s : ByteArray) (lo hi k : Nat) (h : ¬ k < s.size) (ht : (s.data.toList.take k).all (fun b => inB b lo hi) = true) : wiB s lo hi = true := by
  unfold wiB
  have hl : s.data.toList.length = s.size := by simp
  rwa [List.take_of_length_le (by omega)] at ht

set_option maxRecDepth 100000 in
set_option maxHeartbeats 1600000 in
theorem bytesWithin_any (s : ByteArray) (lo hi : Nat) (w : World) (hs : s.size ≤ maxLen) :
    Calls Try.prog 119 #[.string s, .int .u8 (lo : Int), .int .u8 (hi : Int)] w fun e w' => e = .returned (.bool (wiB s lo hi)) ∧ w = w' := by
  have HO := Lib.hid (wi_out s lo hi)
  have HS := Lib.hid (wi_step s lo hi)
  have HD := Lib.hid (wi_end s lo hi)
  unfold maxLen at hs
  generalize wiB s lo hi = R at HO HD ⊢
  go_enter Try.func119, Try.ntmps119
  go_wp2
  go_loop [10] (fun i => ∃ k : Nat, k ≤ s.size ∧ i = .int .i64 (k : Int) ∧ Hid ((s.data.toList.take k).all (fun b => inB b lo hi) = true)) (fun i => s.size - (intOf i).toNat)
  case atStart => exact ⟨0, Nat.zero_le _, rfl, Lib.hid rfl⟩
  case round =>
    obtain ⟨k, hk, rfl, HT⟩ := hrel
    by_cases hlt : k < s.size
    · by_cases h1 : s[k].toNat < lo
      · have HR : Hid (R = false) := Lib.hid (HO.out k hlt (by unfold inB; simp; omega))
        have h1' : (s[k].toNat : Int) < (lo : Int) := by omega
        clear h1
        go_wp2
        go_ret
        exact ⟨ret_bool HR.out.symm, rfl⟩
      · by_cases h2 : hi < s[k].toNat
        · have HR : Hid (R = false) := Lib.hid (HO.out k hlt (by unfold inB; simp; omega))
          have h1' : ¬ (s[k].toNat : Int) < (lo : Int) := by omega
          have h2' : (hi : Int) < (s[k].toNat : Int) := by omega
          clear h1 h2
          go_wp2
          go_ret
          exact ⟨ret_bool HR.out.symm, rfl⟩
        · have HT' : Hid ((s.data.toList.take (k + 1)).all (fun b => inB b lo hi) = true) := Lib.hid (HS.out k hlt (by unfold inB; simp; omega) HT.out)
          have h1' : ¬ (s[k].toNat : Int) < (lo : Int) := by omega
          have h2' : ¬ (hi : Int) < (s[k].toNat : Int) := by omega
          clear h1 h2
          go_wp2
          refine ⟨⟨k + 1, by omega, by simp, HT'⟩, ?_⟩
          simp [intOf]; omega
    · have HR : Hid (R = true) := Lib.hid (HD.out k hlt HT.out)
      go_wp2
      go_ret
      exact ⟨ret_bool HR.out.symm, rfl⟩

set_option maxRecDepth 100000 in
set_option maxHeartbeats 1600000 in
theorem l8Name_any (s : ByteArray) (most : Nat) (w : World) (hs : s.size ≤ maxLen) :
    Calls Try.prog 58 #[.string s, .int .i64 (most : Int)] w fun e w' => e = .returned (.bool (nmB s most)) ∧ w = w' := by
  have HO := Lib.hid (wi_out s 33 126)
  have HS := Lib.hid (wi_step s 33 126)
  have HD := Lib.hid (wi_end s 33 126)
  have HF : Hid (nmB s most = (decide (1 ≤ s.size) && decide (s.size ≤ most) && wiB s 33 126)) := Lib.hid rfl
  unfold maxLen at hs
  rw [HF.out]
  generalize wiB s 33 126 = R at HO HD ⊢
  clear HF
  go_enter Try.func58, Try.ntmps58
  go_wp2
  go_loop [5] (fun i => ∃ k : Nat, k ≤ s.size ∧ i = .int .i64 (k : Int) ∧ Hid ((s.data.toList.take k).all (fun b => inB b 33 126) = true)) (fun i => s.size - (intOf i).toNat)
  case atStart => exact ⟨0, Nat.zero_le _, rfl, Lib.hid rfl⟩
  case round =>
    obtain ⟨k, hk, rfl, HT⟩ := hrel
    by_cases hlt : k < s.size
    · by_cases h1 : s[k].toNat < 33
      · have HR : Hid (R = false) := Lib.hid (HO.out k hlt (by unfold inB; simp; omega))
        have h1' : (s[k].toNat : Int) < 33 := by omega
        clear h1
        go_wp2
        go_ret
        exact ⟨ret_bool (by rw [HR.out]; simp), rfl⟩
      · by_cases h2 : 126 < s[k].toNat
        · have HR : Hid (R = false) := Lib.hid (HO.out k hlt (by unfold inB; simp; omega))
          have h1' : ¬ (s[k].toNat : Int) < 33 := by omega
          have h2' : 126 < (s[k].toNat : Int) := by omega
          clear h1 h2
          go_wp2
          go_ret
          exact ⟨ret_bool (by rw [HR.out]; simp), rfl⟩
        · have HT' : Hid ((s.data.toList.take (k + 1)).all (fun b => inB b 33 126) = true) := Lib.hid (HS.out k hlt (by unfold inB; simp; omega) HT.out)
          have h1' : ¬ (s[k].toNat : Int) < 33 := by omega
          have h2' : ¬ 126 < (s[k].toNat : Int) := by omega
          clear h1 h2
          go_wp2
          refine ⟨⟨k + 1, by omega, by simp, HT'⟩, ?_⟩
          simp [intOf]; omega
    · have HR : Hid (R = true) := Lib.hid (HD.out k hlt HT.out)
      by_cases h1 : 1 ≤ s.size
      · by_cases h2 : s.size ≤ most
        · have h1' : 1 ≤ (s.size : Int) := by omega
          have h2' : (s.size : Int) ≤ (most : Int) := by omega
          have HV : Hid ((decide (1 ≤ s.size) && decide (s.size ≤ most) && R) = true) := Lib.hid (by rw [HR.out]; simp [h1, h2])
          clear h1 h2
          go_wp2
          go_ret
          exact ⟨ret_bool HV.out.symm, rfl⟩
        · have h1' : 1 ≤ (s.size : Int) := by omega
          have h2' : ¬ (s.size : Int) ≤ (most : Int) := by omega
          have HV : Hid ((decide (1 ≤ s.size) && decide (s.size ≤ most) && R) = false) := Lib.hid (by simp [h2])
          clear h1 h2
          go_wp2
          go_ret
          exact ⟨ret_bool HV.out.symm, rfl⟩
      · have h1' : ¬ 1 ≤ (s.size : Int) := by omega
        have HV : Hid ((decide (1 ≤ s.size) && decide (s.size ≤ most) && R) = false) := Lib.hid (by simp [h1])
        clear h1
        go_wp2
        go_ret
        exact ⟨ret_bool HV.out.symm, rfl⟩

set_option maxRecDepth 100000 in
set_option maxHeartbeats 1600000 in
theorem l8Title_any (s : ByteArray) (w : World) (hs : s.size ≤ maxLen) :
    Calls Try.prog 59 #[.string s] w fun e w' => e = .returned (.bool (ttB s)) ∧ w = w' := by
  have HO := Lib.hid (wi_out s 32 126)
  have HS := Lib.hid (wi_step s 32 126)
  have HD := Lib.hid (wi_end s 32 126)
  have HF : Hid (ttB s = (decide (s.size ≤ 24) && wiB s 32 126)) := Lib.hid rfl
  unfold maxLen at hs
  rw [HF.out]
  generalize wiB s 32 126 = R at HO HD ⊢
  clear HF
  go_enter Try.func59, Try.ntmps59
  go_wp2
  go_loop [3] (fun i => ∃ k : Nat, k ≤ s.size ∧ i = .int .i64 (k : Int) ∧ Hid ((s.data.toList.take k).all (fun b => inB b 32 126) = true)) (fun i => s.size - (intOf i).toNat)
  case atStart => exact ⟨0, Nat.zero_le _, rfl, Lib.hid rfl⟩
  case round =>
    obtain ⟨k, hk, rfl, HT⟩ := hrel
    by_cases hlt : k < s.size
    · by_cases h1 : s[k].toNat < 32
      · have HR : Hid (R = false) := Lib.hid (HO.out k hlt (by unfold inB; simp; omega))
        have h1' : (s[k].toNat : Int) < 32 := by omega
        clear h1
        go_wp2
        go_ret
        exact ⟨ret_bool (by rw [HR.out]; simp), rfl⟩
      · by_cases h2 : 126 < s[k].toNat
        · have HR : Hid (R = false) := Lib.hid (HO.out k hlt (by unfold inB; simp; omega))
          have h1' : ¬ (s[k].toNat : Int) < 32 := by omega
          have h2' : 126 < (s[k].toNat : Int) := by omega
          clear h1 h2
          go_wp2
          go_ret
          exact ⟨ret_bool (by rw [HR.out]; simp), rfl⟩
        · have HT' : Hid ((s.data.toList.take (k + 1)).all (fun b => inB b 32 126) = true) := Lib.hid (HS.out k hlt (by unfold inB; simp; omega) HT.out)
          have h1' : ¬ (s[k].toNat : Int) < 32 := by omega
          have h2' : ¬ 126 < (s[k].toNat : Int) := by omega
          clear h1 h2
          go_wp2
          refine ⟨⟨k + 1, by omega, by simp, HT'⟩, ?_⟩
          simp [intOf]; omega
    · have HR : Hid (R = true) := Lib.hid (HD.out k hlt HT.out)
      by_cases h1 : s.size ≤ 24
      · have h1' : (s.size : Int) ≤ 24 := by omega
        have HV : Hid ((decide (s.size ≤ 24) && R) = true) := Lib.hid (by rw [HR.out]; simp [h1])
        clear h1
        go_wp2
        go_ret
        exact ⟨ret_bool HV.out.symm, rfl⟩
      · have h1' : ¬ (s.size : Int) ≤ 24 := by omega
        have HV : Hid ((decide (s.size ≤ 24) && R) = false) := Lib.hid (by simp [h1])
        clear h1
        go_wp2
        go_ret
        exact ⟨ret_bool HV.out.symm, rfl⟩

set_option maxHeartbeats 1600000 in
theorem isName_any (s : ByteArray) (most : Nat) (w : World) (hs : s.size ≤ maxLen) :
    Calls Try.prog 61 #[.string s, .int .i64 (most : Int)] w fun e w' => e = .returned (.bool (nmB s most)) ∧ w = w' := by
  have HC := Lib.hid (fun w => bytesWithin_any s 33 126 w hs)
  have HF : Hid (nmB s most = (decide (1 ≤ s.size) && decide (s.size ≤ most) && wiB s 33 126)) := Lib.hid rfl
  unfold maxLen at hs
  rw [HF.out]
  generalize wiB s 33 126 = R at HC ⊢
  clear HF
  by_cases h1 : 1 ≤ s.size
  · by_cases h2 : s.size ≤ most
    · have h1' : 1 ≤ (s.size : Int) := by omega
      have h2' : (s.size : Int) ≤ (most : Int) := by omega
      have HV : Hid ((decide (1 ≤ s.size) && decide (s.size ≤ most) && R) = R) := Lib.hid (by simp [h1, h2])
      rw [HV.out]
      clear h1 h2
      go_enter Try.func61, Try.ntmps61
      go_wp2_with fail
      refine (HC.out _).mono ?_
      rintro e w1 ⟨rfl, rfl⟩
      go_wp2
      go_ret
      exact ⟨rfl, rfl⟩
    · have h1' : 1 ≤ (s.size : Int) := by omega
      have h2' : ¬ (s.size : Int) ≤ (most : Int) := by omega
      have HV : Hid ((decide (1 ≤ s.size) && decide (s.size ≤ most) && R) = false) := Lib.hid (by simp [h2])
      rw [HV.out]
      clear h1 h2
      go_enter Try.func61, Try.ntmps61
      go_wp2
      go_ret
      exact ⟨rfl, rfl⟩
  · have h1' : ¬ 1 ≤ (s.size : Int) := by omega
    have HV : Hid ((decide (1 ≤ s.size) && decide (s.size ≤ most) && R) = false) := Lib.hid (by simp [h1])
    rw [HV.out]
    clear h1
    go_enter Try.func61, Try.ntmps61
    go_wp2
    go_ret
    exact ⟨rfl, rfl⟩

set_option maxHeartbeats 1600000 in
theorem isTitle_any (s : ByteArray) (w : World) (hs : s.size ≤ maxLen) :
    Calls Try.prog 116 #[.string s] w fun e w' => e = .returned (.bool (ttB s)) ∧ w = w' := by
  have HC := Lib.hid (fun w => bytesWithin_any s 32 126 w hs)
  have HF : Hid (ttB s = (decide (s.size ≤ 24) && wiB s 32 126)) := Lib.hid rfl
  unfold maxLen at hs
  rw [HF.out]
  generalize wiB s 32 126 = R at HC ⊢
  clear HF
  by_cases h1 : s.size ≤ 24
  · have h1' : (s.size : Int) ≤ 24 := by omega
    have HV : Hid ((decide (s.size ≤ 24) && R) = R) := Lib.hid (by simp [h1])
    rw [HV.out]
    clear h1
    go_enter Try.func116, Try.ntmps116
    go_wp2_with fail
    refine (HC.out _).mono ?_
    rintro e w1 ⟨rfl, rfl⟩
    go_wp2
    go_ret
    exact ⟨rfl, rfl⟩
  · have h1' : ¬ (s.size : Int) ≤ 24 := by omega
    have HV : Hid ((decide (s.size ≤ 24) && R) = false) := Lib.hid (by simp [h1])
    rw [HV.out]
    clear h1
    go_enter Try.func116, Try.ntmps116
    go_wp2
    go_ret
    exact ⟨rfl, rfl⟩
end Go.Proofs.Ytffkakpbelknaaa

/- W8f -/
namespace Go.Proofs.Ytffkakpbelknaaa
open Go.ChangeShapes Go.WideShapes Go.ChangeAt Go.RowKit
set_option linter.unusedVariables false

abbrev itV (s t : ByteArray) (d : Int) : Value := .agg #[.string s, .string t, .int .i64 d]
def itB (s t : ByteArray) (d : Int) : Bool := nmB s 8 && ttB t && (decide (0 ≤ d) && decide (d ≤ 200000))

set_option maxRecDepth 100000 in
set_option maxHeartbeats 1600000 in
theorem itemOk_any (s t : ByteArray) (d : Int) (w : World) (hs : s.size ≤ maxLen) (ht : t.size ≤ maxLen) :
    Calls Try.prog 120 #[itV s t d] w fun e w' => e = .returned (.bool (itB s t d)) ∧ Below w.heap.size w w' := by
  have HN := Lib.hid (fun w => isName_any s 8 w hs)
  have HT := Lib.hid (fun w => isTitle_any t w ht)
  have HD := Lib.hid (fun w => isDay_any d w)
  have hB0 : Below w.heap.size w (w.alloc (.cells #[.string s, .string t, .int .i64 d] 45)) := (Below.refl _ _).alloc (Nat.le_refl _) _
  have HE : Hid (itB s t d = (nmB s 8 && ttB t && (decide (0 ≤ d) && decide (d ≤ 200000)))) := Lib.hid rfl
  rw [HE.out]
  generalize nmB s 8 = A at HN ⊢
  generalize ttB t = B at HT ⊢
  generalize (decide (0 ≤ d) && decide (d ≤ 200000)) = C at HD ⊢
  clear HE hs ht
  go_enter Try.func120, Try.ntmps120
  go_wp2_with fail
  refine (HN.out _).mono ?_
  rintro e w1 ⟨rfl, rfl⟩
  cases A with
  | false =>
    go_wp2
    go_ret
    exact ⟨ret_bool (by simp), hB0⟩
  | true =>
    go_wp2_with fail
    refine (HT.out _).mono ?_
    rintro e w2 ⟨rfl, rfl⟩
    cases B with
    | false =>
      go_wp2
      go_ret
      exact ⟨ret_bool (by simp), hB0⟩
    | true =>
      go_wp2_with fail
      refine (HD.out _).mono ?_
      rintro e w3 ⟨rfl, rfl⟩
      go_wp2
      go_ret
      exact ⟨ret_bool (by simp), hB0⟩

set_option maxRecDepth 100000 in
set_option maxHeartbeats 1600000 in
theorem l8Item_any (s t : ByteArray) (d : Int) (w : World) (hs : s.size ≤ maxLen) (ht : t.size ≤ maxLen) :
    Calls Try.prog 118 #[itV s t d] w fun e w' => e = .returned (.bool (itB s t d)) ∧ Below w.heap.size w w' := by
  have HN := Lib.hid (fun w => l8Name_any s 8 w hs)
  have HT := Lib.hid (fun w => l8Title_any t w ht)
  have HD := Lib.hid (fun w => l1In_any d 0 200000 w)
  have hB0 : Below w.heap.size w (w.alloc (.cells #[.string s, .string t, .int .i64 d] 45)) := (Below.refl _ _).alloc (Nat.le_refl _) _
  have HE : Hid (itB s t d = (nmB s 8 && ttB t && (decide (0 ≤ d) && decide (d ≤ 200000)))) := Lib.hid rfl
  rw [HE.out]
  generalize nmB s 8 = A at HN ⊢
  generalize ttB t = B at HT ⊢
  generalize (decide (0 ≤ d) && decide (d ≤ 200000)) = C at HD ⊢
  clear HE hs ht
  go_enter Try.func118, Try.ntmps118
  go_wp2_with fail
  refine (HN.out _).mono ?_
  rintro e w1 ⟨rfl, rfl⟩
  cases A with
  | false =>
    go_wp2
    go_ret
    exact ⟨ret_bool (by simp), hB0⟩
  | true =>
    go_wp2_with fail
    refine (HT.out _).mono ?_
    rintro e w2 ⟨rfl, rfl⟩
    cases B with
    | false =>
      go_wp2
      go_ret
      exact ⟨ret_bool (by simp), hB0⟩
    | true =>
      go_wp2_with fail
      refine (HD.out _).mono ?_
      rintro e w3 ⟨rfl, rfl⟩
      go_wp2
      go_ret
      exact ⟨ret_bool (by simp), hB0⟩
end Go.Proofs.Ytffkakpbelknaaa
