/- Parts of a key (chapter 6): plain definitions; Expand and Stretched of the reference. -/
import Derived.Test.YtdcbideddlpodaaDoorW6b
namespace Go.Proofs.YtdcbideddlpodaaDoor
open Go.ChangeShapes Go.WideShapes Go.ChangeAt Go.RowKit Go.Shelf
set_option linter.unusedVariables false

/-- The parts: each the tag of what T makes of its number and of the part ahead. -/
def ptB (key : ByteArray) (T : Nat → ByteArray → ByteArray) : Nat → ByteArray
  | 0 => ⟨#[]⟩
  | n + 1 => hmB key (T (n + 1) (ptB key T n))
theorem ptB_size (key : ByteArray) (T : Nat → ByteArray → ByteArray) (n : Nat) : (ptB key T (n + 1)).size = 32 := hmB_size _ _
theorem ptB_le (key : ByteArray) (T : Nat → ByteArray → ByteArray) : ∀ n, (ptB key T n).size ≤ 32
  | 0 => by show 0 ≤ 32; omega
  | n + 1 => by rw [ptB_size]; omega
/-- So many parts, one behind the other. -/
def ptA (key : ByteArray) (T : Nat → ByteArray → ByteArray) : Nat → ByteArray
  | 0 => ⟨#[]⟩
  | n + 1 => ptA key T n ++ ptB key T (n + 1)
theorem ptA_size (key : ByteArray) (T : Nat → ByteArray → ByteArray) : ∀ n, (ptA key T n).size = 32 * n
  | 0 => rfl
  | n + 1 => by
    show (ptA key T n ++ ptB key T (n + 1)).size = _
    rw [ByteArray.size_append, ptA_size key T n, ptB_size]; omega
/-- So many parts, turned by each other. -/
def ptX (key : ByteArray) (T : Nat → ByteArray → ByteArray) : Nat → ByteArray
  | 0 => nghB 32
  | n + 1 => xorB (ptX key T n) (ptB key T (n + 1))
theorem ptX_size (key : ByteArray) (T : Nat → ByteArray → ByteArray) : ∀ n, (ptX key T n).size = 32
  | 0 => nghB_size 32
  | n + 1 => by
    show (xorB (ptX key T n) (ptB key T (n + 1))).size = _
    rw [xorB_size _ _ (by rw [ptX_size key T n, ptB_size]; omega), ptX_size key T n]
theorem xorL_noughts : ∀ (l : List UInt8), xorL (List.replicate l.length 0) l = l
  | [] => rfl
  | x :: l => by
    show (0 ^^^ x) :: xorL (List.replicate l.length 0) l = x :: l
    rw [xorL_noughts l, UInt8.zero_xor]
theorem ptX_one (key : ByteArray) (T : Nat → ByteArray → ByteArray) : ptX key T 1 = ptB key T 1 := by
  apply ba_eq
  show (xorB (nghB 32) (ptB key T 1)).data.toList = _
  unfold xorB
  rw [nghB_list]
  have h : (ptB key T 1).data.toList.length = 32 := by have := ptB_size key T 0; simpa using this
  have := xorL_noughts (ptB key T 1).data.toList
  rw [h] at this
  simpa using this
/-- What is expanded: the last part, info and a byte; what is stretched: salt and four bytes, then the last part. -/
def exT (info : ByteArray) (n : Nat) (last : ByteArray) : ByteArray := last ++ info ++ ⟨#[UInt8.ofNat n]⟩
theorem exT_size (info : ByteArray) (n : Nat) (last : ByteArray) : (exT info n last).size = last.size + info.size + 1 := by
  unfold exT; rw [ByteArray.size_append, ByteArray.size_append]; rfl
def stT (salt : ByteArray) (n : Nat) (last : ByteArray) : ByteArray := if n = 1 then salt ++ ⟨#[0, 0, 0, 1]⟩ else last
theorem stT_le (salt : ByteArray) (n : Nat) (last : ByteArray) : (stT salt n last).size ≤ salt.size + last.size + 4 := by
  unfold stT; split
  · rw [ByteArray.size_append]; show salt.size + 4 ≤ _; omega
  · omega
def exR (key info : ByteArray) (n : Int) : ByteArray := if key.size ≤ 4000 ∧ info.size ≤ 1000 ∧ 0 ≤ n ∧ n ≤ 1000 then (ptA key (exT info) ((n.toNat + 31) / 32)).extract 0 n.toNat else ⟨#[]⟩
def srR (pass salt : ByteArray) (n : Int) : ByteArray := if pass.size ≤ 1000 ∧ salt.size ≤ 1000 ∧ 1 ≤ n ∧ n ≤ 50 then ptX pass (stT salt) n.toNat else ⟨#[]⟩

theorem conv_one (w : World) (b : UInt8) (x : Int) (hx : x = (b.toNat : Int)) : (convert 22 9 (.slice (some ⟨w.heap.size, 0, none⟩) 1 1)).run Tryd.prog (w.alloc (.cells #[.int .u8 x] 5)) = .ok (.string ⟨#[b]⟩) (w.alloc (.cells #[.int .u8 x] 5)) := by
  subst hx
  refine run_convert_bytes_back _ 22 9 5 ⟨w.heap.size, 0, none⟩ 1 [b] Tryd.underlying22 Tryd.underlying5 Tryd.underlying9 ?_
  intro j hj
  have : j = 0 := by simpa using hj
  subst this
  simp [go_sem]
theorem ofNat_toNat (n : Nat) (h : n < 256) : (UInt8.ofNat n).toNat = n := by simp; omega

set_option maxRecDepth 100000 in
set_option maxHeartbeats 2000000 in
theorem specExpand_any (key info : ByteArray) (n : Int) (w : World) (hk : key.size ≤ maxLen) (hi : info.size ≤ maxLen) (hn : (Lit.int .i64 n).wf = true) :
    Calls Tryd.prog 26 #[.string key, .string info, .int .i64 n] w fun e w' => e = .returned (.string (exR key info n)) ∧ Below w.heap.size w w' := by
  unfold maxLen at hk hi
  by_cases h1 : key.size ≤ 4000
  · by_cases h2 : info.size ≤ 1000
    · by_cases h3 : 0 ≤ n
      · by_cases h4 : n ≤ 1000
        · obtain ⟨m, rfl⟩ := Int.eq_ofNat_of_zero_le h3
          have HE : Hid (exR key info (m : Int) = (ptA key (exT info) ((m + 31) / 32)).extract 0 m) := Lib.hid (by unfold exR; rw [if_pos ⟨h1, h2, h3, h4⟩]; rfl)
          generalize exR key info (m : Int) = out at HE ⊢
          have HS := Lib.hid (ptA_size key (exT info))
          have HL := Lib.hid (ptB_le key (exT info))
          have HH := Lib.hid (fun t w (h : t.size ≤ 4000) => l6Hmac_any key t w (by omega) (by omega))
          have hm : m ≤ 1000 := by omega
          have hd1 : ¬ (4000 < (key.size : Int)) := by omega
          have hd2 : ¬ (1000 < (info.size : Int)) := by omega
          clear h1 h2 h3 hk hi
          go_enter Tryd.func26, Tryd.ntmps26
          go_wp2
          go_loopw [7, 8, 9] (fun o l i wr => ∃ k : Nat, k ≤ (m + 31) / 32 ∧ i = .int .i64 ((k + 1 : Nat) : Int) ∧ o = .string (ptA key (exT info) k) ∧ l = .string (ptB key (exT info) k) ∧ Below w.heap.size w wr) (fun _ _ i _ => 40 - (intOf i).toNat)
          case atStart => exact ⟨0, Nat.zero_le _, rfl, rfl, rfl, Below.refl _ _⟩
          case round =>
            obtain ⟨k, hkm, rfl, rfl, rfl, hB⟩ := hrel
            have hs := HS.out k
            have hl := HL.out k
            have hl2 := HL.out (k + 1)
            have HN : Hid (ptB key (exT info) (k + 1) = hmB key (exT info (k + 1) (ptB key (exT info) k))) := Lib.hid rfl
            have HN2 : Hid (ptA key (exT info) (k + 1) = ptA key (exT info) k ++ ptB key (exT info) (k + 1)) := Lib.hid rfl
            obtain ⟨A, hA⟩ : ∃ A, A = ptA key (exT info) k := ⟨_, rfl⟩
            obtain ⟨L, hL⟩ : ∃ L, L = ptB key (exT info) k := ⟨_, rfl⟩
            rw [← hA] at hs HN2 ⊢
            rw [← hL] at hl HN ⊢
            have HA := Lib.hid hA
            clear hA hL
            by_cases hlt : A.size < m
            · have hk40 : k < 32 := by omega
              have HKK : Hid (k + 1 ≤ (m + 31) / 32) := Lib.hid (by omega)
              have HX : Hid (exT info (k + 1) L = L ++ info ++ ⟨#[UInt8.ofNat (k + 1)]⟩) := Lib.hid rfl
              have hbt := ofNat_toNat (k + 1) (by omega)
              obtain ⟨b, hbe⟩ : ∃ b, b = UInt8.ofNat (k + 1) := ⟨_, rfl⟩
              rw [← hbe] at HX hbt
              clear hbe
              have hxs := exT_size info (k + 1) L
              obtain ⟨M1, hM1⟩ : ∃ M, L ++ info = M := ⟨_, rfl⟩
              have hms1 : M1.size = L.size + info.size := by rw [← hM1, ByteArray.size_append]
              rw [hM1] at HX
              obtain ⟨X, hX⟩ : ∃ X, X = exT info (k + 1) L := ⟨_, rfl⟩
              rw [← hX] at HX HN hxs
              have hX' := HX.out.symm
              have HC := Lib.hid (fun w => HH.out X w (by omega))
              rw [← HN.out] at HC
              obtain ⟨P, hP⟩ : ∃ P, P = ptB key (exT info) (k + 1) := ⟨_, rfl⟩
              rw [← hP] at HC hl2 HN2
              have HP := Lib.hid hP
              have hsum1 : L.size + info.size ≤ 2000 := by omega
              have hsum2 : M1.size + 1 ≤ 2000 := by omega
              have hsum3 : A.size + P.size ≤ 2000 := by omega
              have hA2 := HN2.out.symm
              have hcv := conv_one wr b ((k : Int) + 1) (by rw [hbt]; simp)
              have hb1 := hB.alloc hB.size (.cells #[.int .u8 ((k : Int) + 1)] 5)
              clear hX hP hs hl hxs hms1 hl2 HN HX HN2 hB hbt
              go_wp2_with fail
              refine (HC.out _).mono ?_
              rintro e w1 ⟨rfl, hb2⟩
              have hB2 := hb1.trans (hb2.mono hb1.size)
              clear HC hb1 hb2 hcv hX'
              go_wp2
              go_roundw
              case rel => exact ⟨k + 1, HKK.out, by go_num, rfl, by rw [HP.out], hB2⟩
              case measure => simp [intOf]; omega
            · have hke : k = (m + 31) / 32 := by omega
              have HO : Hid (A.extract 0 m = out) := Lib.hid (by rw [HA.out, HE.out, hke])
              have hmA : (m : Int) ≤ (A.size : Int) := by omega
              clear hs hl hl2 HN HN2 hke
              go_wp2
              go_ret
              exact ⟨ret_str HO.out, hB⟩
        · have HR : Hid (exR key info n = ⟨#[]⟩) := Lib.hid (by unfold exR; rw [if_neg (by omega)])
          rw [HR.out]
          go_enter Tryd.func26, Tryd.ntmps26
          go_wp2
          go_ret
          exact ⟨rfl, Below.refl _ _⟩
      · have HR : Hid (exR key info n = ⟨#[]⟩) := Lib.hid (by unfold exR; rw [if_neg (by omega)])
        rw [HR.out]
        go_enter Tryd.func26, Tryd.ntmps26
        go_wp2
        go_ret
        exact ⟨rfl, Below.refl _ _⟩
    · have HR : Hid (exR key info n = ⟨#[]⟩) := Lib.hid (by unfold exR; rw [if_neg (by omega)])
      rw [HR.out]
      have hd2 : 1000 < (info.size : Int) := by omega
      go_enter Tryd.func26, Tryd.ntmps26
      go_wp2
      go_ret
      exact ⟨rfl, Below.refl _ _⟩
  · have HR : Hid (exR key info n = ⟨#[]⟩) := Lib.hid (by unfold exR; rw [if_neg (by omega)])
    rw [HR.out]
    have hd2 : 4000 < (key.size : Int) := by omega
    go_enter Tryd.func26, Tryd.ntmps26
    go_wp2
    go_ret
    exact ⟨rfl, Below.refl _ _⟩

theorem stT_more (salt : ByteArray) (k : Nat) (last : ByteArray) : stT salt (k + 2) last = last := if_neg (by omega)

set_option maxRecDepth 100000 in
set_option maxHeartbeats 2000000 in
theorem specStretched_any (pass salt : ByteArray) (n : Int) (w : World) (hk : pass.size ≤ maxLen) (hi : salt.size ≤ maxLen) (hn : (Lit.int .i64 n).wf = true) :
    Calls Tryd.prog 29 #[.string pass, .string salt, .int .i64 n] w fun e w' => e = .returned (.string (srR pass salt n)) ∧ Below w.heap.size w w' := by
  unfold maxLen at hk hi
  by_cases h1 : pass.size ≤ 1000
  · by_cases h2 : salt.size ≤ 1000
    · by_cases h3 : 1 ≤ n
      · by_cases h4 : n ≤ 50
        · obtain ⟨m, rfl⟩ := Int.eq_ofNat_of_zero_le (show 0 ≤ n by omega)
          have HE : Hid (srR pass salt (m : Int) = ptX pass (stT salt) m) := Lib.hid (by unfold srR; rw [if_pos ⟨h1, h2, h3, h4⟩]; rfl)
          generalize srR pass salt (m : Int) = out at HE ⊢
          have HS := Lib.hid (ptX_size pass (stT salt))
          have HL := Lib.hid (ptB_le pass (stT salt))
          have HLe := Lib.hid (ptB_size pass (stT salt))
          have HH := Lib.hid (fun t w (h : t.size ≤ 4000) => l6Hmac_any pass t w (by omega) (by omega))
          have hd1 : ¬ (1000 < (pass.size : Int)) := by omega
          have hd2 : ¬ (1000 < (salt.size : Int)) := by omega
          have HX1 := Lib.hid (ptX_one pass (stT salt))
          have HP1 : Hid (ptB pass (stT salt) 1 = hmB pass (salt ++ ⟨#[0, 0, 0, 1]⟩)) := Lib.hid rfl
          obtain ⟨S, hS⟩ : ∃ S : ByteArray, salt ++ ⟨#[0, 0, 0, 1]⟩ = S := ⟨_, rfl⟩
          have hss : S.size = salt.size + 4 := by rw [← hS, ByteArray.size_append]; rfl
          rw [hS] at HP1
          have HC1 := Lib.hid (fun w => HH.out S w (by omega))
          rw [← HP1.out] at HC1
          obtain ⟨U, hU⟩ : ∃ U, U = ptB pass (stT salt) 1 := ⟨_, rfl⟩
          rw [← hU] at HC1 HX1
          have HU := Lib.hid hU
          have hsum : salt.size + 4 ≤ 2000 := by omega
          clear h1 h2 hk hi hss hU HP1
          go_enter Tryd.func29, Tryd.ntmps29
          go_wp2_with (first | (refine (HC1.out _).mono ?_; rintro e w1 ⟨rfl, hb1⟩) | (go_at_call 51; go_in))
          go_loopw [7, 8, 9] (fun u o i wr => ∃ k : Nat, k + 1 ≤ m ∧ i = .int .i64 ((k + 1 : Nat) : Int) ∧ o = .string (ptX pass (stT salt) (k + 1)) ∧ u = .string (ptB pass (stT salt) (k + 1)) ∧ Below w.heap.size w wr) (fun _ _ i _ => 60 - (intOf i).toNat)
          case atStart => exact ⟨0, by omega, rfl, by rw [HX1.out], by rw [HU.out], hb1⟩
          case round =>
            obtain ⟨k, hkm, rfl, rfl, rfl, hB⟩ := hrel
            clear hb1
            have hs := HS.out (k + 1)
            have hl := HLe.out k
            have hl2 := HLe.out (k + 1)
            have HN : Hid (ptB pass (stT salt) (k + 1 + 1) = hmB pass (stT salt (k + 2) (ptB pass (stT salt) (k + 1)))) := Lib.hid rfl
            rw [stT_more] at HN
            have HN2 : Hid (ptX pass (stT salt) (k + 1 + 1) = xorB (ptX pass (stT salt) (k + 1)) (ptB pass (stT salt) (k + 1 + 1))) := Lib.hid rfl
            obtain ⟨A, hA⟩ : ∃ A, A = ptX pass (stT salt) (k + 1) := ⟨_, rfl⟩
            obtain ⟨L, hL⟩ : ∃ L, L = ptB pass (stT salt) (k + 1) := ⟨_, rfl⟩
            rw [← hA] at hs HN2 ⊢
            rw [← hL] at hl HN ⊢
            have HA := Lib.hid hA
            clear hA hL
            by_cases hlt : ((k + 1 : Nat) : Int) < (m : Int)
            · have HC := Lib.hid (fun w => HH.out L w (by omega))
              rw [← HN.out] at HC
              obtain ⟨P, hP⟩ : ∃ P, P = ptB pass (stT salt) (k + 1 + 1) := ⟨_, rfl⟩
              rw [← hP] at HC hl2 HN2
              have HP := Lib.hid hP
              have HX := Lib.hid (fun w => l1Xor_any A P w (by omega) (by omega) (by unfold maxLen; omega))
              rw [← HN2.out] at HX
              obtain ⟨X, hX⟩ : ∃ X, X = ptX pass (stT salt) (k + 1 + 1) := ⟨_, rfl⟩
              rw [← hX] at HX
              have HXe := Lib.hid hX
              have hk50 : k < 50 := by omega
              clear hX hP hs hl hl2 HN HN2
              go_wp2_with fail
              refine (HC.out _).mono ?_
              rintro e w1 ⟨rfl, hb1⟩
              have hB1 := hB.trans (hb1.mono hB.size)
              clear HC hb1 hB
              go_wp2_with fail
              refine (HX.out _).mono ?_
              rintro e w2 ⟨rfl, hb2⟩
              have hB2 := hB1.trans (hb2.mono hB1.size)
              clear HX hb2 hB1
              go_wp2
              go_roundw
              case rel => exact ⟨k + 1, by omega, by go_num, by rw [HXe.out], by rw [HP.out], hB2⟩
              case measure => simp [intOf]; omega
            · have hke : k + 1 = m := by omega
              have HO : Hid (A = out) := Lib.hid (by rw [HA.out, HE.out, hke])
              clear hs hl hl2 HN HN2 hke
              go_wp2
              go_ret
              exact ⟨ret_str HO.out, hB⟩
        · have HR : Hid (srR pass salt n = ⟨#[]⟩) := Lib.hid (by unfold srR; rw [if_neg (by omega)])
          rw [HR.out]
          go_enter Tryd.func29, Tryd.ntmps29
          go_wp2
          go_ret
          exact ⟨rfl, Below.refl _ _⟩
      · have HR : Hid (srR pass salt n = ⟨#[]⟩) := Lib.hid (by unfold srR; rw [if_neg (by omega)])
        rw [HR.out]
        go_enter Tryd.func29, Tryd.ntmps29
        go_wp2
        go_ret
        exact ⟨rfl, Below.refl _ _⟩
    · have HR : Hid (srR pass salt n = ⟨#[]⟩) := Lib.hid (by unfold srR; rw [if_neg (by omega)])
      rw [HR.out]
      have hd2 : 1000 < (salt.size : Int) := by omega
      go_enter Tryd.func29, Tryd.ntmps29
      go_wp2
      go_ret
      exact ⟨rfl, Below.refl _ _⟩
  · have HR : Hid (srR pass salt n = ⟨#[]⟩) := Lib.hid (by unfold srR; rw [if_neg (by omega)])
    rw [HR.out]
    have hd2 : 1000 < (pass.size : Int) := by omega
    go_enter Tryd.func29, Tryd.ntmps29
    go_wp2
    go_ret
    exact ⟨rfl, Below.refl _ _⟩
end Go.Proofs.YtdcbideddlpodaaDoor
