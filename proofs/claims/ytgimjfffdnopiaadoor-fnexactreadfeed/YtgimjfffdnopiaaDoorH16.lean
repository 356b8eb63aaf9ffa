/- Joined: W7h. -/
import Derived.Lib.AppendIntMem
import Derived.Test.YtgimjfffdnopiaaDoorH14
import Derived.Test.YtgimjfffdnopiaaDoorH15
/- W7h -/
namespace Go.Proofs.YtgimjfffdnopiaaDoor
open Go.ChangeShapes Go.WideShapes Go.ChangeAt Go.RowKit Go.Shelf
set_option linter.unusedVariables false

/-- A number in decimal; in two digits; the text of a date. -/
def decB (n : Nat) : ByteArray := ⟨(Lib.decDigits n).toArray⟩
def twoL (n : Nat) : List UInt8 := [UInt8.ofNat (48 + n / 10), UInt8.ofNat (48 + n % 10)]
def twoB (n : Nat) : ByteArray := ⟨(twoL n).toArray⟩
def dtB (y m d : Nat) : ByteArray := decB y ++ ⟨#[45]⟩ ++ twoB m ++ ⟨#[45]⟩ ++ twoB d
def dateT (y m d : Int) : ByteArray := if dOk y m d = true then dtB y.toNat m.toNat d.toNat else ⟨#[]⟩
theorem two_small (n : Nat) (h : n < 10) : twoL n = 48 :: Lib.decDigits n := by
  unfold twoL
  rw [Lib.decDigits_one h, show n / 10 = 0 by omega, show n % 10 = n by omega]
  rfl
theorem two_big (n : Nat) (h : ¬ n < 10) (h2 : n < 100) : twoL n = Lib.decDigits n := by
  unfold twoL
  rw [Lib.decDigits_two h h2]
theorem twoB_size (n : Nat) : (twoB n).size = 2 := rfl
theorem app7 (a b : ByteArray) : (a ++ b).data.toList = a.data.toList ++ b.data.toList := by rw [ByteArray.data_append, Array.toList_append]
theorem dec_step (N : Nat) (q : Nat) (s : List UInt8) (hq : ¬ q < 10) (h : Lib.decDigits N = Lib.decDigits q ++ s) : Lib.decDigits N = Lib.decDigits (q / 10) ++ (UInt8.ofNat (48 + q % 10) :: s) := by
  rw [h, Lib.decDigits.eq_def q, dif_neg hq, List.append_assoc]; rfl

theorem conv_one7 (w : World) (b : UInt8) (x : Int) (hx : x = (b.toNat : Int)) : (convert 22 9 (.slice (some ⟨w.heap.size, 0, none⟩) 1 1)).run Tryd.prog (w.alloc (.cells #[.int .u8 x] 5)) = .ok (.string ⟨#[b]⟩) (w.alloc (.cells #[.int .u8 x] 5)) := by
  subst hx
  refine run_convert_bytes_back _ 22 9 5 ⟨w.heap.size, 0, none⟩ 1 [b] Tryd.underlying22 Tryd.underlying5 Tryd.underlying9 ?_
  intro j hj
  have : j = 0 := by simpa using hj
  subst this
  simp [go_sem]
theorem ofNat_toNat7 (n : Nat) (h : n < 256) : (UInt8.ofNat n).toNat = n := by simp; omega

set_option maxRecDepth 100000 in
set_option maxHeartbeats 1600000 in
theorem l1Dec_any (n : Nat) (w : World) (hn : n ≤ 1000000) :
    Calls Tryd.prog 90 #[.int .i64 (n : Int)] w fun e w' => e = .returned (.string (decB n)) ∧ Below w.heap.size w w' := by
  have HE : Hid (decB n = ⟨(Lib.decDigits n).toArray⟩) := Lib.hid rfl
  generalize decB n = out at HE ⊢
  have HN : Hid (Lib.decDigits n = Lib.decDigits n ++ []) := Lib.hid (by simp)
  have h0 : ¬ ((n : Int) < 0) := by omega
  go_enter Tryd.func90, Tryd.ntmps90
  go_wp2
  go_loopw [0, 3] (fun q s wr => ∃ (k : Nat) (t : ByteArray), k ≤ n ∧ q = .int .i64 (k : Int) ∧ s = .string t ∧ t.size + k ≤ n + 100 ∧ t.size ≤ 2000000 ∧ Hid (Lib.decDigits n = Lib.decDigits k ++ t.data.toList) ∧ Below w.heap.size w wr) (fun q _ _ => (intOf q).toNat)
  case atStart => exact ⟨n, ⟨#[]⟩, Nat.le_refl _, rfl, rfl, by show 0 + n ≤ _; omega, by show 0 ≤ _; omega, HN, Below.refl _ _⟩
  case round =>
    obtain ⟨k, t, hk, rfl, rfl, hts, htm, HD, hB⟩ := hrel
    by_cases hlt : 10 ≤ k
    · have HS := Lib.hid (dec_step n k t.data.toList (by omega) HD.out)
      have hbt := ofNat_toNat7 (48 + k % 10) (by omega)
      obtain ⟨b, hbe⟩ : ∃ b, b = UInt8.ofNat (48 + k % 10) := ⟨_, rfl⟩
      rw [← hbe] at HS hbt
      obtain ⟨X, hX⟩ : ∃ X : ByteArray, (⟨#[b]⟩ : ByteArray) ++ t = X := ⟨_, rfl⟩
      have HX : Hid (X.data.toList = b :: t.data.toList ∧ X.size = t.size + 1) := Lib.hid (by
        rw [← hX, ByteArray.size_append]
        exact ⟨app7 _ _, by show 1 + t.size = _; omega⟩)
      have hcv := conv_one7 wr b (48 + (k : Int) % 10) (by rw [hbt]; omega)
      have hb1 := hB.alloc hB.size (.cells #[.int .u8 (48 + (k : Int) % 10)] 5)
      have hkI : (10 : Int) ≤ (k : Int) := by omega
      have hsum : 1 + t.size ≤ 3000000 := by omega
      clear hbe hbt hB
      go_wp2
      go_roundw
      case rel => exact ⟨k / 10, X, by omega, by simp, rfl, by have := HX.out.2; omega, by have := HX.out.2; omega, Lib.hid (by rw [HX.out.1]; exact HS.out), hb1⟩
      case measure => simp [intOf]; omega
    · have hbt := ofNat_toNat7 (48 + k) (by omega)
      have HF : Hid (Lib.decDigits n = UInt8.ofNat (48 + k) :: t.data.toList) := Lib.hid (by rw [HD.out, Lib.decDigits_one (by omega)]; rfl)
      obtain ⟨b, hbe⟩ : ∃ b, b = UInt8.ofNat (48 + k) := ⟨_, rfl⟩
      rw [← hbe] at HF hbt
      obtain ⟨X, hX⟩ : ∃ X : ByteArray, (⟨#[b]⟩ : ByteArray) ++ t = X := ⟨_, rfl⟩
      have HX : Hid (X = out) := Lib.hid (by
        apply ba_eq
        rw [HE.out, ← hX, app7]
        show b :: t.data.toList = _
        rw [← HF.out])
      have hcv := conv_one7 wr b (48 + (k : Int)) (by rw [hbt]; omega)
      have hb1 := hB.alloc hB.size (.cells #[.int .u8 (48 + (k : Int))] 5)
      have hkI : ¬ (10 : Int) ≤ (k : Int) := by omega
      have hsum : 1 + t.size ≤ 3000000 := by omega
      clear hbe hbt hB
      go_wp2
      go_ret
      exact ⟨ret_str HX.out, hb1⟩

set_option maxRecDepth 100000 in
set_option maxHeartbeats 1600000 in
theorem l7Two_any (n : Nat) (w : World) (hn : n < 100) :
    Calls Tryd.prog 91 #[.int .i64 (n : Int)] w fun e w' => e = .returned (.string (twoB n)) ∧ Below w.heap.size w w' := by
  have HC := Lib.hid (fun w => l1Dec_any n w (by omega))
  by_cases h : n < 10
  · have HE : Hid ((⟨#[48]⟩ : ByteArray) ++ decB n = twoB n) := Lib.hid (by
      apply ba_eq
      rw [app7]
      unfold twoB decB
      rw [two_small n h]; simp)
    have hs : (decB n).size ≤ 10 := by unfold decB; rw [Lib.decDigits_one h]; show 1 ≤ 10; omega
    generalize decB n = D at HC HE hs
    have hI : (n : Int) < 10 := by omega
    have he := HE.out
    generalize twoB n = O at he ⊢
    clear HE h
    go_enter Tryd.func91, Tryd.ntmps91
    go_wp2_with fail
    refine (HC.out _).mono ?_
    rintro e w1 ⟨rfl, hb⟩
    have hsum : 1 + D.size ≤ 100 := by omega
    go_wp2
    go_ret
    exact ⟨rfl, hb⟩
  · have HE : Hid (decB n = twoB n) := Lib.hid (by unfold decB twoB; rw [two_big n h hn])
    have hI : ¬ (n : Int) < 10 := by omega
    rw [HE.out] at HC
    clear h
    go_enter Tryd.func91, Tryd.ntmps91
    go_wp2_with fail
    refine (HC.out _).mono ?_
    rintro e w1 ⟨rfl, hb⟩
    go_wp2
    go_ret
    exact ⟨rfl, hb⟩

/-- The table of the powers of ten lies as it should. -/
def PTab (w : World) : Prop := Lib.TabIs Tryd.prog w "internal/strconv.uint64pow10" .u64 Lib.pow10Tab
theorem gPw : Tryd.prog.globalNamed "internal/strconv.uint64pow10" = some 5 := by kernel_rfl
theorem PTab.below {w w' : World} {B : Nat} (h : PTab w) (hb : Below B w w') (hB : w.heap.size ≤ B) : PTab w' := by
  unfold PTab Lib.TabIs World.var? at h ⊢
  rw [gPw] at h ⊢
  simp only [Option.bind_some] at h ⊢
  cases hg : w.heap[5]? with
  | none => rw [hg] at h; simp at h
  | some o =>
    have hlt := (Array.getElem?_eq_some_iff.1 hg).1
    rw [hb.block _ (by omega)]
    exact h

theorem repeatL_48 : ∀ n, Lib.repeatL [48] n = List.replicate n 48
  | 0 => rfl
  | n + 1 => by rw [Lib.repeatL, repeatL_48 n]; rfl

set_option maxRecDepth 100000 in
set_option maxHeartbeats 1600000 in
theorem fixed2_any (n : Nat) (w : World) (hn : n < 100) :
    Calls Tryd.prog 50 #[.int .i64 (n : Int), .int .i64 2] w fun e w' => e = .returned (.string (twoB n)) ∧ Below w.heap.size w w' := by
  have HC := Lib.hid (fun w => Tryd.strconv_FormatInt_10_small n hn w)
  change Hid (∀ w : World, Calls _ _ _ _ fun e w' => e = .returned (.string (decB n)) ∧ _) at HC
  by_cases h : n < 10
  · have hs : (decB n).size = 1 := by unfold decB; rw [Lib.decDigits_one h]; rfl
    have HR := Lib.hid (fun w => Tryd.strings_Repeat ⟨#[48]⟩ 1 w (by omega) (by show 1 * 1 ≤ _; omega))
    rw [show (⟨#[48]⟩ : ByteArray).data.toList = [48] from rfl, repeatL_48] at HR
    change Hid (∀ w : World, Calls _ _ _ _ fun e w' => e = .returned (.string ⟨#[48]⟩) ∧ _) at HR
    have he : (⟨#[48]⟩ : ByteArray) ++ decB n = twoB n := by
      apply ba_eq
      rw [app7]
      unfold twoB decB
      rw [two_small n h]; simp
    have HS := Lib.hid hs
    have hsI : (2 : Int) - ((decB n).size : Int) = 1 := by omega
    generalize decB n = D at HC he hs hsI
    generalize twoB n = O at he ⊢
    have hsum : 1 + D.size ≤ 100 := by omega
    clear h hs HS
    go_enter Tryd.func50, Tryd.ntmps50
    go_wp2_with fail
    refine (HC.out _).mono ?_
    rintro e w1 ⟨rfl, rfl⟩
    go_wp2_with fail
    refine (HR.out _).mono ?_
    rintro e w1 ⟨rfl, hb⟩
    go_wp2
    go_ret
    exact ⟨rfl, hb⟩
  · have hs : (decB n).size = 2 := by unfold decB; rw [Lib.decDigits_two h hn]; rfl
    have HR := Lib.hid (fun w => Tryd.strings_Repeat ⟨#[48]⟩ 0 w (by omega) (by show 1 * 0 ≤ _; omega))
    rw [show (⟨#[48]⟩ : ByteArray).data.toList = [48] from rfl, repeatL_48] at HR
    change Hid (∀ w : World, Calls _ _ _ _ fun e w' => e = .returned (.string ⟨#[]⟩) ∧ _) at HR
    have he : (⟨#[]⟩ : ByteArray) ++ decB n = twoB n := by
      apply ba_eq
      rw [app7]
      unfold twoB decB
      rw [two_big n h hn]; simp
    have hsI : (2 : Int) - ((decB n).size : Int) = 0 := by omega
    generalize decB n = D at HC he hs hsI
    generalize twoB n = O at he ⊢
    have hsum : 0 + D.size ≤ 100 := by omega
    clear h hs
    go_enter Tryd.func50, Tryd.ntmps50
    go_wp2_with fail
    refine (HC.out _).mono ?_
    rintro e w1 ⟨rfl, rfl⟩
    go_wp2_with fail
    refine (HR.out _).mono ?_
    rintro e w1 ⟨rfl, hb⟩
    go_wp2
    go_ret
    exact ⟨rfl, hb⟩

theorem dec_four (n : Nat) (h0 : 1000 ≤ n) (h1 : n ≤ 9999) : (decB n).size = 4 := by
  have := Lib.decDigits_length n
  rw [Lib.nDigits_unique 3 n (by omega) (by omega)] at this
  unfold decB
  show (Lib.decDigits n).toArray.size = 4
  simpa using this

set_option maxRecDepth 100000 in
set_option maxHeartbeats 1600000 in
theorem fixed4_any (n : Nat) (w : World) (h0 : 1000 ≤ n) (h1 : n ≤ 9999) (hP : PTab w) :
    Calls Tryd.prog 50 #[.int .i64 (n : Int), .int .i64 4] w fun e w' => e = .returned (.string (decB n)) ∧ Below w.heap.size w w' := by
  have HC := Lib.hid (Tryd.strconv_FormatInt_10 (n : Int) (by omega) (by omega) w hP)
  rw [show (⟨(Lib.itoa (n : Int)).toArray⟩ : ByteArray) = decB n by unfold decB Lib.itoa; rw [if_neg (by omega)]; rfl] at HC
  have hs := dec_four n h0 h1
  have HR := Lib.hid (fun w => Tryd.strings_Repeat ⟨#[48]⟩ 0 w (by omega) (by show 1 * 0 ≤ _; omega))
  rw [show (⟨#[48]⟩ : ByteArray).data.toList = [48] from rfl, repeatL_48] at HR
  change Hid (∀ w : World, Calls _ _ _ _ fun e w' => e = .returned (.string ⟨#[]⟩) ∧ _) at HR
  have he : (⟨#[]⟩ : ByteArray) ++ decB n = decB n := by apply ba_eq; rw [app7]; rfl
  have hsI : (4 : Int) - ((decB n).size : Int) = 0 := by omega
  generalize decB n = D at HC he hs hsI ⊢
  have hsum : 0 + D.size ≤ 100 := by omega
  clear hs hP
  go_enter Tryd.func50, Tryd.ntmps50
  go_wp2_with fail
  refine HC.out.mono ?_
  rintro e w1 ⟨rfl, k, os, rfl⟩
  have hb0 := Lib.below_grow w.heap.size w (Nat.le_refl _) k os
  go_wp2_with fail
  refine (HR.out _).mono ?_
  rintro e w1 ⟨rfl, hb⟩
  have hb1 := hb0.trans (hb.mono hb0.size)
  go_wp2
  go_ret
  exact ⟨rfl, hb1⟩
end Go.Proofs.YtgimjfffdnopiaaDoor
