/- Parts of the proof. -/
import Derived.Lib.AppendIntMem
import Derived.Test.YtffkakpbelknaaaGreatDoorO9
import Derived.Test.YtffkakpbelknaaaGreatDoorO10
namespace Go.Proofs.YtffkakpbelknaaaGreatDoor
set_option maxHeartbeats 4000000
set_option maxRecDepth 100000
open Go.ChangeShapes Go.WideShapes Go.ChangeAt Go.RowKit Go.Shelf
set_option linter.unusedVariables false
def decB (n : Nat) : ByteArray := ⟨(Lib.decDigits n).toArray⟩
def twoL (n : Nat) : List UInt8 := [UInt8.ofNat (48 + n / 10), UInt8.ofNat (48 + n % 10)]
def twoB (n : Nat) : ByteArray := ⟨(twoL n).toArray⟩
def dtB (y m d : Nat) : ByteArray := decB y ++ ⟨#[45]⟩ ++ twoB m ++ ⟨#[45]⟩ ++ twoB d
def dateT (y m d : Int) : ByteArray := if dOk y m d = true then dtB y.toNat m.toNat d.toNat else ⟨#[]⟩
theorem two_small (n : Nat) (h : n < 10) : twoL n = 48 :: Lib.decDigits n := by
 unfold twoL
 rw [Lib.decDigits_one h, show n / 10 = 0 by omega, show n % 10 = n by omega]
 rfl
theorem two_big (n : Nat) (h : ¬ n < 10) (h2 : n < 100) : twoL n = Lib.decDigits n := by
 unfold twoL
 rw [Lib.decDigits_two h h2]
theorem twoB_size (n : Nat) : (twoB n).size = 2 := rfl
theorem app7 (a b : ByteArray) : (a ++ b).data.toList = a.data.toList ++ b.data.toList := by rw [ByteArray.data_append, Array.toList_append]
theorem dec_step (N : Nat) (q : Nat) (s : List UInt8) (hq : ¬ q < 10) (h : Lib.decDigits N = Lib.decDigits q ++ s) : Lib.decDigits N = Lib.decDigits (q / 10) ++ (UInt8.ofNat (48 + q % 10) :: s) := by
 rw [h, Lib.decDigits.eq_def q, dif_neg hq, List.append_assoc]; rfl
theorem conv_one7 (w : World) (b : UInt8) (x : Int) (hx : x = (b.toNat : Int)) : (convert 22 9 (.slice (some ⟨w.heap.size, 0, none⟩) 1 1)).run Tryz.prog (w.alloc (.cells #[.int .u8 x] 5)) = .ok (.string ⟨#[b]⟩) (w.alloc (.cells #[.int .u8 x] 5)) := by
 subst hx
 refine run_convert_bytes_back _ 22 9 5 ⟨w.heap.size, 0, none⟩ 1 [b] Tryz.underlying22 Tryz.underlying5 Tryz.underlying9 ?_
 intro j hj
 have : j = 0 := by simpa using hj
 subst this
 simp [go_sem]
theorem ofNat_toNat7 (n : Nat) (h : n < 256) : (UInt8.ofNat n).toNat = n := by simp; omega
theorem l1Dec_any (n : Nat) (w : World) (hn : n <= 1000000) :
  Calls Tryz.prog 104 #[.int .i64 (n : Int)] w fun e w' => e = .returned (.string (decB n)) /\ Below w.heap.size w w' := by
 have HE : Hid (decB n = ⟨(Lib.decDigits n).toArray⟩) := Lib.hid rfl
 generalize decB n = out at HE ⊢
 have HN : Hid (Lib.decDigits n = Lib.decDigits n ++ []) := Lib.hid (by simp)
 have h0 : ¬ ((n : Int) < 0) := by omega
 go_enter Tryz.func104, Tryz.ntmps104
 go_wp2
 go_loopw [0, 3] (fun q s wr => ∃ (k : Nat) (t : ByteArray), k <= n /\ q = .int .i64 (k : Int) /\ s = .string t /\ t.size + k <= n + 100 /\ t.size <= 2000000 /\ Hid (Lib.decDigits n = Lib.decDigits k ++ t.data.toList) /\ Below w.heap.size w wr) (fun q _ _ => (intOf q).toNat)
 case atStart => exact ⟨n, ⟨#[]⟩, Nat.le_refl _, rfl, rfl, by show 0 + n <= _; omega, by show 0 <= _; omega, HN, Below.refl _ _⟩
 case round =>
  obtain ⟨k, t, hk, rfl, rfl, hts, htm, HD, hB⟩ := hrel
  by_cases hlt : 10 <= k
  ·have HS := Lib.hid (dec_step n k t.data.toList (by omega) HD.out)
   have hbt := ofNat_toNat7 (48 + k % 10) (by omega)
   obtain ⟨b, hbe⟩ : ∃ b, b = UInt8.ofNat (48 + k % 10) := ⟨_, rfl⟩
   rw [<- hbe] at HS hbt
   obtain ⟨X, hX⟩ : ∃ X : ByteArray, (⟨#[b]⟩ : ByteArray) ++ t = X := ⟨_, rfl⟩
   have HX : Hid (X.data.toList = b :: t.data.toList /\ X.size = t.size + 1) := Lib.hid (by
    rw [<- hX, ByteArray.size_append]
    exact ⟨app7 _ _, by show 1 + t.size = _; omega⟩)
   have hcv := conv_one7 wr b (48 + (k : Int) % 10) (by rw [hbt]; omega)
   have hb1 := hB.alloc hB.size (.cells #[.int .u8 (48 + (k : Int) % 10)] 5)
   have hkI : (10 : Int) <= (k : Int) := by omega
   have hsum : 1 + t.size <= 3000000 := by omega
   clear hbe hbt hB
   go_wp2
   go_roundw
   case rel => exact ⟨k / 10, X, by omega, by simp, rfl, by have := HX.out.2; omega, by have := HX.out.2; omega, Lib.hid (by rw [HX.out.1]; exact HS.out), hb1⟩
   case measure => simp [intOf]; omega
  ·have hbt := ofNat_toNat7 (48 + k) (by omega)
   have HF : Hid (Lib.decDigits n = UInt8.ofNat (48 + k) :: t.data.toList) := Lib.hid (by rw [HD.out, Lib.decDigits_one (by omega)]; rfl)
   obtain ⟨b, hbe⟩ : ∃ b, b = UInt8.ofNat (48 + k) := ⟨_, rfl⟩
   rw [<- hbe] at HF hbt
   obtain ⟨X, hX⟩ : ∃ X : ByteArray, (⟨#[b]⟩ : ByteArray) ++ t = X := ⟨_, rfl⟩
   have HX : Hid (X = out) := Lib.hid (by
    apply ba_eq
    rw [HE.out, <- hX, app7]
    show b :: t.data.toList = _
    rw [<- HF.out])
   have hcv := conv_one7 wr b (48 + (k : Int)) (by rw [hbt]; omega)
   have hb1 := hB.alloc hB.size (.cells #[.int .u8 (48 + (k : Int))] 5)
   have hkI : ¬ (10 : Int) <= (k : Int) := by omega
   have hsum : 1 + t.size <= 3000000 := by omega
   clear hbe hbt hB
   go_wp2
   go_ret
   exact ⟨ret_str HX.out, hb1⟩
theorem l7Two_any (n : Nat) (w : World) (hn : n < 100) :
  Calls Tryz.prog 105 #[.int .i64 (n : Int)] w fun e w' => e = .returned (.string (twoB n)) /\ Below w.heap.size w w' := by
 have HC := Lib.hid (fun w => l1Dec_any n w (by omega))
 by_cases h : n < 10
 ·have HE : Hid ((⟨#[48]⟩ : ByteArray) ++ decB n = twoB n) := Lib.hid (by
   apply ba_eq
   rw [app7]
   unfold twoB decB
   rw [two_small n h]; simp)
  have hs : (decB n).size <= 10 := by unfold decB; rw [Lib.decDigits_one h]; show 1 <= 10; omega
  generalize decB n = D at HC HE hs
  have hI : (n : Int) < 10 := by omega
  have he := HE.out
  generalize twoB n = O at he ⊢
  clear HE h
  go_enter Tryz.func105, Tryz.ntmps105
  go_wp2_with fail
  refine (HC.out _).mono ?_
  rintro e w1 ⟨rfl, hb⟩
  have hsum : 1 + D.size <= 100 := by omega
  go_wp2
  go_ret
  exact ⟨rfl, hb⟩
 ·have HE : Hid (decB n = twoB n) := Lib.hid (by unfold decB twoB; rw [two_big n h hn])
  have hI : ¬ (n : Int) < 10 := by omega
  rw [HE.out] at HC
  clear h
  go_enter Tryz.func105, Tryz.ntmps105
  go_wp2_with fail
  refine (HC.out _).mono ?_
  rintro e w1 ⟨rfl, hb⟩
  go_wp2
  go_ret
  exact ⟨rfl, hb⟩
def PTab (w : World) : Prop := Lib.TabIs Tryz.prog w "internal/strconv.uint64pow10" .u64 Lib.pow10Tab
theorem gPw : Tryz.prog.globalNamed "internal/strconv.uint64pow10" = some 7 := by kernel_rfl
theorem PTab.below {w w' : World} {B : Nat} (h : PTab w) (hb : Below B w w') (hB : w.heap.size <= B) : PTab w' := by
 unfold PTab Lib.TabIs World.var? at h ⊢
 rw [gPw] at h ⊢
 simp only [Option.bind_some] at h ⊢
 cases hg : w.heap[7]? with
 | none => rw [hg] at h; simp at h
 | some o =>
  have hlt := (Array.getElem?_eq_some_iff.1 hg).1
  rw [hb.block _ (by omega)]
  exact h
theorem repeatL_48 : ∀ n, Lib.repeatL [48] n = List.replicate n 48
 | 0 => rfl
 | n + 1 => by rw [Lib.repeatL, repeatL_48 n]; rfl
theorem fixed2_any (n : Nat) (w : World) (hn : n < 100) :
  Calls Tryz.prog 138 #[.int .i64 (n : Int), .int .i64 2] w fun e w' => e = .returned (.string (twoB n)) /\ Below w.heap.size w w' := by
 have HC := Lib.hid (fun w => Tryz.strconv_FormatInt_10_small n hn w)
 change Hid (∀ w : World, Calls _ _ _ _ fun e w' => e = .returned (.string (decB n)) /\ _) at HC
 by_cases h : n < 10
 ·have hs : (decB n).size = 1 := by unfold decB; rw [Lib.decDigits_one h]; rfl
  have HR := Lib.hid (fun w => Tryz.strings_Repeat ⟨#[48]⟩ 1 w (by omega) (by show 1 * 1 <= _; omega))
  rw [show (⟨#[48]⟩ : ByteArray).data.toList = [48] from rfl, repeatL_48] at HR
  change Hid (∀ w : World, Calls _ _ _ _ fun e w' => e = .returned (.string ⟨#[48]⟩) /\ _) at HR
  have he : (⟨#[48]⟩ : ByteArray) ++ decB n = twoB n := by
   apply ba_eq
   rw [app7]
   unfold twoB decB
   rw [two_small n h]; simp
  have HS := Lib.hid hs
  have hsI : (2 : Int) - ((decB n).size : Int) = 1 := by omega
  generalize decB n = D at HC he hs hsI
  generalize twoB n = O at he ⊢
  have hsum : 1 + D.size <= 100 := by omega
  clear h hs HS
  go_enter Tryz.func138, Tryz.ntmps138
  go_wp2_with fail
  refine (HC.out _).mono ?_
  rintro e w1 ⟨rfl, rfl⟩
  go_wp2_with fail
  refine (HR.out _).mono ?_
  rintro e w1 ⟨rfl, hb⟩
  go_wp2
  go_ret
  exact ⟨rfl, hb⟩
 ·have hs : (decB n).size = 2 := by unfold decB; rw [Lib.decDigits_two h hn]; rfl
  have HR := Lib.hid (fun w => Tryz.strings_Repeat ⟨#[48]⟩ 0 w (by omega) (by show 1 * 0 <= _; omega))
  rw [show (⟨#[48]⟩ : ByteArray).data.toList = [48] from rfl, repeatL_48] at HR
  change Hid (∀ w : World, Calls _ _ _ _ fun e w' => e = .returned (.string ⟨#[]⟩) /\ _) at HR
  have he : (⟨#[]⟩ : ByteArray) ++ decB n = twoB n := by
   apply ba_eq
   rw [app7]
   unfold twoB decB
   rw [two_big n h hn]; simp
  have hsI : (2 : Int) - ((decB n).size : Int) = 0 := by omega
  generalize decB n = D at HC he hs hsI
  generalize twoB n = O at he ⊢
  have hsum : 0 + D.size <= 100 := by omega
  clear h hs
  go_enter Tryz.func138, Tryz.ntmps138
  go_wp2_with fail
  refine (HC.out _).mono ?_
  rintro e w1 ⟨rfl, rfl⟩
  go_wp2_with fail
  refine (HR.out _).mono ?_
  rintro e w1 ⟨rfl, hb⟩
  go_wp2
  go_ret
  exact ⟨rfl, hb⟩
theorem dec_four (n : Nat) (h0 : 1000 <= n) (h1 : n <= 9999) : (decB n).size = 4 := by
 have := Lib.decDigits_length n
 rw [Lib.nDigits_unique 3 n (by omega) (by omega)] at this
 unfold decB
 show (Lib.decDigits n).toArray.size = 4
 simpa using this
theorem fixed4_any (n : Nat) (w : World) (h0 : 1000 <= n) (h1 : n <= 9999) (hP : PTab w) :
  Calls Tryz.prog 138 #[.int .i64 (n : Int), .int .i64 4] w fun e w' => e = .returned (.string (decB n)) /\ Below w.heap.size w w' := by
 have HC := Lib.hid (Tryz.strconv_FormatInt_10 (n : Int) (by omega) (by omega) w hP)
 rw [show (⟨(Lib.itoa (n : Int)).toArray⟩ : ByteArray) = decB n by unfold decB Lib.itoa; rw [if_neg (by omega)]; rfl] at HC
 have hs := dec_four n h0 h1
 have HR := Lib.hid (fun w => Tryz.strings_Repeat ⟨#[48]⟩ 0 w (by omega) (by show 1 * 0 <= _; omega))
 rw [show (⟨#[48]⟩ : ByteArray).data.toList = [48] from rfl, repeatL_48] at HR
 change Hid (∀ w : World, Calls _ _ _ _ fun e w' => e = .returned (.string ⟨#[]⟩) /\ _) at HR
 have he : (⟨#[]⟩ : ByteArray) ++ decB n = decB n := by apply ba_eq; rw [app7]; rfl
 have hsI : (4 : Int) - ((decB n).size : Int) = 0 := by omega
 generalize decB n = D at HC he hs hsI ⊢
 have hsum : 0 + D.size <= 100 := by omega
 clear hs hP
 go_enter Tryz.func138, Tryz.ntmps138
 go_wp2_with fail
 refine HC.out.mono ?_
 rintro e w1 ⟨rfl, k, os, rfl⟩
 have hb0 := Lib.below_grow w.heap.size w (Nat.le_refl _) k os
 go_wp2_with fail
 refine (HR.out _).mono ?_
 rintro e w1 ⟨rfl, hb⟩
 have hb1 := hb0.trans (hb.mono hb0.size)
 go_wp2
 go_ret
 exact ⟨rfl, hb1⟩
end Go.Proofs.YtffkakpbelknaaaGreatDoor
namespace Go.Proofs.YtffkakpbelknaaaGreatDoor
open Go.ChangeShapes Go.WideShapes Go.ChangeAt Go.RowKit
set_option linter.unusedVariables false
theorem l7Text_any (y m d : Nat) (w : World) (hy0 : 1000 <= y) (hy1 : y <= 9999) (hm : m < 100) (hd : d < 100) :
  Calls Tryz.prog 61 #[dV (y : Int) (m : Int) (d : Int)] w fun e w' => e = .returned (.string (dtB y m d)) /\ Below w.heap.size w w' := by
 have C1 := Lib.hid (fun w => l1Dec_any y w (by omega))
 have C2 := Lib.hid (fun w => l7Two_any m w hm)
 have C3 := Lib.hid (fun w => l7Two_any d w hd)
 have HE : Hid (dtB y m d = decB y ++ ⟨#[45]⟩ ++ twoB m ++ ⟨#[45]⟩ ++ twoB d) := Lib.hid rfl
 have hs1 := dec_four y (by omega) (by omega)
 have hs2 := twoB_size m
 have hs3 := twoB_size d
 generalize decB y = D1 at C1 HE hs1
 generalize twoB m = D2 at C2 HE hs2
 generalize twoB d = D3 at C3 HE hs3
 obtain ⟨X1, hX1⟩ : ∃ X : ByteArray, D1 ++ ⟨#[45]⟩ = X := ⟨_, rfl⟩
 have hz1 : X1.size = 5 := by rw [<- hX1, ByteArray.size_append, hs1]; rfl
 rw [hX1] at HE
 obtain ⟨X2, hX2⟩ : ∃ X : ByteArray, X1 ++ D2 = X := ⟨_, rfl⟩
 have hz2 : X2.size = 7 := by rw [<- hX2, ByteArray.size_append, hs2, hz1]
 rw [hX2] at HE
 obtain ⟨X3, hX3⟩ : ∃ X : ByteArray, X2 ++ ⟨#[45]⟩ = X := ⟨_, rfl⟩
 have hz3 : X3.size = 8 := by rw [<- hX3, ByteArray.size_append, hz2]; rfl
 rw [hX3] at HE
 have hO := HE.out.symm
 generalize dtB y m d = O at hO ⊢
 have k1 : D1.size <= 100 := by omega
 have k2 : X1.size <= 100 := by omega
 have k3 : X2.size <= 100 := by omega
 have k4 : X3.size <= 100 := by omega
 have k5 : D2.size <= 100 := by omega
 have k6 : D3.size <= 100 := by omega
 clear HE hz3 hz2 hz1 hs1 hs2 hs3
 have hA := DAt.new w (y : Int) (m : Int) (d : Int)
 have hB0 : Below w.heap.size w (w.alloc (dC (y : Int) (m : Int) (d : Int))) := (Below.refl _ _).alloc (Nat.le_refl _) _
 go_enter Tryz.func61, Tryz.ntmps61
 go_wp2
 generalize w.alloc (dC (y : Int) (m : Int) (d : Int)) = W at hA hB0 ⊢
 clear hy0 hy1 hm hd
 have hA1 : DAt W.drew w.heap.size (y : Int) (m : Int) (d : Int) := hA
 have hB1 := hB0.drew
 clear hA hB0
 refine wp_region_T (fun w' => DAt w' w.heap.size (y : Int) (m : Int) (d : Int)) (fun _ => True) 13 (by kernel_rfl) 14 rfl ?_
 refine wA 8 [0, 1, 4, 5, 9, 10] ⟨hA1, fun _ => trivial⟩ ?_
 simp only [pick, List.filterMap_cons, List.filterMap_nil, List.getElem?_cons_zero, List.getElem?_cons_succ]
 iterate 1 (refine wpIf_step ?_ (by kernel_rfl) ?_ ?_; rotate_left; (intro w _; go_simp); try with_reducible rfl)
 refine wS (.int .i64 (y : Int)) (fun w hw => by have h0 := hw.c0; go_simp) ?_
 iterate 1 (refine wpIf_step ?_ (by kernel_rfl) ?_ ?_; rotate_left; (intro w _; go_simp); try with_reducible rfl)
 refine wS (.int .i64 (m : Int)) (fun w hw => by have h0 := hw.c1; go_simp) ?_
 iterate 1 (refine wpIf_step ?_ (by kernel_rfl) ?_ ?_; rotate_left; (intro w _; go_simp); try with_reducible rfl)
 refine wS (.int .i64 (d : Int)) (fun w hw => by have h0 := hw.c2; go_simp) ?_
 refine wpIf_nil (fun hS => ?_)
 refine wO 2 7 (fun K hK => ?_)
 go_simp
 refine (C1.out _).mono ?_
 rintro e v1 ⟨rfl, hb1⟩
 have hA2 := hA1.keep hb1 (Nat.le_refl _)
 have hB2 := hB1.trans (hb1.mono hB1.size)
 refine hK _ _ ⟨hA2, fun _ => trivial⟩ (fun hS3 => ?_)
 clear hK K hS hb1 hA1 hB1
 refine wA 6 [3] hS3 ?_
 simp only [pick, List.filterMap_cons, List.filterMap_nil, List.getElem?_cons_zero, List.getElem?_cons_succ]
 refine wS (.string X1) (fun w hw => by go_simp; try omega) ?_
 refine wpIf_nil (fun hS => ?_)
 clear hS3
 refine wO 6 5 (fun K hK => ?_)
 go_simp
 refine (C2.out _).mono ?_
 rintro e v2 ⟨rfl, hb2⟩
 have hA3 := hA2.keep hb2 (Nat.le_refl _)
 have hB3 := hB2.trans (hb2.mono hB2.size)
 refine hK _ _ ⟨hA3, fun _ => trivial⟩ (fun hS3 => ?_)
 clear hK K hS hb2 hA2 hB2
 refine wA 3 [7, 8] hS3 ?_
 simp only [pick, List.filterMap_cons, List.filterMap_nil, List.getElem?_cons_zero, List.getElem?_cons_succ]
 refine wS (.string X2) (fun w hw => by go_simp; try omega) ?_
 refine wS (.string X3) (fun w hw => by go_simp; try omega) ?_
 refine wpIf_nil (fun hS => ?_)
 clear hS3
 refine wO 11 2 (fun K hK => ?_)
 go_simp
 refine (C3.out _).mono ?_
 rintro e v3 ⟨rfl, hb3⟩
 have hA4 := hA3.keep hb3 (Nat.le_refl _)
 have hB4 := hB3.trans (hb3.mono hB3.size)
 refine hK _ _ ⟨hA4, fun _ => trivial⟩ (fun hS3 => ?_)
 clear hK K hS hb3 hA3 hB3
 refine wA 1 [12] hS3 ?_
 simp only [pick, List.filterMap_cons, List.filterMap_nil, List.getElem?_cons_zero, List.getElem?_cons_succ]
 refine wS (.string O) (fun w hw => by go_simp; try omega) ?_
 refine wpIf_nil (fun hS => ?_)
 clear hS3
 refine wO 13 0 (fun K hK => ?_)
 go_simp
 refine hK _ _ ⟨hA4, fun _ => trivial⟩ (fun hS4 => ?_)
 clear hK K
 refine wpAnyT_over (by kernel_rfl) ?_
 go_wp2
 go_ret
 exact ⟨rfl, hB4⟩
theorem specDateText_any (y m d : Int) (w : World) :
  Calls Tryz.prog 96 #[dV y m d] w fun e w' => e = .returned (.string (dateT y m d)) /\ Below w.heap.size w w' := by
 have HI := Lib.hid (fun w => specDateOk_any y m d w)
 have hB0 : Below w.heap.size w (w.alloc (dC y m d)) := (Below.refl _ _).alloc (Nat.le_refl _) _
 have HA0 := Lib.hid (DAt.new w y m d)
 cases hc : dOk y m d with
 | true =>
  rw [hc] at HI
  obtain ⟨c1, c2, c3, c4, c5, c6, c7⟩ := (dOk_iff y m d).1 hc
  have hd31 := dIM_bd y m
  obtain ⟨y, rfl⟩ := Int.eq_ofNat_of_zero_le (show 0 <= y by omega)
  obtain ⟨m, rfl⟩ := Int.eq_ofNat_of_zero_le (show 0 <= m by omega)
  obtain ⟨d, rfl⟩ := Int.eq_ofNat_of_zero_le (show 0 <= d by omega)
  have HN := Lib.hid (fun w => l7Text_any y m d w (by omega) (by omega) (by omega) (by omega))
  have HE : Hid (dateT (y : Int) (m : Int) (d : Int) = dtB y m d) := Lib.hid (by unfold dateT; rw [if_pos hc]; rfl)
  rw [HE.out]
  generalize dtB y m d = N at HN ⊢
  clear hc c1 c2 c3 c4 c5 c6 hd31 c7 HE
  go_enter Tryz.func96, Tryz.ntmps96
  go_wp2_with fail
  refine (HI.out _).mono ?_
  rintro e w1 ⟨rfl, hb1⟩
  have hA1 := HA0.out.keep hb1 (Nat.le_refl _)
  have k0 := hA1.c0
  have k1 := hA1.c1
  have k2 := hA1.c2
  have hB1 := hB0.trans (hb1.mono hB0.size)
  clear hb1 HI hA1
  go_wp2_with fail
  refine (HN.out _).mono ?_
  rintro e w2 ⟨rfl, hb2⟩
  have hB2 := hB1.trans (hb2.mono hB1.size)
  clear hb2
  go_wp2
  go_ret
  exact ⟨rfl, hB2⟩
 | false =>
  rw [hc] at HI
  have HE : Hid (dateT y m d = ⟨#[]⟩) := Lib.hid (by unfold dateT; rw [hc]; rfl)
  rw [HE.out]
  clear hc HE
  go_enter Tryz.func96, Tryz.ntmps96
  go_wp2_with fail
  refine (HI.out _).mono ?_
  rintro e w1 ⟨rfl, hb1⟩
  have hB1 := hB0.trans (hb1.mono hB0.size)
  go_wp2
  go_ret
  exact ⟨rfl, hB1⟩
theorem implDateText_any (y m d : Int) (w : World) (hM : MTab w) (hP : PTab w) :
  Calls Tryz.prog 109 #[dV y m d] w fun e w' => e = .returned (.string (dateT y m d)) /\ Below w.heap.size w w' := by
 have HM := Lib.hid (hM.alloc (dC y m d))
 have HP := Lib.hid hP
 have HI := Lib.hid (implDateOk_any y m d _ HM.out)
 have hB0 : Below w.heap.size w (w.alloc (dC y m d)) := (Below.refl _ _).alloc (Nat.le_refl _) _
 have HA0 := Lib.hid (DAt.new w y m d)
 cases hc : dOk y m d with
 | true =>
  rw [hc] at HI
  obtain ⟨c1, c2, c3, c4, c5, c6, c7⟩ := (dOk_iff y m d).1 hc
  have hd31 := dIM_bd y m
  obtain ⟨y, rfl⟩ := Int.eq_ofNat_of_zero_le (show 0 <= y by omega)
  obtain ⟨m, rfl⟩ := Int.eq_ofNat_of_zero_le (show 0 <= m by omega)
  obtain ⟨d, rfl⟩ := Int.eq_ofNat_of_zero_le (show 0 <= d by omega)
  have HEE : Hid (dateT (y : Int) (m : Int) (d : Int) = dtB y m d) := Lib.hid (by unfold dateT; rw [if_pos hc]; rfl)
  rw [HEE.out]
  have C1 := Lib.hid (fun w hP => fixed4_any y w (by omega) (by omega) hP)
  have C2 := Lib.hid (fun w => fixed2_any m w (by omega))
  have C3 := Lib.hid (fun w => fixed2_any d w (by omega))
  have HE : Hid (dtB y m d = decB y ++ ⟨#[45]⟩ ++ twoB m ++ ⟨#[45]⟩ ++ twoB d) := Lib.hid rfl
  have hs1 := dec_four y (by omega) (by omega)
  have hs2 := twoB_size m
  have hs3 := twoB_size d
  generalize decB y = D1 at C1 HE hs1
  generalize twoB m = D2 at C2 HE hs2
  generalize twoB d = D3 at C3 HE hs3
  obtain ⟨X1, hX1⟩ : ∃ X : ByteArray, D1 ++ ⟨#[45]⟩ = X := ⟨_, rfl⟩
  have hz1 : X1.size = 5 := by rw [<- hX1, ByteArray.size_append, hs1]; rfl
  rw [hX1] at HE
  obtain ⟨X2, hX2⟩ : ∃ X : ByteArray, X1 ++ D2 = X := ⟨_, rfl⟩
  have hz2 : X2.size = 7 := by rw [<- hX2, ByteArray.size_append, hs2, hz1]
  rw [hX2] at HE
  obtain ⟨X3, hX3⟩ : ∃ X : ByteArray, X2 ++ ⟨#[45]⟩ = X := ⟨_, rfl⟩
  have hz3 : X3.size = 8 := by rw [<- hX3, ByteArray.size_append, hz2]; rfl
  rw [hX3] at HE
  have hO := HE.out.symm
  generalize dtB y m d = O at hO ⊢
  have k1 : D1.size <= 100 := by omega
  have k2 : X1.size <= 100 := by omega
  have k3 : X2.size <= 100 := by omega
  have k4 : X3.size <= 100 := by omega
  have k5 : D2.size <= 100 := by omega
  have k6 : D3.size <= 100 := by omega
  clear HE hz3 hz2 hz1 hs1 hs2 hs3
  clear hc c1 c2 c3 c4 c5 c6 hd31 c7 HEE hM hP
  go_enter Tryz.func109, Tryz.ntmps109
  go_wp2_with fail
  refine HI.out.mono ?_
  rintro e w1 ⟨rfl, hb1⟩
  have hA := HA0.out.keep hb1 (Nat.le_refl _)
  have hB00 := hB0.trans (hb1.mono hB0.size)
  have HPP := Lib.hid (HP.out.below hB00.drew (Nat.le_refl _))
  clear hb1 HI hB0
  go_wp2
  generalize w1 = W at hA hB00 HPP ⊢
  have hB0 := hB00
  clear hB00
  have hA1 : DAt W.drew w.heap.size (y : Int) (m : Int) (d : Int) := hA
  have hB1 := hB0.drew
  clear hA hB0
  refine wp_region_T (fun w' => DAt w' w.heap.size (y : Int) (m : Int) (d : Int)) (fun _ => True) 13 (by kernel_rfl) 14 rfl ?_
  refine wA 8 [0, 1, 4, 5, 9, 10] ⟨hA1, fun _ => trivial⟩ ?_
  simp only [pick, List.filterMap_cons, List.filterMap_nil, List.getElem?_cons_zero, List.getElem?_cons_succ]
  iterate 1 (refine wpIf_step ?_ (by kernel_rfl) ?_ ?_; rotate_left; (intro w _; go_simp); try with_reducible rfl)
  refine wS (.int .i64 (y : Int)) (fun w hw => by have h0 := hw.c0; go_simp) ?_
  iterate 1 (refine wpIf_step ?_ (by kernel_rfl) ?_ ?_; rotate_left; (intro w _; go_simp); try with_reducible rfl)
  refine wS (.int .i64 (m : Int)) (fun w hw => by have h0 := hw.c1; go_simp) ?_
  iterate 1 (refine wpIf_step ?_ (by kernel_rfl) ?_ ?_; rotate_left; (intro w _; go_simp); try with_reducible rfl)
  refine wS (.int .i64 (d : Int)) (fun w hw => by have h0 := hw.c2; go_simp) ?_
  refine wpIf_nil (fun hS => ?_)
  refine wO 2 7 (fun K hK => ?_)
  go_simp
  refine (C1.out _ HPP.out).mono ?_
  rintro e v1 ⟨rfl, hb1⟩
  have hA2 := hA1.keep hb1 (Nat.le_refl _)
  have hB2 := hB1.trans (hb1.mono hB1.size)
  refine hK _ _ ⟨hA2, fun _ => trivial⟩ (fun hS3 => ?_)
  clear hK K hS hb1 hA1 hB1
  refine wA 6 [3] hS3 ?_
  simp only [pick, List.filterMap_cons, List.filterMap_nil, List.getElem?_cons_zero, List.getElem?_cons_succ]
  refine wS (.string X1) (fun w hw => by go_simp; try omega) ?_
  refine wpIf_nil (fun hS => ?_)
  clear hS3
  refine wO 6 5 (fun K hK => ?_)
  go_simp
  refine (C2.out _).mono ?_
  rintro e v2 ⟨rfl, hb2⟩
  have hA3 := hA2.keep hb2 (Nat.le_refl _)
  have hB3 := hB2.trans (hb2.mono hB2.size)
  refine hK _ _ ⟨hA3, fun _ => trivial⟩ (fun hS3 => ?_)
  clear hK K hS hb2 hA2 hB2
  refine wA 3 [7, 8] hS3 ?_
  simp only [pick, List.filterMap_cons, List.filterMap_nil, List.getElem?_cons_zero, List.getElem?_cons_succ]
  refine wS (.string X2) (fun w hw => by go_simp; try omega) ?_
  refine wS (.string X3) (fun w hw => by go_simp; try omega) ?_
  refine wpIf_nil (fun hS => ?_)
  clear hS3
  refine wO 11 2 (fun K hK => ?_)
  go_simp
  refine (C3.out _).mono ?_
  rintro e v3 ⟨rfl, hb3⟩
  have hA4 := hA3.keep hb3 (Nat.le_refl _)
  have hB4 := hB3.trans (hb3.mono hB3.size)
  refine hK _ _ ⟨hA4, fun _ => trivial⟩ (fun hS3 => ?_)
  clear hK K hS hb3 hA3 hB3
  refine wA 1 [12] hS3 ?_
  simp only [pick, List.filterMap_cons, List.filterMap_nil, List.getElem?_cons_zero, List.getElem?_cons_succ]
  refine wS (.string O) (fun w hw => by go_simp; try omega) ?_
  refine wpIf_nil (fun hS => ?_)
  clear hS3
  refine wO 13 0 (fun K hK => ?_)
  go_simp
  refine hK _ _ ⟨hA4, fun _ => trivial⟩ (fun hS4 => ?_)
  clear hK K
  refine wpAnyT_over (by kernel_rfl) ?_
  go_wp2
  go_ret
  exact ⟨rfl, hB4⟩
 | false =>
  rw [hc] at HI
  have HE : Hid (dateT y m d = ⟨#[]⟩) := Lib.hid (by unfold dateT; rw [hc]; rfl)
  rw [HE.out]
  clear hc HE hM hP
  go_enter Tryz.func109, Tryz.ntmps109
  go_wp2_with fail
  refine HI.out.mono ?_
  rintro e w1 ⟨rfl, hb1⟩
  have hB1 := hB0.trans (hb1.mono hB0.size)
  go_wp2
  go_ret
  exact ⟨rfl, hB1⟩
end Go.Proofs.YtffkakpbelknaaaGreatDoor
namespace Go.Proofs.YtffkakpbelknaaaGreatDoor
open Go.ChangeShapes Go.WideShapes Go.ChangeAt Go.RowKit
set_option linter.unusedVariables false
def isDg (b : UInt8) : Bool := decide (48 <= b.toNat) && decide (b.toNat <= 57)
def valL (l : List UInt8) : Nat := l.foldl (fun n b => 10 * n + (b.toNat - 48)) 0
theorem valL_snoc (l : List UInt8) (b : UInt8) : valL (l ++ [b]) = 10 * valL l + (b.toNat - 48) := by unfold valL; rw [List.foldl_append]; rfl
def dgI (s : ByteArray) : Int := if s.data.toList.all isDg = true then (valL s.data.toList : Int) else -1
theorem all_take_succ (l : List UInt8) (k : Nat) (h : k < l.length) (ha : (l.take k).all isDg = true) (hb : isDg l[k] = true) : (l.take (k + 1)).all isDg = true := by
 rw [List.take_succ_eq_append_getElem h, List.all_append, ha]; simp [hb]
theorem val_lt7 (l : List UInt8) : ∀ k, k <= l.length -> (l.take k).all isDg = true -> valL (l.take k) < 10 ^ k
 | 0, _, _ => by simp [valL]
 | k + 1, h, ha => by
  have hk : k < l.length := by omega
  rw [List.take_succ_eq_append_getElem hk] at ha ⊢
  rw [List.all_append, Bool.and_eq_true] at ha
  have := val_lt7 l k (by omega) ha.1
  have hb : isDg l[k] = true := by simpa using ha.2
  unfold isDg at hb
  simp at hb
  rw [valL_snoc, Nat.pow_succ]
  omega
theorem not_all (l : List UInt8) (k : Nat) (h : k < l.length) (hb : isDg l[k] = false) : l.all isDg = false := by
 rw [List.all_eq_false]
 exact ⟨l[k], List.getElem_mem h, by simp [hb]⟩
theorem digitsNumber_any (s : ByteArray) (w : World) (hs : s.size <= 10) :
  Calls Tryz.prog 124 #[.string s] w fun e w' => e = .returned (.int .i64 (dgI s)) /\ w = w' := by
 have hl : s.data.toList.length = s.size := by simp
 have HG : Hid (∀ k (h : k < s.size) (h' : k < s.data.toList.length), s[k] = s.data.toList[k]) := Lib.hid (fun k h h' => by simp; rfl)
 have HE : Hid (dgI s = if s.data.toList.all isDg = true then (valL s.data.toList : Int) else -1) := Lib.hid rfl
 have HV := Lib.hid (val_lt7 s.data.toList)
 have HA := Lib.hid (all_take_succ s.data.toList)
 have HN := Lib.hid (not_all s.data.toList)
 have HL := Lib.hid hl
 have HSN : Hid (∀ k (h : k < s.data.toList.length), valL (s.data.toList.take (k + 1)) = 10 * valL (s.data.toList.take k) + ((s.data.toList[k]).toNat - 48)) := Lib.hid (fun k h => by rw [List.take_succ_eq_append_getElem h, valL_snoc])
 generalize dgI s = out at HE ⊢
 clear hl
 go_enter Tryz.func124, Tryz.ntmps124
 go_wp2
 go_loop [3, 7] (fun a b => ∃ k v : Nat, k <= s.size /\ b = .int .i64 (k : Int) /\ a = .int .i64 (v : Int) /\ v < 10000000000 /\ Hid (v = valL (s.data.toList.take k)) /\ Hid ((s.data.toList.take k).all isDg = true)) (fun _ b => s.size - (intOf b).toNat)
 case atStart => exact ⟨0, 0, Nat.zero_le _, rfl, rfl, by omega, Lib.hid rfl, Lib.hid rfl⟩
 case round =>
  obtain ⟨k, v, hk, rfl, rfl, hv, HV1, HA1⟩ := hrel
  by_cases hlt : k < s.size
  ·have hkl : k < s.data.toList.length := by rw [HL.out]; exact hlt
   have hgk := HG.out k hlt hkl
   have hbyte := (s[k]).toNat_lt
   have HSK := Lib.hid (HSN.out k hkl)
   rw [<- hgk] at HSK
   by_cases hd : isDg s[k] = true
   ·have HA2 := Lib.hid (HA.out k hkl HA1.out (by rw [<- hgk]; exact hd))
    have hlt2 := HV.out (k + 1) (by omega) HA2.out
    have hp : 10 ^ (k + 1) <= 10 ^ 10 := Nat.pow_le_pow_right (by omega) (by omega)
    unfold isDg at hd
    simp at hd
    obtain ⟨hd1, hd2⟩ := hd
    have HV2 : Hid (10 * v + ((s[k]).toNat - 48) = valL (s.data.toList.take (k + 1)) /\ 10 * v + ((s[k]).toNat - 48) < 10000000000) := Lib.hid (by
     rw [HSK.out, <- HV1.out]
     rw [HSK.out, <- HV1.out] at hlt2
     refine ⟨rfl, ?_⟩
     have : (10 : Nat) ^ 10 = 10000000000 := by decide
     omega)
    have z1 : ¬ (((s[k]).toNat : Int) < 48) := by omega
    have z2 : ¬ (57 < ((s[k]).toNat : Int)) := by omega
    clear hgk hp hlt2
    go_wp2
    refine ⟨⟨k + 1, 10 * v + ((s[k]).toNat - 48), by omega, by simp, by congr 1; omega, HV2.out.2, Lib.hid HV2.out.1, HA2⟩, ?_⟩
    simp [intOf]; omega
   ·have hd' : isDg s[k] = false := by simpa using hd
    have HO : Hid ((-1 : Int) = out) := Lib.hid (by rw [HE.out, HN.out k hkl (by rw [<- hgk]; exact hd')]; rfl)
    by_cases z1 : ((s[k]).toNat : Int) < 48
    ·clear hgk hd hd'
     go_wp2
     go_ret
     exact ⟨ret_int HO.out, rfl⟩
    ·have z2 : 57 < ((s[k]).toNat : Int) := by
      unfold isDg at hd'
      simp at hd'
      omega
     clear hgk hd hd'
     go_wp2
     go_ret
     exact ⟨ret_int HO.out, rfl⟩
  ·have hke : k = s.size := by omega
   have HO : Hid ((v : Int) = out) := Lib.hid (by
    have ha := HA1.out
    rw [HE.out, HV1.out]
    rw [List.take_of_length_le (by rw [HL.out]; omega)] at ha ⊢
    rw [if_pos ha])
   clear hke
   go_wp2
   go_ret
   exact ⟨ret_int HO.out, rfl⟩
theorem l7Digits_any (s : ByteArray) (w : World) (hs : s.size <= 10) :
  Calls Tryz.prog 95 #[.string s] w fun e w' => e = .returned (.int .i64 (dgI s)) /\ w = w' := by
 have hl : s.data.toList.length = s.size := by simp
 have HG : Hid (∀ k (h : k < s.size) (h' : k < s.data.toList.length), s[k] = s.data.toList[k]) := Lib.hid (fun k h h' => by simp; rfl)
 have HE : Hid (dgI s = if s.data.toList.all isDg = true then (valL s.data.toList : Int) else -1) := Lib.hid rfl
 have HV := Lib.hid (val_lt7 s.data.toList)
 have HA := Lib.hid (all_take_succ s.data.toList)
 have HN := Lib.hid (not_all s.data.toList)
 have HL := Lib.hid hl
 have HSN : Hid (∀ k (h : k < s.data.toList.length), valL (s.data.toList.take (k + 1)) = 10 * valL (s.data.toList.take k) + ((s.data.toList[k]).toNat - 48)) := Lib.hid (fun k h => by rw [List.take_succ_eq_append_getElem h, valL_snoc])
 generalize dgI s = out at HE ⊢
 clear hl
 go_enter Tryz.func95, Tryz.ntmps95
 go_wp2
 go_loop [3, 4] (fun a b => ∃ k v : Nat, k <= s.size /\ b = .int .i64 (k : Int) /\ a = .int .i64 (v : Int) /\ v < 10000000000 /\ Hid (v = valL (s.data.toList.take k)) /\ Hid ((s.data.toList.take k).all isDg = true)) (fun _ b => s.size - (intOf b).toNat)
 case atStart => exact ⟨0, 0, Nat.zero_le _, rfl, rfl, by omega, Lib.hid rfl, Lib.hid rfl⟩
 case round =>
  obtain ⟨k, v, hk, rfl, rfl, hv, HV1, HA1⟩ := hrel
  by_cases hlt : k < s.size
  ·have hkl : k < s.data.toList.length := by rw [HL.out]; exact hlt
   have hgk := HG.out k hlt hkl
   have hbyte := (s[k]).toNat_lt
   have HSK := Lib.hid (HSN.out k hkl)
   rw [<- hgk] at HSK
   by_cases hd : isDg s[k] = true
   ·have HA2 := Lib.hid (HA.out k hkl HA1.out (by rw [<- hgk]; exact hd))
    have hlt2 := HV.out (k + 1) (by omega) HA2.out
    have hp : 10 ^ (k + 1) <= 10 ^ 10 := Nat.pow_le_pow_right (by omega) (by omega)
    unfold isDg at hd
    simp at hd
    obtain ⟨hd1, hd2⟩ := hd
    have HV2 : Hid (10 * v + ((s[k]).toNat - 48) = valL (s.data.toList.take (k + 1)) /\ 10 * v + ((s[k]).toNat - 48) < 10000000000) := Lib.hid (by
     rw [HSK.out, <- HV1.out]
     rw [HSK.out, <- HV1.out] at hlt2
     refine ⟨rfl, ?_⟩
     have : (10 : Nat) ^ 10 = 10000000000 := by decide
     omega)
    have z1 : ¬ (((s[k]).toNat : Int) < 48) := by omega
    have z2 : ¬ (57 < ((s[k]).toNat : Int)) := by omega
    clear hgk hp hlt2
    go_wp2
    refine ⟨⟨k + 1, 10 * v + ((s[k]).toNat - 48), by omega, by simp, by congr 1; omega, HV2.out.2, Lib.hid HV2.out.1, HA2⟩, ?_⟩
    simp [intOf]; omega
   ·have hd' : isDg s[k] = false := by simpa using hd
    have HO : Hid ((-1 : Int) = out) := Lib.hid (by rw [HE.out, HN.out k hkl (by rw [<- hgk]; exact hd')]; rfl)
    by_cases z1 : ((s[k]).toNat : Int) < 48
    ·clear hgk hd hd'
     go_wp2
     go_ret
     exact ⟨ret_int HO.out, rfl⟩
    ·have z2 : 57 < ((s[k]).toNat : Int) := by
      unfold isDg at hd'
      simp at hd'
      omega
     clear hgk hd hd'
     go_wp2
     go_ret
     exact ⟨ret_int HO.out, rfl⟩
  ·have hke : k = s.size := by omega
   have HO : Hid ((v : Int) = out) := Lib.hid (by
    have ha := HA1.out
    rw [HE.out, HV1.out]
    rw [List.take_of_length_le (by rw [HL.out]; omega)] at ha ⊢
    rw [if_pos ha])
   clear hke
   go_wp2
   go_ret
   exact ⟨ret_int HO.out, rfl⟩
end Go.Proofs.YtffkakpbelknaaaGreatDoor
