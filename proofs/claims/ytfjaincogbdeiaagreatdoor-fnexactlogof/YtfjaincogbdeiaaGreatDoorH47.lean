/- Joined: W12a, W12b, Laid12. -/
import Derived.Lib.QuoteBits
import Derived.Test.YtfjaincogbdeiaaGreatDoorH15
import Derived.Test.YtfjaincogbdeiaaGreatDoorH31
import Derived.Test.YtfjaincogbdeiaaGreatDoorH39
import Derived.Test.YtfjaincogbdeiaaGreatDoorH42
import Derived.Test.YtfjaincogbdeiaaGreatDoorH46
/- W12a -/
namespace Go.Proofs.YtfjaincogbdeiaaGreatDoor
open Go.ChangeShapes Go.WideShapes Go.ChangeAt Go.RowKit
set_option linter.unusedVariables false

theorem andLow32 (n : Nat) (h : n < 4294967296) : bits .and .i64 (n : Int) 4294967295 = (n : Int) := by
  show IntKind.i64.wrap ((BitVec.ofInt 64 (n : Int) &&& BitVec.ofInt 64 ((4294967295 : Nat) : Int)).toNat : Int) = _
  rw [BitVec.toNat_and, ofInt_u64 n (by omega), ofInt_u64 4294967295 (by omega)]
  have e : n &&& 4294967295 = n % 4294967296 := Nat.and_two_pow_sub_one_eq_mod n 32
  rw [e, Nat.mod_eq_of_lt h]
  exact Lib.wrap_i64_small _ (by omega)
theorem stR_two32 (n : Nat) (h : n < 4294967296) : stR [(n : Int), 0] = lenB n := by
  unfold stR lenB
  rw [if_pos ⟨by simp, by simp [isW]; omega⟩]

set_option maxRecDepth 100000 in
theorem eightBytes32_any (n : Nat) (w : World) (hn : n < 4294967296) :
    Calls Tryz.prog 50 #[.int .i64 (n : Int)] w fun e w' => e = .returned (.string (lenB n)) ∧ Below w.heap.size w w' := by
  have hand := andLow32 n hn
  have hz : (n : Int) / 4294967296 = 0 := by omega
  have HS := Lib.hid (stR_two32 n hn)
  go_enter Tryz.func50, Tryz.ntmps50
  go_wp2_with fail
  have hrow := rowAt_two .i64 2 w (n : Int) 0
  refine (implStoreLe_any _ _ _ _ hrow).mono ?_
  rintro e w1 ⟨rfl, hb1⟩
  go_wp2
  go_ret
  exact ⟨ret_str HS.out, ((Below.refl _ _).alloc (Nat.le_refl _) _).trans (hb1.mono (by simp))⟩

/-- What stands beside a box. -/
def bsB (n : Nat) (last : ByteArray) : ByteArray := lenB n ++ last
theorem bsB_size (n : Nat) (last : ByteArray) : (bsB n last).size = 8 + last.size := by unfold bsB; rw [ByteArray.size_append, lenB_size]

set_option maxRecDepth 100000 in
set_option maxHeartbeats 1600000 in
theorem besideOf_any (n : Nat) (last : ByteArray) (w : World) (hn : n < 4294967296) (hl : last.size ≤ 1000) :
    Calls Tryz.prog 23 #[.int .i64 (n : Int), .string last] w fun e w' => e = .returned (.string (bsB n last)) ∧ Below w.heap.size w w' := by
  have HC := Lib.hid (fun w => eightBytes32_any n w hn)
  have HE : Hid (bsB n last = lenB n ++ last) := Lib.hid rfl
  have hs := lenB_size n
  generalize lenB n = L at HC HE hs
  have hs2 : L.size ≤ 8 := by omega
  clear hs
  generalize bsB n last = R at HE ⊢
  have hR := HE.out.symm
  go_enter Tryz.func23, Tryz.ntmps23
  go_wp2_with fail
  refine (HC.out _).mono ?_
  rintro e w1 ⟨rfl, hb1⟩
  go_wp2
  go_ret
  exact ⟨rfl, hb1⟩

set_option maxRecDepth 100000 in
set_option maxHeartbeats 1600000 in
theorem l12With_any (n : Nat) (last : ByteArray) (w : World) (hn : n < 4294967296) (hl : last.size ≤ 1000) :
    Calls Tryz.prog 38 #[.int .i64 (n : Int), .string last] w fun e w' => e = .returned (.string (bsB n last)) ∧ Below w.heap.size w w' := by
  have HE : Hid (bsB n last = ⟨(storeL [(n : Int), 0]).toArray⟩ ++ last) := Lib.hid rfl
  have hs : (⟨(storeL [(n : Int), 0]).toArray⟩ : ByteArray).size ≤ 8 := by have := lenB_size n; unfold lenB at this; omega
  have HS := Lib.hid (l1Store_any _ _ _ _ (rowAt_two .u32 89 w (n : Int) 0) (by simp; omega) (by simp))
  generalize (⟨(storeL [(n : Int), 0]).toArray⟩ : ByteArray) = L at HE hs HS
  generalize bsB n last = R at HE ⊢
  have hR := HE.out.symm
  have hwr : IntKind.u32.wrap (n : Int) = (n : Int) := by rw [IntKind.wrap_u32]; omega
  go_enter Tryz.func38, Tryz.ntmps38
  go_wp2_with fail
  refine HS.out.mono ?_
  rintro e w1 ⟨rfl, hb1⟩
  go_wp2
  go_ret
  exact ⟨rfl, ((Below.refl _ _).alloc (Nat.le_refl _) _).trans (hb1.mono (by simp))⟩

/-- The nonce of a box. -/
def ncB (key bs t : ByteArray) : ByteArray := (hmB key (bs ++ t)).extract 0 12
theorem ncB_size (key bs t : ByteArray) : (ncB key bs t).size = 12 := by
  unfold ncB
  rw [ByteArray.size_extract, hmB_size]
  rfl

set_option maxRecDepth 100000 in
set_option maxHeartbeats 1600000 in
theorem l12Nonce_any (key bs t : ByteArray) (w : World) (hk : key.size = 32) (hb : bs.size ≤ 1000) (ht : t.size ≤ 4000) :
    Calls Tryz.prog 39 #[.string key, .string bs, .string t] w fun e w' => e = .returned (.string (ncB key bs t)) ∧ Below w.heap.size w w' := by
  have hxs : (bs ++ t).size ≤ 5000 := by rw [ByteArray.size_append]; omega
  have HC := Lib.hid (fun w => l6Hmac_any key (bs ++ t) w (by omega) (by omega))
  have HE : Hid (ncB key bs t = (hmB key (bs ++ t)).extract 0 12) := Lib.hid rfl
  have hms := hmB_size key (bs ++ t)
  obtain ⟨X, hX⟩ : ∃ X, bs ++ t = X := ⟨_, rfl⟩
  rw [hX] at hxs HC HE hms
  generalize hmB key X = M at HC HE hms
  have hms2 : 32 ≤ M.size ∧ M.size ≤ 32 := by omega
  clear hms
  obtain ⟨hm1, hm2⟩ := hms2
  generalize ncB key bs t = R at HE ⊢
  have hR := HE.out.symm
  clear HE hk
  go_enter Tryz.func39, Tryz.ntmps39
  go_wp2_with fail
  refine (HC.out _).mono ?_
  rintro e w1 ⟨rfl, hb1⟩
  go_wp2
  go_ret
  exact ⟨rfl, hb1⟩

/-- The text in a box, and the box. -/
noncomputable def ptO (o : OpD) : ByteArray := padT (opX o) (room ((opX o).size + 1) 64)
theorem ptO_size (o : OpD) : (ptO o).size ≤ 3118 := by
  unfold ptO
  rw [padT_size]
  have h1 := room_lt ((opX o).size + 1) 64 (by omega)
  have h2 := opX_small o
  omega
noncomputable def bxB (key : ByteArray) (n : Nat) (last : ByteArray) (o : OpD) : ByteArray := ncB key (bsB n last) (ptO o) ++ sealB key (ncB key (bsB n last) (ptO o)) (bsB n last) (ptO o)
noncomputable def bxR (key : ByteArray) (n : Int) (last : ByteArray) (o : OpD) : ByteArray := if key.size = 32 ∧ 1 ≤ n ∧ n ≤ 1000000 ∧ last.size = 16 ∧ opB o = true then bxB key n.toNat last o else ⟨#[]⟩
theorem sealB_size (key nonce wi t : ByteArray) : (sealB key nonce wi t).size ≤ t.size + 16 := by
  unfold sealB
  rw [ByteArray.size_append, strB_size]
  have : (sealT key nonce wi (strB key nonce 1 t)).size ≤ 16 := tagR_size _ _
  omega
theorem bxB_size (key : ByteArray) (n : Nat) (last : ByteArray) (o : OpD) : (bxB key n last o).size ≤ 3146 := by
  unfold bxB
  rw [ByteArray.size_append, ncB_size]
  have h1 := sealB_size key (ncB key (bsB n last) (ptO o)) (bsB n last) (ptO o)
  have h2 := ptO_size o
  omega

set_option maxRecDepth 100000 in
set_option maxHeartbeats 1600000 in
theorem l12Box_any (key : ByteArray) (n : Nat) (last : ByteArray) (o : OpD) (x : Value) (w : World) (hk : key.size = 32) (hn : n < 4294967296) (hl : last.size = 16) (hI : ItAt w w.heap.size x o.its) (hz : OpSz o) :
    Calls Tryz.prog 18 #[.string key, .int .i64 (n : Int), .string last, opV o x] w fun e w' => e = .returned (.string (bxB key n last o)) ∧ Below w.heap.size w w' := by
  have HI := Lib.hid hI
  obtain ⟨a, cap, rfl⟩ := hI.1.slice
  have HO := Lib.hid (fun w h => specOpText_any o (.slice a o.its.length cap) w h hz)
  have HP := Lib.hid (fun w => l4Padded_any (opX o) 64 w (by have := opX_small o; omega) (by omega) (by omega))
  have HW := Lib.hid (fun w => l12With_any n last w hn (by omega))
  have hbs := bsB_size n last
  have hps := ptO_size o
  have HPe : Hid (ptO o = padT (opX o) (room ((opX o).size + 1) 64)) := Lib.hid rfl
  rw [← HPe.out] at HP
  have HN := Lib.hid (fun w => l12Nonce_any key (bsB n last) (ptO o) w hk (by omega) (by omega))
  have hns := ncB_size key (bsB n last) (ptO o)
  have HS := Lib.hid (fun w => l4Seal_any key (ncB key (bsB n last) (ptO o)) (bsB n last) (ptO o) w hk hns (by omega) (by omega))
  have hss := sealB_size key (ncB key (bsB n last) (ptO o)) (bsB n last) (ptO o)
  have HE : Hid (bxB key n last o = ncB key (bsB n last) (ptO o) ++ sealB key (ncB key (bsB n last) (ptO o)) (bsB n last) (ptO o)) := Lib.hid rfl
  generalize sealB key (ncB key (bsB n last) (ptO o)) (bsB n last) (ptO o) = SL at HS HE hss
  generalize ncB key (bsB n last) (ptO o) = NC at HN HS HE hns
  generalize bsB n last = BS at HW HN HS hbs
  generalize ptO o = PT at HP HN HS hps hss HPe
  generalize opX o = OX at HO HP
  generalize bxB key n last o = R at HE ⊢
  have hn2 : NC.size ≤ 12 := by omega
  have hss2 : SL.size ≤ 5000 := by omega
  have hR := HE.out.symm
  have hB0 : Below w.heap.size w (w.alloc (.cells #[.int .i64 o.k, .string o.u, .string o.i, .int .i64 o.d, .string o.fu, .string o.ft, .slice a o.its.length cap] 33)) := (Below.refl _ _).alloc (Nat.le_refl _) _
  clear hI hz HPe HE hns hbs hps hss hk hl
  go_enter Tryz.func18, Tryz.ntmps18
  go_wp2_with fail
  refine (HO.out _ ((HI.out.below hB0).mono hB0.size)).mono ?_
  rintro e w1 ⟨rfl, hb1⟩
  have hB1 := hB0.trans (hb1.mono hB0.size)
  clear hb1 hB0
  go_wp2_with fail
  refine (HP.out _).mono ?_
  rintro e w2 ⟨rfl, hb2⟩
  have hB2 := hB1.trans (hb2.mono hB1.size)
  clear hb2 hB1
  go_wp2_with fail
  refine (HW.out _).mono ?_
  rintro e w3 ⟨rfl, hb3⟩
  have hB3 := hB2.trans (hb3.mono hB2.size)
  clear hb3 hB2
  go_wp2_with fail
  refine (HN.out _).mono ?_
  rintro e w4 ⟨rfl, hb4⟩
  have hB4 := hB3.trans (hb4.mono hB3.size)
  clear hb4 hB3
  go_wp2_with fail
  refine (HS.out _).mono ?_
  rintro e w5 ⟨rfl, hb5⟩
  have hB5 := hB4.trans (hb5.mono hB4.size)
  clear hb5 hB4
  go_wp2
  go_ret
  exact ⟨rfl, hB5⟩
end Go.Proofs.YtfjaincogbdeiaaGreatDoor

/- W12b -/
namespace Go.Proofs.YtfjaincogbdeiaaGreatDoor
open Go.ChangeShapes Go.WideShapes Go.ChangeAt Go.RowKit
set_option linter.unusedVariables false

/-- All tables that a box asks for. -/
def TabsB (w : World) : Prop := Tabs w ∧ FTab w ∧ KTab w
theorem TabsB.below {w w' : World} {B : Nat} (h : TabsB w) (hb : Below B w w') (hB : w.heap.size ≤ B) : TabsB w' := ⟨h.1.below hb hB, h.2.1.below hb hB, h.2.2.below hb hB⟩

set_option maxRecDepth 100000 in
set_option maxHeartbeats 3000000 in
theorem implBoxOf_any (key : ByteArray) (n : Int) (last : ByteArray) (o : OpD) (x : Value) (w : World) (hk : key.size ≤ maxLen) (hl : last.size ≤ maxLen) (hI : ItAt w w.heap.size x o.its) (hz : OpSz o) (hT : TabsB w) :
    Calls Tryz.prog 8 #[.string key, .int .i64 n, .string last, opV o x] w fun e w' => e = .returned (.string (bxR key n last o)) ∧ Below w.heap.size w w' := by
  have HI := Lib.hid hI
  have HT := Lib.hid hT
  obtain ⟨a, cap, rfl⟩ := hI.1.slice
  have HC := Lib.hid (fun w h => implOpOk_any o (.slice a o.its.length cap) w h hz)
  have HZ := Lib.hid hz
  have HKl := Lib.hid hk
  unfold maxLen at hk hl
  clear hI hT hz
  have hB0 : Below w.heap.size w (w.alloc (.cells #[.int .i64 o.k, .string o.u, .string o.i, .int .i64 o.d, .string o.fu, .string o.ft, .slice a o.its.length cap] 33)) := (Below.refl _ _).alloc (Nat.le_refl _) _
  have hX0 := Box.new w #[.int .i64 o.k, .string o.u, .string o.i, .int .i64 o.d, .string o.fu, .string o.ft, .slice a o.its.length cap] 33
  by_cases g1 : key.size = 32
  case neg =>
    have HV : Hid (bxR key n last o = ⟨#[]⟩) := Lib.hid (by unfold bxR; rw [if_neg (fun h => g1 h.1)])
    rw [HV.out]
    have d1 : ((key.size : Int) == 32) = false := beq_eq_false_iff_ne.2 (by omega)
    have d2 : ((key.size : Int) != 32) = true := by rw [bne, d1]; rfl
    clear g1 HV
    go_enter Tryz.func8, Tryz.ntmps8
    go_wp2
    go_ret
    exact ⟨rfl, hB0⟩
  have d1 : ((key.size : Int) == 32) = true := beq_iff_eq.2 (by omega)
  have d2 : ((key.size : Int) != 32) = false := by rw [bne, d1]; rfl
  by_cases g2 : 1 ≤ n
  case neg =>
    have HV : Hid (bxR key n last o = ⟨#[]⟩) := Lib.hid (by unfold bxR; rw [if_neg (fun h => g2 h.2.1)])
    rw [HV.out]
    have d3 : decide (n < 1) = true := decide_eq_true (by omega)
    clear g1 g2 HV
    go_enter Tryz.func8, Tryz.ntmps8
    go_wp2
    go_ret
    exact ⟨rfl, hB0⟩
  have d3 : decide (n < 1) = false := decide_eq_false (by omega)
  by_cases g3 : n ≤ 1000000
  case neg =>
    have HV : Hid (bxR key n last o = ⟨#[]⟩) := Lib.hid (by unfold bxR; rw [if_neg (fun h => g3 h.2.2.1)])
    rw [HV.out]
    have d4 : decide (1000000 < n) = true := decide_eq_true (by omega)
    clear g1 g2 g3 HV
    go_enter Tryz.func8, Tryz.ntmps8
    go_wp2
    go_ret
    exact ⟨rfl, hB0⟩
  have d4 : decide (1000000 < n) = false := decide_eq_false (by omega)
  by_cases g4 : last.size = 16
  case neg =>
    have HV : Hid (bxR key n last o = ⟨#[]⟩) := Lib.hid (by unfold bxR; rw [if_neg (fun h => g4 h.2.2.2.1)])
    rw [HV.out]
    have d5 : ((last.size : Int) == 16) = false := beq_eq_false_iff_ne.2 (by omega)
    have d6 : ((last.size : Int) != 16) = true := by rw [bne, d5]; rfl
    clear g1 g2 g3 g4 HV
    go_enter Tryz.func8, Tryz.ntmps8
    go_wp2
    go_ret
    exact ⟨rfl, hB0⟩
  have d5 : ((last.size : Int) == 16) = true := beq_iff_eq.2 (by omega)
  have d6 : ((last.size : Int) != 16) = false := by rw [bne, d5]; rfl
  cases hop : opB o with
  | false =>
    have HV : Hid (bxR key n last o = ⟨#[]⟩) := Lib.hid (by unfold bxR; rw [if_neg (fun h => by rw [hop] at h; exact absurd h.2.2.2.2 (by simp))])
    rw [HV.out]
    rw [hop] at HC
    clear g1 g2 g3 g4 HV hop
    go_enter Tryz.func8, Tryz.ntmps8
    go_wp2_with fail
    refine (HC.out _ ((HI.out.below hB0).mono hB0.size)).mono ?_
    rintro e w1 ⟨rfl, hb1⟩
    have hB1 := hB0.trans (hb1.mono hB0.size)
    clear hb1 hB0
    go_wp2
    go_ret
    exact ⟨rfl, hB1⟩
  | true =>
    obtain ⟨m, rfl⟩ : ∃ m : Nat, n = (m : Int) := ⟨n.toNat, by omega⟩
    have HV : Hid (bxR key (m : Int) last o = bxB key m last o) := Lib.hid (by unfold bxR; rw [if_pos ⟨g1, g2, g3, g4, hop⟩]; rfl)
    rw [HV.out]
    rw [hop] at HC
    have hos := opX_small o
    have HO := Lib.hid (fun w h hT => implOpText_any o (.slice a o.its.length cap) w h HZ.out hT)
    have HP := Lib.hid (fun w => implPadded_any (opX o) 64 w (by unfold maxLen; omega) (by decide))
    have HPe : Hid (padR (opX o) 64 = ptO o) := Lib.hid (by unfold padR; rw [if_pos ⟨by omega, by decide, by decide⟩]; rfl)
    rw [HPe.out] at HP
    have HW := Lib.hid (fun w => besideOf_any m last w (by omega) (by omega))
    have hbs := bsB_size m last
    have hps := ptO_size o
    have hxs : (bsB m last ++ ptO o).size ≤ 4000 := by rw [ByteArray.size_append]; omega
    have HH := Lib.hid (fun w hF hK => implHmac_any key (bsB m last ++ ptO o) w HKl.out (by unfold maxLen; omega) hF hK)
    have HHe : Hid (hmR key (bsB m last ++ ptO o) = hmB key (bsB m last ++ ptO o)) := Lib.hid (by unfold hmR; rw [if_pos ⟨by omega, hxs⟩])
    rw [HHe.out] at HH
    have hns := ncB_size key (bsB m last) (ptO o)
    have HNe : Hid (ncB key (bsB m last) (ptO o) = (hmB key (bsB m last ++ ptO o)).extract 0 12) := Lib.hid rfl
    have HS := Lib.hid (fun w => implSealed_any key (ncB key (bsB m last) (ptO o)) (bsB m last) (ptO o) w HKl.out (by unfold maxLen; omega) (by unfold maxLen; omega) (by unfold maxLen; omega))
    have HSe : Hid (slR key (ncB key (bsB m last) (ptO o)) (bsB m last) (ptO o) = sealB key (ncB key (bsB m last) (ptO o)) (bsB m last) (ptO o)) := Lib.hid (by unfold slR; rw [if_pos ⟨g1, hns, by omega, by omega⟩])
    rw [HSe.out] at HS
    have hss := sealB_size key (ncB key (bsB m last) (ptO o)) (bsB m last) (ptO o)
    have HE : Hid (bxB key m last o = ncB key (bsB m last) (ptO o) ++ sealB key (ncB key (bsB m last) (ptO o)) (bsB m last) (ptO o)) := Lib.hid rfl
    have hms := hmB_size key (bsB m last ++ ptO o)
    clear HPe HHe HSe
    generalize sealB key (ncB key (bsB m last) (ptO o)) (bsB m last) (ptO o) = SL at HS HE hss
    generalize ncB key (bsB m last) (ptO o) = NC at HS HE hns HNe
    obtain ⟨X, hX⟩ : ∃ X, bsB m last ++ ptO o = X := ⟨_, rfl⟩
    rw [hX] at hxs HH HNe hms
    generalize hmB key X = HM at HH HNe hms
    generalize bsB m last = BS at HW HS hbs hX
    generalize ptO o = PT at HP HS hps hss hX
    generalize opX o = OX at HO HP
    generalize bxB key m last o = R at HE ⊢
    have hn2 : NC.size ≤ 12 := by omega
    have hss2 : SL.size ≤ 5000 := by omega
    have hR := HE.out.symm
    have hNe := HNe.out.symm
    have hm1 : 32 ≤ HM.size := by omega
    have hm2 : HM.size ≤ 32 := by omega
    have hbs2 : BS.size ≤ 24 := by omega
    clear hns hbs hms hos HE HNe HV g1 g4 hop
    go_enter Tryz.func8, Tryz.ntmps8
    go_wp2_with fail
    refine (HC.out _ ((HI.out.below hB0).mono hB0.size)).mono ?_
    rintro e w1 ⟨rfl, hb1⟩
    have hB1 := hB0.trans (hb1.mono hB0.size)
    have hX1 := hX0.keep hb1 hX0.lt
    have f0 := hX1.cell 0 _ rfl
    have f1 := hX1.cell 1 _ rfl
    have f2 := hX1.cell 2 _ rfl
    have f3 := hX1.cell 3 _ rfl
    have f4 := hX1.cell 4 _ rfl
    have f5 := hX1.cell 5 _ rfl
    have f6 := hX1.cell 6 _ rfl
    clear hb1 hB0 hX0 hX1 HC
    go_wp2_with fail
    refine (HO.out _ ((HI.out.below hB1).mono hB1.size) (HT.out.below hB1 (Nat.le_refl _)).1).mono ?_
    rintro e w2 ⟨rfl, hb2⟩
    have hB2 := hB1.trans (hb2.mono hB1.size)
    clear hb2 hB1 f0 f1 f2 f3 f4 f5 f6
    go_wp2_with fail
    refine (HP.out _).mono ?_
    rintro e w3 ⟨rfl, hb3⟩
    have hB3 := hB2.trans (hb3.mono hB2.size)
    clear hb3 hB2
    go_wp2_with fail
    refine (HW.out _).mono ?_
    rintro e w4 ⟨rfl, hb4⟩
    have hB4 := hB3.trans (hb4.mono hB3.size)
    clear hb4 hB3
    go_wp2_with fail
    refine (HH.out _ (HT.out.below hB4 (Nat.le_refl _)).2.1 (HT.out.below hB4 (Nat.le_refl _)).2.2).mono ?_
    rintro e w5 ⟨rfl, hb5⟩
    have hB5 := hB4.trans (hb5.mono hB4.size)
    clear hb5 hB4
    go_wp2_with fail
    refine (HS.out _).mono ?_
    rintro e w6 ⟨rfl, hb6⟩
    have hB6 := hB5.trans (hb6.mono hB5.size)
    clear hb6 hB5
    go_wp2
    go_ret
    exact ⟨rfl, hB6⟩

set_option maxRecDepth 100000 in
set_option maxHeartbeats 3000000 in
theorem specBoxOf_any (key : ByteArray) (n : Int) (last : ByteArray) (o : OpD) (x : Value) (w : World) (hk : key.size ≤ maxLen) (hl : last.size ≤ maxLen) (hI : ItAt w w.heap.size x o.its) (hz : OpSz o) :
    Calls Tryz.prog 6 #[.string key, .int .i64 n, .string last, opV o x] w fun e w' => e = .returned (.string (bxR key n last o)) ∧ Below w.heap.size w w' := by
  have HI := Lib.hid hI
  obtain ⟨a, cap, rfl⟩ := hI.1.slice
  have HC := Lib.hid (fun w h => specOpOk_any o (.slice a o.its.length cap) w h hz)
  have HL := Lib.hid (fun w => l1In_any n 1 1000000 w)
  have HZ := Lib.hid hz
  unfold maxLen at hk hl
  clear hI hz
  have hB0 : Below w.heap.size w (w.alloc (.cells #[.int .i64 o.k, .string o.u, .string o.i, .int .i64 o.d, .string o.fu, .string o.ft, .slice a o.its.length cap] 33)) := (Below.refl _ _).alloc (Nat.le_refl _) _
  have hX0 := Box.new w #[.int .i64 o.k, .string o.u, .string o.i, .int .i64 o.d, .string o.fu, .string o.ft, .slice a o.its.length cap] 33
  by_cases g1 : key.size = 32
  case neg =>
    have HV : Hid (bxR key n last o = ⟨#[]⟩) := Lib.hid (by unfold bxR; rw [if_neg (fun h => g1 h.1)])
    rw [HV.out]
    have d1 : ((key.size : Int) == 32) = false := beq_eq_false_iff_ne.2 (by omega)
    have d2 : ((key.size : Int) != 32) = true := by rw [bne, d1]; rfl
    clear g1 HV
    go_enter Tryz.func6, Tryz.ntmps6
    go_wp2
    go_ret
    exact ⟨rfl, hB0⟩
  have d1 : ((key.size : Int) == 32) = true := beq_iff_eq.2 (by omega)
  have d2 : ((key.size : Int) != 32) = false := by rw [bne, d1]; rfl
  by_cases g2 : 1 ≤ n ∧ n ≤ 1000000
  case neg =>
    have HV : Hid (bxR key n last o = ⟨#[]⟩) := Lib.hid (by unfold bxR; rw [if_neg (fun h => g2 ⟨h.2.1, h.2.2.1⟩)])
    rw [HV.out]
    have hq : (decide (1 ≤ n) && decide (n ≤ 1000000)) = false := by
      rw [Bool.and_eq_false_iff]
      by_cases h : 1 ≤ n
      · right; exact decide_eq_false (by omega)
      · left; exact decide_eq_false h
    rw [hq] at HL
    clear g1 g2 HV hq
    go_enter Tryz.func6, Tryz.ntmps6
    go_wp2_with fail
    refine (HL.out _).mono ?_
    rintro e w1 ⟨rfl, rfl⟩
    go_wp2
    go_ret
    exact ⟨rfl, hB0⟩
  have hq : (decide (1 ≤ n) && decide (n ≤ 1000000)) = true := by rw [decide_eq_true g2.1, decide_eq_true g2.2]; rfl
  rw [hq] at HL
  clear hq
  by_cases g4 : last.size = 16
  case neg =>
    have HV : Hid (bxR key n last o = ⟨#[]⟩) := Lib.hid (by unfold bxR; rw [if_neg (fun h => g4 h.2.2.2.1)])
    rw [HV.out]
    have d5 : ((last.size : Int) == 16) = false := beq_eq_false_iff_ne.2 (by omega)
    have d6 : ((last.size : Int) != 16) = true := by rw [bne, d5]; rfl
    clear g1 g2 g4 HV
    go_enter Tryz.func6, Tryz.ntmps6
    go_wp2_with fail
    refine (HL.out _).mono ?_
    rintro e w1 ⟨rfl, rfl⟩
    go_wp2
    go_ret
    exact ⟨rfl, hB0⟩
  have d5 : ((last.size : Int) == 16) = true := beq_iff_eq.2 (by omega)
  have d6 : ((last.size : Int) != 16) = false := by rw [bne, d5]; rfl
  cases hop : opB o with
  | false =>
    have HV : Hid (bxR key n last o = ⟨#[]⟩) := Lib.hid (by unfold bxR; rw [if_neg (fun h => by rw [hop] at h; exact absurd h.2.2.2.2 (by simp))])
    rw [HV.out]
    rw [hop] at HC
    clear g1 g2 g4 HV hop
    go_enter Tryz.func6, Tryz.ntmps6
    go_wp2_with fail
    refine (HL.out _).mono ?_
    rintro e w1 ⟨rfl, rfl⟩
    go_wp2_with fail
    refine (HC.out _ ((HI.out.below hB0).mono hB0.size)).mono ?_
    rintro e w1 ⟨rfl, hb1⟩
    have hB1 := hB0.trans (hb1.mono hB0.size)
    clear hb1 hB0
    go_wp2
    go_ret
    exact ⟨rfl, hB1⟩
  | true =>
    obtain ⟨m, rfl⟩ : ∃ m : Nat, n = (m : Int) := ⟨n.toNat, by omega⟩
    have HV : Hid (bxR key (m : Int) last o = bxB key m last o) := Lib.hid (by unfold bxR; rw [if_pos ⟨g1, g2.1, g2.2, g4, hop⟩]; rfl)
    rw [HV.out]
    rw [hop] at HC
    have HX := Lib.hid (fun w h => l12Box_any key m last o (.slice a o.its.length cap) w g1 (by omega) g4 h HZ.out)
    generalize bxB key m last o = R at HX ⊢
    clear g1 g2 g4 HV hop
    go_enter Tryz.func6, Tryz.ntmps6
    go_wp2_with fail
    refine (HL.out _).mono ?_
    rintro e w1 ⟨rfl, rfl⟩
    go_wp2_with fail
    refine (HC.out _ ((HI.out.below hB0).mono hB0.size)).mono ?_
    rintro e w1 ⟨rfl, hb1⟩
    have hB1 := hB0.trans (hb1.mono hB0.size)
    have hX1 := hX0.keep hb1 hX0.lt
    have f0 := hX1.cell 0 _ rfl
    have f1 := hX1.cell 1 _ rfl
    have f2 := hX1.cell 2 _ rfl
    have f3 := hX1.cell 3 _ rfl
    have f4 := hX1.cell 4 _ rfl
    have f5 := hX1.cell 5 _ rfl
    have f6 := hX1.cell 6 _ rfl
    clear hb1 hB0 hX0 hX1 HC
    go_wp2_with fail
    refine (HX.out _ ((HI.out.below hB1).mono hB1.size)).mono ?_
    rintro e w2 ⟨rfl, hb2⟩
    have hB2 := hB1.trans (hb2.mono hB1.size)
    clear hb2 hB1 f0 f1 f2 f3 f4 f5 f6
    go_wp2
    go_ret
    exact ⟨rfl, hB2⟩
end Go.Proofs.YtfjaincogbdeiaaGreatDoor

/- Laid12 -/
namespace Go.Proofs.YtfjaincogbdeiaaGreatDoor
open Go.ChangeShapes Go.WideShapes Go.ChangeAt Go.RowKit
set_option linter.unusedVariables false

theorem gOw : Tryz.prog.globalNamed "loop.example/g00569/impl.opWords" = some 0 := by kernel_rfl
theorem tOw : (Tryz.prog.globals[0]?).map (·.type) = some 66 := by kernel_rfl
theorem cOw : Tryz.prog.cellsOf 66 = 10 := by kernel_rfl
def oTab : List (List UInt8) := [[], [97, 100, 100], [100, 114, 111, 112], [102, 101, 116, 99, 104], [114, 101, 97, 100], [117, 110, 114, 101, 97, 100], [115, 116, 97, 114], [117, 110, 115, 116, 97, 114], [97, 108, 108], [112, 117, 114, 103, 101]]
theorem otab_of {W : World} {n : String} {cs : Array Value} (hg : Tryz.prog.globalNamed n = some 0) (hv : W.var? Tryz.prog n = some cs) (hcs : cs.toList = oTab.map (fun n => Value.string ⟨n.toArray⟩)) (hr : ∃ c t, W.heap[0]? = some (.cells c t (0, 0))) : OTab W := by
  obtain ⟨c, t, hr⟩ := hr
  refine ⟨t, ?_⟩
  unfold World.var? at hv
  rw [hg] at hv
  simp only [Option.bind_some, hr] at hv
  obtain rfl := Option.some.inj hv
  rw [hr]
  congr 2
  rw [← Array.toArray_toList (xs := c), hcs]
  rfl

theorem laid_FnExactBoxOf {W : World} (h : laidMetH Tryz.prog [("math/bits.deBruijn32tab", Rows.laid_math_bits_deBruijn32tab), ("math/bits.deBruijn64tab", Rows.laid_math_bits_deBruijn64tab), ("internal/strconv.uint64pow10", Rows.laid_internal_strconv_uint64pow10), ("loop.example/g00569/impl.shaFirst", Rows.laid_loop_example_g00569_impl_shaFirst), ("loop.example/g00569/impl.shaConstants", Rows.laid_loop_example_g00569_impl_shaConstants), ("loop.example/g00569/impl.monthDays", Rows.laid_loop_example_g00569_impl_monthDays), ("loop.example/g00569/impl.escapes", Rows.laid_loop_example_g00569_impl_escapes), ("loop.example/g00569/impl.opWords", Rows.laid_loop_example_g00569_impl_opWords)] W) : TabsB W := by
  rw [MakeChecks.laidMetH_plain _ _ _ (by kernel_rfl)] at h
  obtain ⟨ps, ⟨g0, t0, cs0, f0, p0, q0, hg0, ht0, hv0, hd0, ⟨g1, t1, cs1, f1, p1, q1, hg1, ht1, hv1, hd1, ⟨g2, t2, cs2, f2, p2, q2, hg2, ht2, hv2, hd2, ⟨g3, t3, cs3, f3, p3, q3, hg3, ht3, hv3, hd3, ⟨g4, t4, cs4, f4, p4, q4, hg4, ht4, hv4, hd4, ⟨g5, t5, cs5, f5, p5, q5, hg5, ht5, hv5, hd5, ⟨g6, t6, cs6, f6, p6, q6, hg6, ht6, hv6, hd6, ⟨g7, t7, cs7, f7, p7, q7, hg7, ht7, hv7, hd7, _, e7⟩, e6⟩, e5⟩, e4⟩, e3⟩, e2⟩, e1⟩, e0⟩, _, hr⟩ := h
  obtain rfl := Option.some.inj (gPw.symm.trans hg2)
  obtain rfl := Option.some.inj (tPw.symm.trans ht2)
  obtain rfl := Option.some.inj (gFs.symm.trans hg3)
  obtain rfl := Option.some.inj (tFs.symm.trans ht3)
  obtain rfl := Option.some.inj (gKs.symm.trans hg4)
  obtain rfl := Option.some.inj (tKs.symm.trans ht4)
  obtain rfl := Option.some.inj (gMd.symm.trans hg5)
  obtain rfl := Option.some.inj (tMd.symm.trans ht5)
  obtain rfl := Option.some.inj (gEs.symm.trans hg6)
  obtain rfl := Option.some.inj (tEs.symm.trans ht6)
  obtain rfl := Option.some.inj (gOw.symm.trans hg7)
  obtain rfl := Option.some.inj (tOw.symm.trans ht7)
  have hcs2 := ints_of_trod Tryz.underlying192 Tryz.underlying129 cU8 cPw p10L rfl hd2
  have r_P : PTab W := by
    unfold PTab Lib.TabIs
    rw [hv2, p10_eq]
    congr 1
    rw [← Array.toArray_toList (xs := cs2), hcs2]
  have hcs3 := words_of_trod Tryz.underlying104 Tryz.underlying89 cU4 cFs sha0 rfl hd3
  have hsz3 : cs3.size = 8 := by rw [← Array.length_toList, hcs3]; rfl
  have hcs4 := words_of_trod Tryz.underlying130 Tryz.underlying89 cU4 cKs kTab rfl hd4
  have hsz4 : cs4.size = 64 := by rw [← Array.length_toList, hcs4]; rfl
  have hcs5 := ints_of_trod Tryz.underlying179 Tryz.underlying2 cI8 cMd mTab rfl hd5
  have hsz5 : cs5.size = 12 := by rw [← Array.length_toList, hcs5]; rfl
  have hcs6 := strs_of_trod Tryz.underlying156 Tryz.underlying9 cSt cEs eTab rfl hd6
  have hsz6 : cs6.size = 4 := by rw [← Array.length_toList, hcs6]; rfl
  have hcs7 := strs_of_trod Tryz.underlying66 Tryz.underlying9 cSt cOw oTab rfl hd7
  have hsz7 : cs7.size = 10 := by rw [← Array.length_toList, hcs7]; rfl
  have r_F := arr_of_var hg3 hv3 hcs3 (hr 1 0 (by rw [e0, e1, e2, e3, hsz3]; simp [MemPlace.row])).1
  have r_K := arr_of_var hg4 hv4 hcs4 (hr 2 0 (by rw [e0, e1, e2, e3, e4, hsz4]; simp [MemPlace.row])).1
  have r_M := arr_of_var7 hg5 hv5 hcs5 (hr 4 0 (by rw [e0, e1, e2, e3, e4, e5, hsz5]; simp [MemPlace.row])).1
  have r_E := etab_of hg6 hv6 hcs6 (hr 3 0 (by rw [e0, e1, e2, e3, e4, e5, e6, hsz6]; simp [MemPlace.row])).1
  have r_O := otab_of hg7 hv7 hcs7 (hr 0 0 (by rw [e0, e1, e2, e3, e4, e5, e6, e7, hsz7]; simp [MemPlace.row])).1
  exact ⟨⟨r_E, r_M, r_P, r_O⟩, r_F, r_K⟩
end Go.Proofs.YtfjaincogbdeiaaGreatDoor
