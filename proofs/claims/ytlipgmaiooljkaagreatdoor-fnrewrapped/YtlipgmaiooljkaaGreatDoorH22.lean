/- Joined: W5a. -/
import Derived.Test.YtlipgmaiooljkaaGreatDoorH8
import Derived.Test.YtlipgmaiooljkaaGreatDoorH10
import Derived.Test.YtlipgmaiooljkaaGreatDoorH21
/- W5a -/
namespace Go.Proofs.YtlipgmaiooljkaaGreatDoor
open Go.ChangeShapes Go.WideShapes Go.ChangeAt Go.RowKit
set_option linter.unusedVariables false

theorem rev_any (x : Int) (w : World) (h0 : 0 ≤ x) (h1 : x ≤ 4294967295) :
    Calls Tryz.prog 183 #[.int .u32 x] w fun e w' => e = .returned (.int .u32 (rev32 x)) ∧ w = w' := by
  have HR := Lib.hid (rev_eq x h0 h1)
  go_enter Tryz.func183, Tryz.ntmps183
  go_wp2
  go_ret
  refine ⟨ret_int ?_, rfl⟩
  rw [← HR.out]
  unfold revMid
  first | rfl | (simp only [IntKind.wrap_u32']; rfl)

set_option maxHeartbeats 800000 in
theorem appendLeM_any (v : Value) (l : List UInt8) (x : Int) (base : Nat) (w : World) (h : OwnM w base v l) (hx0 : 0 ≤ x) (hx : x ≤ 4294967295) (hn : l.length ≤ 100000000) (hbase : base ≤ w.heap.size) :
    Calls Tryz.prog 126 #[v, .int .u32 x] w fun e w' => ∃ v', e = .returned v' ∧ OwnM w' base v' (l ++ le4 x) ∧ Below base w w' := by
  go_enter Tryz.func126, Tryz.ntmps126
  go_wp2
  go_loopw [0, 6] (fun u i wr => ∃ k : Nat, k ≤ 4 ∧ i = .int .i64 k ∧ OwnM wr base u (l ++ (le4 x).take k) ∧ Below base w wr)
    (fun _ i _ => 4 - (intOf i).toNat)
  case atStart => exact ⟨0, Nat.zero_le _, rfl, by simpa using h, Below.refl _ _⟩
  case round =>
    obtain ⟨k, hk, rfl, hown, hbel⟩ := hrel
    clear h
    by_cases hlt : k < 4
    · have hsz := hbel.size
      have HL : Hid ((l ++ (le4 x).take k).length ≤ l.length + 4) := Lib.hid (by simp; omega)
      go_wp2_with (at_builtin; (refine wpList_appMB rfl (.tmp 9) (.tmp 15) rfl base _ _ rfl (hown.alloc _) wr.heap.size 1 _ _ [lowB (x / 2 ^ (8 * k))] rfl (heap_alloc_new wr _) (by simp only [List.map_cons, List.map_nil, bc_lowB]) rfl (by have := HL.out; omega) (by simp; omega) ?_); intro v1 w1 hown1 hb1)
      rw [List.append_assoc, ← le4_snoc x k hlt] at hown1
      have hb2 := (hbel.alloc (by omega) _).trans hb1
      clear hb1 hown
      go_wp2
      go_roundw
      case rel => exact ⟨k + 1, by omega, by go_num, hown1, hb2⟩
      case measure => simp [intOf]; omega
    · go_wp2
      go_ret
      have : k = 4 := by omega
      subst this
      exact ⟨_, rfl, hown, hbel⟩

theorem appendBeM_any (v : Value) (l : List UInt8) (x : Int) (base : Nat) (w : World) (h : OwnM w base v l) (hx0 : 0 ≤ x) (hx : x ≤ 4294967295) (hn : l.length ≤ 100000000) (hbase : base ≤ w.heap.size) :
    Calls Tryz.prog 176 #[v, .int .u32 x] w fun e w' => ∃ v', e = .returned v' ∧ OwnM w' base v' (l ++ be4 x) ∧ Below base w w' := by
  have hb := rev_bd x
  have HA := Lib.hid (fun w h hb' => appendLeM_any v l (rev32 x) base w h hb.1 hb.2 hn hb')
  rw [le4_rev] at HA
  have H := Lib.hid h
  clear h hb
  go_enter Tryz.func176, Tryz.ntmps176
  go_wp2_with (go_at_call 183; refine (rev_any _ _ hx0 hx).mono ?_; rintro e w' ⟨rfl, rfl⟩)
  refine (HA.out _ H.out hbase).mono ?_
  rintro e w1 ⟨v1, rfl, ho1, hb1⟩
  go_wp2
  go_ret
  exact ⟨v1, rfl, ho1, hb1⟩

theorem appendBe_any (v : Value) (l : List UInt8) (x : Int) (base : Nat) (w : World) (h : OwnB w base v l) (hx0 : 0 ≤ x) (hx : x ≤ 4294967295) (hn : l.length ≤ 100000000) (hbase : base ≤ w.heap.size) :
    Calls Tryz.prog 176 #[v, .int .u32 x] w fun e w' => ∃ v', e = .returned v' ∧ OwnB w' base v' (l ++ be4 x) ∧ Below base w w' := by
  have hb := rev_bd x
  have HA := Lib.hid (fun w h hb' => appendLe_any v l (rev32 x) base w h hb.1 hb.2 hn hb')
  rw [le4_rev] at HA
  have H := Lib.hid h
  clear h hb
  go_enter Tryz.func176, Tryz.ntmps176
  go_wp2_with (go_at_call 183; refine (rev_any _ _ hx0 hx).mono ?_; rintro e w' ⟨rfl, rfl⟩)
  refine (HA.out _ H.out hbase).mono ?_
  rintro e w1 ⟨v1, rfl, ho1, hb1⟩
  go_wp2
  go_ret
  exact ⟨v1, rfl, ho1, hb1⟩

theorem padS_list (t : ByteArray) (ht : t.size ≤ 100000) : (padS t).data.toList = (t ++ ⟨#[128]⟩ : ByteArray).data.toList ++ (nghB (room (t.size + 1 + 8) 64)).data.toList ++ be4 0 ++ be4 (8 * (t.size : Int)) := by
  unfold padS padT
  rw [ba_app4, ba_app4, ba_app4 (t ++ ⟨#[128]⟩)]
  have h0 : (⟨#[0, 0, 0, 0]⟩ : ByteArray).data.toList = be4 0 := by decide
  rw [h0]

set_option maxRecDepth 100000 in
set_option maxHeartbeats 1600000 in
theorem shaPadded_any (t : ByteArray) (w : World) (ht : t.size ≤ 100000) :
    Calls Tryz.prog 161 #[.string t] w fun e w' => e = .returned (.string (padS t)) ∧ Below w.heap.size w w' := by
  have hms : (t ++ ⟨#[128]⟩ : ByteArray).size = t.size + 1 := by rw [ByteArray.size_append]; rfl
  have HP := Lib.hid (padS_list t ht)
  obtain ⟨M, hM⟩ : ∃ M : ByteArray, M = t ++ ⟨#[128]⟩ := ⟨_, rfl⟩
  have hM' := hM.symm
  rw [← hM] at hms HP
  rw [← hms] at HP
  have hrl := room_lt (M.size + 8) 64 (by omega)
  have hT := fun w => roomTo_any (M.size + 8) 64 w (by omega) (by omega) (by omega)
  rw [show ((M.size + 8 : Nat) : Int) = (M.size : Int) + 8 by omega, show ((64 : Nat) : Int) = 64 from rfl] at hT
  have HT := Lib.hid hT
  obtain ⟨r, hr⟩ : ∃ r, r = room (M.size + 8) 64 := ⟨_, rfl⟩
  rw [← hr] at hrl HT HP
  have hns : (nghB r).size = r := nghB_size r
  have HN := Lib.hid (fun w => noughts_any r w (by omega))
  obtain ⟨Z, hZ⟩ : ∃ Z, Z = nghB r := ⟨_, rfl⟩
  rw [← hZ] at hns HN HP
  have hml : M.size ≤ 100001 := by omega
  have hlen8 : (8 : Int) * (t.size : Int) ≤ 800000 := by omega
  have hlen0 : 0 ≤ (8 : Int) * (t.size : Int) := by omega
  obtain ⟨n, hn⟩ : ∃ n : Int, n = 8 * (t.size : Int) := ⟨_, rfl⟩
  have hn' := hn.symm
  rw [← hn] at hlen8 hlen0 HP
  obtain ⟨v0, w0, hcv0, hown0, hb0⟩ := conv_ownM M w (by omega)
  clear hr hM hZ hn hms hT
  have h32 : n / 4294967296 = 0 := by omega
  have hwn : n % 4294967296 = n := by omega
  go_enter Tryz.func161, Tryz.ntmps161
  go_wp2_with fail
  refine (HT.out _).mono ?_
  rintro e w1 ⟨rfl, rfl⟩
  go_wp2_with fail
  refine (HN.out _).mono ?_
  rintro e w2 ⟨rfl, hb2⟩
  have hown2 := hown0.keep hb2 (Nat.le_refl _)
  have hb02 := hb0.trans (hb2.mono hb0.size)
  clear hown0 hb0 hb2 hcv0
  go_wp2_with (at_builtin; refine wpList_appMS rfl (.tmp 13) (.tmp 18) rfl w.heap.size _ _ rfl hown2 _ rfl (by simp; omega) hb02.size ?_; intro v3 w3 hown3 hb3)
  have hb03 := hb02.trans hb3
  have hl3 : (M.data.toList ++ Z.data.toList).length ≤ 100100 := by simp; omega
  refine (appendBeM_any v3 _ 0 w.heap.size _ hown3 (by omega) (by omega) (by omega) hb03.size).mono ?_
  rintro e w4 ⟨v4, rfl, hown4, hb4⟩
  have hb04 := hb03.trans hb4
  clear hown2 hb02 hb3 hown3 hb03 hb4
  go_wp2_with fail
  refine (appendBeM_any v4 _ n w.heap.size _ hown4 hlen0 (by omega) (by rw [List.length_append]; show _ + 4 ≤ _; omega) hb04.size).mono ?_
  rintro e w5 ⟨v5, rfl, hown5, hb5⟩
  have hb05 := hb04.trans hb5
  have hcv5 := hown5.text
  clear hown4 hb04 hb5
  go_wp2
  go_ret
  exact ⟨ret_str (ba_eq (by rw [HP.out]; simp only [List.append_assoc])), hb05⟩

theorem room64 (n : Nat) : (n + 1 + room (n + 1 + 8) 64) % 64 = 56 := by
  have := room_end (n + 1 + 8) 64 (by decide)
  omega
theorem room64_way (n j : Nat) (h : j < room (n + 1 + 8) 64) : (n + 1 + j) % 64 ≠ 56 := by
  have := room_way (n + 1 + 8) 64 j (by decide) h
  omega
theorem be4_cells (x : Int) : [Value.int .u8 (IntKind.u8.wrap (x / 16777216)), .int .u8 (IntKind.u8.wrap (x / 65536)), .int .u8 (IntKind.u8.wrap (x / 256)), .int .u8 (IntKind.u8.wrap x)] = (be4 x).map bc := by
  unfold be4
  simp only [List.map_cons, List.map_nil, bc_lowB, IntKind.wrap_u8']

set_option maxRecDepth 100000 in
set_option maxHeartbeats 2000000 in
theorem l5Pad_any (t : ByteArray) (w : World) (ht : t.size ≤ 100000) :
    Calls Tryz.prog 121 #[.string t] w fun e w' => e = .returned (.string (padS t)) ∧ Below w.heap.size w w' := by
  have hrl := room_lt (t.size + 1 + 8) 64 (by decide)
  have HW := Lib.hid (room64_way t.size)
  have HE := Lib.hid (room64 t.size)
  have HP : Hid (padS t = padT t (room (t.size + 1 + 8) 64) ++ ⟨#[0, 0, 0, 0]⟩ ++ ⟨(be4 (8 * (t.size : Int))).toArray⟩) := Lib.hid rfl
  obtain ⟨R, hR⟩ : ∃ R, R = room (t.size + 1 + 8) 64 := ⟨_, rfl⟩
  rw [← hR] at hrl HW HE HP
  have hz := padT_zero t
  clear hR
  go_enter Tryz.func121, Tryz.ntmps121
  go_wp2
  go_loopw [3] (fun s wr => ∃ j : Nat, j ≤ R ∧ s = .string (padT t j) ∧ Below w.heap.size w wr) (fun s _ => t.size + 1 + R - (match s with | .string b => b.size | _ => 0))
  case atStart => exact ⟨0, Nat.zero_le _, rfl, Below.refl _ _⟩
  case round =>
    obtain ⟨j, hj, rfl, hB⟩ := hrel
    have hps := padT_size t j
    have HPS := Lib.hid hps
    have hsu := padT_succ t j
    have hpl : (padT t j).size ≤ 300000 := by omega
    obtain ⟨P, hP⟩ : ∃ P, P = padT t j := ⟨_, rfl⟩
    rw [← hP] at hps HPS hsu hpl ⊢
    have HPE := Lib.hid hP
    by_cases hlt : j < R
    · have hmd : ((P.size : Int) % 64 != 56) = true := by
        have := HW.out j hlt
        rw [← hps] at this
        simp; omega
      obtain ⟨P2, hP2⟩ : ∃ P2, P2 = padT t (j + 1) := ⟨_, rfl⟩
      rw [← hP2] at hsu
      have HP2 := Lib.hid hP2
      have HS2 : Hid (P2.size = t.size + 1 + (j + 1)) := Lib.hid (by rw [hP2, padT_size])
      clear hz hps hP hP2
      go_wp2
      refine ⟨⟨j + 1, by omega, by rw [HP2.out], hB⟩, ?_⟩
      show t.size + 1 + R - P2.size < t.size + 1 + R - P.size
      have h3 := HPS.out
      have h4 := HS2.out
      omega
    · have hjR : j = R := by omega
      have hmd : ((P.size : Int) % 64 != 56) = false := by
        have := HE.out
        rw [← hjR, ← hps] at this
        simp; omega
      have HF : Hid (padT t R = P) := Lib.hid (by rw [hP, hjR])
      have hBs := hB.size
      obtain ⟨n, hn⟩ : ∃ n : Int, n = 8 * (t.size : Int) := ⟨_, rfl⟩
      have hn' := hn.symm
      have hn0 : 0 ≤ n := by omega
      have hn1 : n ≤ 800000 := by omega
      rw [HF.out, ← hn] at HP
      have hown : OwnB (wr.alloc (.cells #[.int .u8 (IntKind.u8.wrap (n / 16777216)), .int .u8 (IntKind.u8.wrap (n / 65536)), .int .u8 (IntKind.u8.wrap (n / 256)), .int .u8 (IntKind.u8.wrap n)] 5)) wr.heap.size (.slice (some ⟨wr.heap.size, 0, none⟩) 4 4) (be4 n) := by
        have := World.ownsRow_lit (base := wr.heap.size) (e := 5) (size := 1) wr #[.int .u8 (IntKind.u8.wrap (n / 16777216)), .int .u8 (IntKind.u8.wrap (n / 65536)), .int .u8 (IntKind.u8.wrap (n / 256)), .int .u8 (IntKind.u8.wrap n)] 4 (Nat.le_refl _) (by decide) rfl
        unfold OwnB
        rw [← be4_cells]
        exact this
      have hcv := conv_ownB hown
      obtain ⟨E, hE⟩ : ∃ E : ByteArray, E = ⟨(be4 n).toArray⟩ := ⟨_, rfl⟩
      have hEs : E.size = 4 := by rw [hE]; rfl
      rw [← hE] at hcv HP
      simp only [IntKind.wrap_u8'] at hcv
      rw [show n / 16777216 % 256 = n / 16777216 by omega, show n / 65536 % 256 = n / 65536 by omega] at hcv
      have hBa : Below w.heap.size w (wr.alloc (.cells #[.int .u8 (n / 16777216), .int .u8 (n / 65536), .int .u8 (n / 256 % 256), .int .u8 (n % 256)] 5)) := hB.alloc hBs _
      have HBA := Lib.hid hBa
      clear hz hps hP hjR hown hn hE hBa HW HE
      go_wp2
      go_ret
      exact ⟨ret_str HP.out.symm, HBA.out⟩

end Go.Proofs.YtlipgmaiooljkaaGreatDoor
