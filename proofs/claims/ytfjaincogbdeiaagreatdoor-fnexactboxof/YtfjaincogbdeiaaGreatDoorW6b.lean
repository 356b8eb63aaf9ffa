/- Contracts: a key of a block, a text turned by a byte, Hmac of the reference (chapter 6). -/
import Derived.Test.YtfjaincogbdeiaaGreatDoorW5n
import Derived.Test.YtfjaincogbdeiaaGreatDoorW6a
namespace Go.Proofs.YtfjaincogbdeiaaGreatDoor
open Go.ChangeShapes Go.WideShapes Go.ChangeAt Go.RowKit Go.Shelf
set_option linter.unusedVariables false

theorem ngh_snoc (k : ByteArray) (j : Nat) : k ++ nghB j ++ ⟨#[0]⟩ = k ++ nghB (j + 1) := by
  apply ba_eq
  rw [ba_app4, ba_app4, ba_app4, nghB_list, nghB_list, List.append_assoc, List.replicate_succ']
theorem ngh_none (k : ByteArray) : k ++ nghB 0 = k := by
  apply ba_eq
  rw [ba_app4, nghB_list]; simp

set_option maxRecDepth 100000 in
set_option maxHeartbeats 1600000 in
theorem l6Key_any (key : ByteArray) (w : World) (hk : key.size ≤ 100000) :
    Calls Tryz.prog 94 #[.string key] w fun e w' => e = .returned (.string (bkB key)) ∧ Below w.heap.size w w' := by
  have HE : Hid (bkB key = hKey key ++ nghB (64 - (hKey key).size)) := Lib.hid rfl
  have hle := hKey_le key
  have HS : Hid (∀ j, (hKey key ++ nghB j).size = (hKey key).size + j) := Lib.hid (fun j => by rw [ByteArray.size_append, nghB_size])
  have HC := Lib.hid (ngh_snoc (hKey key))
  have H0 := Lib.hid (ngh_none (hKey key))
  generalize bkB key = out at HE ⊢
  by_cases h : 64 < key.size
  · have HD := Lib.hid (l5Sha_any key w hk)
    rw [show shaD key = hKey key from (if_pos h).symm] at HD
    generalize hKey key = D at HD HE hle HS HC H0
    go_enter Tryz.func94, Tryz.ntmps94
    go_wp2_with fail
    refine HD.out.mono ?_
    rintro e w1 ⟨rfl, hb1⟩
    clear HD h
    go_wp2
    go_loopw [0] (fun s wr => ∃ j : Nat, D.size + j ≤ 64 ∧ s = .string (D ++ nghB j) ∧ Below w.heap.size w wr) (fun s _ => 64 - (match s with | .string b => b.size | _ => 0))
    case atStart => exact ⟨0, by omega, by rw [H0.out], hb1⟩
    case round =>
      obtain ⟨j, hj, rfl, hB⟩ := hrel
      clear hb1
      have hsz := HS.out j
      have hsn := HC.out j
      have hsz2 := HS.out (j + 1)
      obtain ⟨S, hS⟩ : ∃ S, S = D ++ nghB j := ⟨_, rfl⟩
      obtain ⟨S2, hS2⟩ : ∃ S, S = D ++ nghB (j + 1) := ⟨_, rfl⟩
      rw [← hS] at hsz hsn ⊢
      rw [← hS2] at hsn hsz2
      have HS1 := Lib.hid hS
      have HS2 := Lib.hid hS2
      have HZ := Lib.hid hsz
      have HZ2 := Lib.hid hsz2
      clear hS hS2
      by_cases hlt : S.size < 64
      · have hk1 : S.size + 1 ≤ 100 := by omega
        clear hsz hsz2
        go_wp2
        refine ⟨⟨j + 1, by have := HZ.out; omega, by rw [HS2.out], hB⟩, ?_⟩
        show 64 - S2.size < 64 - S.size
        have h3 := HZ.out
        have h4 := HZ2.out
        omega
      · have HO : Hid (S = out) := Lib.hid (by rw [HS1.out, HE.out, show j = 64 - D.size by omega])
        clear hsz hsz2
        go_wp2
        go_ret
        exact ⟨ret_str HO.out, hB⟩
  · have hD : hKey key = key := if_neg h
    rw [hD] at HE hle HS HC H0
    have hb1 := Below.refl w.heap.size w
    clear hD
    obtain ⟨D, hD⟩ : ∃ D, D = key := ⟨_, rfl⟩
    rw [← hD] at HE hle HS HC H0 h ⊢
    clear hD
    go_enter Tryz.func94, Tryz.ntmps94
    go_wp2
    go_loopw [0] (fun s wr => ∃ j : Nat, D.size + j ≤ 64 ∧ s = .string (D ++ nghB j) ∧ Below w.heap.size w wr) (fun s _ => 64 - (match s with | .string b => b.size | _ => 0))
    case atStart => exact ⟨0, by omega, by rw [H0.out], hb1⟩
    case round =>
      obtain ⟨j, hj, rfl, hB⟩ := hrel
      clear hb1
      have hsz := HS.out j
      have hsn := HC.out j
      have hsz2 := HS.out (j + 1)
      obtain ⟨S, hS⟩ : ∃ S, S = D ++ nghB j := ⟨_, rfl⟩
      obtain ⟨S2, hS2⟩ : ∃ S, S = D ++ nghB (j + 1) := ⟨_, rfl⟩
      rw [← hS] at hsz hsn ⊢
      rw [← hS2] at hsn hsz2
      have HS1 := Lib.hid hS
      have HS2 := Lib.hid hS2
      have HZ := Lib.hid hsz
      have HZ2 := Lib.hid hsz2
      clear hS hS2
      by_cases hlt : S.size < 64
      · have hk1 : S.size + 1 ≤ 100 := by omega
        clear hsz hsz2
        go_wp2
        refine ⟨⟨j + 1, by have := HZ.out; omega, by rw [HS2.out], hB⟩, ?_⟩
        show 64 - S2.size < 64 - S.size
        have h3 := HZ.out
        have h4 := HZ2.out
        omega
      · have HO : Hid (S = out) := Lib.hid (by rw [HS1.out, HE.out, show j = 64 - D.size by omega])
        clear hsz hsz2
        go_wp2
        go_ret
        exact ⟨ret_str HO.out, hB⟩

theorem wi_snoc (s : ByteArray) (b : UInt8) (k : Nat) (h : k < s.size) (h64 : s.size ≤ 64) : (xorL s.data.toList (repB b).data.toList).take (k + 1) = (xorL s.data.toList (repB b).data.toList).take k ++ [s[k] ^^^ b] := by
  have hk : k < (repB b).size := by rw [repB_size]; omega
  rw [xorL_snoc s (repB b) k h hk]
  congr 3
  exact List.getElem_replicate (a := b) (n := 64) (i := k) (by simp; omega)

set_option maxRecDepth 100000 in
set_option maxHeartbeats 1600000 in
theorem l6With_any (s : ByteArray) (b : UInt8) (w : World) (hs : s.size = 64) :
    Calls Tryz.prog 96 #[.string s, .int .u8 (b.toNat : Int)] w fun e w' => e = .returned (.string (wkB b s)) ∧ Below w.heap.size w w' := by
  have hlen : (xorL s.data.toList (repB b).data.toList).length = s.size := by simpa using xorL_len s.data.toList (repB b).data.toList (by simp [repB_size, hs])
  have HL := Lib.hid hlen
  have HW : Hid (wkB b s = ⟨(xorL s.data.toList (repB b).data.toList).toArray⟩) := Lib.hid rfl
  have HSN := Lib.hid (fun k h => wi_snoc s b k h (by omega))
  generalize xorL s.data.toList (repB b).data.toList = X at HL HW HSN
  have hs' : s.size ≤ 64 := by omega
  have hbb := b.toNat_lt
  clear hlen hs
  go_enter Tryz.func96, Tryz.ntmps96
  go_wp2
  go_loopw [5, 6] (fun v i wr => ∃ k : Nat, k ≤ s.size ∧ i = .int .i64 k ∧ OwnB wr w.heap.size v (X.take k) ∧ Below w.heap.size w wr)
    (fun _ i _ => s.size - (intOf i).toNat)
  case atStart =>
    exact ⟨0, Nat.zero_le _, rfl, OwnB.lit w _ (Nat.le_refl _), (Below.refl _ _).alloc (Nat.le_refl _) _⟩
  case round =>
    obtain ⟨k, hk, rfl, hown, hbel⟩ := hrel
    by_cases hlt : k < s.size
    · have hsz := hbel.size
      go_wp2_with (at_builtin; refine wpList_appB rfl (.tmp 14) (.tmp 20) rfl w.heap.size _ _ rfl (hown.alloc _) wr.heap.size 1 _ _ [s[k] ^^^ b] rfl (heap_alloc_new wr _) (by simp [bc, xor8]) rfl (by decide) (by simp; omega) (by simp; omega) ?_; intro v1 w1 hown1 hb1)
      have hsn := HSN.out k hlt
      rw [← hsn] at hown1
      clear hsn
      have hb2 := (hbel.alloc hsz _).trans hb1
      clear hb1 hown
      go_wp2
      go_roundw
      case rel => exact ⟨k + 1, by omega, by go_num, hown1, hb2⟩
      case measure => simp [intOf]; omega
    · have hc := conv_ownB hown
      go_wp2
      go_ret
      have : k = s.size := by omega
      subst this
      refine ⟨?_, hbel⟩
      rw [List.take_of_length_le (by rw [HL.out]; exact Nat.le_refl _), HW.out]
      rfl

set_option maxRecDepth 100000 in
set_option maxHeartbeats 2000000 in
theorem l6Hmac_any (key text : ByteArray) (w : World) (hk : key.size ≤ 90000) (ht : text.size ≤ 90000) :
    Calls Tryz.prog 67 #[.string key, .string text] w fun e w' => e = .returned (.string (hmB key text)) ∧ Below w.heap.size w w' := by
  have HE : Hid (hmB key text = shaD (wkB 92 (bkB key) ++ shaD (wkB 54 (bkB key) ++ text))) := Lib.hid rfl
  have HB := Lib.hid (l6Key_any key w (by omega))
  have hbs := bkB_size key
  obtain ⟨B, hB⟩ : ∃ B, B = bkB key := ⟨_, rfl⟩
  rw [← hB] at HB HE hbs
  have HX1 := Lib.hid (fun w => l6With_any B 54 w hbs)
  have HX2 := Lib.hid (fun w => l6With_any B 92 w hbs)
  rw [show ((54 : UInt8).toNat : Int) = 54 from rfl] at HX1
  rw [show ((92 : UInt8).toNat : Int) = 92 from rfl] at HX2
  have hx1 := wkB_size 54 B hbs
  have hx2 := wkB_size 92 B hbs
  generalize wkB 54 B = X1 at HX1 HE hx1
  generalize wkB 92 B = X2 at HX2 HE hx2
  obtain ⟨A1, hA1⟩ : ∃ A, X1 ++ text = A := ⟨_, rfl⟩
  have hs1 : A1.size = X1.size + text.size := by rw [← hA1, ByteArray.size_append]
  rw [hA1] at HE
  have HD1 := Lib.hid (fun w => l5Sha_any A1 w (by omega))
  have hi := shaD_size A1
  generalize shaD A1 = I at HD1 HE hi
  obtain ⟨A2, hA2⟩ : ∃ A, X2 ++ I = A := ⟨_, rfl⟩
  have hs2 : A2.size = X2.size + I.size := by rw [← hA2, ByteArray.size_append]
  rw [hA2] at HE
  have HD2 := Lib.hid (fun w => l5Sha_any A2 w (by omega))
  generalize shaD A2 = O at HD2 HE
  have k1 : X1.size + text.size ≤ 100000 := by omega
  have k2 : X2.size + I.size ≤ 6000 := by omega
  rw [HE.out]
  clear HE hB hs1 hs2 hx1 hx2 hi hbs
  go_enter Tryz.func67, Tryz.ntmps67
  go_wp2_with fail
  refine HB.out.mono ?_
  rintro e w1 ⟨rfl, hb1⟩
  clear HB
  go_wp2_with fail
  refine (HX2.out _).mono ?_
  rintro e w2 ⟨rfl, hb2⟩
  have hB2 := hb1.trans (hb2.mono hb1.size)
  clear HX2 hb1 hb2
  go_wp2_with fail
  refine (HX1.out _).mono ?_
  rintro e w3 ⟨rfl, hb3⟩
  have hB3 := hB2.trans (hb3.mono hB2.size)
  clear HX1 hB2 hb3
  go_wp2_with fail
  refine (HD1.out _).mono ?_
  rintro e w4 ⟨rfl, hb4⟩
  have hB4 := hB3.trans (hb4.mono hB3.size)
  clear HD1 hB3 hb4
  go_wp2_with fail
  refine (HD2.out _).mono ?_
  rintro e w7 ⟨rfl, hb7⟩
  have hB7 := hB4.trans (hb7.mono hB4.size)
  clear HD2 hB4 hb7
  go_wp2
  go_ret
  exact ⟨rfl, hB7⟩

end Go.Proofs.YtfjaincogbdeiaaGreatDoor
