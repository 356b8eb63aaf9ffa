/- Joined: W5m, W5n, W6b, W6c. -/
import Derived.Test.YtlipgmaiooljkaaGreatDoorH27
import Derived.Test.YtlipgmaiooljkaaGreatDoorH30
/- W5m -/
namespace Go.Proofs.YtlipgmaiooljkaaGreatDoor
open Go.ChangeShapes Go.WideShapes Go.ChangeAt Go.RowKit Go.Shelf
set_option linter.unusedVariables false

end Go.Proofs.YtlipgmaiooljkaaGreatDoor

/- W5n -/
namespace Go.Proofs.YtlipgmaiooljkaaGreatDoor
open Go.ChangeShapes Go.WideShapes Go.ChangeAt Go.RowKit Go.Shelf
set_option linter.unusedVariables false

/-- The text of a state. -/
def stB (l : List Int) : ByteArray := ⟨(stoB l).toArray⟩
theorem stB_size (l : List Int) (h : l.length = 8) : (stB l).size = 32 := by unfold stB; rw [ba_list_size, stoB_len, h]
theorem stB_step (p : ByteArray) (n : Nat) : stpB (stB (blksN p n)) (blk p n) = stB (blksN p (n + 1)) := by
  show (⟨(stoB (stepL (beL (stB (blksN p n)).data.toList) (beL (blk p n).data.toList))).toArray⟩ : ByteArray) = stB (stepL (blksN p n) (beL (blk p n).data.toList))
  have : (stB (blksN p n)).data.toList = stoB (blksN p n) := by unfold stB; simp
  rw [this, beL_stoB _ (blksN_words p n)]
  rfl
set_option maxRecDepth 100000 in
theorem stB_first (p : ByteArray) : stB (blksN p 0) = ⟨#[106, 9, 230, 103, 187, 103, 174, 133, 60, 110, 243, 114, 165, 79, 245, 58, 81, 14, 82, 127, 155, 5, 104, 140, 31, 131, 217, 171, 91, 224, 205, 25]⟩ := by
  show stB sha0 = _
  decide +kernel

set_option maxRecDepth 100000 in
set_option maxHeartbeats 4000000 in
theorem l5Sha_any (t : ByteArray) (w : World) (ht : t.size ≤ 100000) :
    Calls Tryz.prog 91 #[.string t] w fun e w' => e = .returned (.string (shaD t)) ∧ Below w.heap.size w w' := by
  have HP := Lib.hid (l5Pad_any t · ht)
  have hpm := padS_mod t
  have hpl := padS_le t
  have HE : Hid (shaD t = stB (blksN (padS t) ((padS t).size / 64))) := Lib.hid rfl
  generalize shaD t = out at HE ⊢
  generalize padS t = p at HP hpm hpl HE
  have hpb : p.size ≤ 200000 := by omega
  have HPM := Lib.hid hpm
  have HBS := Lib.hid (stB_step p)
  have HBZ := Lib.hid (fun n => stB_size (blksN p n) (blksN_len p n))
  clear hpm hpl ht
  go_enter Tryz.func91, Tryz.ntmps91
  go_wp2_with fail
  refine (HP.out _).mono ?_
  rintro e w4 ⟨rfl, hB4⟩
  clear HP
  go_wp2
  rw [← stB_first p]
  generalize hfb : stB (blksN p 0) = f0
  have HF0 := Lib.hid hfb
  clear hfb
  go_loopw [4, 5] (fun s i wr => ∃ k n : Nat, Hid (n = 64 * k) ∧ n ≤ p.size ∧ i = .int .i64 n ∧ s = .string (stB (blksN p k)) ∧ Below w.heap.size w wr) (fun _ i _ => p.size - (intOf i).toNat)
  case atStart => exact ⟨0, 0, Lib.hid rfl, Nat.zero_le _, rfl, by rw [HF0.out], hB4⟩
  case round =>
    obtain ⟨k, n, hnk, hn, rfl, rfl, hB⟩ := hrel
    clear hB4
    have hs1 := HBZ.out k
    have hst := HBS.out k
    obtain ⟨S1, hS1⟩ : ∃ S1, S1 = stB (blksN p k) := ⟨_, rfl⟩
    rw [← hS1] at hs1 hst ⊢
    have HS1 := Lib.hid hS1
    clear hS1
    by_cases hlt : n < p.size
    · have hfit : n + 64 ≤ p.size := by have := HPM.out; have := hnk.out; omega
      have hbe : blk p k = p.extract n (n + 64) := by rw [hnk.out]; rfl
      have hbs : (p.extract n (n + 64)).size = 64 := by rw [ByteArray.size_extract]; omega
      rw [hbe] at hst
      have HC := Lib.hid (l5Step_any S1 (p.extract n (n + 64)) · hs1 hbs)
      rw [hst] at HC
      obtain ⟨S2, hS2⟩ : ∃ S2, S2 = stB (blksN p (k + 1)) := ⟨_, rfl⟩
      rw [← hS2] at HC
      have HS2 := Lib.hid hS2
      clear hs1 hst hbe hbs hS2
      go_wp2_with fail
      refine (HC.out _).mono ?_
      rintro en w5 ⟨rfl, hb5⟩
      have hB5 := hB.trans (hb5.mono hB.size)
      clear HC hb5 hB
      go_wp2
      go_roundw
      case rel => exact ⟨k + 1, n + 64, Lib.hid (by rw [hnk.out]; omega), hfit, by go_num, by rw [HS2.out], hB5⟩
      case measure => simp [intOf]; omega
    · have hke : k = p.size / 64 := by have := hnk.out; have := HPM.out; omega
      have HO : Hid (S1 = out) := Lib.hid (by rw [HS1.out, HE.out, hke])
      clear hke hs1 hst
      go_wp2
      go_ret
      exact ⟨ret_str HO.out, hB⟩

end Go.Proofs.YtlipgmaiooljkaaGreatDoor

/- W6b -/
namespace Go.Proofs.YtlipgmaiooljkaaGreatDoor
open Go.ChangeShapes Go.WideShapes Go.ChangeAt Go.RowKit Go.Shelf
set_option linter.unusedVariables false

theorem ngh_snoc (k : ByteArray) (j : Nat) : k ++ nghB j ++ ⟨#[0]⟩ = k ++ nghB (j + 1) := by
  apply ba_eq
  rw [ba_app4, ba_app4, ba_app4, nghB_list, nghB_list, List.append_assoc, List.replicate_succ']
theorem ngh_none (k : ByteArray) : k ++ nghB 0 = k := by
  apply ba_eq
  rw [ba_app4, nghB_list]; simp

set_option maxRecDepth 100000 in
set_option maxHeartbeats 1600000 in
theorem l6Key_any (key : ByteArray) (w : World) (hk : key.size ≤ 100000) :
    Calls Tryz.prog 90 #[.string key] w fun e w' => e = .returned (.string (bkB key)) ∧ Below w.heap.size w w' := by
  have HE : Hid (bkB key = hKey key ++ nghB (64 - (hKey key).size)) := Lib.hid rfl
  have hle := hKey_le key
  have HS : Hid (∀ j, (hKey key ++ nghB j).size = (hKey key).size + j) := Lib.hid (fun j => by rw [ByteArray.size_append, nghB_size])
  have HC := Lib.hid (ngh_snoc (hKey key))
  have H0 := Lib.hid (ngh_none (hKey key))
  generalize bkB key = out at HE ⊢
  by_cases h : 64 < key.size
  · have HD := Lib.hid (l5Sha_any key w hk)
    rw [show shaD key = hKey key from (if_pos h).symm] at HD
    generalize hKey key = D at HD HE hle HS HC H0
    go_enter Tryz.func90, Tryz.ntmps90
    go_wp2_with fail
    refine HD.out.mono ?_
    rintro e w1 ⟨rfl, hb1⟩
    clear HD h
    go_wp2
    go_loopw [0] (fun s wr => ∃ j : Nat, D.size + j ≤ 64 ∧ s = .string (D ++ nghB j) ∧ Below w.heap.size w wr) (fun s _ => 64 - (match s with | .string b => b.size | _ => 0))
    case atStart => exact ⟨0, by omega, by rw [H0.out], hb1⟩
    case round =>
      obtain ⟨j, hj, rfl, hB⟩ := hrel
      clear hb1
      have hsz := HS.out j
      have hsn := HC.out j
      have hsz2 := HS.out (j + 1)
      obtain ⟨S, hS⟩ : ∃ S, S = D ++ nghB j := ⟨_, rfl⟩
      obtain ⟨S2, hS2⟩ : ∃ S, S = D ++ nghB (j + 1) := ⟨_, rfl⟩
      rw [← hS] at hsz hsn ⊢
      rw [← hS2] at hsn hsz2
      have HS1 := Lib.hid hS
      have HS2 := Lib.hid hS2
      have HZ := Lib.hid hsz
      have HZ2 := Lib.hid hsz2
      clear hS hS2
      by_cases hlt : S.size < 64
      · have hk1 : S.size + 1 ≤ 100 := by omega
        clear hsz hsz2
        go_wp2
        refine ⟨⟨j + 1, by have := HZ.out; omega, by rw [HS2.out], hB⟩, ?_⟩
        show 64 - S2.size < 64 - S.size
        have h3 := HZ.out
        have h4 := HZ2.out
        omega
      · have HO : Hid (S = out) := Lib.hid (by rw [HS1.out, HE.out, show j = 64 - D.size by omega])
        clear hsz hsz2
        go_wp2
        go_ret
        exact ⟨ret_str HO.out, hB⟩
  · have hD : hKey key = key := if_neg h
    rw [hD] at HE hle HS HC H0
    have hb1 := Below.refl w.heap.size w
    clear hD
    obtain ⟨D, hD⟩ : ∃ D, D = key := ⟨_, rfl⟩
    rw [← hD] at HE hle HS HC H0 h ⊢
    clear hD
    go_enter Tryz.func90, Tryz.ntmps90
    go_wp2
    go_loopw [0] (fun s wr => ∃ j : Nat, D.size + j ≤ 64 ∧ s = .string (D ++ nghB j) ∧ Below w.heap.size w wr) (fun s _ => 64 - (match s with | .string b => b.size | _ => 0))
    case atStart => exact ⟨0, by omega, by rw [H0.out], hb1⟩
    case round =>
      obtain ⟨j, hj, rfl, hB⟩ := hrel
      clear hb1
      have hsz := HS.out j
      have hsn := HC.out j
      have hsz2 := HS.out (j + 1)
      obtain ⟨S, hS⟩ : ∃ S, S = D ++ nghB j := ⟨_, rfl⟩
      obtain ⟨S2, hS2⟩ : ∃ S, S = D ++ nghB (j + 1) := ⟨_, rfl⟩
      rw [← hS] at hsz hsn ⊢
      rw [← hS2] at hsn hsz2
      have HS1 := Lib.hid hS
      have HS2 := Lib.hid hS2
      have HZ := Lib.hid hsz
      have HZ2 := Lib.hid hsz2
      clear hS hS2
      by_cases hlt : S.size < 64
      · have hk1 : S.size + 1 ≤ 100 := by omega
        clear hsz hsz2
        go_wp2
        refine ⟨⟨j + 1, by have := HZ.out; omega, by rw [HS2.out], hB⟩, ?_⟩
        show 64 - S2.size < 64 - S.size
        have h3 := HZ.out
        have h4 := HZ2.out
        omega
      · have HO : Hid (S = out) := Lib.hid (by rw [HS1.out, HE.out, show j = 64 - D.size by omega])
        clear hsz hsz2
        go_wp2
        go_ret
        exact ⟨ret_str HO.out, hB⟩

theorem wi_snoc (s : ByteArray) (b : UInt8) (k : Nat) (h : k < s.size) (h64 : s.size ≤ 64) : (xorL s.data.toList (repB b).data.toList).take (k + 1) = (xorL s.data.toList (repB b).data.toList).take k ++ [s[k] ^^^ b] := by
  have hk : k < (repB b).size := by rw [repB_size]; omega
  rw [xorL_snoc s (repB b) k h hk]
  congr 3
  exact List.getElem_replicate (a := b) (n := 64) (i := k) (by simp; omega)

set_option maxRecDepth 100000 in
set_option maxHeartbeats 1600000 in
theorem l6With_any (s : ByteArray) (b : UInt8) (w : World) (hs : s.size = 64) :
    Calls Tryz.prog 92 #[.string s, .int .u8 (b.toNat : Int)] w fun e w' => e = .returned (.string (wkB b s)) ∧ Below w.heap.size w w' := by
  have hlen : (xorL s.data.toList (repB b).data.toList).length = s.size := by simpa using xorL_len s.data.toList (repB b).data.toList (by simp [repB_size, hs])
  have HL := Lib.hid hlen
  have HW : Hid (wkB b s = ⟨(xorL s.data.toList (repB b).data.toList).toArray⟩) := Lib.hid rfl
  have HSN := Lib.hid (fun k h => wi_snoc s b k h (by omega))
  generalize xorL s.data.toList (repB b).data.toList = X at HL HW HSN
  have hs' : s.size ≤ 64 := by omega
  have hbb := b.toNat_lt
  clear hlen hs
  go_enter Tryz.func92, Tryz.ntmps92
  go_wp2
  go_loopw [5, 6] (fun v i wr => ∃ k : Nat, k ≤ s.size ∧ i = .int .i64 k ∧ OwnB wr w.heap.size v (X.take k) ∧ Below w.heap.size w wr)
    (fun _ i _ => s.size - (intOf i).toNat)
  case atStart =>
    exact ⟨0, Nat.zero_le _, rfl, OwnB.lit w _ (Nat.le_refl _), (Below.refl _ _).alloc (Nat.le_refl _) _⟩
  case round =>
    obtain ⟨k, hk, rfl, hown, hbel⟩ := hrel
    by_cases hlt : k < s.size
    · have hsz := hbel.size
      go_wp2_with (at_builtin; refine wpList_appB rfl (.tmp 14) (.tmp 20) rfl w.heap.size _ _ rfl (hown.alloc _) wr.heap.size 1 _ _ [s[k] ^^^ b] rfl (heap_alloc_new wr _) (by simp [bc, xor8]) rfl (by decide) (by simp; omega) (by simp; omega) ?_; intro v1 w1 hown1 hb1)
      have hsn := HSN.out k hlt
      rw [← hsn] at hown1
      clear hsn
      have hb2 := (hbel.alloc hsz _).trans hb1
      clear hb1 hown
      go_wp2
      go_roundw
      case rel => exact ⟨k + 1, by omega, by go_num, hown1, hb2⟩
      case measure => simp [intOf]; omega
    · have hc := conv_ownB hown
      go_wp2
      go_ret
      have : k = s.size := by omega
      subst this
      refine ⟨?_, hbel⟩
      rw [List.take_of_length_le (by rw [HL.out]; exact Nat.le_refl _), HW.out]
      rfl

set_option maxRecDepth 100000 in
set_option maxHeartbeats 2000000 in
theorem l6Hmac_any (key text : ByteArray) (w : World) (hk : key.size ≤ 90000) (ht : text.size ≤ 90000) :
    Calls Tryz.prog 63 #[.string key, .string text] w fun e w' => e = .returned (.string (hmB key text)) ∧ Below w.heap.size w w' := by
  have HE : Hid (hmB key text = shaD (wkB 92 (bkB key) ++ shaD (wkB 54 (bkB key) ++ text))) := Lib.hid rfl
  have HB := Lib.hid (l6Key_any key w (by omega))
  have hbs := bkB_size key
  obtain ⟨B, hB⟩ : ∃ B, B = bkB key := ⟨_, rfl⟩
  rw [← hB] at HB HE hbs
  have HX1 := Lib.hid (fun w => l6With_any B 54 w hbs)
  have HX2 := Lib.hid (fun w => l6With_any B 92 w hbs)
  rw [show ((54 : UInt8).toNat : Int) = 54 from rfl] at HX1
  rw [show ((92 : UInt8).toNat : Int) = 92 from rfl] at HX2
  have hx1 := wkB_size 54 B hbs
  have hx2 := wkB_size 92 B hbs
  generalize wkB 54 B = X1 at HX1 HE hx1
  generalize wkB 92 B = X2 at HX2 HE hx2
  obtain ⟨A1, hA1⟩ : ∃ A, X1 ++ text = A := ⟨_, rfl⟩
  have hs1 : A1.size = X1.size + text.size := by rw [← hA1, ByteArray.size_append]
  rw [hA1] at HE
  have HD1 := Lib.hid (fun w => l5Sha_any A1 w (by omega))
  have hi := shaD_size A1
  generalize shaD A1 = I at HD1 HE hi
  obtain ⟨A2, hA2⟩ : ∃ A, X2 ++ I = A := ⟨_, rfl⟩
  have hs2 : A2.size = X2.size + I.size := by rw [← hA2, ByteArray.size_append]
  rw [hA2] at HE
  have HD2 := Lib.hid (fun w => l5Sha_any A2 w (by omega))
  generalize shaD A2 = O at HD2 HE
  have k1 : X1.size + text.size ≤ 100000 := by omega
  have k2 : X2.size + I.size ≤ 6000 := by omega
  rw [HE.out]
  clear HE hB hs1 hs2 hx1 hx2 hi hbs
  go_enter Tryz.func63, Tryz.ntmps63
  go_wp2_with fail
  refine HB.out.mono ?_
  rintro e w1 ⟨rfl, hb1⟩
  clear HB
  go_wp2_with fail
  refine (HX2.out _).mono ?_
  rintro e w2 ⟨rfl, hb2⟩
  have hB2 := hb1.trans (hb2.mono hb1.size)
  clear HX2 hb1 hb2
  go_wp2_with fail
  refine (HX1.out _).mono ?_
  rintro e w3 ⟨rfl, hb3⟩
  have hB3 := hB2.trans (hb3.mono hB2.size)
  clear HX1 hB2 hb3
  go_wp2_with fail
  refine (HD1.out _).mono ?_
  rintro e w4 ⟨rfl, hb4⟩
  have hB4 := hB3.trans (hb4.mono hB3.size)
  clear HD1 hB3 hb4
  go_wp2_with fail
  refine (HD2.out _).mono ?_
  rintro e w7 ⟨rfl, hb7⟩
  have hB7 := hB4.trans (hb7.mono hB4.size)
  clear HD2 hB4 hb7
  go_wp2
  go_ret
  exact ⟨rfl, hB7⟩

end Go.Proofs.YtlipgmaiooljkaaGreatDoor

/- W6c -/
namespace Go.Proofs.YtlipgmaiooljkaaGreatDoor
open Go.ChangeShapes Go.WideShapes Go.ChangeAt Go.RowKit Go.Shelf
set_option linter.unusedVariables false

/-- The parts: each the tag of what T makes of its number and of the part ahead. -/
def ptB (key : ByteArray) (T : Nat → ByteArray → ByteArray) : Nat → ByteArray
  | 0 => ⟨#[]⟩
  | n + 1 => hmB key (T (n + 1) (ptB key T n))
theorem ptB_size (key : ByteArray) (T : Nat → ByteArray → ByteArray) (n : Nat) : (ptB key T (n + 1)).size = 32 := hmB_size _ _
theorem ptB_le (key : ByteArray) (T : Nat → ByteArray → ByteArray) : ∀ n, (ptB key T n).size ≤ 32
  | 0 => by show 0 ≤ 32; omega
  | n + 1 => by rw [ptB_size]; omega
/-- So many parts, one behind the other. -/
def ptA (key : ByteArray) (T : Nat → ByteArray → ByteArray) : Nat → ByteArray
  | 0 => ⟨#[]⟩
  | n + 1 => ptA key T n ++ ptB key T (n + 1)
theorem ptA_size (key : ByteArray) (T : Nat → ByteArray → ByteArray) : ∀ n, (ptA key T n).size = 32 * n
  | 0 => rfl
  | n + 1 => by
    show (ptA key T n ++ ptB key T (n + 1)).size = _
    rw [ByteArray.size_append, ptA_size key T n, ptB_size]; omega
/-- So many parts, turned by each other. -/
def ptX (key : ByteArray) (T : Nat → ByteArray → ByteArray) : Nat → ByteArray
  | 0 => nghB 32
  | n + 1 => xorB (ptX key T n) (ptB key T (n + 1))
theorem ptX_size (key : ByteArray) (T : Nat → ByteArray → ByteArray) : ∀ n, (ptX key T n).size = 32
  | 0 => nghB_size 32
  | n + 1 => by
    show (xorB (ptX key T n) (ptB key T (n + 1))).size = _
    rw [xorB_size _ _ (by rw [ptX_size key T n, ptB_size]; omega), ptX_size key T n]
theorem xorL_noughts : ∀ (l : List UInt8), xorL (List.replicate l.length 0) l = l
  | [] => rfl
  | x :: l => by
    show (0 ^^^ x) :: xorL (List.replicate l.length 0) l = x :: l
    rw [xorL_noughts l, UInt8.zero_xor]
theorem ptX_one (key : ByteArray) (T : Nat → ByteArray → ByteArray) : ptX key T 1 = ptB key T 1 := by
  apply ba_eq
  show (xorB (nghB 32) (ptB key T 1)).data.toList = _
  unfold xorB
  rw [nghB_list]
  have h : (ptB key T 1).data.toList.length = 32 := by have := ptB_size key T 0; simpa using this
  have := xorL_noughts (ptB key T 1).data.toList
  rw [h] at this
  simpa using this
/-- What is expanded: the last part, info and a byte; what is stretched: salt and four bytes, then the last part. -/
def exT (info : ByteArray) (n : Nat) (last : ByteArray) : ByteArray := last ++ info ++ ⟨#[UInt8.ofNat n]⟩
theorem exT_size (info : ByteArray) (n : Nat) (last : ByteArray) : (exT info n last).size = last.size + info.size + 1 := by
  unfold exT; rw [ByteArray.size_append, ByteArray.size_append]; rfl
def stT (salt : ByteArray) (n : Nat) (last : ByteArray) : ByteArray := if n = 1 then salt ++ ⟨#[0, 0, 0, 1]⟩ else last
theorem stT_le (salt : ByteArray) (n : Nat) (last : ByteArray) : (stT salt n last).size ≤ salt.size + last.size + 4 := by
  unfold stT; split
  · rw [ByteArray.size_append]; show salt.size + 4 ≤ _; omega
  · omega
def exR (key info : ByteArray) (n : Int) : ByteArray := if key.size ≤ 4000 ∧ info.size ≤ 1000 ∧ 0 ≤ n ∧ n ≤ 1000 then (ptA key (exT info) ((n.toNat + 31) / 32)).extract 0 n.toNat else ⟨#[]⟩
def srR (pass salt : ByteArray) (n : Int) : ByteArray := if pass.size ≤ 1000 ∧ salt.size ≤ 1000 ∧ 1 ≤ n ∧ n ≤ 50 then ptX pass (stT salt) n.toNat else ⟨#[]⟩

theorem conv_one6 (w : World) (b : UInt8) (x : Int) (hx : x = (b.toNat : Int)) : (convert 36 9 (.slice (some ⟨w.heap.size, 0, none⟩) 1 1)).run Tryz.prog (w.alloc (.cells #[.int .u8 x] 5)) = .ok (.string ⟨#[b]⟩) (w.alloc (.cells #[.int .u8 x] 5)) := by
  subst hx
  refine run_convert_bytes_back _ 36 9 5 ⟨w.heap.size, 0, none⟩ 1 [b] Tryz.underlying36 Tryz.underlying5 Tryz.underlying9 ?_
  intro j hj
  have : j = 0 := by simpa using hj
  subst this
  simp [go_sem]
theorem ofNat_toNat (n : Nat) (h : n < 256) : (UInt8.ofNat n).toNat = n := by simp; omega

theorem stT_more (salt : ByteArray) (k : Nat) (last : ByteArray) : stT salt (k + 2) last = last := if_neg (by omega)

set_option maxRecDepth 100000 in
set_option maxHeartbeats 2000000 in
theorem specStretched_any (pass salt : ByteArray) (n : Int) (w : World) (hk : pass.size ≤ maxLen) (hi : salt.size ≤ maxLen) (hn : (Lit.int .i64 n).wf = true) :
    Calls Tryz.prog 29 #[.string pass, .string salt, .int .i64 n] w fun e w' => e = .returned (.string (srR pass salt n)) ∧ Below w.heap.size w w' := by
  unfold maxLen at hk hi
  by_cases h1 : pass.size ≤ 1000
  · by_cases h2 : salt.size ≤ 1000
    · by_cases h3 : 1 ≤ n
      · by_cases h4 : n ≤ 50
        · obtain ⟨m, rfl⟩ := Int.eq_ofNat_of_zero_le (show 0 ≤ n by omega)
          have HE : Hid (srR pass salt (m : Int) = ptX pass (stT salt) m) := Lib.hid (by unfold srR; rw [if_pos ⟨h1, h2, h3, h4⟩]; rfl)
          generalize srR pass salt (m : Int) = out at HE ⊢
          have HS := Lib.hid (ptX_size pass (stT salt))
          have HL := Lib.hid (ptB_le pass (stT salt))
          have HLe := Lib.hid (ptB_size pass (stT salt))
          have HH := Lib.hid (fun t w (h : t.size ≤ 4000) => l6Hmac_any pass t w (by omega) (by omega))
          have hd1 : ¬ (1000 < (pass.size : Int)) := by omega
          have hd2 : ¬ (1000 < (salt.size : Int)) := by omega
          have HX1 := Lib.hid (ptX_one pass (stT salt))
          have HP1 : Hid (ptB pass (stT salt) 1 = hmB pass (salt ++ ⟨#[0, 0, 0, 1]⟩)) := Lib.hid rfl
          obtain ⟨S, hS⟩ : ∃ S : ByteArray, salt ++ ⟨#[0, 0, 0, 1]⟩ = S := ⟨_, rfl⟩
          have hss : S.size = salt.size + 4 := by rw [← hS, ByteArray.size_append]; rfl
          rw [hS] at HP1
          have HC1 := Lib.hid (fun w => HH.out S w (by omega))
          rw [← HP1.out] at HC1
          obtain ⟨U, hU⟩ : ∃ U, U = ptB pass (stT salt) 1 := ⟨_, rfl⟩
          rw [← hU] at HC1 HX1
          have HU := Lib.hid hU
          have hsum : salt.size + 4 ≤ 2000 := by omega
          clear h1 h2 hk hi hss hU HP1
          go_enter Tryz.func29, Tryz.ntmps29
          go_wp2_with (first | (refine (HC1.out _).mono ?_; rintro e w1 ⟨rfl, hb1⟩) | (go_at_call 27; go_in))
          go_loopw [7, 8, 9] (fun u o i wr => ∃ k : Nat, k + 1 ≤ m ∧ i = .int .i64 ((k + 1 : Nat) : Int) ∧ o = .string (ptX pass (stT salt) (k + 1)) ∧ u = .string (ptB pass (stT salt) (k + 1)) ∧ Below w.heap.size w wr) (fun _ _ i _ => 60 - (intOf i).toNat)
          case atStart => exact ⟨0, by omega, rfl, by rw [HX1.out], by rw [HU.out], hb1⟩
          case round =>
            obtain ⟨k, hkm, rfl, rfl, rfl, hB⟩ := hrel
            clear hb1
            have hs := HS.out (k + 1)
            have hl := HLe.out k
            have hl2 := HLe.out (k + 1)
            have HN : Hid (ptB pass (stT salt) (k + 1 + 1) = hmB pass (stT salt (k + 2) (ptB pass (stT salt) (k + 1)))) := Lib.hid rfl
            rw [stT_more] at HN
            have HN2 : Hid (ptX pass (stT salt) (k + 1 + 1) = xorB (ptX pass (stT salt) (k + 1)) (ptB pass (stT salt) (k + 1 + 1))) := Lib.hid rfl
            obtain ⟨A, hA⟩ : ∃ A, A = ptX pass (stT salt) (k + 1) := ⟨_, rfl⟩
            obtain ⟨L, hL⟩ : ∃ L, L = ptB pass (stT salt) (k + 1) := ⟨_, rfl⟩
            rw [← hA] at hs HN2 ⊢
            rw [← hL] at hl HN ⊢
            have HA := Lib.hid hA
            clear hA hL
            by_cases hlt : ((k + 1 : Nat) : Int) < (m : Int)
            · have HC := Lib.hid (fun w => HH.out L w (by omega))
              rw [← HN.out] at HC
              obtain ⟨P, hP⟩ : ∃ P, P = ptB pass (stT salt) (k + 1 + 1) := ⟨_, rfl⟩
              rw [← hP] at HC hl2 HN2
              have HP := Lib.hid hP
              have HX := Lib.hid (fun w => l1Xor_any A P w (by omega) (by omega) (by unfold maxLen; omega))
              rw [← HN2.out] at HX
              obtain ⟨X, hX⟩ : ∃ X, X = ptX pass (stT salt) (k + 1 + 1) := ⟨_, rfl⟩
              rw [← hX] at HX
              have HXe := Lib.hid hX
              have hk50 : k < 50 := by omega
              clear hX hP hs hl hl2 HN HN2
              go_wp2_with fail
              refine (HC.out _).mono ?_
              rintro e w1 ⟨rfl, hb1⟩
              have hB1 := hB.trans (hb1.mono hB.size)
              clear HC hb1 hB
              go_wp2_with fail
              refine (HX.out _).mono ?_
              rintro e w2 ⟨rfl, hb2⟩
              have hB2 := hB1.trans (hb2.mono hB1.size)
              clear HX hb2 hB1
              go_wp2
              go_roundw
              case rel => exact ⟨k + 1, by omega, by go_num, by rw [HXe.out], by rw [HP.out], hB2⟩
              case measure => simp [intOf]; omega
            · have hke : k + 1 = m := by omega
              have HO : Hid (A = out) := Lib.hid (by rw [HA.out, HE.out, hke])
              clear hs hl hl2 HN HN2 hke
              go_wp2
              go_ret
              exact ⟨ret_str HO.out, hB⟩
        · have HR : Hid (srR pass salt n = ⟨#[]⟩) := Lib.hid (by unfold srR; rw [if_neg (by omega)])
          rw [HR.out]
          go_enter Tryz.func29, Tryz.ntmps29
          go_wp2
          go_ret
          exact ⟨rfl, Below.refl _ _⟩
      · have HR : Hid (srR pass salt n = ⟨#[]⟩) := Lib.hid (by unfold srR; rw [if_neg (by omega)])
        rw [HR.out]
        go_enter Tryz.func29, Tryz.ntmps29
        go_wp2
        go_ret
        exact ⟨rfl, Below.refl _ _⟩
    · have HR : Hid (srR pass salt n = ⟨#[]⟩) := Lib.hid (by unfold srR; rw [if_neg (by omega)])
      rw [HR.out]
      have hd2 : 1000 < (salt.size : Int) := by omega
      go_enter Tryz.func29, Tryz.ntmps29
      go_wp2
      go_ret
      exact ⟨rfl, Below.refl _ _⟩
  · have HR : Hid (srR pass salt n = ⟨#[]⟩) := Lib.hid (by unfold srR; rw [if_neg (by omega)])
    rw [HR.out]
    have hd2 : 1000 < (pass.size : Int) := by omega
    go_enter Tryz.func29, Tryz.ntmps29
    go_wp2
    go_ret
    exact ⟨rfl, Below.refl _ _⟩
end Go.Proofs.YtlipgmaiooljkaaGreatDoor
