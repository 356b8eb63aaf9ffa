/- Joined: W4a. -/
import Derived.Laws.DeepStrings4
import Derived.IntWalk
import Derived.Test.YtfjaincogbdeiaaGreatDoorH1
import Derived.Test.YtfjaincogbdeiaaGreatDoorH2
import Derived.Test.YtfjaincogbdeiaaGreatDoorH9
/- W4a -/
namespace Go.Proofs.YtfjaincogbdeiaaGreatDoor
open Go.ChangeShapes Go.WideShapes Go.ChangeAt Go.RowKit
set_option linter.unusedVariables false

/-- So many noughts. -/
def nghB (n : Nat) : ByteArray := ⟨(List.replicate n 0).toArray⟩
theorem nghB_size (n : Nat) : (nghB n).size = n := by show (List.replicate n (0 : UInt8)).toArray.size = n; simp
theorem nghB_list (n : Nat) : (nghB n).data.toList = List.replicate n 0 := by unfold nghB; simp
theorem repeatL_one : ∀ n, Lib.repeatL [0] n = List.replicate n 0
  | 0 => rfl
  | n + 1 => by rw [Lib.repeatL, repeatL_one n]; rfl
theorem noughts_any (n : Nat) (w : World) (hn : n ≤ 1000000) :
    Calls Tryz.prog 46 #[.int .i64 (n : Int)] w fun e w' => e = .returned (.string (nghB n)) ∧ Below w.heap.size w w' := by
  have h := fun w => Tryz.strings_Repeat ⟨#[0]⟩ n w (by omega) (by show 1 * n ≤ _; omega)
  rw [show (⟨#[0]⟩ : ByteArray).data.toList = [0] from rfl, repeatL_one] at h
  have H := Lib.hid h
  clear h
  go_enter Tryz.func46, Tryz.ntmps46
  go_wp2_with fail
  refine (H.out _).mono ?_
  rintro e w1 ⟨rfl, hb1⟩
  go_wp2
  go_ret
  exact ⟨rfl, hb1⟩

/-- How many bytes are missing. -/
def room (n tt : Nat) : Nat := (tt - n % tt) % tt
theorem room_lt (n tt : Nat) (h : 1 ≤ tt) : room n tt < tt := Nat.mod_lt _ (by omega)
theorem room_eq (n tt : Nat) (h : 1 ≤ tt) : room n tt = if n % tt = 0 then 0 else tt - n % tt := by
  unfold room
  have hq : n % tt < tt := Nat.mod_lt _ (by omega)
  split
  · rename_i e; rw [e, Nat.sub_zero, Nat.mod_self]
  · rw [Nat.mod_eq_of_lt (by omega)]
theorem room_end (n tt : Nat) (h : 1 ≤ tt) : (n + room n tt) % tt = 0 := by
  have hq : n % tt < tt := Nat.mod_lt _ (by omega)
  rw [room_eq n tt h]
  split
  · rename_i e; exact e
  · rw [Nat.add_mod, Nat.mod_eq_of_lt (show tt - n % tt < tt by omega), show n % tt + (tt - n % tt) = tt by omega, Nat.mod_self]
theorem room_way (n tt j : Nat) (h : 1 ≤ tt) (hj : j < room n tt) : (n + j) % tt ≠ 0 := by
  have hq : n % tt < tt := Nat.mod_lt _ (by omega)
  rw [room_eq n tt h] at hj
  split at hj
  · omega
  · rw [Nat.add_mod, Nat.mod_eq_of_lt (show j < tt by omega), Nat.mod_eq_of_lt (by omega)]; omega
theorem roomTo_any (n tt : Nat) (w : World) (hto : 1 ≤ tt) (h2 : tt ≤ 1000000) (hn : n ≤ 1000000000) :
    Calls Tryz.prog 47 #[.int .i64 (n : Int), .int .i64 (tt : Int)] w fun e w' => e = .returned (.int .i64 (room n tt : Nat)) ∧ w = w' := by
  have hq : n % tt < tt := Nat.mod_lt _ (by omega)
  have hqi : (n : Int) % (tt : Int) = ((n % tt : Nat) : Int) := by simp
  obtain ⟨q, hqe⟩ : ∃ q, q = n % tt := ⟨_, rfl⟩
  have hr : ((tt : Int) - (q : Int)) % (tt : Int) = (room n tt : Nat) := by
    unfold room
    rw [← hqe]
    rw [← hqe] at hq
    rw [show (tt : Int) - (q : Int) = ((tt - q : Nat) : Int) by omega]; simp
  rw [← hqe] at hq hqi
  have hto0 : ¬ (tt : Int) = 0 := by omega
  obtain ⟨r, hre⟩ : ∃ r, r = room n tt := ⟨_, rfl⟩
  rw [← hre] at hr ⊢
  clear hqe hre
  go_enter Tryz.func47, Tryz.ntmps47
  go_wp2
  go_ret
  exact ⟨ret_int hr, rfl⟩

/-- Padded, as the document says it. -/
def padT (t : ByteArray) (j : Nat) : ByteArray := t ++ ⟨#[128]⟩ ++ nghB j
def padR (t : ByteArray) (tt : Int) : ByteArray := if t.size ≤ 4000 ∧ 1 ≤ tt ∧ tt ≤ 256 then padT t (room (t.size + 1) tt.toNat) else ⟨#[]⟩
theorem padT_size (t : ByteArray) (j : Nat) : (padT t j).size = t.size + 1 + j := by
  unfold padT; rw [ByteArray.size_append, ByteArray.size_append, nghB_size]; rfl
theorem ba_app4 (a b : ByteArray) : (a ++ b).data.toList = a.data.toList ++ b.data.toList := by rw [ByteArray.data_append, Array.toList_append]
theorem padT_zero (t : ByteArray) : t ++ ⟨#[128]⟩ = padT t 0 := by
  apply ba_eq
  unfold padT
  rw [ba_app4 (t ++ ⟨#[128]⟩), nghB_list]; simp
theorem padT_succ (t : ByteArray) (j : Nat) : padT t j ++ ⟨#[0]⟩ = padT t (j + 1) := by
  apply ba_eq
  unfold padT
  rw [ba_app4, ba_app4 (t ++ ⟨#[128]⟩), ba_app4 (t ++ ⟨#[128]⟩), nghB_list, nghB_list, List.append_assoc, List.replicate_succ']

set_option maxRecDepth 100000 in
set_option maxHeartbeats 2000000 in
theorem implPadded_any (t : ByteArray) (tt : Int) (w : World) (ht : t.size ≤ maxLen) (hto : (Lit.int .i64 tt).wf = true) :
    Calls Tryz.prog 21 #[.string t, .int .i64 tt] w fun e w' => e = .returned (.string (padR t tt)) ∧ Below w.heap.size w w' := by
  unfold maxLen at ht
  by_cases h1 : t.size ≤ 4000
  · by_cases h2 : 1 ≤ tt
    · by_cases h3 : tt ≤ 256
      · obtain ⟨m, rfl⟩ := Int.eq_ofNat_of_zero_le (show 0 ≤ tt by omega)
        have hms : (t ++ ⟨#[128]⟩ : ByteArray).size = t.size + 1 := by rw [ByteArray.size_append]; rfl
        have HR : Hid (padR t (m : Int) = t ++ ⟨#[128]⟩ ++ nghB (room (t ++ ⟨#[128]⟩ : ByteArray).size m)) := Lib.hid (by unfold padR padT; rw [if_pos ⟨h1, h2, h3⟩, hms]; simp)
        obtain ⟨M, hM⟩ : ∃ M : ByteArray, M = t ++ ⟨#[128]⟩ := ⟨_, rfl⟩
        have hM' := hM.symm
        rw [← hM] at hms HR
        have hmb : M.size ≤ 4001 := by omega
        have hrl := room_lt M.size m (by omega)
        have HT := Lib.hid (fun w => roomTo_any M.size m w (by omega) (by omega) (by omega))
        obtain ⟨r, hr⟩ : ∃ r, r = room M.size m := ⟨_, rfl⟩
        rw [← hr] at hrl HR HT
        have hns : (nghB r).size ≤ 256 := by rw [nghB_size]; omega
        have hd1 : decide (4000 < (t.size : Int)) = false := by simp; omega
        have hd2 : decide ((m : Int) < 1) = false := by simp; omega
        have hd3 : decide (256 < (m : Int)) = false := by simp; omega
        clear hr hM hms
        go_enter Tryz.func21, Tryz.ntmps21
        go_wp2_with fail
        refine (HT.out _).mono ?_
        rintro e w1 ⟨rfl, rfl⟩
        go_wp2_with fail
        refine (noughts_any r _ (by omega)).mono ?_
        rintro e w2 ⟨rfl, hb2⟩
        go_wp2
        go_ret
        exact ⟨ret_str HR.out.symm, hb2⟩
      · have HR : Hid (padR t tt = ⟨#[]⟩) := Lib.hid (by unfold padR; rw [if_neg (by omega)])
        go_enter Tryz.func21, Tryz.ntmps21
        go_wp2
        go_ret
        exact ⟨ret_str HR.out.symm, Below.refl _ _⟩
    · have HR : Hid (padR t tt = ⟨#[]⟩) := Lib.hid (by unfold padR; rw [if_neg (by omega)])
      go_enter Tryz.func21, Tryz.ntmps21
      go_wp2
      go_ret
      exact ⟨ret_str HR.out.symm, Below.refl _ _⟩
  · have HR : Hid (padR t tt = ⟨#[]⟩) := Lib.hid (by unfold padR; rw [if_neg (by omega)])
    go_enter Tryz.func21, Tryz.ntmps21
    go_wp2
    go_ret
    exact ⟨ret_str HR.out.symm, Below.refl _ _⟩

set_option maxRecDepth 100000 in
set_option maxHeartbeats 2000000 in
theorem l4Padded_any (t : ByteArray) (m : Nat) (w : World) (ht : t.size ≤ 100000) (hm : 1 ≤ m) (hm2 : m ≤ 100000) :
    Calls Tryz.prog 36 #[.string t, .int .i64 (m : Int)] w fun e w' => e = .returned (.string (padT t (room (t.size + 1) m))) ∧ Below w.heap.size w w' := by
  have hrl := room_lt (t.size + 1) m hm
  have HW := Lib.hid (fun j => room_way (t.size + 1) m j hm)
  have HE := Lib.hid (room_end (t.size + 1) m hm)
  obtain ⟨R, hR⟩ : ∃ R, R = room (t.size + 1) m := ⟨_, rfl⟩
  rw [← hR] at hrl HW HE ⊢
  have hz := padT_zero t
  have hm0 : ¬ (m : Int) = 0 := by omega
  clear hR
  go_enter Tryz.func36, Tryz.ntmps36
  go_wp2
  go_loopw [5] (fun s wr => ∃ j : Nat, j ≤ R ∧ s = .string (padT t j) ∧ Below w.heap.size w wr) (fun s _ => t.size + 1 + R - (match s with | .string b => b.size | _ => 0))
  case atStart => exact ⟨0, Nat.zero_le _, rfl, Below.refl _ _⟩
  case round =>
    obtain ⟨j, hj, rfl, hB⟩ := hrel
    have hps := padT_size t j
    have HPS := Lib.hid hps
    have hsu := padT_succ t j
    have hpl : (padT t j).size ≤ 300000 := by omega
    obtain ⟨P, hP⟩ : ∃ P, P = padT t j := ⟨_, rfl⟩
    rw [← hP] at hps HPS hsu hpl ⊢
    have HP := Lib.hid hP
    by_cases hlt : j < R
    · have hmd : ((P.size : Int) % (m : Int) != 0) = true := by
        have := HW.out j hlt
        rw [← hps] at this
        have e : (P.size : Int) % (m : Int) = ((P.size % m : Nat) : Int) := by simp
        rw [e]; simp; omega
      obtain ⟨P2, hP2⟩ : ∃ P2, P2 = padT t (j + 1) := ⟨_, rfl⟩
      rw [← hP2] at hsu
      have HP2 := Lib.hid hP2
      have HS2 : Hid (P2.size = t.size + 1 + (j + 1)) := Lib.hid (by rw [hP2, padT_size])
      clear hz hps hP hP2
      go_wp2
      refine ⟨⟨j + 1, by omega, by rw [HP2.out], hB⟩, ?_⟩
      show t.size + 1 + R - P2.size < t.size + 1 + R - P.size
      have h3 := HPS.out
      have h4 := HS2.out
      omega
    · have hjR : j = R := by omega
      have hmd : ((P.size : Int) % (m : Int) != 0) = false := by
        have := HE.out
        rw [← hjR, ← hps] at this
        have e : (P.size : Int) % (m : Int) = ((P.size % m : Nat) : Int) := by simp
        rw [e, this]; rfl
      have HF : Hid (P = padT t R) := Lib.hid (by rw [hP, hjR])
      clear hz hps hP hjR
      go_wp2
      go_ret
      exact ⟨ret_str HF.out, hB⟩

end Go.Proofs.YtfjaincogbdeiaaGreatDoor
