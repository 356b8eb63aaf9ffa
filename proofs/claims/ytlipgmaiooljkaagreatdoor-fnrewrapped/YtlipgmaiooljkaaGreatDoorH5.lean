/- Joined: W4a. -/
import Derived.Laws.DeepStrings4
import Derived.IntWalk
import Derived.Test.YtlipgmaiooljkaaGreatDoorH1
import Derived.Test.YtlipgmaiooljkaaGreatDoorH2
import Derived.Test.YtlipgmaiooljkaaGreatDoorH3
/- W4a -/
namespace Go.Proofs.YtlipgmaiooljkaaGreatDoor
open Go.ChangeShapes Go.WideShapes Go.ChangeAt Go.RowKit
set_option linter.unusedVariables false

/-- So many noughts. -/
def nghB (n : Nat) : ByteArray := ⟨(List.replicate n 0).toArray⟩
theorem nghB_size (n : Nat) : (nghB n).size = n := by show (List.replicate n (0 : UInt8)).toArray.size = n; simp
theorem nghB_list (n : Nat) : (nghB n).data.toList = List.replicate n 0 := by unfold nghB; simp
theorem repeatL_one : ∀ n, Lib.repeatL [0] n = List.replicate n 0
  | 0 => rfl
  | n + 1 => by rw [Lib.repeatL, repeatL_one n]; rfl
theorem noughts_any (n : Nat) (w : World) (hn : n ≤ 1000000) :
    Calls Tryz.prog 69 #[.int .i64 (n : Int)] w fun e w' => e = .returned (.string (nghB n)) ∧ Below w.heap.size w w' := by
  have h := fun w => Tryz.strings_Repeat ⟨#[0]⟩ n w (by omega) (by show 1 * n ≤ _; omega)
  rw [show (⟨#[0]⟩ : ByteArray).data.toList = [0] from rfl, repeatL_one] at h
  have H := Lib.hid h
  clear h
  go_enter Tryz.func69, Tryz.ntmps69
  go_wp2_with fail
  refine (H.out _).mono ?_
  rintro e w1 ⟨rfl, hb1⟩
  go_wp2
  go_ret
  exact ⟨rfl, hb1⟩

/-- How many bytes are missing. -/
def room (n tt : Nat) : Nat := (tt - n % tt) % tt
theorem room_lt (n tt : Nat) (h : 1 ≤ tt) : room n tt < tt := Nat.mod_lt _ (by omega)
theorem room_eq (n tt : Nat) (h : 1 ≤ tt) : room n tt = if n % tt = 0 then 0 else tt - n % tt := by
  unfold room
  have hq : n % tt < tt := Nat.mod_lt _ (by omega)
  split
  · rename_i e; rw [e, Nat.sub_zero, Nat.mod_self]
  · rw [Nat.mod_eq_of_lt (by omega)]
theorem room_end (n tt : Nat) (h : 1 ≤ tt) : (n + room n tt) % tt = 0 := by
  have hq : n % tt < tt := Nat.mod_lt _ (by omega)
  rw [room_eq n tt h]
  split
  · rename_i e; exact e
  · rw [Nat.add_mod, Nat.mod_eq_of_lt (show tt - n % tt < tt by omega), show n % tt + (tt - n % tt) = tt by omega, Nat.mod_self]
theorem room_way (n tt j : Nat) (h : 1 ≤ tt) (hj : j < room n tt) : (n + j) % tt ≠ 0 := by
  have hq : n % tt < tt := Nat.mod_lt _ (by omega)
  rw [room_eq n tt h] at hj
  split at hj
  · omega
  · rw [Nat.add_mod, Nat.mod_eq_of_lt (show j < tt by omega), Nat.mod_eq_of_lt (by omega)]; omega
theorem roomTo_any (n tt : Nat) (w : World) (hto : 1 ≤ tt) (h2 : tt ≤ 1000000) (hn : n ≤ 1000000000) :
    Calls Tryz.prog 96 #[.int .i64 (n : Int), .int .i64 (tt : Int)] w fun e w' => e = .returned (.int .i64 (room n tt : Nat)) ∧ w = w' := by
  have hq : n % tt < tt := Nat.mod_lt _ (by omega)
  have hqi : (n : Int) % (tt : Int) = ((n % tt : Nat) : Int) := by simp
  obtain ⟨q, hqe⟩ : ∃ q, q = n % tt := ⟨_, rfl⟩
  have hr : ((tt : Int) - (q : Int)) % (tt : Int) = (room n tt : Nat) := by
    unfold room
    rw [← hqe]
    rw [← hqe] at hq
    rw [show (tt : Int) - (q : Int) = ((tt - q : Nat) : Int) by omega]; simp
  rw [← hqe] at hq hqi
  have hto0 : ¬ (tt : Int) = 0 := by omega
  obtain ⟨r, hre⟩ : ∃ r, r = room n tt := ⟨_, rfl⟩
  rw [← hre] at hr ⊢
  clear hqe hre
  go_enter Tryz.func96, Tryz.ntmps96
  go_wp2
  go_ret
  exact ⟨ret_int hr, rfl⟩

/-- Padded, as the document says it. -/
def padT (t : ByteArray) (j : Nat) : ByteArray := t ++ ⟨#[128]⟩ ++ nghB j
def padR (t : ByteArray) (tt : Int) : ByteArray := if t.size ≤ 4000 ∧ 1 ≤ tt ∧ tt ≤ 256 then padT t (room (t.size + 1) tt.toNat) else ⟨#[]⟩
theorem padT_size (t : ByteArray) (j : Nat) : (padT t j).size = t.size + 1 + j := by
  unfold padT; rw [ByteArray.size_append, ByteArray.size_append, nghB_size]; rfl
theorem ba_app4 (a b : ByteArray) : (a ++ b).data.toList = a.data.toList ++ b.data.toList := by rw [ByteArray.data_append, Array.toList_append]
theorem padT_zero (t : ByteArray) : t ++ ⟨#[128]⟩ = padT t 0 := by
  apply ba_eq
  unfold padT
  rw [ba_app4 (t ++ ⟨#[128]⟩), nghB_list]; simp
theorem padT_succ (t : ByteArray) (j : Nat) : padT t j ++ ⟨#[0]⟩ = padT t (j + 1) := by
  apply ba_eq
  unfold padT
  rw [ba_app4, ba_app4 (t ++ ⟨#[128]⟩), ba_app4 (t ++ ⟨#[128]⟩), nghB_list, nghB_list, List.append_assoc, List.replicate_succ']

end Go.Proofs.YtlipgmaiooljkaaGreatDoor
