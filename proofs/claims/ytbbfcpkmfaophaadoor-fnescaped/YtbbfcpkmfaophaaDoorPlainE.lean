/- Texts whose marks are escaped, read back: plain definitions (chapter 8). -/
import Derived.Test.YtbbfcpkmfaophaaDoorW8a
namespace Go.Proofs.YtbbfcpkmfaophaaDoor
set_option linter.unusedVariables false

def eB : Nat → ByteArray
  | 0 => ⟨#[38, 97, 109, 112, 59]⟩
  | 1 => ⟨#[38, 108, 116, 59]⟩
  | 2 => ⟨#[38, 103, 116, 59]⟩
  | _ => ⟨#[38, 113, 117, 111, 116, 59]⟩
def eL (k : Nat) : List UInt8 := (eB k).data.toList
def mB : Nat → UInt8
  | 0 => 38
  | 1 => 60
  | 2 => 62
  | _ => 34
/-- The byte that comes first, and how many bytes stand for it. -/
def pst (l : List UInt8) : Option (UInt8 × Nat) :=
  if Lib.hasPrefix l (eL 0) = true then some (38, 5) else if Lib.hasPrefix l (eL 1) = true then some (60, 4) else if Lib.hasPrefix l (eL 2) = true then some (62, 4) else if Lib.hasPrefix l (eL 3) = true then some (34, 6)
  else match l with
    | [] => none
    | c :: _ => if escM c = [] then some (c, 1) else none
theorem pst_hit (l : List UInt8) (k : Nat) (hk : k < 4) (hn : ∀ j, j < k → Lib.hasPrefix l (eL j) = false) (h : Lib.hasPrefix l (eL k) = true) : pst l = some (mB k, (eB k).size) := by
  unfold pst
  rcases k with _ | _ | _ | _ | k
  · rw [if_pos h]; rfl
  · rw [hn 0 (by omega), if_pos h]; rfl
  · rw [hn 0 (by omega), hn 1 (by omega), if_pos h]; rfl
  · rw [hn 0 (by omega), hn 1 (by omega), hn 2 (by omega), if_pos h]; rfl
  · omega
theorem pst_miss (c : UInt8) (l : List UInt8) (hn : ∀ j, j < 4 → Lib.hasPrefix (c :: l) (eL j) = false) : pst (c :: l) = if escM c = [] then some (c, 1) else none := by
  unfold pst
  rw [hn 0 (by omega), hn 1 (by omega), hn 2 (by omega), hn 3 (by omega)]
  rfl
def plL (l : List UInt8) : Option (List UInt8) :=
  if h : l = [] then some [] else
  match pst l with
  | none => none
  | some (b, k) => if hk : 1 ≤ k then (plL (l.drop k)).map (fun r => b :: r) else none
termination_by l.length
decreasing_by
  have : 0 < l.length := by cases l with | nil => exact absurd rfl h | cons a b => simp
  simp; omega
theorem plL_nil : plL [] = some [] := by rw [plL, dif_pos rfl]
theorem plL_none (l : List UInt8) (h : l ≠ []) (hp : pst l = none) : plL l = none := by rw [plL, dif_neg h, hp]
theorem plL_some (l : List UInt8) (b : UInt8) (k : Nat) (h : l ≠ []) (hp : pst l = some (b, k)) (hk : 1 ≤ k) : plL l = (plL (l.drop k)).map (fun r => b :: r) := by rw [plL, dif_neg h, hp]; exact dif_pos hk
theorem pl_step (S l acc : List UInt8) (b : UInt8) (k : Nat) (h : l ≠ []) (hp : pst l = some (b, k)) (hk : 1 ≤ k) (hS : plL S = (plL l).map (fun r => acc ++ r)) : plL S = (plL (l.drop k)).map (fun r => (acc ++ [b]) ++ r) := by
  rw [hS, plL_some l b k h hp hk, Option.map_map]
  congr 1
  funext r
  simp
theorem pl_stop (S l acc : List UInt8) (h : l ≠ []) (hp : pst l = none) (hS : plL S = (plL l).map (fun r => acc ++ r)) : plL S = none := by
  rw [hS, plL_none l h hp]; rfl
theorem pl_end (S acc : List UInt8) (hS : plL S = (plL []).map (fun r => acc ++ r)) : plL S = some acc := by
  rw [hS, plL_nil]; simp
/-- What Plain answers. -/
def plV (s : ByteArray) : Value := if s.size ≤ 1200 then (match plL s.data.toList with | some r => .tuple #[.string ⟨r.toArray⟩, .bool true] | none => .tuple #[.string ⟨#[]⟩, .bool false]) else .tuple #[.string ⟨#[]⟩, .bool false]
theorem plV_long {s : ByteArray} (h : ¬ s.size ≤ 1200) : plV s = .tuple #[.string ⟨#[]⟩, .bool false] := if_neg h
theorem plV_none {s : ByteArray} (h : s.size ≤ 1200) (hp : plL s.data.toList = none) : plV s = .tuple #[.string ⟨#[]⟩, .bool false] := by
  unfold plV; rw [if_pos h, hp]
theorem plV_some {s : ByteArray} {r : List UInt8} (h : s.size ≤ 1200) (hp : plL s.data.toList = some r) : plV s = .tuple #[.string ⟨r.toArray⟩, .bool true] := by
  unfold plV; rw [if_pos h, hp]
theorem plV_form (s : ByteArray) : ∃ (t : ByteArray) (b : Bool), plV s = .tuple #[.string t, .bool b] := by
  unfold plV
  split
  · split
    · exact ⟨_, _, rfl⟩
    · exact ⟨_, _, rfl⟩
  · exact ⟨_, _, rfl⟩
theorem pre_len {l p : List UInt8} (h : Lib.hasPrefix l p = true) : p.length ≤ l.length := by
  unfold Lib.hasPrefix at h
  exact (List.isPrefixOf_iff_prefix.1 h).length_le
theorem trim_hit {l p : List UInt8} (h : Lib.hasPrefix l p = true) : Lib.trimPrefix l p = l.drop p.length := if_pos h
theorem eB_size (k : Nat) : 1 ≤ (eB k).size ∧ (eB k).size ≤ 6 := by
  rcases k with _ | _ | _ | k
  · decide
  · decide
  · decide
  · show 1 ≤ 6 ∧ 6 ≤ 6; omega
end Go.Proofs.YtbbfcpkmfaophaaDoor
