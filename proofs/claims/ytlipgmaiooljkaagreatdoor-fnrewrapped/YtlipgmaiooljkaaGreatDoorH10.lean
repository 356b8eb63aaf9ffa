/- Joined: PlainSha2. -/
import Derived.Test.YtlipgmaiooljkaaGreatDoorH2
import Derived.Test.YtlipgmaiooljkaaGreatDoorH5
import Derived.Test.YtlipgmaiooljkaaGreatDoorH9
/- PlainSha2 -/
namespace Go.Proofs.YtlipgmaiooljkaaGreatDoor
open Go.RowKit
set_option linter.unusedVariables false

def and32 (x y : Int) : Int := bits .and .u32 x y
def sg0 (x : Int) : Int := xor32 (xor32 (rot x 25) (rot x 14)) (x / 8)
def sg1 (x : Int) : Int := xor32 (xor32 (rot x 15) (rot x 13)) (x / 1024)
def bSg0 (x : Int) : Int := xor32 (xor32 (rot x 30) (rot x 19)) (rot x 10)
def bSg1 (x : Int) : Int := xor32 (xor32 (rot x 26) (rot x 21)) (rot x 7)
def chz (e f g : Int) : Int := xor32 (and32 e f) (and32 (xor32 4294967295 e) g)
def maj (a b c : Int) : Int := xor32 (xor32 (and32 a b) (and32 a c)) (and32 b c)
/-- The next word of a block. -/
def nxt (zs : List Int) (i : Nat) : Int := add32 (add32 (add32 (zs.getD (i - 16) 0) (sg0 (zs.getD (i - 15) 0))) (zs.getD (i - 7) 0)) (sg1 (zs.getD (i - 2) 0))
def sch (m : List Int) : Nat → List Int
  | 0 => m ++ List.replicate 48 0
  | k + 1 => (sch m k).set (16 + k) (nxt (sch m k) (16 + k))
theorem sch_len (m : List Int) (h : m.length = 16) : ∀ k, (sch m k).length = 64
  | 0 => by simp [sch, h]
  | k + 1 => by simp [sch, sch_len m h k]
def oneW (e f g h wk : Int) : Int := add32 (add32 (add32 h (bSg1 e)) (chz e f g)) wk
def twoW (a b c : Int) : Int := add32 (bSg0 a) (maj a b c)
def shaR (wk : Int) : List Int → List Int
  | [a, b, c, d, e, f, g, h] => [add32 (oneW e f g h wk) (twoW a b c), a, b, c, add32 d (oneW e f g h wk), e, f, g]
  | l => l
theorem shaR_len (wk : Int) (l : List Int) (h : l.length = 8) : (shaR wk l).length = 8 := by
  match l, h with
  | [a, b, c, d, e, f, g, h], _ => rfl
def kTab : List Int := [0x428a2f98, 0x71374491, 0xb5c0fbcf, 0xe9b5dba5, 0x3956c25b, 0x59f111f1, 0x923f82a4, 0xab1c5ed5,
  0xd807aa98, 0x12835b01, 0x243185be, 0x550c7dc3, 0x72be5d74, 0x80deb1fe, 0x9bdc06a7, 0xc19bf174,
  0xe49b69c1, 0xefbe4786, 0x0fc19dc6, 0x240ca1cc, 0x2de92c6f, 0x4a7484aa, 0x5cb0a9dc, 0x76f988da,
  0x983e5152, 0xa831c66d, 0xb00327c8, 0xbf597fc7, 0xc6e00bf3, 0xd5a79147, 0x06ca6351, 0x14292967,
  0x27b70a85, 0x2e1b2138, 0x4d2c6dfc, 0x53380d13, 0x650a7354, 0x766a0abb, 0x81c2c92e, 0x92722c85,
  0xa2bfe8a1, 0xa81a664b, 0xc24b8b70, 0xc76c51a3, 0xd192e819, 0xd6990624, 0xf40e3585, 0x106aa070,
  0x19a4c116, 0x1e376c08, 0x2748774c, 0x34b0bcb5, 0x391c0cb3, 0x4ed8aa4a, 0x5b9cca4f, 0x682e6ff3,
  0x748f82ee, 0x78a5636f, 0x84c87814, 0x8cc70208, 0x90befffa, 0xa4506ceb, 0xbef9a3f7, 0xc67178f2]
theorem kTab_len : kTab.length = 64 := rfl
def sha0 : List Int := [0x6a09e667, 0xbb67ae85, 0x3c6ef372, 0xa54ff53a, 0x510e527f, 0x9b05688c, 0x1f83d9ab, 0x5be0cd19]
def rndN (ws st : List Int) : Nat → List Int
  | 0 => st
  | n + 1 => shaR (add32 (ws.getD n 0) (kTab.getD n 0)) (rndN ws st n)
theorem rndN_len (ws st : List Int) (h : st.length = 8) : ∀ n, (rndN ws st n).length = 8
  | 0 => h
  | n + 1 => shaR_len _ _ (rndN_len ws st h n)
/-- The state behind a block. -/
def stepL (st m : List Int) : List Int := List.zipWith add32 (rndN (sch m 48) st 64) st
theorem stepL_len (st m : List Int) (h : st.length = 8) : (stepL st m).length = 8 := by unfold stepL; simp [rndN_len _ st h, h]
theorem stepL_words (st m : List Int) : ∀ n ∈ stepL st m, 0 ≤ n ∧ n ≤ 4294967295 := by
  intro n hn
  unfold stepL at hn
  rw [List.mem_iff_getElem] at hn
  obtain ⟨k, hk, rfl⟩ := hn
  rw [List.getElem_zipWith]
  exact add32_u _ _
def stpB (state block : ByteArray) : ByteArray := ⟨(stoB (stepL (beL state.data.toList) (beL block.data.toList))).toArray⟩
def stpR (state block : ByteArray) : ByteArray := if state.size = 32 ∧ block.size = 64 then stpB state block else ⟨#[]⟩
def blk (s : ByteArray) (n : Nat) : ByteArray := s.extract (64 * n) (64 * n + 64)
theorem blk_size (s : ByteArray) (n : Nat) (h : 64 * n + 64 ≤ s.size) : (blk s n).size = 64 := by unfold blk; rw [ByteArray.size_extract]; omega
def blksN (s : ByteArray) : Nat → List Int
  | 0 => sha0
  | n + 1 => stepL (blksN s n) (beL (blk s n).data.toList)
theorem blksN_len (s : ByteArray) : ∀ n, (blksN s n).length = 8
  | 0 => rfl
  | n + 1 => stepL_len _ _ (blksN_len s n)
theorem sha0_words : ∀ n ∈ sha0, 0 ≤ n ∧ n ≤ 4294967295 := by
  intro n hn
  simp only [sha0, List.mem_cons, List.not_mem_nil, or_false] at hn
  omega
theorem blksN_words (s : ByteArray) : ∀ n, ∀ x ∈ blksN s n, 0 ≤ x ∧ x ≤ 4294967295
  | 0 => sha0_words
  | n + 1 => stepL_words _ _
/-- The text padded to blocks. -/
def padS (t : ByteArray) : ByteArray := padT t (room (t.size + 1 + 8) 64) ++ ⟨#[0, 0, 0, 0]⟩ ++ ⟨(be4 (8 * (t.size : Int))).toArray⟩
theorem padS_size (t : ByteArray) : (padS t).size = t.size + 1 + room (t.size + 1 + 8) 64 + 8 := by
  unfold padS; rw [ByteArray.size_append, ByteArray.size_append, padT_size]; rfl
theorem padS_mod (t : ByteArray) : (padS t).size % 64 = 0 := by
  rw [padS_size]
  have := room_end (t.size + 1 + 8) 64 (by decide)
  omega
theorem padS_le (t : ByteArray) : (padS t).size ≤ t.size + 72 := by
  rw [padS_size]
  have := room_lt (t.size + 1 + 8) 64 (by decide)
  omega
def shaD (t : ByteArray) : ByteArray := ⟨(stoB (blksN (padS t) ((padS t).size / 64))).toArray⟩
theorem ba_list_size (l : List UInt8) : (ByteArray.mk l.toArray).size = l.length := by show l.toArray.size = _; simp
theorem shaD_size (t : ByteArray) : (shaD t).size = 32 := by unfold shaD; rw [ba_list_size, stoB_len, blksN_len]
def shaRt (t : ByteArray) : ByteArray := if t.size ≤ 4000 then shaD t else ⟨#[]⟩
def padR5 (t : ByteArray) : ByteArray := if t.size ≤ 4000 then padS t else ⟨#[]⟩
end Go.Proofs.YtlipgmaiooljkaaGreatDoor
