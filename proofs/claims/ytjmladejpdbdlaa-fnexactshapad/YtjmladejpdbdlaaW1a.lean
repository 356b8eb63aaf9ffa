/- Contracts: words turned (l01 Rotl, both sides), texts either-or (l01 Xor, both sides). -/
import Derived.Test.YtjmladejpdbdlaaOwn
namespace Go.Proofs.Ytjmladejpdbdlaa
open Go.ChangeShapes Go.WideShapes Go.ChangeAt Go.RowKit

theorem wordTest (x : Int) : (decide (0 ≤ x) && decide (x ≤ 4294967295)) = decide (0 ≤ x ∧ x ≤ 4294967295) := by simp

/-- Rotl, as the document says it. -/
def rotR (x k : Int) : Int := if 0 ≤ x ∧ x ≤ 4294967295 ∧ 0 ≤ k ∧ k ≤ 31 then rot x k else -1

/-- Xor, as the document says it. -/
def xorR (a b : ByteArray) : ByteArray := if a.size = b.size ∧ a.size ≤ 4000 then xorB a b else ⟨#[]⟩

end Go.Proofs.Ytjmladejpdbdlaa
