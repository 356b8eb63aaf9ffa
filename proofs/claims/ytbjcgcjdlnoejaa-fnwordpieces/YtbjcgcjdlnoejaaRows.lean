/-
  No cell of these rows narrows 'for every input' (looked for: loops, veiled, ifaces, maps, wideKeys, modest, calm, conditions, laid).
  DERIVED. THE GIVEN ROWS OF THIS SEAT. 12 by the template 'for every input the law returns true; each argument reads behind the call as it read before'; 0 by the template 'total and deterministic' (their statements: YtbjcgcjdlnoejaaTotals.lean).
  GIVEN WITH THE SEED: the statements are not yours to turn. If you find one false, say at which input.
  Laid BY PROGRAM, IN A SANDBOX (cutbox-rows.mjs): the forced cells as the released guide's own fill.sh prints them over the translation 9a98665398e880b6… (all of the seat's roots in one cut). By AI agents, Wed Nov 11 2026. No macro, syntax, notation, axiom, sorry.
-/
import Derived.Test.YtbjcgcjdlnoejaaChecked
import GoSem.Claim
import GoSem.ClaimJoined
import GoSem.ClaimMapViews
import Derived.JoinedTies
import Derived.KernelRfl
namespace Go.Proofs.Ytbjcgcjdlnoejaa
/- THE CELL 'sum', in the pinned program and in every row, IS THE sha256 OF THE DUMP (.gsa) THAT YtbjcgcjdlnoejaaProg.lean LOADS. Nothing in Lean hashes anything: it is a label: what it is worth is what the hold of that sum in a sandbox is worth. -/
noncomputable def Try.pinned : Pinned := { name := "ytbjcgcjdlnoejaa", sum := "9a98665398e880b633a255aa34ac5f95a8006bcf7b0e6b2bc2310dc06247cd6f", checked := Try.checked }
namespace Rows
def none {H : Type} : Left H := { results := [], args := [] }

/-- 'laws.FnExactRotl': WHATEVER THE INPUT: true; the input reads as it did. -/
def fnExactRotlSpec : ChangeSpec := { name := "fnExactRotl", fn := fun _ => fun
  | [d1, d2] => { results := [.lit (.bool true)], args := [d1, d2] }
  | _ => none }
def fnExactRotlRow : OpenClaim := { program := "ytbjcgcjdlnoejaa", sum := "9a98665398e880b633a255aa34ac5f95a8006bcf7b0e6b2bc2310dc06247cd6f", func := "loop.example/g00569/laws.FnExactRotl", spec := "fnExactRotl", apart := false }
def FnExactRotlSaid : Prop := fnExactRotlRow.holds Try.pinned (OpenSpec.ofChange fnExactRotlSpec)

/-- ITS FALSE NEIGHBOUR: 'it returns false'. Refute it at one input. -/
def fnExactRotlWrong : ChangeSpec := { name := "fnExactRotl", fn := fun _ => fun
  | [d1, d2] => { results := [.lit (.bool false)], args := [d1, d2] }
  | _ => none }
def FnExactRotlWrongFalsely : Prop := fnExactRotlRow.holds Try.pinned (OpenSpec.ofChange fnExactRotlWrong)

/-- 'laws.FnExactLoadLe': WHATEVER THE INPUT: true; the input reads as it did. -/
def fnExactLoadLeSpec : ChangeSpec := { name := "fnExactLoadLe", fn := fun _ => fun
  | [d] => { results := [.lit (.bool true)], args := [d] }
  | _ => none }
def fnExactLoadLeRow : OpenClaim := { program := "ytbjcgcjdlnoejaa", sum := "9a98665398e880b633a255aa34ac5f95a8006bcf7b0e6b2bc2310dc06247cd6f", func := "loop.example/g00569/laws.FnExactLoadLe", spec := "fnExactLoadLe", unfollowed := true, recurses := true, apart := false }
def FnExactLoadLeSaid : Prop := fnExactLoadLeRow.holds Try.pinned (OpenSpec.ofChange fnExactLoadLeSpec)

/-- ITS FALSE NEIGHBOUR: 'it returns false'. Refute it at one input. -/
def fnExactLoadLeWrong : ChangeSpec := { name := "fnExactLoadLe", fn := fun _ => fun
  | [d] => { results := [.lit (.bool false)], args := [d] }
  | _ => none }
def FnExactLoadLeWrongFalsely : Prop := fnExactLoadLeRow.holds Try.pinned (OpenSpec.ofChange fnExactLoadLeWrong)

/-- 'laws.FnExactStoreLe': WHATEVER THE INPUT: true; the input reads as it did. -/
def fnExactStoreLeSpec : ChangeSpec := { name := "fnExactStoreLe", fn := fun _ => fun
  | [d] => { results := [.lit (.bool true)], args := [d] }
  | _ => none }
def fnExactStoreLeRow : OpenClaim := { program := "ytbjcgcjdlnoejaa", sum := "9a98665398e880b633a255aa34ac5f95a8006bcf7b0e6b2bc2310dc06247cd6f", func := "loop.example/g00569/laws.FnExactStoreLe", spec := "fnExactStoreLe", apart := false }
def FnExactStoreLeSaid : Prop := fnExactStoreLeRow.holds Try.pinned (OpenSpec.ofChange fnExactStoreLeSpec)

/-- ITS FALSE NEIGHBOUR: 'it returns false'. Refute it at one input. -/
def fnExactStoreLeWrong : ChangeSpec := { name := "fnExactStoreLe", fn := fun _ => fun
  | [d] => { results := [.lit (.bool false)], args := [d] }
  | _ => none }
def FnExactStoreLeWrongFalsely : Prop := fnExactStoreLeRow.holds Try.pinned (OpenSpec.ofChange fnExactStoreLeWrong)

/-- 'laws.FnExactHex': WHATEVER THE INPUT: true; the input reads as it did. -/
def fnExactHexSpec : ChangeSpec := { name := "fnExactHex", fn := fun _ => fun
  | [d] => { results := [.lit (.bool true)], args := [d] }
  | _ => none }
def fnExactHexRow : OpenClaim := { program := "ytbjcgcjdlnoejaa", sum := "9a98665398e880b633a255aa34ac5f95a8006bcf7b0e6b2bc2310dc06247cd6f", func := "loop.example/g00569/laws.FnExactHex", spec := "fnExactHex", apart := false }
def FnExactHexSaid : Prop := fnExactHexRow.holds Try.pinned (OpenSpec.ofChange fnExactHexSpec)

/-- ITS FALSE NEIGHBOUR: 'it returns false'. Refute it at one input. -/
def fnExactHexWrong : ChangeSpec := { name := "fnExactHex", fn := fun _ => fun
  | [d] => { results := [.lit (.bool false)], args := [d] }
  | _ => none }
def FnExactHexWrongFalsely : Prop := fnExactHexRow.holds Try.pinned (OpenSpec.ofChange fnExactHexWrong)

/-- 'laws.FnExactUnhex': WHATEVER THE INPUT: true; the input reads as it did. -/
def fnExactUnhexSpec : ChangeSpec := { name := "fnExactUnhex", fn := fun _ => fun
  | [d] => { results := [.lit (.bool true)], args := [d] }
  | _ => none }
def fnExactUnhexRow : OpenClaim := { program := "ytbjcgcjdlnoejaa", sum := "9a98665398e880b633a255aa34ac5f95a8006bcf7b0e6b2bc2310dc06247cd6f", func := "loop.example/g00569/laws.FnExactUnhex", spec := "fnExactUnhex", apart := false }
def FnExactUnhexSaid : Prop := fnExactUnhexRow.holds Try.pinned (OpenSpec.ofChange fnExactUnhexSpec)

/-- ITS FALSE NEIGHBOUR: 'it returns false'. Refute it at one input. -/
def fnExactUnhexWrong : ChangeSpec := { name := "fnExactUnhex", fn := fun _ => fun
  | [d] => { results := [.lit (.bool false)], args := [d] }
  | _ => none }
def FnExactUnhexWrongFalsely : Prop := fnExactUnhexRow.holds Try.pinned (OpenSpec.ofChange fnExactUnhexWrong)

/-- 'laws.FnExactXor': WHATEVER THE INPUT: true; the input reads as it did. -/
def fnExactXorSpec : ChangeSpec := { name := "fnExactXor", fn := fun _ => fun
  | [d1, d2] => { results := [.lit (.bool true)], args := [d1, d2] }
  | _ => none }
def fnExactXorRow : OpenClaim := { program := "ytbjcgcjdlnoejaa", sum := "9a98665398e880b633a255aa34ac5f95a8006bcf7b0e6b2bc2310dc06247cd6f", func := "loop.example/g00569/laws.FnExactXor", spec := "fnExactXor", apart := false }
def FnExactXorSaid : Prop := fnExactXorRow.holds Try.pinned (OpenSpec.ofChange fnExactXorSpec)

/-- ITS FALSE NEIGHBOUR: 'it returns false'. Refute it at one input. -/
def fnExactXorWrong : ChangeSpec := { name := "fnExactXor", fn := fun _ => fun
  | [d1, d2] => { results := [.lit (.bool false)], args := [d1, d2] }
  | _ => none }
def FnExactXorWrongFalsely : Prop := fnExactXorRow.holds Try.pinned (OpenSpec.ofChange fnExactXorWrong)

/-- 'laws.FnWords': WHATEVER THE INPUT: true; the input reads as it did. -/
def fnWordsSpec : ChangeSpec := { name := "fnWords", fn := fun _ => fun
  | [d] => { results := [.lit (.bool true)], args := [d] }
  | _ => none }
def fnWordsRow : OpenClaim := { program := "ytbjcgcjdlnoejaa", sum := "9a98665398e880b633a255aa34ac5f95a8006bcf7b0e6b2bc2310dc06247cd6f", func := "loop.example/g00569/laws.FnWords", spec := "fnWords", unfollowed := true, recurses := true, apart := false }
def FnWordsSaid : Prop := fnWordsRow.holds Try.pinned (OpenSpec.ofChange fnWordsSpec)

/-- ITS FALSE NEIGHBOUR: 'it returns false'. Refute it at one input. -/
def fnWordsWrong : ChangeSpec := { name := "fnWords", fn := fun _ => fun
  | [d] => { results := [.lit (.bool false)], args := [d] }
  | _ => none }
def FnWordsWrongFalsely : Prop := fnWordsRow.holds Try.pinned (OpenSpec.ofChange fnWordsWrong)

/-- 'laws.FnHex': WHATEVER THE INPUT: true; the input reads as it did. -/
def fnHexSpec : ChangeSpec := { name := "fnHex", fn := fun _ => fun
  | [d] => { results := [.lit (.bool true)], args := [d] }
  | _ => none }
def fnHexRow : OpenClaim := { program := "ytbjcgcjdlnoejaa", sum := "9a98665398e880b633a255aa34ac5f95a8006bcf7b0e6b2bc2310dc06247cd6f", func := "loop.example/g00569/laws.FnHex", spec := "fnHex", apart := false }
def FnHexSaid : Prop := fnHexRow.holds Try.pinned (OpenSpec.ofChange fnHexSpec)

/-- ITS FALSE NEIGHBOUR: 'it returns false'. Refute it at one input. -/
def fnHexWrong : ChangeSpec := { name := "fnHex", fn := fun _ => fun
  | [d] => { results := [.lit (.bool false)], args := [d] }
  | _ => none }
def FnHexWrongFalsely : Prop := fnHexRow.holds Try.pinned (OpenSpec.ofChange fnHexWrong)

/-- 'laws.FnXor': WHATEVER THE INPUT: true; the input reads as it did. -/
def fnXorSpec : ChangeSpec := { name := "fnXor", fn := fun _ => fun
  | [d] => { results := [.lit (.bool true)], args := [d] }
  | _ => none }
def fnXorRow : OpenClaim := { program := "ytbjcgcjdlnoejaa", sum := "9a98665398e880b633a255aa34ac5f95a8006bcf7b0e6b2bc2310dc06247cd6f", func := "loop.example/g00569/laws.FnXor", spec := "fnXor", apart := false }
def FnXorSaid : Prop := fnXorRow.holds Try.pinned (OpenSpec.ofChange fnXorSpec)

/-- ITS FALSE NEIGHBOUR: 'it returns false'. Refute it at one input. -/
def fnXorWrong : ChangeSpec := { name := "fnXor", fn := fun _ => fun
  | [d] => { results := [.lit (.bool false)], args := [d] }
  | _ => none }
def FnXorWrongFalsely : Prop := fnXorRow.holds Try.pinned (OpenSpec.ofChange fnXorWrong)

/-- 'laws.FnXorThree': WHATEVER THE INPUT: true; the input reads as it did. -/
def fnXorThreeSpec : ChangeSpec := { name := "fnXorThree", fn := fun _ => fun
  | [d] => { results := [.lit (.bool true)], args := [d] }
  | _ => none }
def fnXorThreeRow : OpenClaim := { program := "ytbjcgcjdlnoejaa", sum := "9a98665398e880b633a255aa34ac5f95a8006bcf7b0e6b2bc2310dc06247cd6f", func := "loop.example/g00569/laws.FnXorThree", spec := "fnXorThree", apart := false }
def FnXorThreeSaid : Prop := fnXorThreeRow.holds Try.pinned (OpenSpec.ofChange fnXorThreeSpec)

/-- ITS FALSE NEIGHBOUR: 'it returns false'. Refute it at one input. -/
def fnXorThreeWrong : ChangeSpec := { name := "fnXorThree", fn := fun _ => fun
  | [d] => { results := [.lit (.bool false)], args := [d] }
  | _ => none }
def FnXorThreeWrongFalsely : Prop := fnXorThreeRow.holds Try.pinned (OpenSpec.ofChange fnXorThreeWrong)

/-- 'laws.FnHexPieces': WHATEVER THE INPUT: true; the input reads as it did. -/
def fnHexPiecesSpec : ChangeSpec := { name := "fnHexPieces", fn := fun _ => fun
  | [d] => { results := [.lit (.bool true)], args := [d] }
  | _ => none }
def fnHexPiecesRow : OpenClaim := { program := "ytbjcgcjdlnoejaa", sum := "9a98665398e880b633a255aa34ac5f95a8006bcf7b0e6b2bc2310dc06247cd6f", func := "loop.example/g00569/laws.FnHexPieces", spec := "fnHexPieces", apart := false }
def FnHexPiecesSaid : Prop := fnHexPiecesRow.holds Try.pinned (OpenSpec.ofChange fnHexPiecesSpec)

/-- ITS FALSE NEIGHBOUR: 'it returns false'. Refute it at one input. -/
def fnHexPiecesWrong : ChangeSpec := { name := "fnHexPieces", fn := fun _ => fun
  | [d] => { results := [.lit (.bool false)], args := [d] }
  | _ => none }
def FnHexPiecesWrongFalsely : Prop := fnHexPiecesRow.holds Try.pinned (OpenSpec.ofChange fnHexPiecesWrong)

/-- 'laws.FnWordPieces': WHATEVER THE INPUT: true; the input reads as it did. -/
def fnWordPiecesSpec : ChangeSpec := { name := "fnWordPieces", fn := fun _ => fun
  | [d] => { results := [.lit (.bool true)], args := [d] }
  | _ => none }
def fnWordPiecesRow : OpenClaim := { program := "ytbjcgcjdlnoejaa", sum := "9a98665398e880b633a255aa34ac5f95a8006bcf7b0e6b2bc2310dc06247cd6f", func := "loop.example/g00569/laws.FnWordPieces", spec := "fnWordPieces", apart := false }
def FnWordPiecesSaid : Prop := fnWordPiecesRow.holds Try.pinned (OpenSpec.ofChange fnWordPiecesSpec)

/-- ITS FALSE NEIGHBOUR: 'it returns false'. Refute it at one input. -/
def fnWordPiecesWrong : ChangeSpec := { name := "fnWordPieces", fn := fun _ => fun
  | [d] => { results := [.lit (.bool false)], args := [d] }
  | _ => none }
def FnWordPiecesWrongFalsely : Prop := fnWordPiecesRow.holds Try.pinned (OpenSpec.ofChange fnWordPiecesWrong)

/- THE SECOND FORM. 'bulk': how many values and letters a reading holds, each counted each time it is reached (what is shared counts as often as it is met; a slice's spare places count too). A statement '..UptoSaid' is the law's where the arguments, and the package variables that the reading takes, are together of bulk at most 1048576: NARROWER than '..Said'. Prove '..Said' where nothing that the law and all that it calls make is longer than what came in: it says more and counts as full. Else prove '..UptoSaid'. A law counts once. -/
mutual
def uptoBulk {H : Type} : DataW H → Nat
  | .lit (.string bytes) => bytes.length + 1
  | .lit _ => 1
  | .nil => 1
  | .ptr d => uptoBulk d + 1
  | .slice elems spare => uptoBulkAll elems + uptoBulkAll spare + 1
  | .agg parts => uptoBulkAll parts + 1
  | .iface _ d => uptoBulk d + 1
  | .map entries => uptoBulkEntries entries + 1
  | .held _ => 1
def uptoBulkAll {H : Type} : List (DataW H) → Nat
  | [] => 0
  | d :: r => uptoBulk d + uptoBulkAll r
def uptoBulkEntries {H : Type} : List (Lit × DataW H) → Nat
  | [] => 0
  | x :: r => uptoBulkEntry x + uptoBulkEntries r
def uptoBulkEntry {H : Type} : Lit × DataW H → Nat
  | (.string bytes, d) => bytes.length + uptoBulk d + 1
  | (_, d) => uptoBulk d + 1
 end
def uptoSmall : (H : Type) → List (DataW H) → Bool := fun _ ds => decide (uptoBulkAll ds ≤ 1048576)
def OpenSpec.upto (s : _root_.Go.ChangeSpec) : _root_.Go.OpenSpec := { _root_.Go.OpenSpec.ofChange s with cond := some uptoSmall }

/-- 'laws.FnExactRotl', WHERE WHAT IT READS IS OF BULK AT MOST 1048576: true; the input reads as it did. -/
def fnExactRotlUptoRow : OpenClaim := { program := "ytbjcgcjdlnoejaa", sum := "9a98665398e880b633a255aa34ac5f95a8006bcf7b0e6b2bc2310dc06247cd6f", func := "loop.example/g00569/laws.FnExactRotl", spec := "fnExactRotl", apart := false, narrowed := true }
def FnExactRotlUptoSaid : Prop := fnExactRotlUptoRow.holds Try.pinned (OpenSpec.upto fnExactRotlSpec)

/-- 'laws.FnExactLoadLe', WHERE WHAT IT READS IS OF BULK AT MOST 1048576: true; the input reads as it did. -/
def fnExactLoadLeUptoRow : OpenClaim := { program := "ytbjcgcjdlnoejaa", sum := "9a98665398e880b633a255aa34ac5f95a8006bcf7b0e6b2bc2310dc06247cd6f", func := "loop.example/g00569/laws.FnExactLoadLe", spec := "fnExactLoadLe", unfollowed := true, recurses := true, apart := false, narrowed := true }
def FnExactLoadLeUptoSaid : Prop := fnExactLoadLeUptoRow.holds Try.pinned (OpenSpec.upto fnExactLoadLeSpec)

/-- 'laws.FnExactStoreLe', WHERE WHAT IT READS IS OF BULK AT MOST 1048576: true; the input reads as it did. -/
def fnExactStoreLeUptoRow : OpenClaim := { program := "ytbjcgcjdlnoejaa", sum := "9a98665398e880b633a255aa34ac5f95a8006bcf7b0e6b2bc2310dc06247cd6f", func := "loop.example/g00569/laws.FnExactStoreLe", spec := "fnExactStoreLe", apart := false, narrowed := true }
def FnExactStoreLeUptoSaid : Prop := fnExactStoreLeUptoRow.holds Try.pinned (OpenSpec.upto fnExactStoreLeSpec)

/-- 'laws.FnExactHex', WHERE WHAT IT READS IS OF BULK AT MOST 1048576: true; the input reads as it did. -/
def fnExactHexUptoRow : OpenClaim := { program := "ytbjcgcjdlnoejaa", sum := "9a98665398e880b633a255aa34ac5f95a8006bcf7b0e6b2bc2310dc06247cd6f", func := "loop.example/g00569/laws.FnExactHex", spec := "fnExactHex", apart := false, narrowed := true }
def FnExactHexUptoSaid : Prop := fnExactHexUptoRow.holds Try.pinned (OpenSpec.upto fnExactHexSpec)

/-- 'laws.FnExactUnhex', WHERE WHAT IT READS IS OF BULK AT MOST 1048576: true; the input reads as it did. -/
def fnExactUnhexUptoRow : OpenClaim := { program := "ytbjcgcjdlnoejaa", sum := "9a98665398e880b633a255aa34ac5f95a8006bcf7b0e6b2bc2310dc06247cd6f", func := "loop.example/g00569/laws.FnExactUnhex", spec := "fnExactUnhex", apart := false, narrowed := true }
def FnExactUnhexUptoSaid : Prop := fnExactUnhexUptoRow.holds Try.pinned (OpenSpec.upto fnExactUnhexSpec)

/-- 'laws.FnExactXor', WHERE WHAT IT READS IS OF BULK AT MOST 1048576: true; the input reads as it did. -/
def fnExactXorUptoRow : OpenClaim := { program := "ytbjcgcjdlnoejaa", sum := "9a98665398e880b633a255aa34ac5f95a8006bcf7b0e6b2bc2310dc06247cd6f", func := "loop.example/g00569/laws.FnExactXor", spec := "fnExactXor", apart := false, narrowed := true }
def FnExactXorUptoSaid : Prop := fnExactXorUptoRow.holds Try.pinned (OpenSpec.upto fnExactXorSpec)

/-- 'laws.FnWords', WHERE WHAT IT READS IS OF BULK AT MOST 1048576: true; the input reads as it did. -/
def fnWordsUptoRow : OpenClaim := { program := "ytbjcgcjdlnoejaa", sum := "9a98665398e880b633a255aa34ac5f95a8006bcf7b0e6b2bc2310dc06247cd6f", func := "loop.example/g00569/laws.FnWords", spec := "fnWords", unfollowed := true, recurses := true, apart := false, narrowed := true }
def FnWordsUptoSaid : Prop := fnWordsUptoRow.holds Try.pinned (OpenSpec.upto fnWordsSpec)

/-- 'laws.FnHex', WHERE WHAT IT READS IS OF BULK AT MOST 1048576: true; the input reads as it did. -/
def fnHexUptoRow : OpenClaim := { program := "ytbjcgcjdlnoejaa", sum := "9a98665398e880b633a255aa34ac5f95a8006bcf7b0e6b2bc2310dc06247cd6f", func := "loop.example/g00569/laws.FnHex", spec := "fnHex", apart := false, narrowed := true }
def FnHexUptoSaid : Prop := fnHexUptoRow.holds Try.pinned (OpenSpec.upto fnHexSpec)

/-- 'laws.FnXor', WHERE WHAT IT READS IS OF BULK AT MOST 1048576: true; the input reads as it did. -/
def fnXorUptoRow : OpenClaim := { program := "ytbjcgcjdlnoejaa", sum := "9a98665398e880b633a255aa34ac5f95a8006bcf7b0e6b2bc2310dc06247cd6f", func := "loop.example/g00569/laws.FnXor", spec := "fnXor", apart := false, narrowed := true }
def FnXorUptoSaid : Prop := fnXorUptoRow.holds Try.pinned (OpenSpec.upto fnXorSpec)

/-- 'laws.FnXorThree', WHERE WHAT IT READS IS OF BULK AT MOST 1048576: true; the input reads as it did. -/
def fnXorThreeUptoRow : OpenClaim := { program := "ytbjcgcjdlnoejaa", sum := "9a98665398e880b633a255aa34ac5f95a8006bcf7b0e6b2bc2310dc06247cd6f", func := "loop.example/g00569/laws.FnXorThree", spec := "fnXorThree", apart := false, narrowed := true }
def FnXorThreeUptoSaid : Prop := fnXorThreeUptoRow.holds Try.pinned (OpenSpec.upto fnXorThreeSpec)

/-- 'laws.FnHexPieces', WHERE WHAT IT READS IS OF BULK AT MOST 1048576: true; the input reads as it did. -/
def fnHexPiecesUptoRow : OpenClaim := { program := "ytbjcgcjdlnoejaa", sum := "9a98665398e880b633a255aa34ac5f95a8006bcf7b0e6b2bc2310dc06247cd6f", func := "loop.example/g00569/laws.FnHexPieces", spec := "fnHexPieces", apart := false, narrowed := true }
def FnHexPiecesUptoSaid : Prop := fnHexPiecesUptoRow.holds Try.pinned (OpenSpec.upto fnHexPiecesSpec)

/-- 'laws.FnWordPieces', WHERE WHAT IT READS IS OF BULK AT MOST 1048576: true; the input reads as it did. -/
def fnWordPiecesUptoRow : OpenClaim := { program := "ytbjcgcjdlnoejaa", sum := "9a98665398e880b633a255aa34ac5f95a8006bcf7b0e6b2bc2310dc06247cd6f", func := "loop.example/g00569/laws.FnWordPieces", spec := "fnWordPieces", apart := false, narrowed := true }
def FnWordPiecesUptoSaid : Prop := fnWordPiecesUptoRow.holds Try.pinned (OpenSpec.upto fnWordPiecesSpec)

end Rows
end Go.Proofs.Ytbjcgcjdlnoejaa
