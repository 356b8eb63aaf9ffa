/-
  No cell of these rows narrows 'for every input' (looked for: loops, veiled, ifaces, maps, wideKeys, modest, calm, conditions, laid).
  DERIVED. THE GIVEN ROWS OF THIS SEAT. 8 by the template 'for every input the law returns true; each argument reads behind the call as it read before'; 0 by the template 'total and deterministic' (their statements: YtijoancnlpkcoaaTotals.lean).
  GIVEN WITH THE SEED: the statements are not yours to turn. If you find one false, say at which input.
  Laid BY PROGRAM, IN A SANDBOX (cutbox-rows.mjs): the forced cells as the released guide's own fill.sh prints them over the translation c1079e8cc473bc35… (all of the seat's roots in one cut). By AI agents, Wed Nov 11 2026. No macro, syntax, notation, axiom, sorry.
-/
import Derived.Test.YtijoancnlpkcoaaChecked
import GoSem.Claim
import GoSem.ClaimJoined
import GoSem.ClaimMapViews
import Derived.JoinedTies
import Derived.KernelRfl
namespace Go.Proofs.Ytijoancnlpkcoaa
/- THE CELL 'sum', in the pinned program and in every row, IS THE sha256 OF THE DUMP (.gsa) THAT YtijoancnlpkcoaaProg.lean LOADS. Nothing in Lean hashes anything: it is a label: what it is worth is what the hold of that sum in a sandbox is worth. -/
noncomputable def Try.pinned : Pinned := { name := "ytijoancnlpkcoaa", sum := "c1079e8cc473bc35746b43d835afb50341825b7ef278dd0796149c3e9054346f", checked := Try.checked }
namespace Rows
def none {H : Type} : Left H := { results := [], args := [] }

/-- 'laws.FnStream': WHATEVER THE INPUT: true; the input reads as it did. -/
def fnStreamSpec : ChangeSpec := { name := "fnStream", fn := fun _ => fun
  | [d] => { results := [.lit (.bool true)], args := [d] }
  | _ => none }
def fnStreamRow : OpenClaim := { program := "ytijoancnlpkcoaa", sum := "c1079e8cc473bc35746b43d835afb50341825b7ef278dd0796149c3e9054346f", func := "loop.example/g00569/laws.FnStream", spec := "fnStream", unfollowed := true, recurses := true, apart := false }
def FnStreamSaid : Prop := fnStreamRow.holds Try.pinned (OpenSpec.ofChange fnStreamSpec)

/-- ITS FALSE NEIGHBOUR: 'it returns false'. Refute it at one input. -/
def fnStreamWrong : ChangeSpec := { name := "fnStream", fn := fun _ => fun
  | [d] => { results := [.lit (.bool false)], args := [d] }
  | _ => none }
def FnStreamWrongFalsely : Prop := fnStreamRow.holds Try.pinned (OpenSpec.ofChange fnStreamWrong)

/-- 'laws.FnStreamXor': WHATEVER THE INPUT: true; the input reads as it did. -/
def fnStreamXorSpec : ChangeSpec := { name := "fnStreamXor", fn := fun _ => fun
  | [d] => { results := [.lit (.bool true)], args := [d] }
  | _ => none }
def fnStreamXorRow : OpenClaim := { program := "ytijoancnlpkcoaa", sum := "c1079e8cc473bc35746b43d835afb50341825b7ef278dd0796149c3e9054346f", func := "loop.example/g00569/laws.FnStreamXor", spec := "fnStreamXor", unfollowed := true, recurses := true, apart := false }
def FnStreamXorSaid : Prop := fnStreamXorRow.holds Try.pinned (OpenSpec.ofChange fnStreamXorSpec)

/-- ITS FALSE NEIGHBOUR: 'it returns false'. Refute it at one input. -/
def fnStreamXorWrong : ChangeSpec := { name := "fnStreamXor", fn := fun _ => fun
  | [d] => { results := [.lit (.bool false)], args := [d] }
  | _ => none }
def FnStreamXorWrongFalsely : Prop := fnStreamXorRow.holds Try.pinned (OpenSpec.ofChange fnStreamXorWrong)

/-- 'laws.FnExactChaBlock': WHATEVER THE INPUT: true; the input reads as it did. -/
def fnExactChaBlockSpec : ChangeSpec := { name := "fnExactChaBlock", fn := fun _ => fun
  | [d1, d2, d3] => { results := [.lit (.bool true)], args := [d1, d2, d3] }
  | _ => none }
def fnExactChaBlockRow : OpenClaim := { program := "ytijoancnlpkcoaa", sum := "c1079e8cc473bc35746b43d835afb50341825b7ef278dd0796149c3e9054346f", func := "loop.example/g00569/laws.FnExactChaBlock", spec := "fnExactChaBlock", unfollowed := true, recurses := true, apart := false }
def FnExactChaBlockSaid : Prop := fnExactChaBlockRow.holds Try.pinned (OpenSpec.ofChange fnExactChaBlockSpec)

/-- ITS FALSE NEIGHBOUR: 'it returns false'. Refute it at one input. -/
def fnExactChaBlockWrong : ChangeSpec := { name := "fnExactChaBlock", fn := fun _ => fun
  | [d1, d2, d3] => { results := [.lit (.bool false)], args := [d1, d2, d3] }
  | _ => none }
def FnExactChaBlockWrongFalsely : Prop := fnExactChaBlockRow.holds Try.pinned (OpenSpec.ofChange fnExactChaBlockWrong)

/-- 'laws.FnExactChaStream': WHATEVER THE INPUT: true; the input reads as it did. -/
def fnExactChaStreamSpec : ChangeSpec := { name := "fnExactChaStream", fn := fun _ => fun
  | [d1, d2, d3, d4] => { results := [.lit (.bool true)], args := [d1, d2, d3, d4] }
  | _ => none }
def fnExactChaStreamRow : OpenClaim := { program := "ytijoancnlpkcoaa", sum := "c1079e8cc473bc35746b43d835afb50341825b7ef278dd0796149c3e9054346f", func := "loop.example/g00569/laws.FnExactChaStream", spec := "fnExactChaStream", unfollowed := true, recurses := true, apart := false }
def FnExactChaStreamSaid : Prop := fnExactChaStreamRow.holds Try.pinned (OpenSpec.ofChange fnExactChaStreamSpec)

/-- ITS FALSE NEIGHBOUR: 'it returns false'. Refute it at one input. -/
def fnExactChaStreamWrong : ChangeSpec := { name := "fnExactChaStream", fn := fun _ => fun
  | [d1, d2, d3, d4] => { results := [.lit (.bool false)], args := [d1, d2, d3, d4] }
  | _ => none }
def FnExactChaStreamWrongFalsely : Prop := fnExactChaStreamRow.holds Try.pinned (OpenSpec.ofChange fnExactChaStreamWrong)

/-- 'laws.FnTags': WHATEVER THE INPUT: true; the input reads as it did. -/
def fnTagsSpec : ChangeSpec := { name := "fnTags", fn := fun _ => fun
  | [d] => { results := [.lit (.bool true)], args := [d] }
  | _ => none }
def fnTagsRow : OpenClaim := { program := "ytijoancnlpkcoaa", sum := "c1079e8cc473bc35746b43d835afb50341825b7ef278dd0796149c3e9054346f", func := "loop.example/g00569/laws.FnTags", spec := "fnTags", apart := false }
def FnTagsSaid : Prop := fnTagsRow.holds Try.pinned (OpenSpec.ofChange fnTagsSpec)

/-- ITS FALSE NEIGHBOUR: 'it returns false'. Refute it at one input. -/
def fnTagsWrong : ChangeSpec := { name := "fnTags", fn := fun _ => fun
  | [d] => { results := [.lit (.bool false)], args := [d] }
  | _ => none }
def FnTagsWrongFalsely : Prop := fnTagsRow.holds Try.pinned (OpenSpec.ofChange fnTagsWrong)

/-- 'laws.FnExactTagOf': WHATEVER THE INPUT: true; the input reads as it did. -/
def fnExactTagOfSpec : ChangeSpec := { name := "fnExactTagOf", fn := fun _ => fun
  | [d1, d2] => { results := [.lit (.bool true)], args := [d1, d2] }
  | _ => none }
def fnExactTagOfRow : OpenClaim := { program := "ytijoancnlpkcoaa", sum := "c1079e8cc473bc35746b43d835afb50341825b7ef278dd0796149c3e9054346f", func := "loop.example/g00569/laws.FnExactTagOf", spec := "fnExactTagOf", apart := false }
def FnExactTagOfSaid : Prop := fnExactTagOfRow.holds Try.pinned (OpenSpec.ofChange fnExactTagOfSpec)

/-- ITS FALSE NEIGHBOUR: 'it returns false'. Refute it at one input. -/
def fnExactTagOfWrong : ChangeSpec := { name := "fnExactTagOf", fn := fun _ => fun
  | [d1, d2] => { results := [.lit (.bool false)], args := [d1, d2] }
  | _ => none }
def FnExactTagOfWrongFalsely : Prop := fnExactTagOfRow.holds Try.pinned (OpenSpec.ofChange fnExactTagOfWrong)

/-- 'laws.FnExactSealed': WHATEVER THE INPUT: true; the input reads as it did. -/
def fnExactSealedSpec : ChangeSpec := { name := "fnExactSealed", fn := fun _ => fun
  | [d1, d2, d3, d4] => { results := [.lit (.bool true)], args := [d1, d2, d3, d4] }
  | _ => none }
def fnExactSealedRow : OpenClaim := { program := "ytijoancnlpkcoaa", sum := "c1079e8cc473bc35746b43d835afb50341825b7ef278dd0796149c3e9054346f", func := "loop.example/g00569/laws.FnExactSealed", spec := "fnExactSealed", inPlace := ["internal/abi.NoEscape", "internal/bytealg.MakeNoZero"], unfollowed := true, recurses := true, apart := false }
def FnExactSealedSaid : Prop := fnExactSealedRow.holds Try.pinned (OpenSpec.ofChange fnExactSealedSpec)

/-- ITS FALSE NEIGHBOUR: 'it returns false'. Refute it at one input. -/
def fnExactSealedWrong : ChangeSpec := { name := "fnExactSealed", fn := fun _ => fun
  | [d1, d2, d3, d4] => { results := [.lit (.bool false)], args := [d1, d2, d3, d4] }
  | _ => none }
def FnExactSealedWrongFalsely : Prop := fnExactSealedRow.holds Try.pinned (OpenSpec.ofChange fnExactSealedWrong)

/-- 'laws.FnExactPadded': WHATEVER THE INPUT: true; the input reads as it did. -/
def fnExactPaddedSpec : ChangeSpec := { name := "fnExactPadded", fn := fun _ => fun
  | [d1, d2] => { results := [.lit (.bool true)], args := [d1, d2] }
  | _ => none }
def fnExactPaddedRow : OpenClaim := { program := "ytijoancnlpkcoaa", sum := "c1079e8cc473bc35746b43d835afb50341825b7ef278dd0796149c3e9054346f", func := "loop.example/g00569/laws.FnExactPadded", spec := "fnExactPadded", inPlace := ["internal/abi.NoEscape", "internal/bytealg.MakeNoZero"], apart := false }
def FnExactPaddedSaid : Prop := fnExactPaddedRow.holds Try.pinned (OpenSpec.ofChange fnExactPaddedSpec)

/-- ITS FALSE NEIGHBOUR: 'it returns false'. Refute it at one input. -/
def fnExactPaddedWrong : ChangeSpec := { name := "fnExactPadded", fn := fun _ => fun
  | [d1, d2] => { results := [.lit (.bool false)], args := [d1, d2] }
  | _ => none }
def FnExactPaddedWrongFalsely : Prop := fnExactPaddedRow.holds Try.pinned (OpenSpec.ofChange fnExactPaddedWrong)

/- THE SECOND FORM. 'bulk': how many values and letters a reading holds, each counted each time it is reached (what is shared counts as often as it is met; a slice's spare places count too). A statement '..UptoSaid' is the law's where the arguments, and the package variables that the reading takes, are together of bulk at most 1048576: NARROWER than '..Said'. Prove '..Said' where nothing that the law and all that it calls make is longer than what came in: it says more and counts as full. Else prove '..UptoSaid'. A law counts once. -/
mutual
def uptoBulk {H : Type} : DataW H → Nat
  | .lit (.string bytes) => bytes.length + 1
  | .lit _ => 1
  | .nil => 1
  | .ptr d => uptoBulk d + 1
  | .slice elems spare => uptoBulkAll elems + uptoBulkAll spare + 1
  | .agg parts => uptoBulkAll parts + 1
  | .iface _ d => uptoBulk d + 1
  | .map entries => uptoBulkEntries entries + 1
  | .held _ => 1
def uptoBulkAll {H : Type} : List (DataW H) → Nat
  | [] => 0
  | d :: r => uptoBulk d + uptoBulkAll r
def uptoBulkEntries {H : Type} : List (Lit × DataW H) → Nat
  | [] => 0
  | x :: r => uptoBulkEntry x + uptoBulkEntries r
def uptoBulkEntry {H : Type} : Lit × DataW H → Nat
  | (.string bytes, d) => bytes.length + uptoBulk d + 1
  | (_, d) => uptoBulk d + 1
 end
def uptoSmall : (H : Type) → List (DataW H) → Bool := fun _ ds => decide (uptoBulkAll ds ≤ 1048576)
def OpenSpec.upto (s : _root_.Go.ChangeSpec) : _root_.Go.OpenSpec := { _root_.Go.OpenSpec.ofChange s with cond := some uptoSmall }

/-- 'laws.FnStream', WHERE WHAT IT READS IS OF BULK AT MOST 1048576: true; the input reads as it did. -/
def fnStreamUptoRow : OpenClaim := { program := "ytijoancnlpkcoaa", sum := "c1079e8cc473bc35746b43d835afb50341825b7ef278dd0796149c3e9054346f", func := "loop.example/g00569/laws.FnStream", spec := "fnStream", unfollowed := true, recurses := true, apart := false, narrowed := true }
def FnStreamUptoSaid : Prop := fnStreamUptoRow.holds Try.pinned (OpenSpec.upto fnStreamSpec)

/-- 'laws.FnStreamXor', WHERE WHAT IT READS IS OF BULK AT MOST 1048576: true; the input reads as it did. -/
def fnStreamXorUptoRow : OpenClaim := { program := "ytijoancnlpkcoaa", sum := "c1079e8cc473bc35746b43d835afb50341825b7ef278dd0796149c3e9054346f", func := "loop.example/g00569/laws.FnStreamXor", spec := "fnStreamXor", unfollowed := true, recurses := true, apart := false, narrowed := true }
def FnStreamXorUptoSaid : Prop := fnStreamXorUptoRow.holds Try.pinned (OpenSpec.upto fnStreamXorSpec)

/-- 'laws.FnExactChaBlock', WHERE WHAT IT READS IS OF BULK AT MOST 1048576: true; the input reads as it did. -/
def fnExactChaBlockUptoRow : OpenClaim := { program := "ytijoancnlpkcoaa", sum := "c1079e8cc473bc35746b43d835afb50341825b7ef278dd0796149c3e9054346f", func := "loop.example/g00569/laws.FnExactChaBlock", spec := "fnExactChaBlock", unfollowed := true, recurses := true, apart := false, narrowed := true }
def FnExactChaBlockUptoSaid : Prop := fnExactChaBlockUptoRow.holds Try.pinned (OpenSpec.upto fnExactChaBlockSpec)

/-- 'laws.FnExactChaStream', WHERE WHAT IT READS IS OF BULK AT MOST 1048576: true; the input reads as it did. -/
def fnExactChaStreamUptoRow : OpenClaim := { program := "ytijoancnlpkcoaa", sum := "c1079e8cc473bc35746b43d835afb50341825b7ef278dd0796149c3e9054346f", func := "loop.example/g00569/laws.FnExactChaStream", spec := "fnExactChaStream", unfollowed := true, recurses := true, apart := false, narrowed := true }
def FnExactChaStreamUptoSaid : Prop := fnExactChaStreamUptoRow.holds Try.pinned (OpenSpec.upto fnExactChaStreamSpec)

/-- 'laws.FnTags', WHERE WHAT IT READS IS OF BULK AT MOST 1048576: true; the input reads as it did. -/
def fnTagsUptoRow : OpenClaim := { program := "ytijoancnlpkcoaa", sum := "c1079e8cc473bc35746b43d835afb50341825b7ef278dd0796149c3e9054346f", func := "loop.example/g00569/laws.FnTags", spec := "fnTags", apart := false, narrowed := true }
def FnTagsUptoSaid : Prop := fnTagsUptoRow.holds Try.pinned (OpenSpec.upto fnTagsSpec)

/-- 'laws.FnExactTagOf', WHERE WHAT IT READS IS OF BULK AT MOST 1048576: true; the input reads as it did. -/
def fnExactTagOfUptoRow : OpenClaim := { program := "ytijoancnlpkcoaa", sum := "c1079e8cc473bc35746b43d835afb50341825b7ef278dd0796149c3e9054346f", func := "loop.example/g00569/laws.FnExactTagOf", spec := "fnExactTagOf", apart := false, narrowed := true }
def FnExactTagOfUptoSaid : Prop := fnExactTagOfUptoRow.holds Try.pinned (OpenSpec.upto fnExactTagOfSpec)

/-- 'laws.FnExactSealed', WHERE WHAT IT READS IS OF BULK AT MOST 1048576: true; the input reads as it did. -/
def fnExactSealedUptoRow : OpenClaim := { program := "ytijoancnlpkcoaa", sum := "c1079e8cc473bc35746b43d835afb50341825b7ef278dd0796149c3e9054346f", func := "loop.example/g00569/laws.FnExactSealed", spec := "fnExactSealed", inPlace := ["internal/abi.NoEscape", "internal/bytealg.MakeNoZero"], unfollowed := true, recurses := true, apart := false, narrowed := true }
def FnExactSealedUptoSaid : Prop := fnExactSealedUptoRow.holds Try.pinned (OpenSpec.upto fnExactSealedSpec)

/-- 'laws.FnExactPadded', WHERE WHAT IT READS IS OF BULK AT MOST 1048576: true; the input reads as it did. -/
def fnExactPaddedUptoRow : OpenClaim := { program := "ytijoancnlpkcoaa", sum := "c1079e8cc473bc35746b43d835afb50341825b7ef278dd0796149c3e9054346f", func := "loop.example/g00569/laws.FnExactPadded", spec := "fnExactPadded", inPlace := ["internal/abi.NoEscape", "internal/bytealg.MakeNoZero"], apart := false, narrowed := true }
def FnExactPaddedUptoSaid : Prop := fnExactPaddedUptoRow.holds Try.pinned (OpenSpec.upto fnExactPaddedSpec)

end Rows
end Go.Proofs.Ytijoancnlpkcoaa
