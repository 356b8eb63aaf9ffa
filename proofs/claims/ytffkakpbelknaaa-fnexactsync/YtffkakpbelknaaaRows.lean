/-
  No cell of these rows narrows 'for every input' (looked for: loops, veiled, ifaces, maps, wideKeys, modest, calm, conditions, laid).
  DERIVED. THE GIVEN ROWS OF THIS SEAT. 11 by the template 'for every input the law returns true; each argument reads behind the call as it read before'; 0 by the template 'total and deterministic' (their statements: YtffkakpbelknaaaTotals.lean).
  GIVEN WITH THE SEED: the statements are not yours to turn. If you find one false, say at which input.
  Laid BY PROGRAM, IN A SANDBOX (cutbox-rows.mjs): the forced cells as the released guide's own fill.sh prints them over the translation d680aa2dd401c9d7… (all of the seat's roots in one cut). By AI agents, Wed Nov 11 2026. No macro, syntax, notation, axiom, sorry.
-/
import Derived.Test.YtffkakpbelknaaaChecked
import GoSem.Claim
import GoSem.ClaimJoined
import GoSem.ClaimMapViews
import Derived.JoinedTies
import Derived.KernelRfl
namespace Go.Proofs.Ytffkakpbelknaaa
/- THE CELL 'sum', in the pinned program and in every row, IS THE sha256 OF THE DUMP (.gsa) THAT YtffkakpbelknaaaProg.lean LOADS. Nothing in Lean hashes anything: it is a label: what it is worth is what the hold of that sum in a sandbox is worth. -/
noncomputable def Try.pinned : Pinned := { name := "ytffkakpbelknaaa", sum := "d680aa2dd401c9d71c26bc996b11cb9b039e0606b6bd6a28b45da88129405b95", checked := Try.checked }
namespace Rows
def none {H : Type} : Left H := { results := [], args := [] }

/-- 'laws.FnOperated': WHATEVER THE INPUT: true; the input reads as it did. -/
def fnOperatedSpec : ChangeSpec := { name := "fnOperated", fn := fun _ => fun
  | [d] => { results := [.lit (.bool true)], args := [d] }
  | _ => none }
def fnOperatedRow : OpenClaim := { program := "ytffkakpbelknaaa", sum := "d680aa2dd401c9d71c26bc996b11cb9b039e0606b6bd6a28b45da88129405b95", func := "loop.example/g00569/laws.FnOperated", spec := "fnOperated", inPlace := ["internal/bytealg.abigen_runtime_cmpstring"], unfollowed := true, recurses := true, apart := false }
def FnOperatedSaid : Prop := fnOperatedRow.holds Try.pinned (OpenSpec.ofChange fnOperatedSpec)

/-- ITS FALSE NEIGHBOUR: 'it returns false'. Refute it at one input. -/
def fnOperatedWrong : ChangeSpec := { name := "fnOperated", fn := fun _ => fun
  | [d] => { results := [.lit (.bool false)], args := [d] }
  | _ => none }
def FnOperatedWrongFalsely : Prop := fnOperatedRow.holds Try.pinned (OpenSpec.ofChange fnOperatedWrong)

/-- 'laws.FnMarked': WHATEVER THE INPUT: true; the input reads as it did. -/
def fnMarkedSpec : ChangeSpec := { name := "fnMarked", fn := fun _ => fun
  | [d] => { results := [.lit (.bool true)], args := [d] }
  | _ => none }
def fnMarkedRow : OpenClaim := { program := "ytffkakpbelknaaa", sum := "d680aa2dd401c9d71c26bc996b11cb9b039e0606b6bd6a28b45da88129405b95", func := "loop.example/g00569/laws.FnMarked", spec := "fnMarked", inPlace := ["internal/bytealg.abigen_runtime_cmpstring"], unfollowed := true, recurses := true, apart := false }
def FnMarkedSaid : Prop := fnMarkedRow.holds Try.pinned (OpenSpec.ofChange fnMarkedSpec)

/-- ITS FALSE NEIGHBOUR: 'it returns false'. Refute it at one input. -/
def fnMarkedWrong : ChangeSpec := { name := "fnMarked", fn := fun _ => fun
  | [d] => { results := [.lit (.bool false)], args := [d] }
  | _ => none }
def FnMarkedWrongFalsely : Prop := fnMarkedRow.holds Try.pinned (OpenSpec.ofChange fnMarkedWrong)

/-- 'laws.FnPurged': WHATEVER THE INPUT: true; the input reads as it did. -/
def fnPurgedSpec : ChangeSpec := { name := "fnPurged", fn := fun _ => fun
  | [d] => { results := [.lit (.bool true)], args := [d] }
  | _ => none }
def fnPurgedRow : OpenClaim := { program := "ytffkakpbelknaaa", sum := "d680aa2dd401c9d71c26bc996b11cb9b039e0606b6bd6a28b45da88129405b95", func := "loop.example/g00569/laws.FnPurged", spec := "fnPurged", inPlace := ["internal/bytealg.abigen_runtime_cmpstring"], unfollowed := true, recurses := true, apart := false }
def FnPurgedSaid : Prop := fnPurgedRow.holds Try.pinned (OpenSpec.ofChange fnPurgedSpec)

/-- ITS FALSE NEIGHBOUR: 'it returns false'. Refute it at one input. -/
def fnPurgedWrong : ChangeSpec := { name := "fnPurged", fn := fun _ => fun
  | [d] => { results := [.lit (.bool false)], args := [d] }
  | _ => none }
def FnPurgedWrongFalsely : Prop := fnPurgedRow.holds Try.pinned (OpenSpec.ofChange fnPurgedWrong)

/-- 'laws.FnPurgedTwice': WHATEVER THE INPUT: true; the input reads as it did. -/
def fnPurgedTwiceSpec : ChangeSpec := { name := "fnPurgedTwice", fn := fun _ => fun
  | [d] => { results := [.lit (.bool true)], args := [d] }
  | _ => none }
def fnPurgedTwiceRow : OpenClaim := { program := "ytffkakpbelknaaa", sum := "d680aa2dd401c9d71c26bc996b11cb9b039e0606b6bd6a28b45da88129405b95", func := "loop.example/g00569/laws.FnPurgedTwice", spec := "fnPurgedTwice", inPlace := ["internal/bytealg.abigen_runtime_cmpstring"], unfollowed := true, recurses := true, apart := false }
def FnPurgedTwiceSaid : Prop := fnPurgedTwiceRow.holds Try.pinned (OpenSpec.ofChange fnPurgedTwiceSpec)

/-- ITS FALSE NEIGHBOUR: 'it returns false'. Refute it at one input. -/
def fnPurgedTwiceWrong : ChangeSpec := { name := "fnPurgedTwice", fn := fun _ => fun
  | [d] => { results := [.lit (.bool false)], args := [d] }
  | _ => none }
def FnPurgedTwiceWrongFalsely : Prop := fnPurgedTwiceRow.holds Try.pinned (OpenSpec.ofChange fnPurgedTwiceWrong)

/-- 'laws.FnFetched': WHATEVER THE INPUT: true; the input reads as it did. -/
def fnFetchedSpec : ChangeSpec := { name := "fnFetched", fn := fun _ => fun
  | [d] => { results := [.lit (.bool true)], args := [d] }
  | _ => none }
def fnFetchedRow : OpenClaim := { program := "ytffkakpbelknaaa", sum := "d680aa2dd401c9d71c26bc996b11cb9b039e0606b6bd6a28b45da88129405b95", func := "loop.example/g00569/laws.FnFetched", spec := "fnFetched", inPlace := ["internal/bytealg.abigen_runtime_cmpstring"], unfollowed := true, recurses := true, apart := false }
def FnFetchedSaid : Prop := fnFetchedRow.holds Try.pinned (OpenSpec.ofChange fnFetchedSpec)

/-- ITS FALSE NEIGHBOUR: 'it returns false'. Refute it at one input. -/
def fnFetchedWrong : ChangeSpec := { name := "fnFetched", fn := fun _ => fun
  | [d] => { results := [.lit (.bool false)], args := [d] }
  | _ => none }
def FnFetchedWrongFalsely : Prop := fnFetchedRow.holds Try.pinned (OpenSpec.ofChange fnFetchedWrong)

/-- 'laws.FnFetchedTwice': WHATEVER THE INPUT: true; the input reads as it did. -/
def fnFetchedTwiceSpec : ChangeSpec := { name := "fnFetchedTwice", fn := fun _ => fun
  | [d] => { results := [.lit (.bool true)], args := [d] }
  | _ => none }
def fnFetchedTwiceRow : OpenClaim := { program := "ytffkakpbelknaaa", sum := "d680aa2dd401c9d71c26bc996b11cb9b039e0606b6bd6a28b45da88129405b95", func := "loop.example/g00569/laws.FnFetchedTwice", spec := "fnFetchedTwice", inPlace := ["internal/bytealg.abigen_runtime_cmpstring"], unfollowed := true, recurses := true, apart := false }
def FnFetchedTwiceSaid : Prop := fnFetchedTwiceRow.holds Try.pinned (OpenSpec.ofChange fnFetchedTwiceSpec)

/-- ITS FALSE NEIGHBOUR: 'it returns false'. Refute it at one input. -/
def fnFetchedTwiceWrong : ChangeSpec := { name := "fnFetchedTwice", fn := fun _ => fun
  | [d] => { results := [.lit (.bool false)], args := [d] }
  | _ => none }
def FnFetchedTwiceWrongFalsely : Prop := fnFetchedTwiceRow.holds Try.pinned (OpenSpec.ofChange fnFetchedTwiceWrong)

/-- 'laws.FnAddedDropped': WHATEVER THE INPUT: true; the input reads as it did. -/
def fnAddedDroppedSpec : ChangeSpec := { name := "fnAddedDropped", fn := fun _ => fun
  | [d] => { results := [.lit (.bool true)], args := [d] }
  | _ => none }
def fnAddedDroppedRow : OpenClaim := { program := "ytffkakpbelknaaa", sum := "d680aa2dd401c9d71c26bc996b11cb9b039e0606b6bd6a28b45da88129405b95", func := "loop.example/g00569/laws.FnAddedDropped", spec := "fnAddedDropped", inPlace := ["internal/bytealg.abigen_runtime_cmpstring"], unfollowed := true, recurses := true, apart := false }
def FnAddedDroppedSaid : Prop := fnAddedDroppedRow.holds Try.pinned (OpenSpec.ofChange fnAddedDroppedSpec)

/-- ITS FALSE NEIGHBOUR: 'it returns false'. Refute it at one input. -/
def fnAddedDroppedWrong : ChangeSpec := { name := "fnAddedDropped", fn := fun _ => fun
  | [d] => { results := [.lit (.bool false)], args := [d] }
  | _ => none }
def FnAddedDroppedWrongFalsely : Prop := fnAddedDroppedRow.holds Try.pinned (OpenSpec.ofChange fnAddedDroppedWrong)

/-- 'laws.FnExactDo': WHATEVER THE INPUT: true; the input reads as it did. -/
def fnExactDoSpec : ChangeSpec := { name := "fnExactDo", fn := fun _ => fun
  | [d1, d2] => { results := [.lit (.bool true)], args := [d1, d2] }
  | _ => none }
def fnExactDoRow : OpenClaim := { program := "ytffkakpbelknaaa", sum := "d680aa2dd401c9d71c26bc996b11cb9b039e0606b6bd6a28b45da88129405b95", func := "loop.example/g00569/laws.FnExactDo", spec := "fnExactDo", inPlace := ["internal/bytealg.abigen_runtime_cmpstring"], unfollowed := true, recurses := true, apart := false }
def FnExactDoSaid : Prop := fnExactDoRow.holds Try.pinned (OpenSpec.ofChange fnExactDoSpec)

/-- ITS FALSE NEIGHBOUR: 'it returns false'. Refute it at one input. -/
def fnExactDoWrong : ChangeSpec := { name := "fnExactDo", fn := fun _ => fun
  | [d1, d2] => { results := [.lit (.bool false)], args := [d1, d2] }
  | _ => none }
def FnExactDoWrongFalsely : Prop := fnExactDoRow.holds Try.pinned (OpenSpec.ofChange fnExactDoWrong)

/-- 'laws.FnExactSync': WHATEVER THE INPUT: true; the input reads as it did. -/
def fnExactSyncSpec : ChangeSpec := { name := "fnExactSync", fn := fun _ => fun
  | [d] => { results := [.lit (.bool true)], args := [d] }
  | _ => none }
def fnExactSyncRow : OpenClaim := { program := "ytffkakpbelknaaa", sum := "d680aa2dd401c9d71c26bc996b11cb9b039e0606b6bd6a28b45da88129405b95", func := "loop.example/g00569/laws.FnExactSync", spec := "fnExactSync", inPlace := ["internal/bytealg.abigen_runtime_cmpstring"], unfollowed := true, recurses := true, apart := false }
def FnExactSyncSaid : Prop := fnExactSyncRow.holds Try.pinned (OpenSpec.ofChange fnExactSyncSpec)

/-- ITS FALSE NEIGHBOUR: 'it returns false'. Refute it at one input. -/
def fnExactSyncWrong : ChangeSpec := { name := "fnExactSync", fn := fun _ => fun
  | [d] => { results := [.lit (.bool false)], args := [d] }
  | _ => none }
def FnExactSyncWrongFalsely : Prop := fnExactSyncRow.holds Try.pinned (OpenSpec.ofChange fnExactSyncWrong)

/-- 'laws.FnExactCrash': WHATEVER THE INPUT: true; the input reads as it did. -/
def fnExactCrashSpec : ChangeSpec := { name := "fnExactCrash", fn := fun _ => fun
  | [d1, d2, d3] => { results := [.lit (.bool true)], args := [d1, d2, d3] }
  | _ => none }
def fnExactCrashRow : OpenClaim := { program := "ytffkakpbelknaaa", sum := "d680aa2dd401c9d71c26bc996b11cb9b039e0606b6bd6a28b45da88129405b95", func := "loop.example/g00569/laws.FnExactCrash", spec := "fnExactCrash", inPlace := ["internal/bytealg.abigen_runtime_cmpstring"], unfollowed := true, recurses := true, apart := false }
def FnExactCrashSaid : Prop := fnExactCrashRow.holds Try.pinned (OpenSpec.ofChange fnExactCrashSpec)

/-- ITS FALSE NEIGHBOUR: 'it returns false'. Refute it at one input. -/
def fnExactCrashWrong : ChangeSpec := { name := "fnExactCrash", fn := fun _ => fun
  | [d1, d2, d3] => { results := [.lit (.bool false)], args := [d1, d2, d3] }
  | _ => none }
def FnExactCrashWrongFalsely : Prop := fnExactCrashRow.holds Try.pinned (OpenSpec.ofChange fnExactCrashWrong)

/-- 'laws.FnExactReplace': WHATEVER THE INPUT: true; the input reads as it did. -/
def fnExactReplaceSpec : ChangeSpec := { name := "fnExactReplace", fn := fun _ => fun
  | [d1, d2, d3] => { results := [.lit (.bool true)], args := [d1, d2, d3] }
  | _ => none }
def fnExactReplaceRow : OpenClaim := { program := "ytffkakpbelknaaa", sum := "d680aa2dd401c9d71c26bc996b11cb9b039e0606b6bd6a28b45da88129405b95", func := "loop.example/g00569/laws.FnExactReplace", spec := "fnExactReplace", inPlace := ["internal/bytealg.abigen_runtime_cmpstring"], unfollowed := true, recurses := true, apart := false }
def FnExactReplaceSaid : Prop := fnExactReplaceRow.holds Try.pinned (OpenSpec.ofChange fnExactReplaceSpec)

/-- ITS FALSE NEIGHBOUR: 'it returns false'. Refute it at one input. -/
def fnExactReplaceWrong : ChangeSpec := { name := "fnExactReplace", fn := fun _ => fun
  | [d1, d2, d3] => { results := [.lit (.bool false)], args := [d1, d2, d3] }
  | _ => none }
def FnExactReplaceWrongFalsely : Prop := fnExactReplaceRow.holds Try.pinned (OpenSpec.ofChange fnExactReplaceWrong)

/- THE SECOND FORM. 'bulk': how many values and letters a reading holds, each counted each time it is reached (what is shared counts as often as it is met; a slice's spare places count too). A statement '..UptoSaid' is the law's where the arguments, and the package variables that the reading takes, are together of bulk at most 1048576: NARROWER than '..Said'. Prove '..Said' where nothing that the law and all that it calls make is longer than what came in: it says more and counts as full. Else prove '..UptoSaid'. A law counts once. -/
mutual
def uptoBulk {H : Type} : DataW H → Nat
  | .lit (.string bytes) => bytes.length + 1
  | .lit _ => 1
  | .nil => 1
  | .ptr d => uptoBulk d + 1
  | .slice elems spare => uptoBulkAll elems + uptoBulkAll spare + 1
  | .agg parts => uptoBulkAll parts + 1
  | .iface _ d => uptoBulk d + 1
  | .map entries => uptoBulkEntries entries + 1
  | .held _ => 1
def uptoBulkAll {H : Type} : List (DataW H) → Nat
  | [] => 0
  | d :: r => uptoBulk d + uptoBulkAll r
def uptoBulkEntries {H : Type} : List (Lit × DataW H) → Nat
  | [] => 0
  | x :: r => uptoBulkEntry x + uptoBulkEntries r
def uptoBulkEntry {H : Type} : Lit × DataW H → Nat
  | (.string bytes, d) => bytes.length + uptoBulk d + 1
  | (_, d) => uptoBulk d + 1
 end
def uptoSmall : (H : Type) → List (DataW H) → Bool := fun _ ds => decide (uptoBulkAll ds ≤ 1048576)
def OpenSpec.upto (s : _root_.Go.ChangeSpec) : _root_.Go.OpenSpec := { _root_.Go.OpenSpec.ofChange s with cond := some uptoSmall }

/-- 'laws.FnOperated', WHERE WHAT IT READS IS OF BULK AT MOST 1048576: true; the input reads as it did. -/
def fnOperatedUptoRow : OpenClaim := { program := "ytffkakpbelknaaa", sum := "d680aa2dd401c9d71c26bc996b11cb9b039e0606b6bd6a28b45da88129405b95", func := "loop.example/g00569/laws.FnOperated", spec := "fnOperated", inPlace := ["internal/bytealg.abigen_runtime_cmpstring"], unfollowed := true, recurses := true, apart := false, narrowed := true }
def FnOperatedUptoSaid : Prop := fnOperatedUptoRow.holds Try.pinned (OpenSpec.upto fnOperatedSpec)

/-- 'laws.FnMarked', WHERE WHAT IT READS IS OF BULK AT MOST 1048576: true; the input reads as it did. -/
def fnMarkedUptoRow : OpenClaim := { program := "ytffkakpbelknaaa", sum := "d680aa2dd401c9d71c26bc996b11cb9b039e0606b6bd6a28b45da88129405b95", func := "loop.example/g00569/laws.FnMarked", spec := "fnMarked", inPlace := ["internal/bytealg.abigen_runtime_cmpstring"], unfollowed := true, recurses := true, apart := false, narrowed := true }
def FnMarkedUptoSaid : Prop := fnMarkedUptoRow.holds Try.pinned (OpenSpec.upto fnMarkedSpec)

/-- 'laws.FnPurged', WHERE WHAT IT READS IS OF BULK AT MOST 1048576: true; the input reads as it did. -/
def fnPurgedUptoRow : OpenClaim := { program := "ytffkakpbelknaaa", sum := "d680aa2dd401c9d71c26bc996b11cb9b039e0606b6bd6a28b45da88129405b95", func := "loop.example/g00569/laws.FnPurged", spec := "fnPurged", inPlace := ["internal/bytealg.abigen_runtime_cmpstring"], unfollowed := true, recurses := true, apart := false, narrowed := true }
def FnPurgedUptoSaid : Prop := fnPurgedUptoRow.holds Try.pinned (OpenSpec.upto fnPurgedSpec)

/-- 'laws.FnPurgedTwice', WHERE WHAT IT READS IS OF BULK AT MOST 1048576: true; the input reads as it did. -/
def fnPurgedTwiceUptoRow : OpenClaim := { program := "ytffkakpbelknaaa", sum := "d680aa2dd401c9d71c26bc996b11cb9b039e0606b6bd6a28b45da88129405b95", func := "loop.example/g00569/laws.FnPurgedTwice", spec := "fnPurgedTwice", inPlace := ["internal/bytealg.abigen_runtime_cmpstring"], unfollowed := true, recurses := true, apart := false, narrowed := true }
def FnPurgedTwiceUptoSaid : Prop := fnPurgedTwiceUptoRow.holds Try.pinned (OpenSpec.upto fnPurgedTwiceSpec)

/-- 'laws.FnFetched', WHERE WHAT IT READS IS OF BULK AT MOST 1048576: true; the input reads as it did. -/
def fnFetchedUptoRow : OpenClaim := { program := "ytffkakpbelknaaa", sum := "d680aa2dd401c9d71c26bc996b11cb9b039e0606b6bd6a28b45da88129405b95", func := "loop.example/g00569/laws.FnFetched", spec := "fnFetched", inPlace := ["internal/bytealg.abigen_runtime_cmpstring"], unfollowed := true, recurses := true, apart := false, narrowed := true }
def FnFetchedUptoSaid : Prop := fnFetchedUptoRow.holds Try.pinned (OpenSpec.upto fnFetchedSpec)

/-- 'laws.FnFetchedTwice', WHERE WHAT IT READS IS OF BULK AT MOST 1048576: true; the input reads as it did. -/
def fnFetchedTwiceUptoRow : OpenClaim := { program := "ytffkakpbelknaaa", sum := "d680aa2dd401c9d71c26bc996b11cb9b039e0606b6bd6a28b45da88129405b95", func := "loop.example/g00569/laws.FnFetchedTwice", spec := "fnFetchedTwice", inPlace := ["internal/bytealg.abigen_runtime_cmpstring"], unfollowed := true, recurses := true, apart := false, narrowed := true }
def FnFetchedTwiceUptoSaid : Prop := fnFetchedTwiceUptoRow.holds Try.pinned (OpenSpec.upto fnFetchedTwiceSpec)

/-- 'laws.FnAddedDropped', WHERE WHAT IT READS IS OF BULK AT MOST 1048576: true; the input reads as it did. -/
def fnAddedDroppedUptoRow : OpenClaim := { program := "ytffkakpbelknaaa", sum := "d680aa2dd401c9d71c26bc996b11cb9b039e0606b6bd6a28b45da88129405b95", func := "loop.example/g00569/laws.FnAddedDropped", spec := "fnAddedDropped", inPlace := ["internal/bytealg.abigen_runtime_cmpstring"], unfollowed := true, recurses := true, apart := false, narrowed := true }
def FnAddedDroppedUptoSaid : Prop := fnAddedDroppedUptoRow.holds Try.pinned (OpenSpec.upto fnAddedDroppedSpec)

/-- 'laws.FnExactDo', WHERE WHAT IT READS IS OF BULK AT MOST 1048576: true; the input reads as it did. -/
def fnExactDoUptoRow : OpenClaim := { program := "ytffkakpbelknaaa", sum := "d680aa2dd401c9d71c26bc996b11cb9b039e0606b6bd6a28b45da88129405b95", func := "loop.example/g00569/laws.FnExactDo", spec := "fnExactDo", inPlace := ["internal/bytealg.abigen_runtime_cmpstring"], unfollowed := true, recurses := true, apart := false, narrowed := true }
def FnExactDoUptoSaid : Prop := fnExactDoUptoRow.holds Try.pinned (OpenSpec.upto fnExactDoSpec)

/-- 'laws.FnExactSync', WHERE WHAT IT READS IS OF BULK AT MOST 1048576: true; the input reads as it did. -/
def fnExactSyncUptoRow : OpenClaim := { program := "ytffkakpbelknaaa", sum := "d680aa2dd401c9d71c26bc996b11cb9b039e0606b6bd6a28b45da88129405b95", func := "loop.example/g00569/laws.FnExactSync", spec := "fnExactSync", inPlace := ["internal/bytealg.abigen_runtime_cmpstring"], unfollowed := true, recurses := true, apart := false, narrowed := true }
def FnExactSyncUptoSaid : Prop := fnExactSyncUptoRow.holds Try.pinned (OpenSpec.upto fnExactSyncSpec)

/-- 'laws.FnExactCrash', WHERE WHAT IT READS IS OF BULK AT MOST 1048576: true; the input reads as it did. -/
def fnExactCrashUptoRow : OpenClaim := { program := "ytffkakpbelknaaa", sum := "d680aa2dd401c9d71c26bc996b11cb9b039e0606b6bd6a28b45da88129405b95", func := "loop.example/g00569/laws.FnExactCrash", spec := "fnExactCrash", inPlace := ["internal/bytealg.abigen_runtime_cmpstring"], unfollowed := true, recurses := true, apart := false, narrowed := true }
def FnExactCrashUptoSaid : Prop := fnExactCrashUptoRow.holds Try.pinned (OpenSpec.upto fnExactCrashSpec)

/-- 'laws.FnExactReplace', WHERE WHAT IT READS IS OF BULK AT MOST 1048576: true; the input reads as it did. -/
def fnExactReplaceUptoRow : OpenClaim := { program := "ytffkakpbelknaaa", sum := "d680aa2dd401c9d71c26bc996b11cb9b039e0606b6bd6a28b45da88129405b95", func := "loop.example/g00569/laws.FnExactReplace", spec := "fnExactReplace", inPlace := ["internal/bytealg.abigen_runtime_cmpstring"], unfollowed := true, recurses := true, apart := false, narrowed := true }
def FnExactReplaceUptoSaid : Prop := fnExactReplaceUptoRow.holds Try.pinned (OpenSpec.upto fnExactReplaceSpec)

end Rows
end Go.Proofs.Ytffkakpbelknaaa
