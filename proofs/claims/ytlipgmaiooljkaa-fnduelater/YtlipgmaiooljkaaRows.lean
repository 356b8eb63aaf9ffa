/-
  No cell of these rows narrows 'for every input' (looked for: loops, veiled, ifaces, maps, wideKeys, modest, calm, conditions, laid).
  DERIVED. THE GIVEN ROWS OF THIS SEAT. 9 by the template 'for every input the law returns true; each argument reads behind the call as it read before'; 0 by the template 'total and deterministic' (their statements: YtlipgmaiooljkaaTotals.lean).
  GIVEN WITH THE SEED: the statements are not yours to turn. If you find one false, say at which input.
  Laid BY PROGRAM, IN A SANDBOX (cutbox-rows.mjs): the forced cells as the released guide's own fill.sh prints them over the translation 241a558fac7c79c8… (all of the seat's roots in one cut). By AI agents, Wed Nov 11 2026. No macro, syntax, notation, axiom, sorry.
-/
import Derived.Test.YtlipgmaiooljkaaChecked
import GoSem.Claim
import GoSem.ClaimJoined
import GoSem.ClaimMapViews
import Derived.JoinedTies
import Derived.KernelRfl
namespace Go.Proofs.Ytlipgmaiooljkaa
/- THE CELL 'sum', in the pinned program and in every row, IS THE sha256 OF THE DUMP (.gsa) THAT YtlipgmaiooljkaaProg.lean LOADS. Nothing in Lean hashes anything: it is a label: what it is worth is what the hold of that sum in a sandbox is worth. -/
noncomputable def Try.pinned : Pinned := { name := "ytlipgmaiooljkaa", sum := "241a558fac7c79c87b472fff7deaa225fa0cb7217fff8c443f17538ea3829f79", checked := Try.checked }
namespace Rows
def none {H : Type} : Left H := { results := [], args := [] }

/-- 'laws.FnExactPollNew': WHATEVER THE INPUT: true; the input reads as it did. -/
def fnExactPollNewSpec : ChangeSpec := { name := "fnExactPollNew", fn := fun _ => fun
  | [d1, d2] => { results := [.lit (.bool true)], args := [d1, d2] }
  | _ => none }
def fnExactPollNewRow : OpenClaim := { program := "ytlipgmaiooljkaa", sum := "241a558fac7c79c87b472fff7deaa225fa0cb7217fff8c443f17538ea3829f79", func := "loop.example/g00569/laws.FnExactPollNew", spec := "fnExactPollNew", apart := false }
def FnExactPollNewSaid : Prop := fnExactPollNewRow.holds Try.pinned (OpenSpec.ofChange fnExactPollNewSpec)

/-- ITS FALSE NEIGHBOUR: 'it returns false'. Refute it at one input. -/
def fnExactPollNewWrong : ChangeSpec := { name := "fnExactPollNew", fn := fun _ => fun
  | [d1, d2] => { results := [.lit (.bool false)], args := [d1, d2] }
  | _ => none }
def FnExactPollNewWrongFalsely : Prop := fnExactPollNewRow.holds Try.pinned (OpenSpec.ofChange fnExactPollNewWrong)

/-- 'laws.FnExactPollOk': WHATEVER THE INPUT: true; the input reads as it did. -/
def fnExactPollOkSpec : ChangeSpec := { name := "fnExactPollOk", fn := fun _ => fun
  | [d] => { results := [.lit (.bool true)], args := [d] }
  | _ => none }
def fnExactPollOkRow : OpenClaim := { program := "ytlipgmaiooljkaa", sum := "241a558fac7c79c87b472fff7deaa225fa0cb7217fff8c443f17538ea3829f79", func := "loop.example/g00569/laws.FnExactPollOk", spec := "fnExactPollOk", apart := false }
def FnExactPollOkSaid : Prop := fnExactPollOkRow.holds Try.pinned (OpenSpec.ofChange fnExactPollOkSpec)

/-- ITS FALSE NEIGHBOUR: 'it returns false'. Refute it at one input. -/
def fnExactPollOkWrong : ChangeSpec := { name := "fnExactPollOk", fn := fun _ => fun
  | [d] => { results := [.lit (.bool false)], args := [d] }
  | _ => none }
def FnExactPollOkWrongFalsely : Prop := fnExactPollOkRow.holds Try.pinned (OpenSpec.ofChange fnExactPollOkWrong)

/-- 'laws.FnExactPollAfter': WHATEVER THE INPUT: true; the input reads as it did. -/
def fnExactPollAfterSpec : ChangeSpec := { name := "fnExactPollAfter", fn := fun _ => fun
  | [d1, d2, d3] => { results := [.lit (.bool true)], args := [d1, d2, d3] }
  | _ => none }
def fnExactPollAfterRow : OpenClaim := { program := "ytlipgmaiooljkaa", sum := "241a558fac7c79c87b472fff7deaa225fa0cb7217fff8c443f17538ea3829f79", func := "loop.example/g00569/laws.FnExactPollAfter", spec := "fnExactPollAfter", unfollowed := true, recurses := true, apart := false }
def FnExactPollAfterSaid : Prop := fnExactPollAfterRow.holds Try.pinned (OpenSpec.ofChange fnExactPollAfterSpec)

/-- ITS FALSE NEIGHBOUR: 'it returns false'. Refute it at one input. -/
def fnExactPollAfterWrong : ChangeSpec := { name := "fnExactPollAfter", fn := fun _ => fun
  | [d1, d2, d3] => { results := [.lit (.bool false)], args := [d1, d2, d3] }
  | _ => none }
def FnExactPollAfterWrongFalsely : Prop := fnExactPollAfterRow.holds Try.pinned (OpenSpec.ofChange fnExactPollAfterWrong)

/-- 'laws.FnExactDue': WHATEVER THE INPUT: true; the input reads as it did. -/
def fnExactDueSpec : ChangeSpec := { name := "fnExactDue", fn := fun _ => fun
  | [d1, d2] => { results := [.lit (.bool true)], args := [d1, d2] }
  | _ => none }
def fnExactDueRow : OpenClaim := { program := "ytlipgmaiooljkaa", sum := "241a558fac7c79c87b472fff7deaa225fa0cb7217fff8c443f17538ea3829f79", func := "loop.example/g00569/laws.FnExactDue", spec := "fnExactDue", apart := false }
def FnExactDueSaid : Prop := fnExactDueRow.holds Try.pinned (OpenSpec.ofChange fnExactDueSpec)

/-- ITS FALSE NEIGHBOUR: 'it returns false'. Refute it at one input. -/
def fnExactDueWrong : ChangeSpec := { name := "fnExactDue", fn := fun _ => fun
  | [d1, d2] => { results := [.lit (.bool false)], args := [d1, d2] }
  | _ => none }
def FnExactDueWrongFalsely : Prop := fnExactDueRow.holds Try.pinned (OpenSpec.ofChange fnExactDueWrong)

/-- 'laws.FnPolled': WHATEVER THE INPUT: true; the input reads as it did. -/
def fnPolledSpec : ChangeSpec := { name := "fnPolled", fn := fun _ => fun
  | [d] => { results := [.lit (.bool true)], args := [d] }
  | _ => none }
def fnPolledRow : OpenClaim := { program := "ytlipgmaiooljkaa", sum := "241a558fac7c79c87b472fff7deaa225fa0cb7217fff8c443f17538ea3829f79", func := "loop.example/g00569/laws.FnPolled", spec := "fnPolled", unfollowed := true, recurses := true, apart := false }
def FnPolledSaid : Prop := fnPolledRow.holds Try.pinned (OpenSpec.ofChange fnPolledSpec)

/-- ITS FALSE NEIGHBOUR: 'it returns false'. Refute it at one input. -/
def fnPolledWrong : ChangeSpec := { name := "fnPolled", fn := fun _ => fun
  | [d] => { results := [.lit (.bool false)], args := [d] }
  | _ => none }
def FnPolledWrongFalsely : Prop := fnPolledRow.holds Try.pinned (OpenSpec.ofChange fnPolledWrong)

/-- 'laws.FnLonger': WHATEVER THE INPUT: true; the input reads as it did. -/
def fnLongerSpec : ChangeSpec := { name := "fnLonger", fn := fun _ => fun
  | [d] => { results := [.lit (.bool true)], args := [d] }
  | _ => none }
def fnLongerRow : OpenClaim := { program := "ytlipgmaiooljkaa", sum := "241a558fac7c79c87b472fff7deaa225fa0cb7217fff8c443f17538ea3829f79", func := "loop.example/g00569/laws.FnLonger", spec := "fnLonger", unfollowed := true, recurses := true, apart := false }
def FnLongerSaid : Prop := fnLongerRow.holds Try.pinned (OpenSpec.ofChange fnLongerSpec)

/-- ITS FALSE NEIGHBOUR: 'it returns false'. Refute it at one input. -/
def fnLongerWrong : ChangeSpec := { name := "fnLonger", fn := fun _ => fun
  | [d] => { results := [.lit (.bool false)], args := [d] }
  | _ => none }
def FnLongerWrongFalsely : Prop := fnLongerRow.holds Try.pinned (OpenSpec.ofChange fnLongerWrong)

/-- 'laws.FnDue': WHATEVER THE INPUT: true; the input reads as it did. -/
def fnDueSpec : ChangeSpec := { name := "fnDue", fn := fun _ => fun
  | [d] => { results := [.lit (.bool true)], args := [d] }
  | _ => none }
def fnDueRow : OpenClaim := { program := "ytlipgmaiooljkaa", sum := "241a558fac7c79c87b472fff7deaa225fa0cb7217fff8c443f17538ea3829f79", func := "loop.example/g00569/laws.FnDue", spec := "fnDue", apart := false }
def FnDueSaid : Prop := fnDueRow.holds Try.pinned (OpenSpec.ofChange fnDueSpec)

/-- ITS FALSE NEIGHBOUR: 'it returns false'. Refute it at one input. -/
def fnDueWrong : ChangeSpec := { name := "fnDue", fn := fun _ => fun
  | [d] => { results := [.lit (.bool false)], args := [d] }
  | _ => none }
def FnDueWrongFalsely : Prop := fnDueRow.holds Try.pinned (OpenSpec.ofChange fnDueWrong)

/-- 'laws.FnDueLater': WHATEVER THE INPUT: true; the input reads as it did. -/
def fnDueLaterSpec : ChangeSpec := { name := "fnDueLater", fn := fun _ => fun
  | [d] => { results := [.lit (.bool true)], args := [d] }
  | _ => none }
def fnDueLaterRow : OpenClaim := { program := "ytlipgmaiooljkaa", sum := "241a558fac7c79c87b472fff7deaa225fa0cb7217fff8c443f17538ea3829f79", func := "loop.example/g00569/laws.FnDueLater", spec := "fnDueLater", apart := false }
def FnDueLaterSaid : Prop := fnDueLaterRow.holds Try.pinned (OpenSpec.ofChange fnDueLaterSpec)

/-- ITS FALSE NEIGHBOUR: 'it returns false'. Refute it at one input. -/
def fnDueLaterWrong : ChangeSpec := { name := "fnDueLater", fn := fun _ => fun
  | [d] => { results := [.lit (.bool false)], args := [d] }
  | _ => none }
def FnDueLaterWrongFalsely : Prop := fnDueLaterRow.holds Try.pinned (OpenSpec.ofChange fnDueLaterWrong)

/-- 'laws.FnFolded': WHATEVER THE INPUT: true; the input reads as it did. -/
def fnFoldedSpec : ChangeSpec := { name := "fnFolded", fn := fun _ => fun
  | [d] => { results := [.lit (.bool true)], args := [d] }
  | _ => none }
def fnFoldedRow : OpenClaim := { program := "ytlipgmaiooljkaa", sum := "241a558fac7c79c87b472fff7deaa225fa0cb7217fff8c443f17538ea3829f79", func := "loop.example/g00569/laws.FnFolded", spec := "fnFolded", inPlace := ["internal/bytealg.abigen_runtime_cmpstring"], unfollowed := true, recurses := true, apart := false }
def FnFoldedSaid : Prop := fnFoldedRow.holds Try.pinned (OpenSpec.ofChange fnFoldedSpec)

/-- ITS FALSE NEIGHBOUR: 'it returns false'. Refute it at one input. -/
def fnFoldedWrong : ChangeSpec := { name := "fnFolded", fn := fun _ => fun
  | [d] => { results := [.lit (.bool false)], args := [d] }
  | _ => none }
def FnFoldedWrongFalsely : Prop := fnFoldedRow.holds Try.pinned (OpenSpec.ofChange fnFoldedWrong)

/- THE SECOND FORM. 'bulk': how many values and letters a reading holds, each counted each time it is reached (what is shared counts as often as it is met; a slice's spare places count too). A statement '..UptoSaid' is the law's where the arguments, and the package variables that the reading takes, are together of bulk at most 1048576: NARROWER than '..Said'. Prove '..Said' where nothing that the law and all that it calls make is longer than what came in: it says more and counts as full. Else prove '..UptoSaid'. A law counts once. -/
mutual
def uptoBulk {H : Type} : DataW H → Nat
  | .lit (.string bytes) => bytes.length + 1
  | .lit _ => 1
  | .nil => 1
  | .ptr d => uptoBulk d + 1
  | .slice elems spare => uptoBulkAll elems + uptoBulkAll spare + 1
  | .agg parts => uptoBulkAll parts + 1
  | .iface _ d => uptoBulk d + 1
  | .map entries => uptoBulkEntries entries + 1
  | .held _ => 1
def uptoBulkAll {H : Type} : List (DataW H) → Nat
  | [] => 0
  | d :: r => uptoBulk d + uptoBulkAll r
def uptoBulkEntries {H : Type} : List (Lit × DataW H) → Nat
  | [] => 0
  | x :: r => uptoBulkEntry x + uptoBulkEntries r
def uptoBulkEntry {H : Type} : Lit × DataW H → Nat
  | (.string bytes, d) => bytes.length + uptoBulk d + 1
  | (_, d) => uptoBulk d + 1
 end
def uptoSmall : (H : Type) → List (DataW H) → Bool := fun _ ds => decide (uptoBulkAll ds ≤ 1048576)
def OpenSpec.upto (s : _root_.Go.ChangeSpec) : _root_.Go.OpenSpec := { _root_.Go.OpenSpec.ofChange s with cond := some uptoSmall }

/-- 'laws.FnExactPollNew', WHERE WHAT IT READS IS OF BULK AT MOST 1048576: true; the input reads as it did. -/
def fnExactPollNewUptoRow : OpenClaim := { program := "ytlipgmaiooljkaa", sum := "241a558fac7c79c87b472fff7deaa225fa0cb7217fff8c443f17538ea3829f79", func := "loop.example/g00569/laws.FnExactPollNew", spec := "fnExactPollNew", apart := false, narrowed := true }
def FnExactPollNewUptoSaid : Prop := fnExactPollNewUptoRow.holds Try.pinned (OpenSpec.upto fnExactPollNewSpec)

/-- 'laws.FnExactPollOk', WHERE WHAT IT READS IS OF BULK AT MOST 1048576: true; the input reads as it did. -/
def fnExactPollOkUptoRow : OpenClaim := { program := "ytlipgmaiooljkaa", sum := "241a558fac7c79c87b472fff7deaa225fa0cb7217fff8c443f17538ea3829f79", func := "loop.example/g00569/laws.FnExactPollOk", spec := "fnExactPollOk", apart := false, narrowed := true }
def FnExactPollOkUptoSaid : Prop := fnExactPollOkUptoRow.holds Try.pinned (OpenSpec.upto fnExactPollOkSpec)

/-- 'laws.FnExactPollAfter', WHERE WHAT IT READS IS OF BULK AT MOST 1048576: true; the input reads as it did. -/
def fnExactPollAfterUptoRow : OpenClaim := { program := "ytlipgmaiooljkaa", sum := "241a558fac7c79c87b472fff7deaa225fa0cb7217fff8c443f17538ea3829f79", func := "loop.example/g00569/laws.FnExactPollAfter", spec := "fnExactPollAfter", unfollowed := true, recurses := true, apart := false, narrowed := true }
def FnExactPollAfterUptoSaid : Prop := fnExactPollAfterUptoRow.holds Try.pinned (OpenSpec.upto fnExactPollAfterSpec)

/-- 'laws.FnExactDue', WHERE WHAT IT READS IS OF BULK AT MOST 1048576: true; the input reads as it did. -/
def fnExactDueUptoRow : OpenClaim := { program := "ytlipgmaiooljkaa", sum := "241a558fac7c79c87b472fff7deaa225fa0cb7217fff8c443f17538ea3829f79", func := "loop.example/g00569/laws.FnExactDue", spec := "fnExactDue", apart := false, narrowed := true }
def FnExactDueUptoSaid : Prop := fnExactDueUptoRow.holds Try.pinned (OpenSpec.upto fnExactDueSpec)

/-- 'laws.FnPolled', WHERE WHAT IT READS IS OF BULK AT MOST 1048576: true; the input reads as it did. -/
def fnPolledUptoRow : OpenClaim := { program := "ytlipgmaiooljkaa", sum := "241a558fac7c79c87b472fff7deaa225fa0cb7217fff8c443f17538ea3829f79", func := "loop.example/g00569/laws.FnPolled", spec := "fnPolled", unfollowed := true, recurses := true, apart := false, narrowed := true }
def FnPolledUptoSaid : Prop := fnPolledUptoRow.holds Try.pinned (OpenSpec.upto fnPolledSpec)

/-- 'laws.FnLonger', WHERE WHAT IT READS IS OF BULK AT MOST 1048576: true; the input reads as it did. -/
def fnLongerUptoRow : OpenClaim := { program := "ytlipgmaiooljkaa", sum := "241a558fac7c79c87b472fff7deaa225fa0cb7217fff8c443f17538ea3829f79", func := "loop.example/g00569/laws.FnLonger", spec := "fnLonger", unfollowed := true, recurses := true, apart := false, narrowed := true }
def FnLongerUptoSaid : Prop := fnLongerUptoRow.holds Try.pinned (OpenSpec.upto fnLongerSpec)

/-- 'laws.FnDue', WHERE WHAT IT READS IS OF BULK AT MOST 1048576: true; the input reads as it did. -/
def fnDueUptoRow : OpenClaim := { program := "ytlipgmaiooljkaa", sum := "241a558fac7c79c87b472fff7deaa225fa0cb7217fff8c443f17538ea3829f79", func := "loop.example/g00569/laws.FnDue", spec := "fnDue", apart := false, narrowed := true }
def FnDueUptoSaid : Prop := fnDueUptoRow.holds Try.pinned (OpenSpec.upto fnDueSpec)

/-- 'laws.FnDueLater', WHERE WHAT IT READS IS OF BULK AT MOST 1048576: true; the input reads as it did. -/
def fnDueLaterUptoRow : OpenClaim := { program := "ytlipgmaiooljkaa", sum := "241a558fac7c79c87b472fff7deaa225fa0cb7217fff8c443f17538ea3829f79", func := "loop.example/g00569/laws.FnDueLater", spec := "fnDueLater", apart := false, narrowed := true }
def FnDueLaterUptoSaid : Prop := fnDueLaterUptoRow.holds Try.pinned (OpenSpec.upto fnDueLaterSpec)

/-- 'laws.FnFolded', WHERE WHAT IT READS IS OF BULK AT MOST 1048576: true; the input reads as it did. -/
def fnFoldedUptoRow : OpenClaim := { program := "ytlipgmaiooljkaa", sum := "241a558fac7c79c87b472fff7deaa225fa0cb7217fff8c443f17538ea3829f79", func := "loop.example/g00569/laws.FnFolded", spec := "fnFolded", inPlace := ["internal/bytealg.abigen_runtime_cmpstring"], unfollowed := true, recurses := true, apart := false, narrowed := true }
def FnFoldedUptoSaid : Prop := fnFoldedUptoRow.holds Try.pinned (OpenSpec.upto fnFoldedSpec)

end Rows
end Go.Proofs.Ytlipgmaiooljkaa
