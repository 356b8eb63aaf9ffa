/-
  NARROWER THAN 'FOR EVERY INPUT', by the rows' own cells (each row's printed sentence says how): FnSha: laid · FnHmac: laid · FnExpand: laid · FnStretched: laid · FnExactHmac: laid · FnExactExpand: laid · FnExactStretched: laid.
  DERIVED. THE GIVEN ROWS OF THIS SEAT. 7 by the template 'for every input the law returns true; each argument reads behind the call as it read before'; 0 by the template 'total and deterministic' (their statements: YtdcbideddlpodaaDoorTotals.lean).
  GIVEN WITH THE SEED: the statements are not yours to turn. If you find one false, say at which input.
  Laid BY PROGRAM, IN A SANDBOX (cutbox-rows.mjs): the forced cells as the released guide's own fill.sh prints them over the translation a8db8c83345c6b24… (all of the seat's roots in one cut). By AI agents, Wed Nov 11 2026. No macro, syntax, notation, axiom, sorry.
-/
import Derived.Test.YtdcbideddlpodaaDoorChecked
import GoSem.Claim
import GoSem.ClaimJoined
import GoSem.ClaimMapViews
import Derived.JoinedTies
import Derived.KernelRfl
namespace Go.Proofs.YtdcbideddlpodaaDoor
/- THE CELL 'sum', in the pinned program and in every row, IS THE sha256 OF THE DUMP (.gsa) THAT YtdcbideddlpodaaDoorProg.lean LOADS. Nothing in Lean hashes anything: it is a label: what it is worth is what the hold of that sum in a sandbox is worth. -/
noncomputable def Tryd.pinned : Pinned := { name := "ytdcbideddlpodaadoor", sum := "a8db8c83345c6b24a53ecee8d02580363e83b75dc9af50155eeaeb7d2f214175", checked := Tryd.checked }
namespace Rows
def none {H : Type} : Left H := { results := [], args := [] }

/- WHAT THE LISTED PACKAGE-LEVEL VARIABLES READ AS WHEN THE CALL BEGINS. Each datum BY PROGRAM (the guide's laid-datum.mjs) off the statement by which the dump's own 'gosem.cut.vars' lays the variable. In a bare row this is a premise. The card (YtdcbideddlpodaaDoorCards.lean) ties it to the program's text. -/
def laid_loop_example_g00569_impl_shaFirst {H : Type} : DataW H := .agg [.lit (.int .u32 1779033703), .lit (.int .u32 3144134277), .lit (.int .u32 1013904242), .lit (.int .u32 2773480762), .lit (.int .u32 1359893119), .lit (.int .u32 2600822924), .lit (.int .u32 528734635), .lit (.int .u32 1541459225)]
def laid_loop_example_g00569_impl_shaConstants {H : Type} : DataW H := .agg [.lit (.int .u32 1116352408), .lit (.int .u32 1899447441), .lit (.int .u32 3049323471), .lit (.int .u32 3921009573), .lit (.int .u32 961987163), .lit (.int .u32 1508970993), .lit (.int .u32 2453635748), .lit (.int .u32 2870763221), .lit (.int .u32 3624381080), .lit (.int .u32 310598401), .lit (.int .u32 607225278), .lit (.int .u32 1426881987), .lit (.int .u32 1925078388), .lit (.int .u32 2162078206), .lit (.int .u32 2614888103), .lit (.int .u32 3248222580), .lit (.int .u32 3835390401), .lit (.int .u32 4022224774), .lit (.int .u32 264347078), .lit (.int .u32 604807628), .lit (.int .u32 770255983), .lit (.int .u32 1249150122), .lit (.int .u32 1555081692), .lit (.int .u32 1996064986), .lit (.int .u32 2554220882), .lit (.int .u32 2821834349), .lit (.int .u32 2952996808), .lit (.int .u32 3210313671), .lit (.int .u32 3336571891), .lit (.int .u32 3584528711), .lit (.int .u32 113926993), .lit (.int .u32 338241895), .lit (.int .u32 666307205), .lit (.int .u32 773529912), .lit (.int .u32 1294757372), .lit (.int .u32 1396182291), .lit (.int .u32 1695183700), .lit (.int .u32 1986661051), .lit (.int .u32 2177026350), .lit (.int .u32 2456956037), .lit (.int .u32 2730485921), .lit (.int .u32 2820302411), .lit (.int .u32 3259730800), .lit (.int .u32 3345764771), .lit (.int .u32 3516065817), .lit (.int .u32 3600352804), .lit (.int .u32 4094571909), .lit (.int .u32 275423344), .lit (.int .u32 430227734), .lit (.int .u32 506948616), .lit (.int .u32 659060556), .lit (.int .u32 883997877), .lit (.int .u32 958139571), .lit (.int .u32 1322822218), .lit (.int .u32 1537002063), .lit (.int .u32 1747873779), .lit (.int .u32 1955562222), .lit (.int .u32 2024104815), .lit (.int .u32 2227730452), .lit (.int .u32 2361852424), .lit (.int .u32 2428436474), .lit (.int .u32 2756734187), .lit (.int .u32 3204031479), .lit (.int .u32 3329325298)]

/-- 'laws.FnSha': WHATEVER THE INPUT: true; the input reads as it did. -/
def fnShaSpec : ChangeSpec := { name := "fnSha", vars := ["loop.example/g00569/impl.shaFirst", "loop.example/g00569/impl.shaConstants"], fn := fun _ => fun
  | [d, g1, g2] => { results := [.lit (.bool true)], args := [d], vars := [g1, g2] }
  | _ => none }
def fnShaRow : OpenClaim := { program := "ytdcbideddlpodaadoor", sum := "a8db8c83345c6b24a53ecee8d02580363e83b75dc9af50155eeaeb7d2f214175", func := "loop.example/g00569/laws.FnSha", spec := "fnSha", inPlace := ["internal/abi.NoEscape", "internal/bytealg.MakeNoZero"], unfollowed := true, recurses := true, named := ["loop.example/g00569/impl.shaFirst", "loop.example/g00569/impl.shaConstants"], apart := false, laid := [("loop.example/g00569/impl.shaFirst", laid_loop_example_g00569_impl_shaFirst), ("loop.example/g00569/impl.shaConstants", laid_loop_example_g00569_impl_shaConstants)] }
def FnShaSaid : Prop := fnShaRow.holds Tryd.pinned (OpenSpec.ofChange fnShaSpec)

/-- ITS FALSE NEIGHBOUR: 'it returns false'. Refute it at one input. -/
def fnShaWrong : ChangeSpec := { name := "fnSha", vars := ["loop.example/g00569/impl.shaFirst", "loop.example/g00569/impl.shaConstants"], fn := fun _ => fun
  | [d, g1, g2] => { results := [.lit (.bool false)], args := [d], vars := [g1, g2] }
  | _ => none }
def FnShaWrongFalsely : Prop := fnShaRow.holds Tryd.pinned (OpenSpec.ofChange fnShaWrong)

/-- 'laws.FnHmac': WHATEVER THE INPUT: true; the input reads as it did. -/
def fnHmacSpec : ChangeSpec := { name := "fnHmac", vars := ["loop.example/g00569/impl.shaFirst", "loop.example/g00569/impl.shaConstants"], fn := fun _ => fun
  | [d, g1, g2] => { results := [.lit (.bool true)], args := [d], vars := [g1, g2] }
  | _ => none }
def fnHmacRow : OpenClaim := { program := "ytdcbideddlpodaadoor", sum := "a8db8c83345c6b24a53ecee8d02580363e83b75dc9af50155eeaeb7d2f214175", func := "loop.example/g00569/laws.FnHmac", spec := "fnHmac", inPlace := ["internal/abi.NoEscape", "internal/bytealg.MakeNoZero"], unfollowed := true, recurses := true, named := ["loop.example/g00569/impl.shaFirst", "loop.example/g00569/impl.shaConstants"], apart := false, laid := [("loop.example/g00569/impl.shaFirst", laid_loop_example_g00569_impl_shaFirst), ("loop.example/g00569/impl.shaConstants", laid_loop_example_g00569_impl_shaConstants)] }
def FnHmacSaid : Prop := fnHmacRow.holds Tryd.pinned (OpenSpec.ofChange fnHmacSpec)

/-- ITS FALSE NEIGHBOUR: 'it returns false'. Refute it at one input. -/
def fnHmacWrong : ChangeSpec := { name := "fnHmac", vars := ["loop.example/g00569/impl.shaFirst", "loop.example/g00569/impl.shaConstants"], fn := fun _ => fun
  | [d, g1, g2] => { results := [.lit (.bool false)], args := [d], vars := [g1, g2] }
  | _ => none }
def FnHmacWrongFalsely : Prop := fnHmacRow.holds Tryd.pinned (OpenSpec.ofChange fnHmacWrong)

/-- 'laws.FnExpand': WHATEVER THE INPUT: true; the input reads as it did. -/
def fnExpandSpec : ChangeSpec := { name := "fnExpand", vars := ["loop.example/g00569/impl.shaFirst", "loop.example/g00569/impl.shaConstants"], fn := fun _ => fun
  | [d, g1, g2] => { results := [.lit (.bool true)], args := [d], vars := [g1, g2] }
  | _ => none }
def fnExpandRow : OpenClaim := { program := "ytdcbideddlpodaadoor", sum := "a8db8c83345c6b24a53ecee8d02580363e83b75dc9af50155eeaeb7d2f214175", func := "loop.example/g00569/laws.FnExpand", spec := "fnExpand", inPlace := ["internal/abi.NoEscape", "internal/bytealg.MakeNoZero"], unfollowed := true, recurses := true, named := ["loop.example/g00569/impl.shaFirst", "loop.example/g00569/impl.shaConstants"], apart := false, laid := [("loop.example/g00569/impl.shaFirst", laid_loop_example_g00569_impl_shaFirst), ("loop.example/g00569/impl.shaConstants", laid_loop_example_g00569_impl_shaConstants)] }
def FnExpandSaid : Prop := fnExpandRow.holds Tryd.pinned (OpenSpec.ofChange fnExpandSpec)

/-- ITS FALSE NEIGHBOUR: 'it returns false'. Refute it at one input. -/
def fnExpandWrong : ChangeSpec := { name := "fnExpand", vars := ["loop.example/g00569/impl.shaFirst", "loop.example/g00569/impl.shaConstants"], fn := fun _ => fun
  | [d, g1, g2] => { results := [.lit (.bool false)], args := [d], vars := [g1, g2] }
  | _ => none }
def FnExpandWrongFalsely : Prop := fnExpandRow.holds Tryd.pinned (OpenSpec.ofChange fnExpandWrong)

/-- 'laws.FnStretched': WHATEVER THE INPUT: true; the input reads as it did. -/
def fnStretchedSpec : ChangeSpec := { name := "fnStretched", vars := ["loop.example/g00569/impl.shaFirst", "loop.example/g00569/impl.shaConstants"], fn := fun _ => fun
  | [d, g1, g2] => { results := [.lit (.bool true)], args := [d], vars := [g1, g2] }
  | _ => none }
def fnStretchedRow : OpenClaim := { program := "ytdcbideddlpodaadoor", sum := "a8db8c83345c6b24a53ecee8d02580363e83b75dc9af50155eeaeb7d2f214175", func := "loop.example/g00569/laws.FnStretched", spec := "fnStretched", inPlace := ["internal/abi.NoEscape", "internal/bytealg.MakeNoZero"], unfollowed := true, recurses := true, named := ["loop.example/g00569/impl.shaFirst", "loop.example/g00569/impl.shaConstants"], apart := false, laid := [("loop.example/g00569/impl.shaFirst", laid_loop_example_g00569_impl_shaFirst), ("loop.example/g00569/impl.shaConstants", laid_loop_example_g00569_impl_shaConstants)] }
def FnStretchedSaid : Prop := fnStretchedRow.holds Tryd.pinned (OpenSpec.ofChange fnStretchedSpec)

/-- ITS FALSE NEIGHBOUR: 'it returns false'. Refute it at one input. -/
def fnStretchedWrong : ChangeSpec := { name := "fnStretched", vars := ["loop.example/g00569/impl.shaFirst", "loop.example/g00569/impl.shaConstants"], fn := fun _ => fun
  | [d, g1, g2] => { results := [.lit (.bool false)], args := [d], vars := [g1, g2] }
  | _ => none }
def FnStretchedWrongFalsely : Prop := fnStretchedRow.holds Tryd.pinned (OpenSpec.ofChange fnStretchedWrong)

/-- 'laws.FnExactHmac': WHATEVER THE INPUT: true; the input reads as it did. -/
def fnExactHmacSpec : ChangeSpec := { name := "fnExactHmac", vars := ["loop.example/g00569/impl.shaFirst", "loop.example/g00569/impl.shaConstants"], fn := fun _ => fun
  | [d1, d2, g1, g2] => { results := [.lit (.bool true)], args := [d1, d2], vars := [g1, g2] }
  | _ => none }
def fnExactHmacRow : OpenClaim := { program := "ytdcbideddlpodaadoor", sum := "a8db8c83345c6b24a53ecee8d02580363e83b75dc9af50155eeaeb7d2f214175", func := "loop.example/g00569/laws.FnExactHmac", spec := "fnExactHmac", inPlace := ["internal/abi.NoEscape", "internal/bytealg.MakeNoZero"], unfollowed := true, recurses := true, named := ["loop.example/g00569/impl.shaFirst", "loop.example/g00569/impl.shaConstants"], apart := false, laid := [("loop.example/g00569/impl.shaFirst", laid_loop_example_g00569_impl_shaFirst), ("loop.example/g00569/impl.shaConstants", laid_loop_example_g00569_impl_shaConstants)] }
def FnExactHmacSaid : Prop := fnExactHmacRow.holds Tryd.pinned (OpenSpec.ofChange fnExactHmacSpec)

/-- ITS FALSE NEIGHBOUR: 'it returns false'. Refute it at one input. -/
def fnExactHmacWrong : ChangeSpec := { name := "fnExactHmac", vars := ["loop.example/g00569/impl.shaFirst", "loop.example/g00569/impl.shaConstants"], fn := fun _ => fun
  | [d1, d2, g1, g2] => { results := [.lit (.bool false)], args := [d1, d2], vars := [g1, g2] }
  | _ => none }
def FnExactHmacWrongFalsely : Prop := fnExactHmacRow.holds Tryd.pinned (OpenSpec.ofChange fnExactHmacWrong)

/-- 'laws.FnExactExpand': WHATEVER THE INPUT: true; the input reads as it did. -/
def fnExactExpandSpec : ChangeSpec := { name := "fnExactExpand", vars := ["loop.example/g00569/impl.shaFirst", "loop.example/g00569/impl.shaConstants"], fn := fun _ => fun
  | [d1, d2, d3, g1, g2] => { results := [.lit (.bool true)], args := [d1, d2, d3], vars := [g1, g2] }
  | _ => none }
def fnExactExpandRow : OpenClaim := { program := "ytdcbideddlpodaadoor", sum := "a8db8c83345c6b24a53ecee8d02580363e83b75dc9af50155eeaeb7d2f214175", func := "loop.example/g00569/laws.FnExactExpand", spec := "fnExactExpand", inPlace := ["internal/abi.NoEscape", "internal/bytealg.MakeNoZero"], unfollowed := true, recurses := true, named := ["loop.example/g00569/impl.shaFirst", "loop.example/g00569/impl.shaConstants"], apart := false, laid := [("loop.example/g00569/impl.shaFirst", laid_loop_example_g00569_impl_shaFirst), ("loop.example/g00569/impl.shaConstants", laid_loop_example_g00569_impl_shaConstants)] }
def FnExactExpandSaid : Prop := fnExactExpandRow.holds Tryd.pinned (OpenSpec.ofChange fnExactExpandSpec)

/-- ITS FALSE NEIGHBOUR: 'it returns false'. Refute it at one input. -/
def fnExactExpandWrong : ChangeSpec := { name := "fnExactExpand", vars := ["loop.example/g00569/impl.shaFirst", "loop.example/g00569/impl.shaConstants"], fn := fun _ => fun
  | [d1, d2, d3, g1, g2] => { results := [.lit (.bool false)], args := [d1, d2, d3], vars := [g1, g2] }
  | _ => none }
def FnExactExpandWrongFalsely : Prop := fnExactExpandRow.holds Tryd.pinned (OpenSpec.ofChange fnExactExpandWrong)

/-- 'laws.FnExactStretched': WHATEVER THE INPUT: true; the input reads as it did. -/
def fnExactStretchedSpec : ChangeSpec := { name := "fnExactStretched", vars := ["loop.example/g00569/impl.shaFirst", "loop.example/g00569/impl.shaConstants"], fn := fun _ => fun
  | [d1, d2, d3, g1, g2] => { results := [.lit (.bool true)], args := [d1, d2, d3], vars := [g1, g2] }
  | _ => none }
def fnExactStretchedRow : OpenClaim := { program := "ytdcbideddlpodaadoor", sum := "a8db8c83345c6b24a53ecee8d02580363e83b75dc9af50155eeaeb7d2f214175", func := "loop.example/g00569/laws.FnExactStretched", spec := "fnExactStretched", inPlace := ["internal/abi.NoEscape", "internal/bytealg.MakeNoZero"], unfollowed := true, recurses := true, named := ["loop.example/g00569/impl.shaFirst", "loop.example/g00569/impl.shaConstants"], apart := false, laid := [("loop.example/g00569/impl.shaFirst", laid_loop_example_g00569_impl_shaFirst), ("loop.example/g00569/impl.shaConstants", laid_loop_example_g00569_impl_shaConstants)] }
def FnExactStretchedSaid : Prop := fnExactStretchedRow.holds Tryd.pinned (OpenSpec.ofChange fnExactStretchedSpec)

/-- ITS FALSE NEIGHBOUR: 'it returns false'. Refute it at one input. -/
def fnExactStretchedWrong : ChangeSpec := { name := "fnExactStretched", vars := ["loop.example/g00569/impl.shaFirst", "loop.example/g00569/impl.shaConstants"], fn := fun _ => fun
  | [d1, d2, d3, g1, g2] => { results := [.lit (.bool false)], args := [d1, d2, d3], vars := [g1, g2] }
  | _ => none }
def FnExactStretchedWrongFalsely : Prop := fnExactStretchedRow.holds Tryd.pinned (OpenSpec.ofChange fnExactStretchedWrong)

/- THE SECOND FORM. 'bulk': how many values and letters a reading holds, each counted each time it is reached (what is shared counts as often as it is met; a slice's spare places count too). A statement '..UptoSaid' is the law's where the arguments, and the package variables that the reading takes, are together of bulk at most 1048576: NARROWER than '..Said'. Prove '..Said' where nothing that the law and all that it calls make is longer than what came in: it says more and counts as full. Else prove '..UptoSaid'. A law counts once. -/
mutual
def uptoBulk {H : Type} : DataW H → Nat
  | .lit (.string bytes) => bytes.length + 1
  | .lit _ => 1
  | .nil => 1
  | .ptr d => uptoBulk d + 1
  | .slice elems spare => uptoBulkAll elems + uptoBulkAll spare + 1
  | .agg parts => uptoBulkAll parts + 1
  | .iface _ d => uptoBulk d + 1
  | .map entries => uptoBulkEntries entries + 1
  | .held _ => 1
def uptoBulkAll {H : Type} : List (DataW H) → Nat
  | [] => 0
  | d :: r => uptoBulk d + uptoBulkAll r
def uptoBulkEntries {H : Type} : List (Lit × DataW H) → Nat
  | [] => 0
  | x :: r => uptoBulkEntry x + uptoBulkEntries r
def uptoBulkEntry {H : Type} : Lit × DataW H → Nat
  | (.string bytes, d) => bytes.length + uptoBulk d + 1
  | (_, d) => uptoBulk d + 1
 end
def uptoSmall : (H : Type) → List (DataW H) → Bool := fun _ ds => decide (uptoBulkAll ds ≤ 1048576)
def OpenSpec.upto (s : _root_.Go.ChangeSpec) : _root_.Go.OpenSpec := { _root_.Go.OpenSpec.ofChange s with cond := some uptoSmall }

/-- 'laws.FnSha', WHERE WHAT IT READS IS OF BULK AT MOST 1048576: true; the input reads as it did. -/
def fnShaUptoRow : OpenClaim := { program := "ytdcbideddlpodaadoor", sum := "a8db8c83345c6b24a53ecee8d02580363e83b75dc9af50155eeaeb7d2f214175", func := "loop.example/g00569/laws.FnSha", spec := "fnSha", inPlace := ["internal/abi.NoEscape", "internal/bytealg.MakeNoZero"], unfollowed := true, recurses := true, named := ["loop.example/g00569/impl.shaFirst", "loop.example/g00569/impl.shaConstants"], apart := false, laid := [("loop.example/g00569/impl.shaFirst", laid_loop_example_g00569_impl_shaFirst), ("loop.example/g00569/impl.shaConstants", laid_loop_example_g00569_impl_shaConstants)], narrowed := true }
def FnShaUptoSaid : Prop := fnShaUptoRow.holds Tryd.pinned (OpenSpec.upto fnShaSpec)

/-- 'laws.FnHmac', WHERE WHAT IT READS IS OF BULK AT MOST 1048576: true; the input reads as it did. -/
def fnHmacUptoRow : OpenClaim := { program := "ytdcbideddlpodaadoor", sum := "a8db8c83345c6b24a53ecee8d02580363e83b75dc9af50155eeaeb7d2f214175", func := "loop.example/g00569/laws.FnHmac", spec := "fnHmac", inPlace := ["internal/abi.NoEscape", "internal/bytealg.MakeNoZero"], unfollowed := true, recurses := true, named := ["loop.example/g00569/impl.shaFirst", "loop.example/g00569/impl.shaConstants"], apart := false, laid := [("loop.example/g00569/impl.shaFirst", laid_loop_example_g00569_impl_shaFirst), ("loop.example/g00569/impl.shaConstants", laid_loop_example_g00569_impl_shaConstants)], narrowed := true }
def FnHmacUptoSaid : Prop := fnHmacUptoRow.holds Tryd.pinned (OpenSpec.upto fnHmacSpec)

/-- 'laws.FnExpand', WHERE WHAT IT READS IS OF BULK AT MOST 1048576: true; the input reads as it did. -/
def fnExpandUptoRow : OpenClaim := { program := "ytdcbideddlpodaadoor", sum := "a8db8c83345c6b24a53ecee8d02580363e83b75dc9af50155eeaeb7d2f214175", func := "loop.example/g00569/laws.FnExpand", spec := "fnExpand", inPlace := ["internal/abi.NoEscape", "internal/bytealg.MakeNoZero"], unfollowed := true, recurses := true, named := ["loop.example/g00569/impl.shaFirst", "loop.example/g00569/impl.shaConstants"], apart := false, laid := [("loop.example/g00569/impl.shaFirst", laid_loop_example_g00569_impl_shaFirst), ("loop.example/g00569/impl.shaConstants", laid_loop_example_g00569_impl_shaConstants)], narrowed := true }
def FnExpandUptoSaid : Prop := fnExpandUptoRow.holds Tryd.pinned (OpenSpec.upto fnExpandSpec)

/-- 'laws.FnStretched', WHERE WHAT IT READS IS OF BULK AT MOST 1048576: true; the input reads as it did. -/
def fnStretchedUptoRow : OpenClaim := { program := "ytdcbideddlpodaadoor", sum := "a8db8c83345c6b24a53ecee8d02580363e83b75dc9af50155eeaeb7d2f214175", func := "loop.example/g00569/laws.FnStretched", spec := "fnStretched", inPlace := ["internal/abi.NoEscape", "internal/bytealg.MakeNoZero"], unfollowed := true, recurses := true, named := ["loop.example/g00569/impl.shaFirst", "loop.example/g00569/impl.shaConstants"], apart := false, laid := [("loop.example/g00569/impl.shaFirst", laid_loop_example_g00569_impl_shaFirst), ("loop.example/g00569/impl.shaConstants", laid_loop_example_g00569_impl_shaConstants)], narrowed := true }
def FnStretchedUptoSaid : Prop := fnStretchedUptoRow.holds Tryd.pinned (OpenSpec.upto fnStretchedSpec)

/-- 'laws.FnExactHmac', WHERE WHAT IT READS IS OF BULK AT MOST 1048576: true; the input reads as it did. -/
def fnExactHmacUptoRow : OpenClaim := { program := "ytdcbideddlpodaadoor", sum := "a8db8c83345c6b24a53ecee8d02580363e83b75dc9af50155eeaeb7d2f214175", func := "loop.example/g00569/laws.FnExactHmac", spec := "fnExactHmac", inPlace := ["internal/abi.NoEscape", "internal/bytealg.MakeNoZero"], unfollowed := true, recurses := true, named := ["loop.example/g00569/impl.shaFirst", "loop.example/g00569/impl.shaConstants"], apart := false, laid := [("loop.example/g00569/impl.shaFirst", laid_loop_example_g00569_impl_shaFirst), ("loop.example/g00569/impl.shaConstants", laid_loop_example_g00569_impl_shaConstants)], narrowed := true }
def FnExactHmacUptoSaid : Prop := fnExactHmacUptoRow.holds Tryd.pinned (OpenSpec.upto fnExactHmacSpec)

/-- 'laws.FnExactExpand', WHERE WHAT IT READS IS OF BULK AT MOST 1048576: true; the input reads as it did. -/
def fnExactExpandUptoRow : OpenClaim := { program := "ytdcbideddlpodaadoor", sum := "a8db8c83345c6b24a53ecee8d02580363e83b75dc9af50155eeaeb7d2f214175", func := "loop.example/g00569/laws.FnExactExpand", spec := "fnExactExpand", inPlace := ["internal/abi.NoEscape", "internal/bytealg.MakeNoZero"], unfollowed := true, recurses := true, named := ["loop.example/g00569/impl.shaFirst", "loop.example/g00569/impl.shaConstants"], apart := false, laid := [("loop.example/g00569/impl.shaFirst", laid_loop_example_g00569_impl_shaFirst), ("loop.example/g00569/impl.shaConstants", laid_loop_example_g00569_impl_shaConstants)], narrowed := true }
def FnExactExpandUptoSaid : Prop := fnExactExpandUptoRow.holds Tryd.pinned (OpenSpec.upto fnExactExpandSpec)

/-- 'laws.FnExactStretched', WHERE WHAT IT READS IS OF BULK AT MOST 1048576: true; the input reads as it did. -/
def fnExactStretchedUptoRow : OpenClaim := { program := "ytdcbideddlpodaadoor", sum := "a8db8c83345c6b24a53ecee8d02580363e83b75dc9af50155eeaeb7d2f214175", func := "loop.example/g00569/laws.FnExactStretched", spec := "fnExactStretched", inPlace := ["internal/abi.NoEscape", "internal/bytealg.MakeNoZero"], unfollowed := true, recurses := true, named := ["loop.example/g00569/impl.shaFirst", "loop.example/g00569/impl.shaConstants"], apart := false, laid := [("loop.example/g00569/impl.shaFirst", laid_loop_example_g00569_impl_shaFirst), ("loop.example/g00569/impl.shaConstants", laid_loop_example_g00569_impl_shaConstants)], narrowed := true }
def FnExactStretchedUptoSaid : Prop := fnExactStretchedUptoRow.holds Tryd.pinned (OpenSpec.upto fnExactStretchedSpec)

end Rows
end Go.Proofs.YtdcbideddlpodaaDoor
