/-
  NARROWER THAN 'FOR EVERY INPUT', by the rows' own cells (each row's printed sentence says how): FnExactDateOk: laid · FnExactDayOf: laid · FnExactDateOf: laid · FnExactDateText: laid · FnExactReadDate: laid · FnEscaped: laid · FnExactEscaped: laid · FnExactPlain: laid · FnExactFeedText: laid · FnExactReadFeed: laid.
  DERIVED. THE GIVEN ROWS OF THIS SEAT. 10 by the template 'for every input the law returns true; each argument reads behind the call as it read before'; 0 by the template 'total and deterministic' (their statements: YtbbfcpkmfaophaaDoorTotals.lean).
  GIVEN WITH THE SEED: the statements are not yours to turn. If you find one false, say at which input.
  Laid BY PROGRAM, IN A SANDBOX (cutbox-rows.mjs): the forced cells as the released guide's own fill.sh prints them over the translation 97a6cf31071615d6… (all of the seat's roots in one cut). By AI agents, Wed Nov 11 2026. No macro, syntax, notation, axiom, sorry.
-/
import Derived.Test.YtbbfcpkmfaophaaDoorChecked
import GoSem.Claim
import GoSem.ClaimJoined
import GoSem.ClaimMapViews
import Derived.JoinedTies
import Derived.KernelRfl
namespace Go.Proofs.YtbbfcpkmfaophaaDoor
/- THE CELL 'sum', in the pinned program and in every row, IS THE sha256 OF THE DUMP (.gsa) THAT YtbbfcpkmfaophaaDoorProg.lean LOADS. Nothing in Lean hashes anything: it is a label: what it is worth is what the hold of that sum in a sandbox is worth. -/
noncomputable def Tryd.pinned : Pinned := { name := "ytbbfcpkmfaophaadoor", sum := "97a6cf31071615d68d37a9902bf677867a33821e811dae2054523b63d31553d6", checked := Tryd.checked }
namespace Rows
def none {H : Type} : Left H := { results := [], args := [] }

/- WHAT THE LISTED PACKAGE-LEVEL VARIABLES READ AS WHEN THE CALL BEGINS. Each datum BY PROGRAM (the guide's laid-datum.mjs) off the statement by which the dump's own 'gosem.cut.vars' lays the variable. In a bare row this is a premise. The card (YtbbfcpkmfaophaaDoorCards.lean) ties it to the program's text. -/
def laid_loop_example_g00569_impl_monthDays {H : Type} : DataW H := .agg [.lit (.int .i64 31), .lit (.int .i64 28), .lit (.int .i64 31), .lit (.int .i64 30), .lit (.int .i64 31), .lit (.int .i64 30), .lit (.int .i64 31), .lit (.int .i64 31), .lit (.int .i64 30), .lit (.int .i64 31), .lit (.int .i64 30), .lit (.int .i64 31)]
def laid_math_bits_deBruijn32tab {H : Type} : DataW H := .agg [.lit (.int .u8 0), .lit (.int .u8 1), .lit (.int .u8 28), .lit (.int .u8 2), .lit (.int .u8 29), .lit (.int .u8 14), .lit (.int .u8 24), .lit (.int .u8 3), .lit (.int .u8 30), .lit (.int .u8 22), .lit (.int .u8 20), .lit (.int .u8 15), .lit (.int .u8 25), .lit (.int .u8 17), .lit (.int .u8 4), .lit (.int .u8 8), .lit (.int .u8 31), .lit (.int .u8 27), .lit (.int .u8 13), .lit (.int .u8 23), .lit (.int .u8 21), .lit (.int .u8 19), .lit (.int .u8 16), .lit (.int .u8 7), .lit (.int .u8 26), .lit (.int .u8 12), .lit (.int .u8 18), .lit (.int .u8 6), .lit (.int .u8 11), .lit (.int .u8 5), .lit (.int .u8 10), .lit (.int .u8 9)]
def laid_math_bits_deBruijn64tab {H : Type} : DataW H := .agg [.lit (.int .u8 0), .lit (.int .u8 1), .lit (.int .u8 56), .lit (.int .u8 2), .lit (.int .u8 57), .lit (.int .u8 49), .lit (.int .u8 28), .lit (.int .u8 3), .lit (.int .u8 61), .lit (.int .u8 58), .lit (.int .u8 42), .lit (.int .u8 50), .lit (.int .u8 38), .lit (.int .u8 29), .lit (.int .u8 17), .lit (.int .u8 4), .lit (.int .u8 62), .lit (.int .u8 47), .lit (.int .u8 59), .lit (.int .u8 36), .lit (.int .u8 45), .lit (.int .u8 43), .lit (.int .u8 51), .lit (.int .u8 22), .lit (.int .u8 53), .lit (.int .u8 39), .lit (.int .u8 33), .lit (.int .u8 30), .lit (.int .u8 24), .lit (.int .u8 18), .lit (.int .u8 12), .lit (.int .u8 5), .lit (.int .u8 63), .lit (.int .u8 55), .lit (.int .u8 48), .lit (.int .u8 27), .lit (.int .u8 60), .lit (.int .u8 41), .lit (.int .u8 37), .lit (.int .u8 16), .lit (.int .u8 46), .lit (.int .u8 35), .lit (.int .u8 44), .lit (.int .u8 21), .lit (.int .u8 52), .lit (.int .u8 32), .lit (.int .u8 23), .lit (.int .u8 11), .lit (.int .u8 54), .lit (.int .u8 26), .lit (.int .u8 40), .lit (.int .u8 15), .lit (.int .u8 34), .lit (.int .u8 20), .lit (.int .u8 31), .lit (.int .u8 10), .lit (.int .u8 25), .lit (.int .u8 14), .lit (.int .u8 19), .lit (.int .u8 9), .lit (.int .u8 13), .lit (.int .u8 8), .lit (.int .u8 7), .lit (.int .u8 6)]
def laid_internal_strconv_uint64pow10 {H : Type} : DataW H := .agg [.lit (.int .u64 1), .lit (.int .u64 10), .lit (.int .u64 100), .lit (.int .u64 1000), .lit (.int .u64 10000), .lit (.int .u64 100000), .lit (.int .u64 1000000), .lit (.int .u64 10000000), .lit (.int .u64 100000000), .lit (.int .u64 1000000000), .lit (.int .u64 10000000000), .lit (.int .u64 100000000000), .lit (.int .u64 1000000000000), .lit (.int .u64 10000000000000), .lit (.int .u64 100000000000000), .lit (.int .u64 1000000000000000), .lit (.int .u64 10000000000000000), .lit (.int .u64 100000000000000000), .lit (.int .u64 1000000000000000000), .lit (.int .u64 10000000000000000000)]
def laid_loop_example_g00569_impl_escapes {H : Type} : DataW H := .agg [.lit (.string [38, 97, 109, 112, 59]), .lit (.string [38, 108, 116, 59]), .lit (.string [38, 103, 116, 59]), .lit (.string [38, 113, 117, 111, 116, 59])]

/-- 'laws.FnExactDateOk': WHATEVER THE INPUT: true; the input reads as it did. -/
def fnExactDateOkSpec : ChangeSpec := { name := "fnExactDateOk", vars := ["loop.example/g00569/impl.monthDays"], fn := fun _ => fun
  | [d, g1] => { results := [.lit (.bool true)], args := [d], vars := [g1] }
  | _ => none }
def fnExactDateOkRow : OpenClaim := { program := "ytbbfcpkmfaophaadoor", sum := "97a6cf31071615d68d37a9902bf677867a33821e811dae2054523b63d31553d6", func := "loop.example/g00569/laws.FnExactDateOk", spec := "fnExactDateOk", named := ["loop.example/g00569/impl.monthDays"], apart := false, laid := [("loop.example/g00569/impl.monthDays", laid_loop_example_g00569_impl_monthDays)] }
def FnExactDateOkSaid : Prop := fnExactDateOkRow.holds Tryd.pinned (OpenSpec.ofChange fnExactDateOkSpec)

/-- ITS FALSE NEIGHBOUR: 'it returns false'. Refute it at one input. -/
def fnExactDateOkWrong : ChangeSpec := { name := "fnExactDateOk", vars := ["loop.example/g00569/impl.monthDays"], fn := fun _ => fun
  | [d, g1] => { results := [.lit (.bool false)], args := [d], vars := [g1] }
  | _ => none }
def FnExactDateOkWrongFalsely : Prop := fnExactDateOkRow.holds Tryd.pinned (OpenSpec.ofChange fnExactDateOkWrong)

/-- 'laws.FnExactDayOf': WHATEVER THE INPUT: true; the input reads as it did. -/
def fnExactDayOfSpec : ChangeSpec := { name := "fnExactDayOf", vars := ["loop.example/g00569/impl.monthDays"], fn := fun _ => fun
  | [d, g1] => { results := [.lit (.bool true)], args := [d], vars := [g1] }
  | _ => none }
def fnExactDayOfRow : OpenClaim := { program := "ytbbfcpkmfaophaadoor", sum := "97a6cf31071615d68d37a9902bf677867a33821e811dae2054523b63d31553d6", func := "loop.example/g00569/laws.FnExactDayOf", spec := "fnExactDayOf", named := ["loop.example/g00569/impl.monthDays"], apart := false, laid := [("loop.example/g00569/impl.monthDays", laid_loop_example_g00569_impl_monthDays)] }
def FnExactDayOfSaid : Prop := fnExactDayOfRow.holds Tryd.pinned (OpenSpec.ofChange fnExactDayOfSpec)

/-- ITS FALSE NEIGHBOUR: 'it returns false'. Refute it at one input. -/
def fnExactDayOfWrong : ChangeSpec := { name := "fnExactDayOf", vars := ["loop.example/g00569/impl.monthDays"], fn := fun _ => fun
  | [d, g1] => { results := [.lit (.bool false)], args := [d], vars := [g1] }
  | _ => none }
def FnExactDayOfWrongFalsely : Prop := fnExactDayOfRow.holds Tryd.pinned (OpenSpec.ofChange fnExactDayOfWrong)

/-- 'laws.FnExactDateOf': WHATEVER THE INPUT: true; the input reads as it did. -/
def fnExactDateOfSpec : ChangeSpec := { name := "fnExactDateOf", vars := ["loop.example/g00569/impl.monthDays"], fn := fun _ => fun
  | [d, g1] => { results := [.lit (.bool true)], args := [d], vars := [g1] }
  | _ => none }
def fnExactDateOfRow : OpenClaim := { program := "ytbbfcpkmfaophaadoor", sum := "97a6cf31071615d68d37a9902bf677867a33821e811dae2054523b63d31553d6", func := "loop.example/g00569/laws.FnExactDateOf", spec := "fnExactDateOf", named := ["loop.example/g00569/impl.monthDays"], apart := false, laid := [("loop.example/g00569/impl.monthDays", laid_loop_example_g00569_impl_monthDays)] }
def FnExactDateOfSaid : Prop := fnExactDateOfRow.holds Tryd.pinned (OpenSpec.ofChange fnExactDateOfSpec)

/-- ITS FALSE NEIGHBOUR: 'it returns false'. Refute it at one input. -/
def fnExactDateOfWrong : ChangeSpec := { name := "fnExactDateOf", vars := ["loop.example/g00569/impl.monthDays"], fn := fun _ => fun
  | [d, g1] => { results := [.lit (.bool false)], args := [d], vars := [g1] }
  | _ => none }
def FnExactDateOfWrongFalsely : Prop := fnExactDateOfRow.holds Tryd.pinned (OpenSpec.ofChange fnExactDateOfWrong)

/-- 'laws.FnExactDateText': WHATEVER THE INPUT: true; the input reads as it did. -/
def fnExactDateTextSpec : ChangeSpec := { name := "fnExactDateText", vars := ["loop.example/g00569/impl.monthDays"], fn := fun _ => fun
  | [d, g1] => { results := [.lit (.bool true)], args := [d], vars := [g1] }
  | _ => none }
def fnExactDateTextRow : OpenClaim := { program := "ytbbfcpkmfaophaadoor", sum := "97a6cf31071615d68d37a9902bf677867a33821e811dae2054523b63d31553d6", func := "loop.example/g00569/laws.FnExactDateText", spec := "fnExactDateText", inPlace := ["internal/abi.NoEscape", "internal/bytealg.MakeNoZero"], recurses := true, named := ["loop.example/g00569/impl.monthDays", "internal/strconv.uint64pow10", "math/bits.deBruijn32tab", "math/bits.deBruijn64tab"], apart := false, laid := [("math/bits.deBruijn32tab", laid_math_bits_deBruijn32tab), ("math/bits.deBruijn64tab", laid_math_bits_deBruijn64tab), ("internal/strconv.uint64pow10", laid_internal_strconv_uint64pow10), ("loop.example/g00569/impl.monthDays", laid_loop_example_g00569_impl_monthDays)] }
def FnExactDateTextSaid : Prop := fnExactDateTextRow.holds Tryd.pinned (OpenSpec.ofChange fnExactDateTextSpec)

/-- ITS FALSE NEIGHBOUR: 'it returns false'. Refute it at one input. -/
def fnExactDateTextWrong : ChangeSpec := { name := "fnExactDateText", vars := ["loop.example/g00569/impl.monthDays"], fn := fun _ => fun
  | [d, g1] => { results := [.lit (.bool false)], args := [d], vars := [g1] }
  | _ => none }
def FnExactDateTextWrongFalsely : Prop := fnExactDateTextRow.holds Tryd.pinned (OpenSpec.ofChange fnExactDateTextWrong)

/-- 'laws.FnExactReadDate': WHATEVER THE INPUT: true; the input reads as it did. -/
def fnExactReadDateSpec : ChangeSpec := { name := "fnExactReadDate", vars := ["loop.example/g00569/impl.monthDays"], fn := fun _ => fun
  | [d, g1] => { results := [.lit (.bool true)], args := [d], vars := [g1] }
  | _ => none }
def fnExactReadDateRow : OpenClaim := { program := "ytbbfcpkmfaophaadoor", sum := "97a6cf31071615d68d37a9902bf677867a33821e811dae2054523b63d31553d6", func := "loop.example/g00569/laws.FnExactReadDate", spec := "fnExactReadDate", recurses := true, named := ["loop.example/g00569/impl.monthDays"], apart := false, laid := [("loop.example/g00569/impl.monthDays", laid_loop_example_g00569_impl_monthDays)] }
def FnExactReadDateSaid : Prop := fnExactReadDateRow.holds Tryd.pinned (OpenSpec.ofChange fnExactReadDateSpec)

/-- ITS FALSE NEIGHBOUR: 'it returns false'. Refute it at one input. -/
def fnExactReadDateWrong : ChangeSpec := { name := "fnExactReadDate", vars := ["loop.example/g00569/impl.monthDays"], fn := fun _ => fun
  | [d, g1] => { results := [.lit (.bool false)], args := [d], vars := [g1] }
  | _ => none }
def FnExactReadDateWrongFalsely : Prop := fnExactReadDateRow.holds Tryd.pinned (OpenSpec.ofChange fnExactReadDateWrong)

/-- 'laws.FnEscaped': WHATEVER THE INPUT: true; the input reads as it did. -/
def fnEscapedSpec : ChangeSpec := { name := "fnEscaped", vars := ["loop.example/g00569/impl.escapes"], fn := fun _ => fun
  | [d, g1] => { results := [.lit (.bool true)], args := [d], vars := [g1] }
  | _ => none }
def fnEscapedRow : OpenClaim := { program := "ytbbfcpkmfaophaadoor", sum := "97a6cf31071615d68d37a9902bf677867a33821e811dae2054523b63d31553d6", func := "loop.example/g00569/laws.FnEscaped", spec := "fnEscaped", inPlace := ["internal/bytealg.IndexByteString"], named := ["loop.example/g00569/impl.escapes"], apart := false, laid := [("loop.example/g00569/impl.escapes", laid_loop_example_g00569_impl_escapes)] }
def FnEscapedSaid : Prop := fnEscapedRow.holds Tryd.pinned (OpenSpec.ofChange fnEscapedSpec)

/-- ITS FALSE NEIGHBOUR: 'it returns false'. Refute it at one input. -/
def fnEscapedWrong : ChangeSpec := { name := "fnEscaped", vars := ["loop.example/g00569/impl.escapes"], fn := fun _ => fun
  | [d, g1] => { results := [.lit (.bool false)], args := [d], vars := [g1] }
  | _ => none }
def FnEscapedWrongFalsely : Prop := fnEscapedRow.holds Tryd.pinned (OpenSpec.ofChange fnEscapedWrong)

/-- 'laws.FnExactEscaped': WHATEVER THE INPUT: true; the input reads as it did. -/
def fnExactEscapedSpec : ChangeSpec := { name := "fnExactEscaped", vars := ["loop.example/g00569/impl.escapes"], fn := fun _ => fun
  | [d, g1] => { results := [.lit (.bool true)], args := [d], vars := [g1] }
  | _ => none }
def fnExactEscapedRow : OpenClaim := { program := "ytbbfcpkmfaophaadoor", sum := "97a6cf31071615d68d37a9902bf677867a33821e811dae2054523b63d31553d6", func := "loop.example/g00569/laws.FnExactEscaped", spec := "fnExactEscaped", inPlace := ["internal/bytealg.IndexByteString"], named := ["loop.example/g00569/impl.escapes"], apart := false, laid := [("loop.example/g00569/impl.escapes", laid_loop_example_g00569_impl_escapes)] }
def FnExactEscapedSaid : Prop := fnExactEscapedRow.holds Tryd.pinned (OpenSpec.ofChange fnExactEscapedSpec)

/-- ITS FALSE NEIGHBOUR: 'it returns false'. Refute it at one input. -/
def fnExactEscapedWrong : ChangeSpec := { name := "fnExactEscaped", vars := ["loop.example/g00569/impl.escapes"], fn := fun _ => fun
  | [d, g1] => { results := [.lit (.bool false)], args := [d], vars := [g1] }
  | _ => none }
def FnExactEscapedWrongFalsely : Prop := fnExactEscapedRow.holds Tryd.pinned (OpenSpec.ofChange fnExactEscapedWrong)

/-- 'laws.FnExactPlain': WHATEVER THE INPUT: true; the input reads as it did. -/
def fnExactPlainSpec : ChangeSpec := { name := "fnExactPlain", vars := ["loop.example/g00569/impl.escapes"], fn := fun _ => fun
  | [d, g1] => { results := [.lit (.bool true)], args := [d], vars := [g1] }
  | _ => none }
def fnExactPlainRow : OpenClaim := { program := "ytbbfcpkmfaophaadoor", sum := "97a6cf31071615d68d37a9902bf677867a33821e811dae2054523b63d31553d6", func := "loop.example/g00569/laws.FnExactPlain", spec := "fnExactPlain", inPlace := ["internal/bytealg.IndexByteString"], named := ["loop.example/g00569/impl.escapes"], apart := false, laid := [("loop.example/g00569/impl.escapes", laid_loop_example_g00569_impl_escapes)] }
def FnExactPlainSaid : Prop := fnExactPlainRow.holds Tryd.pinned (OpenSpec.ofChange fnExactPlainSpec)

/-- ITS FALSE NEIGHBOUR: 'it returns false'. Refute it at one input. -/
def fnExactPlainWrong : ChangeSpec := { name := "fnExactPlain", vars := ["loop.example/g00569/impl.escapes"], fn := fun _ => fun
  | [d, g1] => { results := [.lit (.bool false)], args := [d], vars := [g1] }
  | _ => none }
def FnExactPlainWrongFalsely : Prop := fnExactPlainRow.holds Tryd.pinned (OpenSpec.ofChange fnExactPlainWrong)

/-- 'laws.FnExactFeedText': WHATEVER THE INPUT: true; the input reads as it did. -/
def fnExactFeedTextSpec : ChangeSpec := { name := "fnExactFeedText", vars := ["loop.example/g00569/impl.escapes", "loop.example/g00569/impl.monthDays"], fn := fun _ => fun
  | [d, g1, g2] => { results := [.lit (.bool true)], args := [d], vars := [g1, g2] }
  | _ => none }
def fnExactFeedTextRow : OpenClaim := { program := "ytbbfcpkmfaophaadoor", sum := "97a6cf31071615d68d37a9902bf677867a33821e811dae2054523b63d31553d6", func := "loop.example/g00569/laws.FnExactFeedText", spec := "fnExactFeedText", inPlace := ["internal/bytealg.IndexByteString", "internal/abi.NoEscape", "internal/bytealg.MakeNoZero"], recurses := true, named := ["loop.example/g00569/impl.escapes", "loop.example/g00569/impl.monthDays", "internal/strconv.uint64pow10", "math/bits.deBruijn32tab", "math/bits.deBruijn64tab"], apart := false, laid := [("math/bits.deBruijn32tab", laid_math_bits_deBruijn32tab), ("math/bits.deBruijn64tab", laid_math_bits_deBruijn64tab), ("internal/strconv.uint64pow10", laid_internal_strconv_uint64pow10), ("loop.example/g00569/impl.monthDays", laid_loop_example_g00569_impl_monthDays), ("loop.example/g00569/impl.escapes", laid_loop_example_g00569_impl_escapes)] }
def FnExactFeedTextSaid : Prop := fnExactFeedTextRow.holds Tryd.pinned (OpenSpec.ofChange fnExactFeedTextSpec)

/-- ITS FALSE NEIGHBOUR: 'it returns false'. Refute it at one input. -/
def fnExactFeedTextWrong : ChangeSpec := { name := "fnExactFeedText", vars := ["loop.example/g00569/impl.escapes", "loop.example/g00569/impl.monthDays"], fn := fun _ => fun
  | [d, g1, g2] => { results := [.lit (.bool false)], args := [d], vars := [g1, g2] }
  | _ => none }
def FnExactFeedTextWrongFalsely : Prop := fnExactFeedTextRow.holds Tryd.pinned (OpenSpec.ofChange fnExactFeedTextWrong)

/-- 'laws.FnExactReadFeed': WHATEVER THE INPUT: true; the input reads as it did. -/
def fnExactReadFeedSpec : ChangeSpec := { name := "fnExactReadFeed", vars := ["loop.example/g00569/impl.escapes", "loop.example/g00569/impl.monthDays"], fn := fun _ => fun
  | [d, g1, g2] => { results := [.lit (.bool true)], args := [d], vars := [g1, g2] }
  | _ => none }
def fnExactReadFeedRow : OpenClaim := { program := "ytbbfcpkmfaophaadoor", sum := "97a6cf31071615d68d37a9902bf677867a33821e811dae2054523b63d31553d6", func := "loop.example/g00569/laws.FnExactReadFeed", spec := "fnExactReadFeed", inPlace := ["internal/bytealg.IndexByteString", "internal/bytealg.IndexString"], recurses := true, named := ["internal/bytealg.MaxLen", "loop.example/g00569/impl.escapes", "loop.example/g00569/impl.monthDays"], apart := false, laid := [("loop.example/g00569/impl.monthDays", laid_loop_example_g00569_impl_monthDays), ("loop.example/g00569/impl.escapes", laid_loop_example_g00569_impl_escapes)] }
def FnExactReadFeedSaid : Prop := fnExactReadFeedRow.holds Tryd.pinned (OpenSpec.ofChange fnExactReadFeedSpec)

/-- ITS FALSE NEIGHBOUR: 'it returns false'. Refute it at one input. -/
def fnExactReadFeedWrong : ChangeSpec := { name := "fnExactReadFeed", vars := ["loop.example/g00569/impl.escapes", "loop.example/g00569/impl.monthDays"], fn := fun _ => fun
  | [d, g1, g2] => { results := [.lit (.bool false)], args := [d], vars := [g1, g2] }
  | _ => none }
def FnExactReadFeedWrongFalsely : Prop := fnExactReadFeedRow.holds Tryd.pinned (OpenSpec.ofChange fnExactReadFeedWrong)

/- THE SECOND FORM. 'bulk': how many values and letters a reading holds, each counted each time it is reached (what is shared counts as often as it is met; a slice's spare places count too). A statement '..UptoSaid' is the law's where the arguments, and the package variables that the reading takes, are together of bulk at most 1048576: NARROWER than '..Said'. Prove '..Said' where nothing that the law and all that it calls make is longer than what came in: it says more and counts as full. Else prove '..UptoSaid'. A law counts once. -/
mutual
def uptoBulk {H : Type} : DataW H → Nat
  | .lit (.string bytes) => bytes.length + 1
  | .lit _ => 1
  | .nil => 1
  | .ptr d => uptoBulk d + 1
  | .slice elems spare => uptoBulkAll elems + uptoBulkAll spare + 1
  | .agg parts => uptoBulkAll parts + 1
  | .iface _ d => uptoBulk d + 1
  | .map entries => uptoBulkEntries entries + 1
  | .held _ => 1
def uptoBulkAll {H : Type} : List (DataW H) → Nat
  | [] => 0
  | d :: r => uptoBulk d + uptoBulkAll r
def uptoBulkEntries {H : Type} : List (Lit × DataW H) → Nat
  | [] => 0
  | x :: r => uptoBulkEntry x + uptoBulkEntries r
def uptoBulkEntry {H : Type} : Lit × DataW H → Nat
  | (.string bytes, d) => bytes.length + uptoBulk d + 1
  | (_, d) => uptoBulk d + 1
 end
def uptoSmall : (H : Type) → List (DataW H) → Bool := fun _ ds => decide (uptoBulkAll ds ≤ 1048576)
def OpenSpec.upto (s : _root_.Go.ChangeSpec) : _root_.Go.OpenSpec := { _root_.Go.OpenSpec.ofChange s with cond := some uptoSmall }

/-- 'laws.FnExactDateOk', WHERE WHAT IT READS IS OF BULK AT MOST 1048576: true; the input reads as it did. -/
def fnExactDateOkUptoRow : OpenClaim := { program := "ytbbfcpkmfaophaadoor", sum := "97a6cf31071615d68d37a9902bf677867a33821e811dae2054523b63d31553d6", func := "loop.example/g00569/laws.FnExactDateOk", spec := "fnExactDateOk", named := ["loop.example/g00569/impl.monthDays"], apart := false, laid := [("loop.example/g00569/impl.monthDays", laid_loop_example_g00569_impl_monthDays)], narrowed := true }
def FnExactDateOkUptoSaid : Prop := fnExactDateOkUptoRow.holds Tryd.pinned (OpenSpec.upto fnExactDateOkSpec)

/-- 'laws.FnExactDayOf', WHERE WHAT IT READS IS OF BULK AT MOST 1048576: true; the input reads as it did. -/
def fnExactDayOfUptoRow : OpenClaim := { program := "ytbbfcpkmfaophaadoor", sum := "97a6cf31071615d68d37a9902bf677867a33821e811dae2054523b63d31553d6", func := "loop.example/g00569/laws.FnExactDayOf", spec := "fnExactDayOf", named := ["loop.example/g00569/impl.monthDays"], apart := false, laid := [("loop.example/g00569/impl.monthDays", laid_loop_example_g00569_impl_monthDays)], narrowed := true }
def FnExactDayOfUptoSaid : Prop := fnExactDayOfUptoRow.holds Tryd.pinned (OpenSpec.upto fnExactDayOfSpec)

/-- 'laws.FnExactDateOf', WHERE WHAT IT READS IS OF BULK AT MOST 1048576: true; the input reads as it did. -/
def fnExactDateOfUptoRow : OpenClaim := { program := "ytbbfcpkmfaophaadoor", sum := "97a6cf31071615d68d37a9902bf677867a33821e811dae2054523b63d31553d6", func := "loop.example/g00569/laws.FnExactDateOf", spec := "fnExactDateOf", named := ["loop.example/g00569/impl.monthDays"], apart := false, laid := [("loop.example/g00569/impl.monthDays", laid_loop_example_g00569_impl_monthDays)], narrowed := true }
def FnExactDateOfUptoSaid : Prop := fnExactDateOfUptoRow.holds Tryd.pinned (OpenSpec.upto fnExactDateOfSpec)

/-- 'laws.FnExactDateText', WHERE WHAT IT READS IS OF BULK AT MOST 1048576: true; the input reads as it did. -/
def fnExactDateTextUptoRow : OpenClaim := { program := "ytbbfcpkmfaophaadoor", sum := "97a6cf31071615d68d37a9902bf677867a33821e811dae2054523b63d31553d6", func := "loop.example/g00569/laws.FnExactDateText", spec := "fnExactDateText", inPlace := ["internal/abi.NoEscape", "internal/bytealg.MakeNoZero"], recurses := true, named := ["loop.example/g00569/impl.monthDays", "internal/strconv.uint64pow10", "math/bits.deBruijn32tab", "math/bits.deBruijn64tab"], apart := false, laid := [("math/bits.deBruijn32tab", laid_math_bits_deBruijn32tab), ("math/bits.deBruijn64tab", laid_math_bits_deBruijn64tab), ("internal/strconv.uint64pow10", laid_internal_strconv_uint64pow10), ("loop.example/g00569/impl.monthDays", laid_loop_example_g00569_impl_monthDays)], narrowed := true }
def FnExactDateTextUptoSaid : Prop := fnExactDateTextUptoRow.holds Tryd.pinned (OpenSpec.upto fnExactDateTextSpec)

/-- 'laws.FnExactReadDate', WHERE WHAT IT READS IS OF BULK AT MOST 1048576: true; the input reads as it did. -/
def fnExactReadDateUptoRow : OpenClaim := { program := "ytbbfcpkmfaophaadoor", sum := "97a6cf31071615d68d37a9902bf677867a33821e811dae2054523b63d31553d6", func := "loop.example/g00569/laws.FnExactReadDate", spec := "fnExactReadDate", recurses := true, named := ["loop.example/g00569/impl.monthDays"], apart := false, laid := [("loop.example/g00569/impl.monthDays", laid_loop_example_g00569_impl_monthDays)], narrowed := true }
def FnExactReadDateUptoSaid : Prop := fnExactReadDateUptoRow.holds Tryd.pinned (OpenSpec.upto fnExactReadDateSpec)

/-- 'laws.FnEscaped', WHERE WHAT IT READS IS OF BULK AT MOST 1048576: true; the input reads as it did. -/
def fnEscapedUptoRow : OpenClaim := { program := "ytbbfcpkmfaophaadoor", sum := "97a6cf31071615d68d37a9902bf677867a33821e811dae2054523b63d31553d6", func := "loop.example/g00569/laws.FnEscaped", spec := "fnEscaped", inPlace := ["internal/bytealg.IndexByteString"], named := ["loop.example/g00569/impl.escapes"], apart := false, laid := [("loop.example/g00569/impl.escapes", laid_loop_example_g00569_impl_escapes)], narrowed := true }
def FnEscapedUptoSaid : Prop := fnEscapedUptoRow.holds Tryd.pinned (OpenSpec.upto fnEscapedSpec)

/-- 'laws.FnExactEscaped', WHERE WHAT IT READS IS OF BULK AT MOST 1048576: true; the input reads as it did. -/
def fnExactEscapedUptoRow : OpenClaim := { program := "ytbbfcpkmfaophaadoor", sum := "97a6cf31071615d68d37a9902bf677867a33821e811dae2054523b63d31553d6", func := "loop.example/g00569/laws.FnExactEscaped", spec := "fnExactEscaped", inPlace := ["internal/bytealg.IndexByteString"], named := ["loop.example/g00569/impl.escapes"], apart := false, laid := [("loop.example/g00569/impl.escapes", laid_loop_example_g00569_impl_escapes)], narrowed := true }
def FnExactEscapedUptoSaid : Prop := fnExactEscapedUptoRow.holds Tryd.pinned (OpenSpec.upto fnExactEscapedSpec)

/-- 'laws.FnExactPlain', WHERE WHAT IT READS IS OF BULK AT MOST 1048576: true; the input reads as it did. -/
def fnExactPlainUptoRow : OpenClaim := { program := "ytbbfcpkmfaophaadoor", sum := "97a6cf31071615d68d37a9902bf677867a33821e811dae2054523b63d31553d6", func := "loop.example/g00569/laws.FnExactPlain", spec := "fnExactPlain", inPlace := ["internal/bytealg.IndexByteString"], named := ["loop.example/g00569/impl.escapes"], apart := false, laid := [("loop.example/g00569/impl.escapes", laid_loop_example_g00569_impl_escapes)], narrowed := true }
def FnExactPlainUptoSaid : Prop := fnExactPlainUptoRow.holds Tryd.pinned (OpenSpec.upto fnExactPlainSpec)

/-- 'laws.FnExactFeedText', WHERE WHAT IT READS IS OF BULK AT MOST 1048576: true; the input reads as it did. -/
def fnExactFeedTextUptoRow : OpenClaim := { program := "ytbbfcpkmfaophaadoor", sum := "97a6cf31071615d68d37a9902bf677867a33821e811dae2054523b63d31553d6", func := "loop.example/g00569/laws.FnExactFeedText", spec := "fnExactFeedText", inPlace := ["internal/bytealg.IndexByteString", "internal/abi.NoEscape", "internal/bytealg.MakeNoZero"], recurses := true, named := ["loop.example/g00569/impl.escapes", "loop.example/g00569/impl.monthDays", "internal/strconv.uint64pow10", "math/bits.deBruijn32tab", "math/bits.deBruijn64tab"], apart := false, laid := [("math/bits.deBruijn32tab", laid_math_bits_deBruijn32tab), ("math/bits.deBruijn64tab", laid_math_bits_deBruijn64tab), ("internal/strconv.uint64pow10", laid_internal_strconv_uint64pow10), ("loop.example/g00569/impl.monthDays", laid_loop_example_g00569_impl_monthDays), ("loop.example/g00569/impl.escapes", laid_loop_example_g00569_impl_escapes)], narrowed := true }
def FnExactFeedTextUptoSaid : Prop := fnExactFeedTextUptoRow.holds Tryd.pinned (OpenSpec.upto fnExactFeedTextSpec)

/-- 'laws.FnExactReadFeed', WHERE WHAT IT READS IS OF BULK AT MOST 1048576: true; the input reads as it did. -/
def fnExactReadFeedUptoRow : OpenClaim := { program := "ytbbfcpkmfaophaadoor", sum := "97a6cf31071615d68d37a9902bf677867a33821e811dae2054523b63d31553d6", func := "loop.example/g00569/laws.FnExactReadFeed", spec := "fnExactReadFeed", inPlace := ["internal/bytealg.IndexByteString", "internal/bytealg.IndexString"], recurses := true, named := ["internal/bytealg.MaxLen", "loop.example/g00569/impl.escapes", "loop.example/g00569/impl.monthDays"], apart := false, laid := [("loop.example/g00569/impl.monthDays", laid_loop_example_g00569_impl_monthDays), ("loop.example/g00569/impl.escapes", laid_loop_example_g00569_impl_escapes)], narrowed := true }
def FnExactReadFeedUptoSaid : Prop := fnExactReadFeedUptoRow.holds Tryd.pinned (OpenSpec.upto fnExactReadFeedSpec)

end Rows
end Go.Proofs.YtbbfcpkmfaophaaDoor
