/-
  NARROWER THAN 'FOR EVERY INPUT', by the rows' own cells (each row's printed sentence says how): FnDates: laid · FnDateTexts: laid · FnExactReadFeed: laid · FnExactReadOp: laid · FnExactReadSlot: ifaces, laid.
  DERIVED. THE GIVEN ROWS OF THIS SEAT. 5 by the template 'for every input the law returns true; each argument reads behind the call as it read before'; 0 by the template 'total and deterministic' (their statements: YtgimjfffdnopiaaDoorTotals.lean).
  GIVEN WITH THE SEED: the statements are not yours to turn. If you find one false, say at which input.
  Laid BY PROGRAM, IN A SANDBOX (cutbox-rows.mjs): the forced cells as the released guide's own fill.sh prints them over the translation 2d0a95bf97713d14… (all of the seat's roots in one cut). By AI agents, Wed Nov 11 2026. No macro, syntax, notation, axiom, sorry.
-/
import Derived.Test.YtgimjfffdnopiaaDoorChecked
import GoSem.PinnedTables
import GoSem.Claim
import GoSem.ClaimJoined
import GoSem.ClaimMapViews
import Derived.JoinedTies
import Derived.KernelRfl
namespace Go.Proofs.YtgimjfffdnopiaaDoor
/- THE CELL 'sum', in the pinned program and in every row, IS THE sha256 OF THE DUMP (.gsa) THAT YtgimjfffdnopiaaDoorProg.lean LOADS. Nothing in Lean hashes anything: it is a label: what it is worth is what the hold of that sum in a sandbox is worth. -/
noncomputable def Tryd.pinned : Pinned := { name := "ytgimjfffdnopiaadoor", sum := "2d0a95bf97713d149fbafcd428cb3cc664c58771ff2f2f98ad22bd100e517b92", checked := Tryd.checked }
namespace Rows
def none {H : Type} : Left H := { results := [], args := [] }

/- WHAT THE LISTED PACKAGE-LEVEL VARIABLES READ AS WHEN THE CALL BEGINS. Each datum BY PROGRAM (the guide's laid-datum.mjs) off the statement by which the dump's own 'gosem.cut.vars' lays the variable. In a bare row this is a premise. The card (YtgimjfffdnopiaaDoorCards.lean) ties it to the program's text. -/
def laid_loop_example_g00569_impl_monthDays {H : Type} : DataW H := .agg [.lit (.int .i64 31), .lit (.int .i64 28), .lit (.int .i64 31), .lit (.int .i64 30), .lit (.int .i64 31), .lit (.int .i64 30), .lit (.int .i64 31), .lit (.int .i64 31), .lit (.int .i64 30), .lit (.int .i64 31), .lit (.int .i64 30), .lit (.int .i64 31)]
def laid_math_bits_deBruijn32tab {H : Type} : DataW H := .agg [.lit (.int .u8 0), .lit (.int .u8 1), .lit (.int .u8 28), .lit (.int .u8 2), .lit (.int .u8 29), .lit (.int .u8 14), .lit (.int .u8 24), .lit (.int .u8 3), .lit (.int .u8 30), .lit (.int .u8 22), .lit (.int .u8 20), .lit (.int .u8 15), .lit (.int .u8 25), .lit (.int .u8 17), .lit (.int .u8 4), .lit (.int .u8 8), .lit (.int .u8 31), .lit (.int .u8 27), .lit (.int .u8 13), .lit (.int .u8 23), .lit (.int .u8 21), .lit (.int .u8 19), .lit (.int .u8 16), .lit (.int .u8 7), .lit (.int .u8 26), .lit (.int .u8 12), .lit (.int .u8 18), .lit (.int .u8 6), .lit (.int .u8 11), .lit (.int .u8 5), .lit (.int .u8 10), .lit (.int .u8 9)]
def laid_math_bits_deBruijn64tab {H : Type} : DataW H := .agg [.lit (.int .u8 0), .lit (.int .u8 1), .lit (.int .u8 56), .lit (.int .u8 2), .lit (.int .u8 57), .lit (.int .u8 49), .lit (.int .u8 28), .lit (.int .u8 3), .lit (.int .u8 61), .lit (.int .u8 58), .lit (.int .u8 42), .lit (.int .u8 50), .lit (.int .u8 38), .lit (.int .u8 29), .lit (.int .u8 17), .lit (.int .u8 4), .lit (.int .u8 62), .lit (.int .u8 47), .lit (.int .u8 59), .lit (.int .u8 36), .lit (.int .u8 45), .lit (.int .u8 43), .lit (.int .u8 51), .lit (.int .u8 22), .lit (.int .u8 53), .lit (.int .u8 39), .lit (.int .u8 33), .lit (.int .u8 30), .lit (.int .u8 24), .lit (.int .u8 18), .lit (.int .u8 12), .lit (.int .u8 5), .lit (.int .u8 63), .lit (.int .u8 55), .lit (.int .u8 48), .lit (.int .u8 27), .lit (.int .u8 60), .lit (.int .u8 41), .lit (.int .u8 37), .lit (.int .u8 16), .lit (.int .u8 46), .lit (.int .u8 35), .lit (.int .u8 44), .lit (.int .u8 21), .lit (.int .u8 52), .lit (.int .u8 32), .lit (.int .u8 23), .lit (.int .u8 11), .lit (.int .u8 54), .lit (.int .u8 26), .lit (.int .u8 40), .lit (.int .u8 15), .lit (.int .u8 34), .lit (.int .u8 20), .lit (.int .u8 31), .lit (.int .u8 10), .lit (.int .u8 25), .lit (.int .u8 14), .lit (.int .u8 19), .lit (.int .u8 9), .lit (.int .u8 13), .lit (.int .u8 8), .lit (.int .u8 7), .lit (.int .u8 6)]
def laid_internal_strconv_uint64pow10 {H : Type} : DataW H := .agg [.lit (.int .u64 1), .lit (.int .u64 10), .lit (.int .u64 100), .lit (.int .u64 1000), .lit (.int .u64 10000), .lit (.int .u64 100000), .lit (.int .u64 1000000), .lit (.int .u64 10000000), .lit (.int .u64 100000000), .lit (.int .u64 1000000000), .lit (.int .u64 10000000000), .lit (.int .u64 100000000000), .lit (.int .u64 1000000000000), .lit (.int .u64 10000000000000), .lit (.int .u64 100000000000000), .lit (.int .u64 1000000000000000), .lit (.int .u64 10000000000000000), .lit (.int .u64 100000000000000000), .lit (.int .u64 1000000000000000000), .lit (.int .u64 10000000000000000000)]
def laid_loop_example_g00569_impl_escapes {H : Type} : DataW H := .agg [.lit (.string [38, 97, 109, 112, 59]), .lit (.string [38, 108, 116, 59]), .lit (.string [38, 103, 116, 59]), .lit (.string [38, 113, 117, 111, 116, 59])]
def laid_loop_example_g00569_impl_opWords {H : Type} : DataW H := .agg [.lit (.string []), .lit (.string [97, 100, 100]), .lit (.string [100, 114, 111, 112]), .lit (.string [102, 101, 116, 99, 104]), .lit (.string [114, 101, 97, 100]), .lit (.string [117, 110, 114, 101, 97, 100]), .lit (.string [115, 116, 97, 114]), .lit (.string [117, 110, 115, 116, 97, 114]), .lit (.string [97, 108, 108]), .lit (.string [112, 117, 114, 103, 101])]
def laid_unicode_utf8_acceptRanges {H : Type} : DataW H := .agg [.agg [.lit (.int .u8 128), .lit (.int .u8 191)], .agg [.lit (.int .u8 160), .lit (.int .u8 191)], .agg [.lit (.int .u8 128), .lit (.int .u8 159)], .agg [.lit (.int .u8 144), .lit (.int .u8 191)], .agg [.lit (.int .u8 128), .lit (.int .u8 143)], .agg [.lit (.int .u8 0), .lit (.int .u8 0)], .agg [.lit (.int .u8 0), .lit (.int .u8 0)], .agg [.lit (.int .u8 0), .lit (.int .u8 0)], .agg [.lit (.int .u8 0), .lit (.int .u8 0)], .agg [.lit (.int .u8 0), .lit (.int .u8 0)], .agg [.lit (.int .u8 0), .lit (.int .u8 0)], .agg [.lit (.int .u8 0), .lit (.int .u8 0)], .agg [.lit (.int .u8 0), .lit (.int .u8 0)], .agg [.lit (.int .u8 0), .lit (.int .u8 0)], .agg [.lit (.int .u8 0), .lit (.int .u8 0)], .agg [.lit (.int .u8 0), .lit (.int .u8 0)]]
def laid_loop_example_g00569_impl_errGivenUp {H : Type} : DataW H := .iface "*errors.errorString" (.ptr (.agg [.lit (.string [116, 104, 101, 32, 116, 101, 120, 116, 32, 105, 115, 32, 110, 111, 116, 32, 97, 115, 32, 105, 116, 32, 115, 104, 111, 117, 108, 100, 32, 98, 101])]))
/-- One of Go's own tables, pinned by name: the form's constant. -/
def laid_unicode_utf8_first : DataW Unit := Go.Pinned.utf8First

/-- 'laws.FnDates': WHATEVER THE INPUT: true; the input reads as it did. -/
def fnDatesSpec : ChangeSpec := { name := "fnDates", vars := ["loop.example/g00569/impl.monthDays"], fn := fun _ => fun
  | [d, g1] => { results := [.lit (.bool true)], args := [d], vars := [g1] }
  | _ => none }
def fnDatesRow : OpenClaim := { program := "ytgimjfffdnopiaadoor", sum := "2d0a95bf97713d149fbafcd428cb3cc664c58771ff2f2f98ad22bd100e517b92", func := "loop.example/g00569/laws.FnDates", spec := "fnDates", named := ["loop.example/g00569/impl.monthDays"], apart := false, laid := [("loop.example/g00569/impl.monthDays", laid_loop_example_g00569_impl_monthDays)] }
def FnDatesSaid : Prop := fnDatesRow.holds Tryd.pinned (OpenSpec.ofChange fnDatesSpec)

/-- ITS FALSE NEIGHBOUR: 'it returns false'. Refute it at one input. -/
def fnDatesWrong : ChangeSpec := { name := "fnDates", vars := ["loop.example/g00569/impl.monthDays"], fn := fun _ => fun
  | [d, g1] => { results := [.lit (.bool false)], args := [d], vars := [g1] }
  | _ => none }
def FnDatesWrongFalsely : Prop := fnDatesRow.holds Tryd.pinned (OpenSpec.ofChange fnDatesWrong)

/-- 'laws.FnDateTexts': WHATEVER THE INPUT: true; the input reads as it did. -/
def fnDateTextsSpec : ChangeSpec := { name := "fnDateTexts", vars := ["loop.example/g00569/impl.monthDays"], fn := fun _ => fun
  | [d, g1] => { results := [.lit (.bool true)], args := [d], vars := [g1] }
  | _ => none }
def fnDateTextsRow : OpenClaim := { program := "ytgimjfffdnopiaadoor", sum := "2d0a95bf97713d149fbafcd428cb3cc664c58771ff2f2f98ad22bd100e517b92", func := "loop.example/g00569/laws.FnDateTexts", spec := "fnDateTexts", inPlace := ["internal/abi.NoEscape", "internal/bytealg.MakeNoZero"], recurses := true, named := ["loop.example/g00569/impl.monthDays", "internal/strconv.uint64pow10", "math/bits.deBruijn32tab", "math/bits.deBruijn64tab"], apart := false, laid := [("math/bits.deBruijn32tab", laid_math_bits_deBruijn32tab), ("math/bits.deBruijn64tab", laid_math_bits_deBruijn64tab), ("internal/strconv.uint64pow10", laid_internal_strconv_uint64pow10), ("loop.example/g00569/impl.monthDays", laid_loop_example_g00569_impl_monthDays)] }
def FnDateTextsSaid : Prop := fnDateTextsRow.holds Tryd.pinned (OpenSpec.ofChange fnDateTextsSpec)

/-- ITS FALSE NEIGHBOUR: 'it returns false'. Refute it at one input. -/
def fnDateTextsWrong : ChangeSpec := { name := "fnDateTexts", vars := ["loop.example/g00569/impl.monthDays"], fn := fun _ => fun
  | [d, g1] => { results := [.lit (.bool false)], args := [d], vars := [g1] }
  | _ => none }
def FnDateTextsWrongFalsely : Prop := fnDateTextsRow.holds Tryd.pinned (OpenSpec.ofChange fnDateTextsWrong)

/-- 'laws.FnExactReadFeed': WHATEVER THE INPUT: true; the input reads as it did. -/
def fnExactReadFeedSpec : ChangeSpec := { name := "fnExactReadFeed", vars := ["loop.example/g00569/impl.escapes", "loop.example/g00569/impl.monthDays"], fn := fun _ => fun
  | [d, g1, g2] => { results := [.lit (.bool true)], args := [d], vars := [g1, g2] }
  | _ => none }
def fnExactReadFeedRow : OpenClaim := { program := "ytgimjfffdnopiaadoor", sum := "2d0a95bf97713d149fbafcd428cb3cc664c58771ff2f2f98ad22bd100e517b92", func := "loop.example/g00569/laws.FnExactReadFeed", spec := "fnExactReadFeed", inPlace := ["internal/bytealg.IndexByteString", "internal/bytealg.IndexString"], recurses := true, named := ["internal/bytealg.MaxLen", "loop.example/g00569/impl.escapes", "loop.example/g00569/impl.monthDays"], apart := false, laid := [("loop.example/g00569/impl.monthDays", laid_loop_example_g00569_impl_monthDays), ("loop.example/g00569/impl.escapes", laid_loop_example_g00569_impl_escapes)] }
def FnExactReadFeedSaid : Prop := fnExactReadFeedRow.holds Tryd.pinned (OpenSpec.ofChange fnExactReadFeedSpec)

/-- ITS FALSE NEIGHBOUR: 'it returns false'. Refute it at one input. -/
def fnExactReadFeedWrong : ChangeSpec := { name := "fnExactReadFeed", vars := ["loop.example/g00569/impl.escapes", "loop.example/g00569/impl.monthDays"], fn := fun _ => fun
  | [d, g1, g2] => { results := [.lit (.bool false)], args := [d], vars := [g1, g2] }
  | _ => none }
def FnExactReadFeedWrongFalsely : Prop := fnExactReadFeedRow.holds Tryd.pinned (OpenSpec.ofChange fnExactReadFeedWrong)

/-- 'laws.FnExactReadOp': WHATEVER THE INPUT: true; the input reads as it did. -/
def fnExactReadOpSpec : ChangeSpec := { name := "fnExactReadOp", vars := ["loop.example/g00569/impl.opWords", "loop.example/g00569/impl.escapes", "loop.example/g00569/impl.monthDays"], fn := fun _ => fun
  | [d, g1, g2, g3] => { results := [.lit (.bool true)], args := [d], vars := [g1, g2, g3] }
  | _ => none }
def fnExactReadOpRow : OpenClaim := { program := "ytgimjfffdnopiaadoor", sum := "2d0a95bf97713d149fbafcd428cb3cc664c58771ff2f2f98ad22bd100e517b92", func := "loop.example/g00569/laws.FnExactReadOp", spec := "fnExactReadOp", inPlace := ["internal/bytealg.IndexByteString", "internal/bytealg.IndexString"], unfollowed := true, recurses := true, named := ["internal/bytealg.MaxLen", "loop.example/g00569/impl.opWords", "loop.example/g00569/impl.escapes", "loop.example/g00569/impl.monthDays"], apart := false, laid := [("loop.example/g00569/impl.monthDays", laid_loop_example_g00569_impl_monthDays), ("loop.example/g00569/impl.escapes", laid_loop_example_g00569_impl_escapes), ("loop.example/g00569/impl.opWords", laid_loop_example_g00569_impl_opWords)] }
def FnExactReadOpSaid : Prop := fnExactReadOpRow.holds Tryd.pinned (OpenSpec.ofChange fnExactReadOpSpec)

/-- ITS FALSE NEIGHBOUR: 'it returns false'. Refute it at one input. -/
def fnExactReadOpWrong : ChangeSpec := { name := "fnExactReadOp", vars := ["loop.example/g00569/impl.opWords", "loop.example/g00569/impl.escapes", "loop.example/g00569/impl.monthDays"], fn := fun _ => fun
  | [d, g1, g2, g3] => { results := [.lit (.bool false)], args := [d], vars := [g1, g2, g3] }
  | _ => none }
def FnExactReadOpWrongFalsely : Prop := fnExactReadOpRow.holds Tryd.pinned (OpenSpec.ofChange fnExactReadOpWrong)

/-- 'laws.FnExactReadSlot': WHATEVER THE INPUT: true; the input reads as it did. -/
def fnExactReadSlotSpec : ChangeSpec := { name := "fnExactReadSlot", vars := ["loop.example/g00569/impl.errGivenUp"], fn := fun _ => fun
  | [d, g1] => { results := [.lit (.bool true)], args := [d], vars := [g1] }
  | _ => none }
def fnExactReadSlotRow : OpenClaim := { program := "ytgimjfffdnopiaadoor", sum := "2d0a95bf97713d149fbafcd428cb3cc664c58771ff2f2f98ad22bd100e517b92", func := "loop.example/g00569/laws.FnExactReadSlot", spec := "fnExactReadSlot", inPlace := ["internal/bytealg.CountString", "internal/bytealg.IndexByteString", "internal/bytealg.IndexString"], unfollowed := true, recurses := true, named := ["unicode/utf8.first", "unicode/utf8.acceptRanges", "internal/bytealg.MaxLen", "loop.example/g00569/impl.errGivenUp", "internal/strconv.uint64pow10", "math/bits.deBruijn32tab", "math/bits.deBruijn64tab"], ifaces := true, apart := false, laid := [("math/bits.deBruijn32tab", laid_math_bits_deBruijn32tab), ("math/bits.deBruijn64tab", laid_math_bits_deBruijn64tab), ("internal/strconv.uint64pow10", laid_internal_strconv_uint64pow10), ("unicode/utf8.acceptRanges", laid_unicode_utf8_acceptRanges), ("loop.example/g00569/impl.errGivenUp", laid_loop_example_g00569_impl_errGivenUp), ("unicode/utf8.first", laid_unicode_utf8_first)] }
def FnExactReadSlotSaid : Prop := fnExactReadSlotRow.holds Tryd.pinned (OpenSpec.ofChange fnExactReadSlotSpec)

/-- ITS FALSE NEIGHBOUR: 'it returns false'. Refute it at one input. -/
def fnExactReadSlotWrong : ChangeSpec := { name := "fnExactReadSlot", vars := ["loop.example/g00569/impl.errGivenUp"], fn := fun _ => fun
  | [d, g1] => { results := [.lit (.bool false)], args := [d], vars := [g1] }
  | _ => none }
def FnExactReadSlotWrongFalsely : Prop := fnExactReadSlotRow.holds Tryd.pinned (OpenSpec.ofChange fnExactReadSlotWrong)

/- THE SECOND FORM. 'bulk': how many values and letters a reading holds, each counted each time it is reached (what is shared counts as often as it is met; a slice's spare places count too). A statement '..UptoSaid' is the law's where the arguments, and the package variables that the reading takes, are together of bulk at most 1048576: NARROWER than '..Said'. Prove '..Said' where nothing that the law and all that it calls make is longer than what came in: it says more and counts as full. Else prove '..UptoSaid'. A law counts once. -/
mutual
def uptoBulk {H : Type} : DataW H → Nat
  | .lit (.string bytes) => bytes.length + 1
  | .lit _ => 1
  | .nil => 1
  | .ptr d => uptoBulk d + 1
  | .slice elems spare => uptoBulkAll elems + uptoBulkAll spare + 1
  | .agg parts => uptoBulkAll parts + 1
  | .iface _ d => uptoBulk d + 1
  | .map entries => uptoBulkEntries entries + 1
  | .held _ => 1
def uptoBulkAll {H : Type} : List (DataW H) → Nat
  | [] => 0
  | d :: r => uptoBulk d + uptoBulkAll r
def uptoBulkEntries {H : Type} : List (Lit × DataW H) → Nat
  | [] => 0
  | x :: r => uptoBulkEntry x + uptoBulkEntries r
def uptoBulkEntry {H : Type} : Lit × DataW H → Nat
  | (.string bytes, d) => bytes.length + uptoBulk d + 1
  | (_, d) => uptoBulk d + 1
 end
def uptoSmall : (H : Type) → List (DataW H) → Bool := fun _ ds => decide (uptoBulkAll ds ≤ 1048576)
def OpenSpec.upto (s : _root_.Go.ChangeSpec) : _root_.Go.OpenSpec := { _root_.Go.OpenSpec.ofChange s with cond := some uptoSmall }

/-- 'laws.FnDates', WHERE WHAT IT READS IS OF BULK AT MOST 1048576: true; the input reads as it did. -/
def fnDatesUptoRow : OpenClaim := { program := "ytgimjfffdnopiaadoor", sum := "2d0a95bf97713d149fbafcd428cb3cc664c58771ff2f2f98ad22bd100e517b92", func := "loop.example/g00569/laws.FnDates", spec := "fnDates", named := ["loop.example/g00569/impl.monthDays"], apart := false, laid := [("loop.example/g00569/impl.monthDays", laid_loop_example_g00569_impl_monthDays)], narrowed := true }
def FnDatesUptoSaid : Prop := fnDatesUptoRow.holds Tryd.pinned (OpenSpec.upto fnDatesSpec)

/-- 'laws.FnDateTexts', WHERE WHAT IT READS IS OF BULK AT MOST 1048576: true; the input reads as it did. -/
def fnDateTextsUptoRow : OpenClaim := { program := "ytgimjfffdnopiaadoor", sum := "2d0a95bf97713d149fbafcd428cb3cc664c58771ff2f2f98ad22bd100e517b92", func := "loop.example/g00569/laws.FnDateTexts", spec := "fnDateTexts", inPlace := ["internal/abi.NoEscape", "internal/bytealg.MakeNoZero"], recurses := true, named := ["loop.example/g00569/impl.monthDays", "internal/strconv.uint64pow10", "math/bits.deBruijn32tab", "math/bits.deBruijn64tab"], apart := false, laid := [("math/bits.deBruijn32tab", laid_math_bits_deBruijn32tab), ("math/bits.deBruijn64tab", laid_math_bits_deBruijn64tab), ("internal/strconv.uint64pow10", laid_internal_strconv_uint64pow10), ("loop.example/g00569/impl.monthDays", laid_loop_example_g00569_impl_monthDays)], narrowed := true }
def FnDateTextsUptoSaid : Prop := fnDateTextsUptoRow.holds Tryd.pinned (OpenSpec.upto fnDateTextsSpec)

/-- 'laws.FnExactReadFeed', WHERE WHAT IT READS IS OF BULK AT MOST 1048576: true; the input reads as it did. -/
def fnExactReadFeedUptoRow : OpenClaim := { program := "ytgimjfffdnopiaadoor", sum := "2d0a95bf97713d149fbafcd428cb3cc664c58771ff2f2f98ad22bd100e517b92", func := "loop.example/g00569/laws.FnExactReadFeed", spec := "fnExactReadFeed", inPlace := ["internal/bytealg.IndexByteString", "internal/bytealg.IndexString"], recurses := true, named := ["internal/bytealg.MaxLen", "loop.example/g00569/impl.escapes", "loop.example/g00569/impl.monthDays"], apart := false, laid := [("loop.example/g00569/impl.monthDays", laid_loop_example_g00569_impl_monthDays), ("loop.example/g00569/impl.escapes", laid_loop_example_g00569_impl_escapes)], narrowed := true }
def FnExactReadFeedUptoSaid : Prop := fnExactReadFeedUptoRow.holds Tryd.pinned (OpenSpec.upto fnExactReadFeedSpec)

/-- 'laws.FnExactReadOp', WHERE WHAT IT READS IS OF BULK AT MOST 1048576: true; the input reads as it did. -/
def fnExactReadOpUptoRow : OpenClaim := { program := "ytgimjfffdnopiaadoor", sum := "2d0a95bf97713d149fbafcd428cb3cc664c58771ff2f2f98ad22bd100e517b92", func := "loop.example/g00569/laws.FnExactReadOp", spec := "fnExactReadOp", inPlace := ["internal/bytealg.IndexByteString", "internal/bytealg.IndexString"], unfollowed := true, recurses := true, named := ["internal/bytealg.MaxLen", "loop.example/g00569/impl.opWords", "loop.example/g00569/impl.escapes", "loop.example/g00569/impl.monthDays"], apart := false, laid := [("loop.example/g00569/impl.monthDays", laid_loop_example_g00569_impl_monthDays), ("loop.example/g00569/impl.escapes", laid_loop_example_g00569_impl_escapes), ("loop.example/g00569/impl.opWords", laid_loop_example_g00569_impl_opWords)], narrowed := true }
def FnExactReadOpUptoSaid : Prop := fnExactReadOpUptoRow.holds Tryd.pinned (OpenSpec.upto fnExactReadOpSpec)

/-- 'laws.FnExactReadSlot', WHERE WHAT IT READS IS OF BULK AT MOST 1048576: true; the input reads as it did. -/
def fnExactReadSlotUptoRow : OpenClaim := { program := "ytgimjfffdnopiaadoor", sum := "2d0a95bf97713d149fbafcd428cb3cc664c58771ff2f2f98ad22bd100e517b92", func := "loop.example/g00569/laws.FnExactReadSlot", spec := "fnExactReadSlot", inPlace := ["internal/bytealg.CountString", "internal/bytealg.IndexByteString", "internal/bytealg.IndexString"], unfollowed := true, recurses := true, named := ["unicode/utf8.first", "unicode/utf8.acceptRanges", "internal/bytealg.MaxLen", "loop.example/g00569/impl.errGivenUp", "internal/strconv.uint64pow10", "math/bits.deBruijn32tab", "math/bits.deBruijn64tab"], ifaces := true, apart := false, laid := [("math/bits.deBruijn32tab", laid_math_bits_deBruijn32tab), ("math/bits.deBruijn64tab", laid_math_bits_deBruijn64tab), ("internal/strconv.uint64pow10", laid_internal_strconv_uint64pow10), ("unicode/utf8.acceptRanges", laid_unicode_utf8_acceptRanges), ("loop.example/g00569/impl.errGivenUp", laid_loop_example_g00569_impl_errGivenUp), ("unicode/utf8.first", laid_unicode_utf8_first)], narrowed := true }
def FnExactReadSlotUptoSaid : Prop := fnExactReadSlotUptoRow.holds Tryd.pinned (OpenSpec.upto fnExactReadSlotSpec)

end Rows
end Go.Proofs.YtgimjfffdnopiaaDoor
