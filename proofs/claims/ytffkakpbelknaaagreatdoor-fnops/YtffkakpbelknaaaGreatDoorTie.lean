/-
  DERIVED. GIVEN WITH THE SEED: THE PROGRAM's TIES (one call each: nine closed facts by the kernel) AND EACH ROW's TIE, after the 31st guide's Derived/Test/Toyas{Tie, Card}.lean. No idea stands in it: it is a product of the set-up. Laid BY PROGRAM, IN A SANDBOX (cutbox-door.mjs). By AI agents, Wed Nov 11 2026. No macro, syntax, notation, axiom, sorry.
-/
import Derived.Test.YtffkakpbelknaaaGreatDoorRows
import Derived.LaidByTextLater
import Derived.SevenTiedAt
import Derived.LaidSub
import Derived.LaidOnce
namespace Go.Proofs.YtffkakpbelknaaaGreatDoor
open Go
set_option maxRecDepth 100000
theorem seatTie1 : Tryz.prog.laidByTextLater [("math/bits.deBruijn32tab", Rows.laid_math_bits_deBruijn32tab), ("math/bits.deBruijn64tab", Rows.laid_math_bits_deBruijn64tab), ("internal/strconv.uint64pow10", Rows.laid_internal_strconv_uint64pow10), ("loop.example/g00569/impl.errGivenUp", Rows.laid_loop_example_g00569_impl_errGivenUp), ("loop.example/g00569/impl.shaFirst", Rows.laid_loop_example_g00569_impl_shaFirst), ("loop.example/g00569/impl.shaConstants", Rows.laid_loop_example_g00569_impl_shaConstants), ("loop.example/g00569/impl.monthDays", Rows.laid_loop_example_g00569_impl_monthDays), ("loop.example/g00569/impl.escapes", Rows.laid_loop_example_g00569_impl_escapes), ("loop.example/g00569/impl.opWords", Rows.laid_loop_example_g00569_impl_opWords)] [.data, .data, .data, .sentinel, .data, .data, .data, .data, .data] true :=
  Program.laidByTextLater_by_one 68 8 65 (by kernel_rfl) (by kernel_rfl) (by kernel_rfl) (by kernel_rfl) (by kernel_rfl) (by kernel_rfl) (fun _ _ => by kernel_rfl)
theorem noOwnUnsafe : Tryz.pinned.checked.prog.headLifts.contains "ownunsafe" = false := by kernel_rfl
theorem tie : Tryz.prog.laidByTextLater [("math/bits.deBruijn32tab", Rows.laid_math_bits_deBruijn32tab), ("math/bits.deBruijn64tab", Rows.laid_math_bits_deBruijn64tab), ("internal/strconv.uint64pow10", Rows.laid_internal_strconv_uint64pow10), ("loop.example/g00569/impl.monthDays", Rows.laid_loop_example_g00569_impl_monthDays), ("loop.example/g00569/impl.escapes", Rows.laid_loop_example_g00569_impl_escapes)] [.data, .data, .data, .data, .data] true :=
  Program.laidByTextLater.sub seatTie1 ["math/bits.deBruijn32tab", "math/bits.deBruijn64tab", "internal/strconv.uint64pow10", "loop.example/g00569/impl.monthDays", "loop.example/g00569/impl.escapes"] (by kernel_rfl) (by kernel_rfl)
theorem fnFeeds_row_tie : Rows.fnFeedsRow.laidByTextAt .later Tryz.pinned [.data, .data, .data, .data, .data] true :=
  OpenClaim.laidByTextAt_later rfl rfl tie noOwnUnsafe
theorem tie2 : Tryz.prog.laidByTextLater [("math/bits.deBruijn32tab", Rows.laid_math_bits_deBruijn32tab), ("math/bits.deBruijn64tab", Rows.laid_math_bits_deBruijn64tab), ("internal/strconv.uint64pow10", Rows.laid_internal_strconv_uint64pow10), ("loop.example/g00569/impl.monthDays", Rows.laid_loop_example_g00569_impl_monthDays), ("loop.example/g00569/impl.escapes", Rows.laid_loop_example_g00569_impl_escapes), ("loop.example/g00569/impl.opWords", Rows.laid_loop_example_g00569_impl_opWords)] [.data, .data, .data, .data, .data, .data] true :=
  Program.laidByTextLater.sub seatTie1 ["math/bits.deBruijn32tab", "math/bits.deBruijn64tab", "internal/strconv.uint64pow10", "loop.example/g00569/impl.monthDays", "loop.example/g00569/impl.escapes", "loop.example/g00569/impl.opWords"] (by kernel_rfl) (by kernel_rfl)
theorem fnOps_row_tie : Rows.fnOpsRow.laidByTextAt .later Tryz.pinned [.data, .data, .data, .data, .data, .data] true :=
  OpenClaim.laidByTextAt_later rfl rfl tie2 noOwnUnsafe
theorem tie3 : Tryz.prog.laidByTextLater [("math/bits.deBruijn32tab", Rows.laid_math_bits_deBruijn32tab), ("math/bits.deBruijn64tab", Rows.laid_math_bits_deBruijn64tab), ("internal/strconv.uint64pow10", Rows.laid_internal_strconv_uint64pow10), ("loop.example/g00569/impl.errGivenUp", Rows.laid_loop_example_g00569_impl_errGivenUp), ("loop.example/g00569/impl.shaFirst", Rows.laid_loop_example_g00569_impl_shaFirst), ("loop.example/g00569/impl.shaConstants", Rows.laid_loop_example_g00569_impl_shaConstants), ("loop.example/g00569/impl.monthDays", Rows.laid_loop_example_g00569_impl_monthDays), ("loop.example/g00569/impl.escapes", Rows.laid_loop_example_g00569_impl_escapes), ("loop.example/g00569/impl.opWords", Rows.laid_loop_example_g00569_impl_opWords)] [.data, .data, .data, .sentinel, .data, .data, .data, .data, .data] true :=
  Program.laidByTextLater.sub seatTie1 ["math/bits.deBruijn32tab", "math/bits.deBruijn64tab", "internal/strconv.uint64pow10", "loop.example/g00569/impl.errGivenUp", "loop.example/g00569/impl.shaFirst", "loop.example/g00569/impl.shaConstants", "loop.example/g00569/impl.monthDays", "loop.example/g00569/impl.escapes", "loop.example/g00569/impl.opWords"] (by kernel_rfl) (by kernel_rfl)
theorem fnExactReadLog_row_tie : Rows.fnExactReadLogRow.laidByTextAt .later Tryz.pinned [.data, .data, .data, .sentinel, .data, .data, .data, .data, .data] true :=
  OpenClaim.laidByTextAt_later rfl rfl tie3 noOwnUnsafe
theorem fnFeedsUpto_row_tie : Rows.fnFeedsUptoRow.laidByTextAt .later Tryz.pinned [.data, .data, .data, .data, .data] true :=
  OpenClaim.laidByTextAt_later rfl rfl tie noOwnUnsafe
theorem fnOpsUpto_row_tie : Rows.fnOpsUptoRow.laidByTextAt .later Tryz.pinned [.data, .data, .data, .data, .data, .data] true :=
  OpenClaim.laidByTextAt_later rfl rfl tie2 noOwnUnsafe
theorem fnExactReadLogUpto_row_tie : Rows.fnExactReadLogUptoRow.laidByTextAt .later Tryz.pinned [.data, .data, .data, .sentinel, .data, .data, .data, .data, .data] true :=
  OpenClaim.laidByTextAt_later rfl rfl tie3 noOwnUnsafe
end Go.Proofs.YtffkakpbelknaaaGreatDoor
