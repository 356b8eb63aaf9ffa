/-
  DERIVED. GIVEN WITH THE SEED: THE PROGRAM's TIES (one call each: nine closed facts by the kernel) AND EACH ROW's TIE, after the 31st guide's Derived/Test/Toyas{Tie, Card}.lean. No idea stands in it: it is a product of the set-up. Laid BY PROGRAM, IN A SANDBOX (cutbox-door.mjs). By AI agents, Wed Nov 11 2026. No macro, syntax, notation, axiom, sorry.
-/
import Derived.Test.YtlipgmaiooljkaaGreatDoorRows
import Derived.LaidByTextLater
import Derived.SevenTiedAt
import Derived.LaidSub
import Derived.LaidOnce
namespace Go.Proofs.YtlipgmaiooljkaaGreatDoor
open Go
set_option maxRecDepth 100000
theorem seatTie1 : Tryz.prog.laidByTextLater [("math/bits.deBruijn32tab", Rows.laid_math_bits_deBruijn32tab), ("math/bits.deBruijn64tab", Rows.laid_math_bits_deBruijn64tab), ("internal/strconv.uint64pow10", Rows.laid_internal_strconv_uint64pow10), ("unicode/utf8.acceptRanges", Rows.laid_unicode_utf8_acceptRanges), ("loop.example/g00569/impl.errGivenUp", Rows.laid_loop_example_g00569_impl_errGivenUp), ("loop.example/g00569/impl.shaFirst", Rows.laid_loop_example_g00569_impl_shaFirst), ("loop.example/g00569/impl.shaConstants", Rows.laid_loop_example_g00569_impl_shaConstants)] [.data, .data, .data, .data, .sentinel, .data, .data] true :=
  Program.laidByTextLater_by_one 63 8 65 (by kernel_rfl) (by kernel_rfl) (by kernel_rfl) (by kernel_rfl) (by kernel_rfl) (by kernel_rfl) (fun _ _ => by kernel_rfl)
theorem pin_laid_unicode_utf8_first : Tryz.pinned.checked.prog.pinnedFits "unicode/utf8.first" = true := by kernel_rfl
theorem noOwnUnsafe : Tryz.pinned.checked.prog.headLifts.contains "ownunsafe" = false := by kernel_rfl
theorem tie : Tryz.prog.laidByTextLater [("loop.example/g00569/impl.shaFirst", Rows.laid_loop_example_g00569_impl_shaFirst), ("loop.example/g00569/impl.shaConstants", Rows.laid_loop_example_g00569_impl_shaConstants)] [.data, .data] true :=
  Program.laidByTextLater.sub seatTie1 ["loop.example/g00569/impl.shaFirst", "loop.example/g00569/impl.shaConstants"] (by kernel_rfl) (by kernel_rfl)
theorem fnExactSlotOf_row_tie : Rows.fnExactSlotOfRow.laidByTextAt .later Tryz.pinned [.data, .data] true :=
  OpenClaim.laidByTextAt_later rfl rfl tie noOwnUnsafe
theorem tie2 : Tryz.prog.laidByTextLater [("loop.example/g00569/impl.errGivenUp", Rows.laid_loop_example_g00569_impl_errGivenUp), ("loop.example/g00569/impl.shaFirst", Rows.laid_loop_example_g00569_impl_shaFirst), ("loop.example/g00569/impl.shaConstants", Rows.laid_loop_example_g00569_impl_shaConstants)] [.sentinel, .data, .data] true :=
  Program.laidByTextLater.sub seatTie1 ["loop.example/g00569/impl.errGivenUp", "loop.example/g00569/impl.shaFirst", "loop.example/g00569/impl.shaConstants"] (by kernel_rfl) (by kernel_rfl)
theorem fnExactKeyIn_row_tie : Rows.fnExactKeyInRow.laidByTextAt .later Tryz.pinned [.sentinel, .data, .data] true :=
  OpenClaim.laidByTextAt_later rfl rfl tie2 noOwnUnsafe
theorem fnExactRewrapped_row_tie : Rows.fnExactRewrappedRow.laidByTextAt .later Tryz.pinned [.sentinel, .data, .data] true :=
  OpenClaim.laidByTextAt_later rfl rfl tie2 noOwnUnsafe
theorem fnRewrapped_row_tie : Rows.fnRewrappedRow.laidByTextAt .later Tryz.pinned [.sentinel, .data, .data] true :=
  OpenClaim.laidByTextAt_later rfl rfl tie2 noOwnUnsafe
theorem fits3 : Tryz.pinned.checked.prog.listedFits [("math/bits.deBruijn32tab", Rows.laid_math_bits_deBruijn32tab), ("math/bits.deBruijn64tab", Rows.laid_math_bits_deBruijn64tab), ("internal/strconv.uint64pow10", Rows.laid_internal_strconv_uint64pow10), ("unicode/utf8.acceptRanges", Rows.laid_unicode_utf8_acceptRanges), ("loop.example/g00569/impl.errGivenUp", Rows.laid_loop_example_g00569_impl_errGivenUp), ("loop.example/g00569/impl.shaFirst", Rows.laid_loop_example_g00569_impl_shaFirst), ("loop.example/g00569/impl.shaConstants", Rows.laid_loop_example_g00569_impl_shaConstants), ("unicode/utf8.first", Rows.laid_unicode_utf8_first)] = true := by
  unfold Program.listedFits
  rw [noOwnUnsafe]
  kernel_rfl
theorem tie3 : Tryz.prog.laidByTextLater [("math/bits.deBruijn32tab", Rows.laid_math_bits_deBruijn32tab), ("math/bits.deBruijn64tab", Rows.laid_math_bits_deBruijn64tab), ("internal/strconv.uint64pow10", Rows.laid_internal_strconv_uint64pow10), ("unicode/utf8.acceptRanges", Rows.laid_unicode_utf8_acceptRanges), ("loop.example/g00569/impl.errGivenUp", Rows.laid_loop_example_g00569_impl_errGivenUp), ("loop.example/g00569/impl.shaFirst", Rows.laid_loop_example_g00569_impl_shaFirst), ("loop.example/g00569/impl.shaConstants", Rows.laid_loop_example_g00569_impl_shaConstants)] [.data, .data, .data, .data, .sentinel, .data, .data] true :=
  Program.laidByTextLater.sub seatTie1 ["math/bits.deBruijn32tab", "math/bits.deBruijn64tab", "internal/strconv.uint64pow10", "unicode/utf8.acceptRanges", "loop.example/g00569/impl.errGivenUp", "loop.example/g00569/impl.shaFirst", "loop.example/g00569/impl.shaConstants"] (by kernel_rfl) (by kernel_rfl)
theorem fnSlots_row_tie : Rows.fnSlotsRow.laidByTextAt .later Tryz.pinned [.data, .data, .data, .data, .sentinel, .data, .data, .pinned] true :=
  OpenClaim.laidByTextAt_pinned rfl rfl tie3 rfl rfl rfl rfl (fun y hy _e => by
    simp only [Rows.fnSlotsRow, List.zip_cons_cons, List.zip_nil_right, List.mem_cons, List.mem_nil_iff, or_false] at hy
    rcases hy with rfl | rfl | rfl | rfl | rfl | rfl | rfl | rfl
    · cases _e
    · cases _e
    · cases _e
    · cases _e
    · cases _e
    · cases _e
    · cases _e
    · exact ⟨pin_laid_unicode_utf8_first, by kernel_rfl⟩) fits3
theorem fnExactSlotOfUpto_row_tie : Rows.fnExactSlotOfUptoRow.laidByTextAt .later Tryz.pinned [.data, .data] true :=
  OpenClaim.laidByTextAt_later rfl rfl tie noOwnUnsafe
theorem fnExactKeyInUpto_row_tie : Rows.fnExactKeyInUptoRow.laidByTextAt .later Tryz.pinned [.sentinel, .data, .data] true :=
  OpenClaim.laidByTextAt_later rfl rfl tie2 noOwnUnsafe
theorem fnExactRewrappedUpto_row_tie : Rows.fnExactRewrappedUptoRow.laidByTextAt .later Tryz.pinned [.sentinel, .data, .data] true :=
  OpenClaim.laidByTextAt_later rfl rfl tie2 noOwnUnsafe
theorem fnSlotsUpto_row_tie : Rows.fnSlotsUptoRow.laidByTextAt .later Tryz.pinned [.data, .data, .data, .data, .sentinel, .data, .data, .pinned] true :=
  OpenClaim.laidByTextAt_pinned rfl rfl tie3 rfl rfl rfl rfl (fun y hy _e => by
    simp only [Rows.fnSlotsUptoRow, List.zip_cons_cons, List.zip_nil_right, List.mem_cons, List.mem_nil_iff, or_false] at hy
    rcases hy with rfl | rfl | rfl | rfl | rfl | rfl | rfl | rfl
    · cases _e
    · cases _e
    · cases _e
    · cases _e
    · cases _e
    · cases _e
    · cases _e
    · exact ⟨pin_laid_unicode_utf8_first, by kernel_rfl⟩) fits3
theorem fnRewrappedUpto_row_tie : Rows.fnRewrappedUptoRow.laidByTextAt .later Tryz.pinned [.sentinel, .data, .data] true :=
  OpenClaim.laidByTextAt_later rfl rfl tie2 noOwnUnsafe
end Go.Proofs.YtlipgmaiooljkaaGreatDoor
