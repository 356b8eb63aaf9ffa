/-
  DERIVED. GIVEN WITH THE SEED: THE CARDS: each row of YtgimjfffdnopiaaDoorRows.lean that lists a variable, with what it lists TIED to the program's text (the seventh form; the later family's looks); each row that meets fmt, with fmt's text TOLD by the authors' own Lean function (tested against real Go, not proved from fmt's source: count such statements apart). THE CARD IS WHAT COUNTS. Prove the row's statement (the work); the ties are given (YtgimjfffdnopiaaDoorTie.lean); close each card by the builder's one call (the guide's Derived/Test/ToyasCard.lean, 'card_holds'). Laid BY PROGRAM, IN A SANDBOX (cutbox-door.mjs). By AI agents, Wed Nov 11 2026. No macro, syntax, notation, axiom, sorry.
-/
import Derived.Test.YtgimjfffdnopiaaDoorRows
import GoSem.ClaimSeven
namespace Go.Proofs.YtgimjfffdnopiaaDoor
namespace Rows

/-- THE TIED CARD OF 'laws.FnDates'. -/
def fnDatesCard : Claim7 := { stood := { row := fnDatesRow, standIns := [], harness := (true, "dabea1c83d9e8540bf260f686f0dee309dc02c8d4f107228238f3e4350a2fcbb"), looks := true }, kinds := [], alts := [], laidByText := true, laidKinds := [.data], laidTests := true, laidLooks := .later }
def FnDatesCardSaid : Prop := Claim7.holds Tryd.pinned (.plain (OpenSpec.ofChange fnDatesSpec)) fnDatesCard

/-- THE TIED CARD OF 'laws.FnDateTexts'. -/
def fnDateTextsCard : Claim7 := { stood := { row := fnDateTextsRow, standIns := [], harness := (true, "dabea1c83d9e8540bf260f686f0dee309dc02c8d4f107228238f3e4350a2fcbb"), looks := true }, kinds := [], alts := [], laidByText := true, laidKinds := [.data, .data, .data, .data], laidTests := true, laidLooks := .later }
def FnDateTextsCardSaid : Prop := Claim7.holds Tryd.pinned (.plain (OpenSpec.ofChange fnDateTextsSpec)) fnDateTextsCard

/-- THE TIED CARD OF 'laws.FnExactReadFeed'. -/
def fnExactReadFeedCard : Claim7 := { stood := { row := fnExactReadFeedRow, standIns := [], harness := (true, "dabea1c83d9e8540bf260f686f0dee309dc02c8d4f107228238f3e4350a2fcbb"), looks := true }, kinds := [], alts := [], laidByText := true, laidKinds := [.data, .data], laidTests := true, laidLooks := .later }
def FnExactReadFeedCardSaid : Prop := Claim7.holds Tryd.pinned (.plain (OpenSpec.ofChange fnExactReadFeedSpec)) fnExactReadFeedCard

/-- THE TIED CARD OF 'laws.FnExactReadOp'. -/
def fnExactReadOpCard : Claim7 := { stood := { row := fnExactReadOpRow, standIns := [], harness := (true, "dabea1c83d9e8540bf260f686f0dee309dc02c8d4f107228238f3e4350a2fcbb"), looks := true }, kinds := [], alts := [], laidByText := true, laidKinds := [.data, .data, .data], laidTests := true, laidLooks := .later }
def FnExactReadOpCardSaid : Prop := Claim7.holds Tryd.pinned (.plain (OpenSpec.ofChange fnExactReadOpSpec)) fnExactReadOpCard

/-- THE TIED CARD OF 'laws.FnExactReadSlot'. -/
def fnExactReadSlotCard : Claim7 := { stood := { row := fnExactReadSlotRow, standIns := [], harness := (true, "dabea1c83d9e8540bf260f686f0dee309dc02c8d4f107228238f3e4350a2fcbb"), looks := true }, kinds := [], alts := [], laidByText := true, laidKinds := [.data, .data, .data, .data, .sentinel, .pinned], laidTests := true, laidLooks := .later }
def FnExactReadSlotCardSaid : Prop := Claim7.holds Tryd.pinned (.plain (OpenSpec.ofChange fnExactReadSlotSpec)) fnExactReadSlotCard

/-- THE SECOND FORM's CARD OF 'laws.FnDates'. -/
def fnDatesUptoCard : Claim7 := { stood := { row := fnDatesUptoRow, standIns := [], harness := (true, "dabea1c83d9e8540bf260f686f0dee309dc02c8d4f107228238f3e4350a2fcbb"), looks := true }, kinds := [], alts := [], laidByText := true, laidKinds := [.data], laidTests := true, laidLooks := .later }
def FnDatesUptoCardSaid : Prop := Claim7.holds Tryd.pinned (.plain (OpenSpec.upto fnDatesSpec)) fnDatesUptoCard

/-- THE SECOND FORM's CARD OF 'laws.FnDateTexts'. -/
def fnDateTextsUptoCard : Claim7 := { stood := { row := fnDateTextsUptoRow, standIns := [], harness := (true, "dabea1c83d9e8540bf260f686f0dee309dc02c8d4f107228238f3e4350a2fcbb"), looks := true }, kinds := [], alts := [], laidByText := true, laidKinds := [.data, .data, .data, .data], laidTests := true, laidLooks := .later }
def FnDateTextsUptoCardSaid : Prop := Claim7.holds Tryd.pinned (.plain (OpenSpec.upto fnDateTextsSpec)) fnDateTextsUptoCard

/-- THE SECOND FORM's CARD OF 'laws.FnExactReadFeed'. -/
def fnExactReadFeedUptoCard : Claim7 := { stood := { row := fnExactReadFeedUptoRow, standIns := [], harness := (true, "dabea1c83d9e8540bf260f686f0dee309dc02c8d4f107228238f3e4350a2fcbb"), looks := true }, kinds := [], alts := [], laidByText := true, laidKinds := [.data, .data], laidTests := true, laidLooks := .later }
def FnExactReadFeedUptoCardSaid : Prop := Claim7.holds Tryd.pinned (.plain (OpenSpec.upto fnExactReadFeedSpec)) fnExactReadFeedUptoCard

/-- THE SECOND FORM's CARD OF 'laws.FnExactReadOp'. -/
def fnExactReadOpUptoCard : Claim7 := { stood := { row := fnExactReadOpUptoRow, standIns := [], harness := (true, "dabea1c83d9e8540bf260f686f0dee309dc02c8d4f107228238f3e4350a2fcbb"), looks := true }, kinds := [], alts := [], laidByText := true, laidKinds := [.data, .data, .data], laidTests := true, laidLooks := .later }
def FnExactReadOpUptoCardSaid : Prop := Claim7.holds Tryd.pinned (.plain (OpenSpec.upto fnExactReadOpSpec)) fnExactReadOpUptoCard

/-- THE SECOND FORM's CARD OF 'laws.FnExactReadSlot'. -/
def fnExactReadSlotUptoCard : Claim7 := { stood := { row := fnExactReadSlotUptoRow, standIns := [], harness := (true, "dabea1c83d9e8540bf260f686f0dee309dc02c8d4f107228238f3e4350a2fcbb"), looks := true }, kinds := [], alts := [], laidByText := true, laidKinds := [.data, .data, .data, .data, .sentinel, .pinned], laidTests := true, laidLooks := .later }
def FnExactReadSlotUptoCardSaid : Prop := Claim7.holds Tryd.pinned (.plain (OpenSpec.upto fnExactReadSlotSpec)) fnExactReadSlotUptoCard
end Rows
end Go.Proofs.YtgimjfffdnopiaaDoor
