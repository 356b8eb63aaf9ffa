/-
  DERIVED. GIVEN WITH THE SEED: THE CARDS: each row of YtlipgmaiooljkaaGreatDoorRows.lean that lists a variable, with what it lists TIED to the program's text (the seventh form; the later family's looks); each row that meets fmt, with fmt's text TOLD by the authors' own Lean function (tested against real Go, not proved from fmt's source: count such statements apart). THE CARD IS WHAT COUNTS. Prove the row's statement (the work); the ties are given (YtlipgmaiooljkaaGreatDoorTie.lean); close each card by the builder's one call (the guide's Derived/Test/ToyasCard.lean, 'card_holds'). Laid BY PROGRAM, IN A SANDBOX (cutbox-door.mjs). By AI agents, Wed Nov 11 2026. No macro, syntax, notation, axiom, sorry.
-/
import Derived.Test.YtlipgmaiooljkaaGreatDoorRows
import GoSem.ClaimSeven
namespace Go.Proofs.YtlipgmaiooljkaaGreatDoor
namespace Rows

/-- THE TIED CARD OF 'laws.FnExactSlotOf'. -/
def fnExactSlotOfCard : Claim7 := { stood := { row := fnExactSlotOfRow, standIns := [], harness := (true, "2f39948bda647762aee26ba5a6a824d8e50fb7c62e2dd75b4f39062fb8ef8e43"), looks := false }, kinds := [], alts := [], laidByText := true, laidKinds := [.data, .data], laidTests := true, laidLooks := .later }
def FnExactSlotOfCardSaid : Prop := Claim7.holds Tryz.pinned (.plain (OpenSpec.ofChange fnExactSlotOfSpec)) fnExactSlotOfCard

/-- THE TIED CARD OF 'laws.FnExactKeyIn'. -/
def fnExactKeyInCard : Claim7 := { stood := { row := fnExactKeyInRow, standIns := [], harness := (true, "2f39948bda647762aee26ba5a6a824d8e50fb7c62e2dd75b4f39062fb8ef8e43"), looks := false }, kinds := [], alts := [], laidByText := true, laidKinds := [.sentinel, .data, .data], laidTests := true, laidLooks := .later }
def FnExactKeyInCardSaid : Prop := Claim7.holds Tryz.pinned (.plain (OpenSpec.ofChange fnExactKeyInSpec)) fnExactKeyInCard

/-- THE TIED CARD OF 'laws.FnExactRewrapped'. -/
def fnExactRewrappedCard : Claim7 := { stood := { row := fnExactRewrappedRow, standIns := [], harness := (true, "2f39948bda647762aee26ba5a6a824d8e50fb7c62e2dd75b4f39062fb8ef8e43"), looks := false }, kinds := [], alts := [], laidByText := true, laidKinds := [.sentinel, .data, .data], laidTests := true, laidLooks := .later }
def FnExactRewrappedCardSaid : Prop := Claim7.holds Tryz.pinned (.plain (OpenSpec.ofChange fnExactRewrappedSpec)) fnExactRewrappedCard

/-- THE TIED CARD OF 'laws.FnSlots'. -/
def fnSlotsCard : Claim7 := { stood := { row := fnSlotsRow, standIns := [], harness := (true, "2f39948bda647762aee26ba5a6a824d8e50fb7c62e2dd75b4f39062fb8ef8e43"), looks := false }, kinds := [], alts := [], laidByText := true, laidKinds := [.data, .data, .data, .data, .sentinel, .data, .data, .pinned], laidTests := true, laidLooks := .later }
def FnSlotsCardSaid : Prop := Claim7.holds Tryz.pinned (.plain (OpenSpec.ofChange fnSlotsSpec)) fnSlotsCard

/-- THE TIED CARD OF 'laws.FnRewrapped'. -/
def fnRewrappedCard : Claim7 := { stood := { row := fnRewrappedRow, standIns := [], harness := (true, "2f39948bda647762aee26ba5a6a824d8e50fb7c62e2dd75b4f39062fb8ef8e43"), looks := false }, kinds := [], alts := [], laidByText := true, laidKinds := [.sentinel, .data, .data], laidTests := true, laidLooks := .later }
def FnRewrappedCardSaid : Prop := Claim7.holds Tryz.pinned (.plain (OpenSpec.ofChange fnRewrappedSpec)) fnRewrappedCard

/-- THE SECOND FORM's CARD OF 'laws.FnExactSlotOf'. -/
def fnExactSlotOfUptoCard : Claim7 := { stood := { row := fnExactSlotOfUptoRow, standIns := [], harness := (true, "2f39948bda647762aee26ba5a6a824d8e50fb7c62e2dd75b4f39062fb8ef8e43"), looks := false }, kinds := [], alts := [], laidByText := true, laidKinds := [.data, .data], laidTests := true, laidLooks := .later }
def FnExactSlotOfUptoCardSaid : Prop := Claim7.holds Tryz.pinned (.plain (OpenSpec.upto fnExactSlotOfSpec)) fnExactSlotOfUptoCard

/-- THE SECOND FORM's CARD OF 'laws.FnExactKeyIn'. -/
def fnExactKeyInUptoCard : Claim7 := { stood := { row := fnExactKeyInUptoRow, standIns := [], harness := (true, "2f39948bda647762aee26ba5a6a824d8e50fb7c62e2dd75b4f39062fb8ef8e43"), looks := false }, kinds := [], alts := [], laidByText := true, laidKinds := [.sentinel, .data, .data], laidTests := true, laidLooks := .later }
def FnExactKeyInUptoCardSaid : Prop := Claim7.holds Tryz.pinned (.plain (OpenSpec.upto fnExactKeyInSpec)) fnExactKeyInUptoCard

/-- THE SECOND FORM's CARD OF 'laws.FnExactRewrapped'. -/
def fnExactRewrappedUptoCard : Claim7 := { stood := { row := fnExactRewrappedUptoRow, standIns := [], harness := (true, "2f39948bda647762aee26ba5a6a824d8e50fb7c62e2dd75b4f39062fb8ef8e43"), looks := false }, kinds := [], alts := [], laidByText := true, laidKinds := [.sentinel, .data, .data], laidTests := true, laidLooks := .later }
def FnExactRewrappedUptoCardSaid : Prop := Claim7.holds Tryz.pinned (.plain (OpenSpec.upto fnExactRewrappedSpec)) fnExactRewrappedUptoCard

/-- THE SECOND FORM's CARD OF 'laws.FnSlots'. -/
def fnSlotsUptoCard : Claim7 := { stood := { row := fnSlotsUptoRow, standIns := [], harness := (true, "2f39948bda647762aee26ba5a6a824d8e50fb7c62e2dd75b4f39062fb8ef8e43"), looks := false }, kinds := [], alts := [], laidByText := true, laidKinds := [.data, .data, .data, .data, .sentinel, .data, .data, .pinned], laidTests := true, laidLooks := .later }
def FnSlotsUptoCardSaid : Prop := Claim7.holds Tryz.pinned (.plain (OpenSpec.upto fnSlotsSpec)) fnSlotsUptoCard

/-- THE SECOND FORM's CARD OF 'laws.FnRewrapped'. -/
def fnRewrappedUptoCard : Claim7 := { stood := { row := fnRewrappedUptoRow, standIns := [], harness := (true, "2f39948bda647762aee26ba5a6a824d8e50fb7c62e2dd75b4f39062fb8ef8e43"), looks := false }, kinds := [], alts := [], laidByText := true, laidKinds := [.sentinel, .data, .data], laidTests := true, laidLooks := .later }
def FnRewrappedUptoCardSaid : Prop := Claim7.holds Tryz.pinned (.plain (OpenSpec.upto fnRewrappedSpec)) fnRewrappedUptoCard
end Rows
end Go.Proofs.YtlipgmaiooljkaaGreatDoor
