/-
  DERIVED. GIVEN WITH THE SEED: THE CARDS: each row of YtbbfcpkmfaophaaDoorRows.lean that lists a variable, with what it lists TIED to the program's text (the seventh form; the later family's looks); each row that meets fmt, with fmt's text TOLD by the authors' own Lean function (tested against real Go, not proved from fmt's source: count such statements apart). THE CARD IS WHAT COUNTS. Prove the row's statement (the work); the ties are given (YtbbfcpkmfaophaaDoorTie.lean); close each card by the builder's one call (the guide's Derived/Test/ToyasCard.lean, 'card_holds'). Laid BY PROGRAM, IN A SANDBOX (cutbox-door.mjs). By AI agents, Wed Nov 11 2026. No macro, syntax, notation, axiom, sorry.
-/
import Derived.Test.YtbbfcpkmfaophaaDoorRows
import GoSem.ClaimSeven
namespace Go.Proofs.YtbbfcpkmfaophaaDoor
namespace Rows

/-- THE TIED CARD OF 'laws.FnExactDateOk'. -/
def fnExactDateOkCard : Claim7 := { stood := { row := fnExactDateOkRow, standIns := [], harness := (true, "d9b90a04040f46a626c31b7db0258ff7f9b212624e059bc8c9b858ed6997869c"), looks := false }, kinds := [], alts := [], laidByText := true, laidKinds := [.data], laidTests := true, laidLooks := .later }
def FnExactDateOkCardSaid : Prop := Claim7.holds Tryd.pinned (.plain (OpenSpec.ofChange fnExactDateOkSpec)) fnExactDateOkCard

/-- THE TIED CARD OF 'laws.FnExactDayOf'. -/
def fnExactDayOfCard : Claim7 := { stood := { row := fnExactDayOfRow, standIns := [], harness := (true, "d9b90a04040f46a626c31b7db0258ff7f9b212624e059bc8c9b858ed6997869c"), looks := false }, kinds := [], alts := [], laidByText := true, laidKinds := [.data], laidTests := true, laidLooks := .later }
def FnExactDayOfCardSaid : Prop := Claim7.holds Tryd.pinned (.plain (OpenSpec.ofChange fnExactDayOfSpec)) fnExactDayOfCard

/-- THE TIED CARD OF 'laws.FnExactDateOf'. -/
def fnExactDateOfCard : Claim7 := { stood := { row := fnExactDateOfRow, standIns := [], harness := (true, "d9b90a04040f46a626c31b7db0258ff7f9b212624e059bc8c9b858ed6997869c"), looks := false }, kinds := [], alts := [], laidByText := true, laidKinds := [.data], laidTests := true, laidLooks := .later }
def FnExactDateOfCardSaid : Prop := Claim7.holds Tryd.pinned (.plain (OpenSpec.ofChange fnExactDateOfSpec)) fnExactDateOfCard

/-- THE TIED CARD OF 'laws.FnExactDateText'. -/
def fnExactDateTextCard : Claim7 := { stood := { row := fnExactDateTextRow, standIns := [], harness := (true, "d9b90a04040f46a626c31b7db0258ff7f9b212624e059bc8c9b858ed6997869c"), looks := false }, kinds := [], alts := [], laidByText := true, laidKinds := [.data, .data, .data, .data], laidTests := true, laidLooks := .later }
def FnExactDateTextCardSaid : Prop := Claim7.holds Tryd.pinned (.plain (OpenSpec.ofChange fnExactDateTextSpec)) fnExactDateTextCard

/-- THE TIED CARD OF 'laws.FnExactReadDate'. -/
def fnExactReadDateCard : Claim7 := { stood := { row := fnExactReadDateRow, standIns := [], harness := (true, "d9b90a04040f46a626c31b7db0258ff7f9b212624e059bc8c9b858ed6997869c"), looks := false }, kinds := [], alts := [], laidByText := true, laidKinds := [.data], laidTests := true, laidLooks := .later }
def FnExactReadDateCardSaid : Prop := Claim7.holds Tryd.pinned (.plain (OpenSpec.ofChange fnExactReadDateSpec)) fnExactReadDateCard

/-- THE TIED CARD OF 'laws.FnEscaped'. -/
def fnEscapedCard : Claim7 := { stood := { row := fnEscapedRow, standIns := [], harness := (true, "d9b90a04040f46a626c31b7db0258ff7f9b212624e059bc8c9b858ed6997869c"), looks := false }, kinds := [], alts := [], laidByText := true, laidKinds := [.data], laidTests := true, laidLooks := .later }
def FnEscapedCardSaid : Prop := Claim7.holds Tryd.pinned (.plain (OpenSpec.ofChange fnEscapedSpec)) fnEscapedCard

/-- THE TIED CARD OF 'laws.FnExactEscaped'. -/
def fnExactEscapedCard : Claim7 := { stood := { row := fnExactEscapedRow, standIns := [], harness := (true, "d9b90a04040f46a626c31b7db0258ff7f9b212624e059bc8c9b858ed6997869c"), looks := false }, kinds := [], alts := [], laidByText := true, laidKinds := [.data], laidTests := true, laidLooks := .later }
def FnExactEscapedCardSaid : Prop := Claim7.holds Tryd.pinned (.plain (OpenSpec.ofChange fnExactEscapedSpec)) fnExactEscapedCard

/-- THE TIED CARD OF 'laws.FnExactPlain'. -/
def fnExactPlainCard : Claim7 := { stood := { row := fnExactPlainRow, standIns := [], harness := (true, "d9b90a04040f46a626c31b7db0258ff7f9b212624e059bc8c9b858ed6997869c"), looks := false }, kinds := [], alts := [], laidByText := true, laidKinds := [.data], laidTests := true, laidLooks := .later }
def FnExactPlainCardSaid : Prop := Claim7.holds Tryd.pinned (.plain (OpenSpec.ofChange fnExactPlainSpec)) fnExactPlainCard

/-- THE TIED CARD OF 'laws.FnExactFeedText'. -/
def fnExactFeedTextCard : Claim7 := { stood := { row := fnExactFeedTextRow, standIns := [], harness := (true, "d9b90a04040f46a626c31b7db0258ff7f9b212624e059bc8c9b858ed6997869c"), looks := false }, kinds := [], alts := [], laidByText := true, laidKinds := [.data, .data, .data, .data, .data], laidTests := true, laidLooks := .later }
def FnExactFeedTextCardSaid : Prop := Claim7.holds Tryd.pinned (.plain (OpenSpec.ofChange fnExactFeedTextSpec)) fnExactFeedTextCard

/-- THE TIED CARD OF 'laws.FnExactReadFeed'. -/
def fnExactReadFeedCard : Claim7 := { stood := { row := fnExactReadFeedRow, standIns := [], harness := (true, "d9b90a04040f46a626c31b7db0258ff7f9b212624e059bc8c9b858ed6997869c"), looks := false }, kinds := [], alts := [], laidByText := true, laidKinds := [.data, .data], laidTests := true, laidLooks := .later }
def FnExactReadFeedCardSaid : Prop := Claim7.holds Tryd.pinned (.plain (OpenSpec.ofChange fnExactReadFeedSpec)) fnExactReadFeedCard

/-- THE SECOND FORM's CARD OF 'laws.FnExactDateOk'. -/
def fnExactDateOkUptoCard : Claim7 := { stood := { row := fnExactDateOkUptoRow, standIns := [], harness := (true, "d9b90a04040f46a626c31b7db0258ff7f9b212624e059bc8c9b858ed6997869c"), looks := false }, kinds := [], alts := [], laidByText := true, laidKinds := [.data], laidTests := true, laidLooks := .later }
def FnExactDateOkUptoCardSaid : Prop := Claim7.holds Tryd.pinned (.plain (OpenSpec.upto fnExactDateOkSpec)) fnExactDateOkUptoCard

/-- THE SECOND FORM's CARD OF 'laws.FnExactDayOf'. -/
def fnExactDayOfUptoCard : Claim7 := { stood := { row := fnExactDayOfUptoRow, standIns := [], harness := (true, "d9b90a04040f46a626c31b7db0258ff7f9b212624e059bc8c9b858ed6997869c"), looks := false }, kinds := [], alts := [], laidByText := true, laidKinds := [.data], laidTests := true, laidLooks := .later }
def FnExactDayOfUptoCardSaid : Prop := Claim7.holds Tryd.pinned (.plain (OpenSpec.upto fnExactDayOfSpec)) fnExactDayOfUptoCard

/-- THE SECOND FORM's CARD OF 'laws.FnExactDateOf'. -/
def fnExactDateOfUptoCard : Claim7 := { stood := { row := fnExactDateOfUptoRow, standIns := [], harness := (true, "d9b90a04040f46a626c31b7db0258ff7f9b212624e059bc8c9b858ed6997869c"), looks := false }, kinds := [], alts := [], laidByText := true, laidKinds := [.data], laidTests := true, laidLooks := .later }
def FnExactDateOfUptoCardSaid : Prop := Claim7.holds Tryd.pinned (.plain (OpenSpec.upto fnExactDateOfSpec)) fnExactDateOfUptoCard

/-- THE SECOND FORM's CARD OF 'laws.FnExactDateText'. -/
def fnExactDateTextUptoCard : Claim7 := { stood := { row := fnExactDateTextUptoRow, standIns := [], harness := (true, "d9b90a04040f46a626c31b7db0258ff7f9b212624e059bc8c9b858ed6997869c"), looks := false }, kinds := [], alts := [], laidByText := true, laidKinds := [.data, .data, .data, .data], laidTests := true, laidLooks := .later }
def FnExactDateTextUptoCardSaid : Prop := Claim7.holds Tryd.pinned (.plain (OpenSpec.upto fnExactDateTextSpec)) fnExactDateTextUptoCard

/-- THE SECOND FORM's CARD OF 'laws.FnExactReadDate'. -/
def fnExactReadDateUptoCard : Claim7 := { stood := { row := fnExactReadDateUptoRow, standIns := [], harness := (true, "d9b90a04040f46a626c31b7db0258ff7f9b212624e059bc8c9b858ed6997869c"), looks := false }, kinds := [], alts := [], laidByText := true, laidKinds := [.data], laidTests := true, laidLooks := .later }
def FnExactReadDateUptoCardSaid : Prop := Claim7.holds Tryd.pinned (.plain (OpenSpec.upto fnExactReadDateSpec)) fnExactReadDateUptoCard

/-- THE SECOND FORM's CARD OF 'laws.FnEscaped'. -/
def fnEscapedUptoCard : Claim7 := { stood := { row := fnEscapedUptoRow, standIns := [], harness := (true, "d9b90a04040f46a626c31b7db0258ff7f9b212624e059bc8c9b858ed6997869c"), looks := false }, kinds := [], alts := [], laidByText := true, laidKinds := [.data], laidTests := true, laidLooks := .later }
def FnEscapedUptoCardSaid : Prop := Claim7.holds Tryd.pinned (.plain (OpenSpec.upto fnEscapedSpec)) fnEscapedUptoCard

/-- THE SECOND FORM's CARD OF 'laws.FnExactEscaped'. -/
def fnExactEscapedUptoCard : Claim7 := { stood := { row := fnExactEscapedUptoRow, standIns := [], harness := (true, "d9b90a04040f46a626c31b7db0258ff7f9b212624e059bc8c9b858ed6997869c"), looks := false }, kinds := [], alts := [], laidByText := true, laidKinds := [.data], laidTests := true, laidLooks := .later }
def FnExactEscapedUptoCardSaid : Prop := Claim7.holds Tryd.pinned (.plain (OpenSpec.upto fnExactEscapedSpec)) fnExactEscapedUptoCard

/-- THE SECOND FORM's CARD OF 'laws.FnExactPlain'. -/
def fnExactPlainUptoCard : Claim7 := { stood := { row := fnExactPlainUptoRow, standIns := [], harness := (true, "d9b90a04040f46a626c31b7db0258ff7f9b212624e059bc8c9b858ed6997869c"), looks := false }, kinds := [], alts := [], laidByText := true, laidKinds := [.data], laidTests := true, laidLooks := .later }
def FnExactPlainUptoCardSaid : Prop := Claim7.holds Tryd.pinned (.plain (OpenSpec.upto fnExactPlainSpec)) fnExactPlainUptoCard

/-- THE SECOND FORM's CARD OF 'laws.FnExactFeedText'. -/
def fnExactFeedTextUptoCard : Claim7 := { stood := { row := fnExactFeedTextUptoRow, standIns := [], harness := (true, "d9b90a04040f46a626c31b7db0258ff7f9b212624e059bc8c9b858ed6997869c"), looks := false }, kinds := [], alts := [], laidByText := true, laidKinds := [.data, .data, .data, .data, .data], laidTests := true, laidLooks := .later }
def FnExactFeedTextUptoCardSaid : Prop := Claim7.holds Tryd.pinned (.plain (OpenSpec.upto fnExactFeedTextSpec)) fnExactFeedTextUptoCard

/-- THE SECOND FORM's CARD OF 'laws.FnExactReadFeed'. -/
def fnExactReadFeedUptoCard : Claim7 := { stood := { row := fnExactReadFeedUptoRow, standIns := [], harness := (true, "d9b90a04040f46a626c31b7db0258ff7f9b212624e059bc8c9b858ed6997869c"), looks := false }, kinds := [], alts := [], laidByText := true, laidKinds := [.data, .data], laidTests := true, laidLooks := .later }
def FnExactReadFeedUptoCardSaid : Prop := Claim7.holds Tryd.pinned (.plain (OpenSpec.upto fnExactReadFeedSpec)) fnExactReadFeedUptoCard
end Rows
end Go.Proofs.YtbbfcpkmfaophaaDoor
