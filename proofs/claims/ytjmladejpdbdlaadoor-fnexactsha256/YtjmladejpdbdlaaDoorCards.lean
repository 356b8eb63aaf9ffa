/-
  DERIVED. GIVEN WITH THE SEED: THE CARDS: each row of YtjmladejpdbdlaaDoorRows.lean that lists a variable, with what it lists TIED to the program's text (the seventh form; the later family's looks); each row that meets fmt, with fmt's text TOLD by the authors' own Lean function (tested against real Go, not proved from fmt's source: count such statements apart). THE CARD IS WHAT COUNTS. Prove the row's statement (the work); the ties are given (YtjmladejpdbdlaaDoorTie.lean); close each card by the builder's one call (the guide's Derived/Test/ToyasCard.lean, 'card_holds'). Laid BY PROGRAM, IN A SANDBOX (cutbox-door.mjs). By AI agents, Wed Nov 11 2026. No macro, syntax, notation, axiom, sorry.
-/
import Derived.Test.YtjmladejpdbdlaaDoorRows
import GoSem.ClaimSeven
namespace Go.Proofs.YtjmladejpdbdlaaDoor
namespace Rows

/-- THE TIED CARD OF 'laws.FnExactShaStep'. -/
def fnExactShaStepCard : Claim7 := { stood := { row := fnExactShaStepRow, standIns := [], harness := (true, "c362a961f02e4c8513283b9bdd799313b9632592da7cbfd3d57cb1586bd38faa"), looks := false }, kinds := [], alts := [], laidByText := true, laidKinds := [.data], laidTests := true, laidLooks := .later }
def FnExactShaStepCardSaid : Prop := Claim7.holds Tryd.pinned (.plain (OpenSpec.ofChange fnExactShaStepSpec)) fnExactShaStepCard

/-- THE TIED CARD OF 'laws.FnExactSha256'. -/
def fnExactSha256Card : Claim7 := { stood := { row := fnExactSha256Row, standIns := [], harness := (true, "c362a961f02e4c8513283b9bdd799313b9632592da7cbfd3d57cb1586bd38faa"), looks := false }, kinds := [], alts := [], laidByText := true, laidKinds := [.data, .data], laidTests := true, laidLooks := .later }
def FnExactSha256CardSaid : Prop := Claim7.holds Tryd.pinned (.plain (OpenSpec.ofChange fnExactSha256Spec)) fnExactSha256Card

/-- THE TIED CARD OF 'laws.FnSha'. -/
def fnShaCard : Claim7 := { stood := { row := fnShaRow, standIns := [], harness := (true, "c362a961f02e4c8513283b9bdd799313b9632592da7cbfd3d57cb1586bd38faa"), looks := false }, kinds := [], alts := [], laidByText := true, laidKinds := [.data, .data], laidTests := true, laidLooks := .later }
def FnShaCardSaid : Prop := Claim7.holds Tryd.pinned (.plain (OpenSpec.ofChange fnShaSpec)) fnShaCard

/-- THE TIED CARD OF 'laws.FnExactHmac'. -/
def fnExactHmacCard : Claim7 := { stood := { row := fnExactHmacRow, standIns := [], harness := (true, "c362a961f02e4c8513283b9bdd799313b9632592da7cbfd3d57cb1586bd38faa"), looks := false }, kinds := [], alts := [], laidByText := true, laidKinds := [.data, .data], laidTests := true, laidLooks := .later }
def FnExactHmacCardSaid : Prop := Claim7.holds Tryd.pinned (.plain (OpenSpec.ofChange fnExactHmacSpec)) fnExactHmacCard

/-- THE TIED CARD OF 'laws.FnExactExpand'. -/
def fnExactExpandCard : Claim7 := { stood := { row := fnExactExpandRow, standIns := [], harness := (true, "c362a961f02e4c8513283b9bdd799313b9632592da7cbfd3d57cb1586bd38faa"), looks := false }, kinds := [], alts := [], laidByText := true, laidKinds := [.data, .data], laidTests := true, laidLooks := .later }
def FnExactExpandCardSaid : Prop := Claim7.holds Tryd.pinned (.plain (OpenSpec.ofChange fnExactExpandSpec)) fnExactExpandCard

/-- THE TIED CARD OF 'laws.FnExactStretched'. -/
def fnExactStretchedCard : Claim7 := { stood := { row := fnExactStretchedRow, standIns := [], harness := (true, "c362a961f02e4c8513283b9bdd799313b9632592da7cbfd3d57cb1586bd38faa"), looks := false }, kinds := [], alts := [], laidByText := true, laidKinds := [.data, .data], laidTests := true, laidLooks := .later }
def FnExactStretchedCardSaid : Prop := Claim7.holds Tryd.pinned (.plain (OpenSpec.ofChange fnExactStretchedSpec)) fnExactStretchedCard

/-- THE TIED CARD OF 'laws.FnHmac'. -/
def fnHmacCard : Claim7 := { stood := { row := fnHmacRow, standIns := [], harness := (true, "c362a961f02e4c8513283b9bdd799313b9632592da7cbfd3d57cb1586bd38faa"), looks := false }, kinds := [], alts := [], laidByText := true, laidKinds := [.data, .data], laidTests := true, laidLooks := .later }
def FnHmacCardSaid : Prop := Claim7.holds Tryd.pinned (.plain (OpenSpec.ofChange fnHmacSpec)) fnHmacCard

/-- THE TIED CARD OF 'laws.FnExpand'. -/
def fnExpandCard : Claim7 := { stood := { row := fnExpandRow, standIns := [], harness := (true, "c362a961f02e4c8513283b9bdd799313b9632592da7cbfd3d57cb1586bd38faa"), looks := false }, kinds := [], alts := [], laidByText := true, laidKinds := [.data, .data], laidTests := true, laidLooks := .later }
def FnExpandCardSaid : Prop := Claim7.holds Tryd.pinned (.plain (OpenSpec.ofChange fnExpandSpec)) fnExpandCard

/-- THE TIED CARD OF 'laws.FnStretched'. -/
def fnStretchedCard : Claim7 := { stood := { row := fnStretchedRow, standIns := [], harness := (true, "c362a961f02e4c8513283b9bdd799313b9632592da7cbfd3d57cb1586bd38faa"), looks := false }, kinds := [], alts := [], laidByText := true, laidKinds := [.data, .data], laidTests := true, laidLooks := .later }
def FnStretchedCardSaid : Prop := Claim7.holds Tryd.pinned (.plain (OpenSpec.ofChange fnStretchedSpec)) fnStretchedCard

/-- THE TIED CARD OF 'laws.FnPadded'. -/
def fnPaddedCard : Claim7 := { stood := { row := fnPaddedRow, standIns := [], harness := (true, "c362a961f02e4c8513283b9bdd799313b9632592da7cbfd3d57cb1586bd38faa"), looks := false }, kinds := [], alts := [], laidByText := true, laidKinds := [.sentinel], laidTests := true, laidLooks := .later }
def FnPaddedCardSaid : Prop := Claim7.holds Tryd.pinned (.plain (OpenSpec.ofChange fnPaddedSpec)) fnPaddedCard

/-- THE TIED CARD OF 'laws.FnExactUnpadded'. -/
def fnExactUnpaddedCard : Claim7 := { stood := { row := fnExactUnpaddedRow, standIns := [], harness := (true, "c362a961f02e4c8513283b9bdd799313b9632592da7cbfd3d57cb1586bd38faa"), looks := false }, kinds := [], alts := [], laidByText := true, laidKinds := [.sentinel], laidTests := true, laidLooks := .later }
def FnExactUnpaddedCardSaid : Prop := Claim7.holds Tryd.pinned (.plain (OpenSpec.ofChange fnExactUnpaddedSpec)) fnExactUnpaddedCard

/-- THE TIED CARD OF 'laws.FnExactOpened'. -/
def fnExactOpenedCard : Claim7 := { stood := { row := fnExactOpenedRow, standIns := [], harness := (true, "c362a961f02e4c8513283b9bdd799313b9632592da7cbfd3d57cb1586bd38faa"), looks := false }, kinds := [], alts := [], laidByText := true, laidKinds := [.sentinel], laidTests := true, laidLooks := .later }
def FnExactOpenedCardSaid : Prop := Claim7.holds Tryd.pinned (.plain (OpenSpec.ofChange fnExactOpenedSpec)) fnExactOpenedCard

/-- THE TIED CARD OF 'laws.FnSeals'. -/
def fnSealsCard : Claim7 := { stood := { row := fnSealsRow, standIns := [], harness := (true, "c362a961f02e4c8513283b9bdd799313b9632592da7cbfd3d57cb1586bd38faa"), looks := false }, kinds := [], alts := [], laidByText := true, laidKinds := [.sentinel], laidTests := true, laidLooks := .later }
def FnSealsCardSaid : Prop := Claim7.holds Tryd.pinned (.plain (OpenSpec.ofChange fnSealsSpec)) fnSealsCard

/-- THE SECOND FORM's CARD OF 'laws.FnExactShaStep'. -/
def fnExactShaStepUptoCard : Claim7 := { stood := { row := fnExactShaStepUptoRow, standIns := [], harness := (true, "c362a961f02e4c8513283b9bdd799313b9632592da7cbfd3d57cb1586bd38faa"), looks := false }, kinds := [], alts := [], laidByText := true, laidKinds := [.data], laidTests := true, laidLooks := .later }
def FnExactShaStepUptoCardSaid : Prop := Claim7.holds Tryd.pinned (.plain (OpenSpec.upto fnExactShaStepSpec)) fnExactShaStepUptoCard

/-- THE SECOND FORM's CARD OF 'laws.FnExactSha256'. -/
def fnExactSha256UptoCard : Claim7 := { stood := { row := fnExactSha256UptoRow, standIns := [], harness := (true, "c362a961f02e4c8513283b9bdd799313b9632592da7cbfd3d57cb1586bd38faa"), looks := false }, kinds := [], alts := [], laidByText := true, laidKinds := [.data, .data], laidTests := true, laidLooks := .later }
def FnExactSha256UptoCardSaid : Prop := Claim7.holds Tryd.pinned (.plain (OpenSpec.upto fnExactSha256Spec)) fnExactSha256UptoCard

/-- THE SECOND FORM's CARD OF 'laws.FnSha'. -/
def fnShaUptoCard : Claim7 := { stood := { row := fnShaUptoRow, standIns := [], harness := (true, "c362a961f02e4c8513283b9bdd799313b9632592da7cbfd3d57cb1586bd38faa"), looks := false }, kinds := [], alts := [], laidByText := true, laidKinds := [.data, .data], laidTests := true, laidLooks := .later }
def FnShaUptoCardSaid : Prop := Claim7.holds Tryd.pinned (.plain (OpenSpec.upto fnShaSpec)) fnShaUptoCard

/-- THE SECOND FORM's CARD OF 'laws.FnExactHmac'. -/
def fnExactHmacUptoCard : Claim7 := { stood := { row := fnExactHmacUptoRow, standIns := [], harness := (true, "c362a961f02e4c8513283b9bdd799313b9632592da7cbfd3d57cb1586bd38faa"), looks := false }, kinds := [], alts := [], laidByText := true, laidKinds := [.data, .data], laidTests := true, laidLooks := .later }
def FnExactHmacUptoCardSaid : Prop := Claim7.holds Tryd.pinned (.plain (OpenSpec.upto fnExactHmacSpec)) fnExactHmacUptoCard

/-- THE SECOND FORM's CARD OF 'laws.FnExactExpand'. -/
def fnExactExpandUptoCard : Claim7 := { stood := { row := fnExactExpandUptoRow, standIns := [], harness := (true, "c362a961f02e4c8513283b9bdd799313b9632592da7cbfd3d57cb1586bd38faa"), looks := false }, kinds := [], alts := [], laidByText := true, laidKinds := [.data, .data], laidTests := true, laidLooks := .later }
def FnExactExpandUptoCardSaid : Prop := Claim7.holds Tryd.pinned (.plain (OpenSpec.upto fnExactExpandSpec)) fnExactExpandUptoCard

/-- THE SECOND FORM's CARD OF 'laws.FnExactStretched'. -/
def fnExactStretchedUptoCard : Claim7 := { stood := { row := fnExactStretchedUptoRow, standIns := [], harness := (true, "c362a961f02e4c8513283b9bdd799313b9632592da7cbfd3d57cb1586bd38faa"), looks := false }, kinds := [], alts := [], laidByText := true, laidKinds := [.data, .data], laidTests := true, laidLooks := .later }
def FnExactStretchedUptoCardSaid : Prop := Claim7.holds Tryd.pinned (.plain (OpenSpec.upto fnExactStretchedSpec)) fnExactStretchedUptoCard

/-- THE SECOND FORM's CARD OF 'laws.FnHmac'. -/
def fnHmacUptoCard : Claim7 := { stood := { row := fnHmacUptoRow, standIns := [], harness := (true, "c362a961f02e4c8513283b9bdd799313b9632592da7cbfd3d57cb1586bd38faa"), looks := false }, kinds := [], alts := [], laidByText := true, laidKinds := [.data, .data], laidTests := true, laidLooks := .later }
def FnHmacUptoCardSaid : Prop := Claim7.holds Tryd.pinned (.plain (OpenSpec.upto fnHmacSpec)) fnHmacUptoCard

/-- THE SECOND FORM's CARD OF 'laws.FnExpand'. -/
def fnExpandUptoCard : Claim7 := { stood := { row := fnExpandUptoRow, standIns := [], harness := (true, "c362a961f02e4c8513283b9bdd799313b9632592da7cbfd3d57cb1586bd38faa"), looks := false }, kinds := [], alts := [], laidByText := true, laidKinds := [.data, .data], laidTests := true, laidLooks := .later }
def FnExpandUptoCardSaid : Prop := Claim7.holds Tryd.pinned (.plain (OpenSpec.upto fnExpandSpec)) fnExpandUptoCard

/-- THE SECOND FORM's CARD OF 'laws.FnStretched'. -/
def fnStretchedUptoCard : Claim7 := { stood := { row := fnStretchedUptoRow, standIns := [], harness := (true, "c362a961f02e4c8513283b9bdd799313b9632592da7cbfd3d57cb1586bd38faa"), looks := false }, kinds := [], alts := [], laidByText := true, laidKinds := [.data, .data], laidTests := true, laidLooks := .later }
def FnStretchedUptoCardSaid : Prop := Claim7.holds Tryd.pinned (.plain (OpenSpec.upto fnStretchedSpec)) fnStretchedUptoCard

/-- THE SECOND FORM's CARD OF 'laws.FnPadded'. -/
def fnPaddedUptoCard : Claim7 := { stood := { row := fnPaddedUptoRow, standIns := [], harness := (true, "c362a961f02e4c8513283b9bdd799313b9632592da7cbfd3d57cb1586bd38faa"), looks := false }, kinds := [], alts := [], laidByText := true, laidKinds := [.sentinel], laidTests := true, laidLooks := .later }
def FnPaddedUptoCardSaid : Prop := Claim7.holds Tryd.pinned (.plain (OpenSpec.upto fnPaddedSpec)) fnPaddedUptoCard

/-- THE SECOND FORM's CARD OF 'laws.FnExactUnpadded'. -/
def fnExactUnpaddedUptoCard : Claim7 := { stood := { row := fnExactUnpaddedUptoRow, standIns := [], harness := (true, "c362a961f02e4c8513283b9bdd799313b9632592da7cbfd3d57cb1586bd38faa"), looks := false }, kinds := [], alts := [], laidByText := true, laidKinds := [.sentinel], laidTests := true, laidLooks := .later }
def FnExactUnpaddedUptoCardSaid : Prop := Claim7.holds Tryd.pinned (.plain (OpenSpec.upto fnExactUnpaddedSpec)) fnExactUnpaddedUptoCard

/-- THE SECOND FORM's CARD OF 'laws.FnExactOpened'. -/
def fnExactOpenedUptoCard : Claim7 := { stood := { row := fnExactOpenedUptoRow, standIns := [], harness := (true, "c362a961f02e4c8513283b9bdd799313b9632592da7cbfd3d57cb1586bd38faa"), looks := false }, kinds := [], alts := [], laidByText := true, laidKinds := [.sentinel], laidTests := true, laidLooks := .later }
def FnExactOpenedUptoCardSaid : Prop := Claim7.holds Tryd.pinned (.plain (OpenSpec.upto fnExactOpenedSpec)) fnExactOpenedUptoCard

/-- THE SECOND FORM's CARD OF 'laws.FnSeals'. -/
def fnSealsUptoCard : Claim7 := { stood := { row := fnSealsUptoRow, standIns := [], harness := (true, "c362a961f02e4c8513283b9bdd799313b9632592da7cbfd3d57cb1586bd38faa"), looks := false }, kinds := [], alts := [], laidByText := true, laidKinds := [.sentinel], laidTests := true, laidLooks := .later }
def FnSealsUptoCardSaid : Prop := Claim7.holds Tryd.pinned (.plain (OpenSpec.upto fnSealsSpec)) fnSealsUptoCard
end Rows
end Go.Proofs.YtjmladejpdbdlaaDoor
