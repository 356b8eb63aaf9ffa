/-
  DERIVED. GIVEN WITH THE SEED: THE CARDS: each row of YtfjaincogbdeiaaDoorRows.lean that lists a variable, with what it lists TIED to the program's text (the seventh form; the later family's looks); each row that meets fmt, with fmt's text TOLD by the authors' own Lean function (tested against real Go, not proved from fmt's source: count such statements apart). THE CARD IS WHAT COUNTS. Prove the row's statement (the work); the ties are given (YtfjaincogbdeiaaDoorTie.lean); close each card by the builder's one call (the guide's Derived/Test/ToyasCard.lean, 'card_holds'). Laid BY PROGRAM, IN A SANDBOX (cutbox-door.mjs). By AI agents, Wed Nov 11 2026. No macro, syntax, notation, axiom, sorry.
-/
import Derived.Test.YtfjaincogbdeiaaDoorRows
import GoSem.ClaimSeven
namespace Go.Proofs.YtfjaincogbdeiaaDoor
namespace Rows

/-- THE TIED CARD OF 'laws.FnExactFeedText'. -/
def fnExactFeedTextCard : Claim7 := { stood := { row := fnExactFeedTextRow, standIns := [], harness := (true, "8883e41075ef38e29a1777e2654dfb6a4326644c5a298f49ff80cd57a16b3075"), looks := true }, kinds := [], alts := [], laidByText := true, laidKinds := [.data, .data, .data, .data, .data], laidTests := true, laidLooks := .later }
def FnExactFeedTextCardSaid : Prop := Claim7.holds Tryd.pinned (.plain (OpenSpec.ofChange fnExactFeedTextSpec)) fnExactFeedTextCard

/-- THE TIED CARD OF 'laws.FnExactOpText'. -/
def fnExactOpTextCard : Claim7 := { stood := { row := fnExactOpTextRow, standIns := [], harness := (true, "8883e41075ef38e29a1777e2654dfb6a4326644c5a298f49ff80cd57a16b3075"), looks := true }, kinds := [], alts := [], laidByText := true, laidKinds := [.data, .data, .data, .data, .data, .data], laidTests := true, laidLooks := .later }
def FnExactOpTextCardSaid : Prop := Claim7.holds Tryd.pinned (.plain (OpenSpec.ofChange fnExactOpTextSpec)) fnExactOpTextCard

/-- THE TIED CARD OF 'laws.FnExactReaderText'. -/
def fnExactReaderTextCard : Claim7 := { stood := { row := fnExactReaderTextRow, standIns := [], harness := (true, "8883e41075ef38e29a1777e2654dfb6a4326644c5a298f49ff80cd57a16b3075"), looks := true }, kinds := [], alts := [], laidByText := true, laidKinds := [.data, .data, .data, .data], laidTests := true, laidLooks := .later }
def FnExactReaderTextCardSaid : Prop := Claim7.holds Tryd.pinned (.plain (OpenSpec.ofChange fnExactReaderTextSpec)) fnExactReaderTextCard

/-- THE TIED CARD OF 'laws.FnExactReadFeed'. -/
def fnExactReadFeedCard : Claim7 := { stood := { row := fnExactReadFeedRow, standIns := [], harness := (true, "8883e41075ef38e29a1777e2654dfb6a4326644c5a298f49ff80cd57a16b3075"), looks := true }, kinds := [], alts := [], laidByText := true, laidKinds := [.data, .data], laidTests := true, laidLooks := .later }
def FnExactReadFeedCardSaid : Prop := Claim7.holds Tryd.pinned (.plain (OpenSpec.ofChange fnExactReadFeedSpec)) fnExactReadFeedCard

/-- THE SECOND FORM's CARD OF 'laws.FnExactFeedText'. -/
def fnExactFeedTextUptoCard : Claim7 := { stood := { row := fnExactFeedTextUptoRow, standIns := [], harness := (true, "8883e41075ef38e29a1777e2654dfb6a4326644c5a298f49ff80cd57a16b3075"), looks := true }, kinds := [], alts := [], laidByText := true, laidKinds := [.data, .data, .data, .data, .data], laidTests := true, laidLooks := .later }
def FnExactFeedTextUptoCardSaid : Prop := Claim7.holds Tryd.pinned (.plain (OpenSpec.upto fnExactFeedTextSpec)) fnExactFeedTextUptoCard

/-- THE SECOND FORM's CARD OF 'laws.FnExactOpText'. -/
def fnExactOpTextUptoCard : Claim7 := { stood := { row := fnExactOpTextUptoRow, standIns := [], harness := (true, "8883e41075ef38e29a1777e2654dfb6a4326644c5a298f49ff80cd57a16b3075"), looks := true }, kinds := [], alts := [], laidByText := true, laidKinds := [.data, .data, .data, .data, .data, .data], laidTests := true, laidLooks := .later }
def FnExactOpTextUptoCardSaid : Prop := Claim7.holds Tryd.pinned (.plain (OpenSpec.upto fnExactOpTextSpec)) fnExactOpTextUptoCard

/-- THE SECOND FORM's CARD OF 'laws.FnExactReaderText'. -/
def fnExactReaderTextUptoCard : Claim7 := { stood := { row := fnExactReaderTextUptoRow, standIns := [], harness := (true, "8883e41075ef38e29a1777e2654dfb6a4326644c5a298f49ff80cd57a16b3075"), looks := true }, kinds := [], alts := [], laidByText := true, laidKinds := [.data, .data, .data, .data], laidTests := true, laidLooks := .later }
def FnExactReaderTextUptoCardSaid : Prop := Claim7.holds Tryd.pinned (.plain (OpenSpec.upto fnExactReaderTextSpec)) fnExactReaderTextUptoCard

/-- THE SECOND FORM's CARD OF 'laws.FnExactReadFeed'. -/
def fnExactReadFeedUptoCard : Claim7 := { stood := { row := fnExactReadFeedUptoRow, standIns := [], harness := (true, "8883e41075ef38e29a1777e2654dfb6a4326644c5a298f49ff80cd57a16b3075"), looks := true }, kinds := [], alts := [], laidByText := true, laidKinds := [.data, .data], laidTests := true, laidLooks := .later }
def FnExactReadFeedUptoCardSaid : Prop := Claim7.holds Tryd.pinned (.plain (OpenSpec.upto fnExactReadFeedSpec)) fnExactReadFeedUptoCard
end Rows
end Go.Proofs.YtfjaincogbdeiaaDoor
