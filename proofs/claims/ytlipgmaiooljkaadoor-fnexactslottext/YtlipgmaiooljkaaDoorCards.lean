/-
  DERIVED. GIVEN WITH THE SEED: THE CARDS: each row of YtlipgmaiooljkaaDoorRows.lean that lists a variable, with what it lists TIED to the program's text (the seventh form; the later family's looks); each row that meets fmt, with fmt's text TOLD by the authors' own Lean function (tested against real Go, not proved from fmt's source: count such statements apart). THE CARD IS WHAT COUNTS. Prove the row's statement (the work); the ties are given (YtlipgmaiooljkaaDoorTie.lean); close each card by the builder's one call (the guide's Derived/Test/ToyasCard.lean, 'card_holds'). Laid BY PROGRAM, IN A SANDBOX (cutbox-door.mjs). By AI agents, Wed Nov 11 2026. No macro, syntax, notation, axiom, sorry.
-/
import Derived.Test.YtlipgmaiooljkaaDoorRows
import GoSem.ClaimSeven
namespace Go.Proofs.YtlipgmaiooljkaaDoor
namespace Rows

/-- THE TIED CARD OF 'laws.FnExactSlotText'. -/
def fnExactSlotTextCard : Claim7 := { stood := { row := fnExactSlotTextRow, standIns := [], harness := (true, "f452fb14725bf2ab00764b26a5b1be0e21c55446409b85bceefca55bde9488b2"), looks := false }, kinds := [], alts := [], laidByText := true, laidKinds := [.data, .data, .data], laidTests := true, laidLooks := .later }
def FnExactSlotTextCardSaid : Prop := Claim7.holds Tryd.pinned (.plain (OpenSpec.ofChange fnExactSlotTextSpec)) fnExactSlotTextCard

/-- THE TIED CARD OF 'laws.FnExactReadSlot'. -/
def fnExactReadSlotCard : Claim7 := { stood := { row := fnExactReadSlotRow, standIns := [], harness := (true, "f452fb14725bf2ab00764b26a5b1be0e21c55446409b85bceefca55bde9488b2"), looks := false }, kinds := [], alts := [], laidByText := true, laidKinds := [.data, .data, .data, .data, .sentinel, .pinned], laidTests := true, laidLooks := .later }
def FnExactReadSlotCardSaid : Prop := Claim7.holds Tryd.pinned (.plain (OpenSpec.ofChange fnExactReadSlotSpec)) fnExactReadSlotCard

/-- THE SECOND FORM's CARD OF 'laws.FnExactSlotText'. -/
def fnExactSlotTextUptoCard : Claim7 := { stood := { row := fnExactSlotTextUptoRow, standIns := [], harness := (true, "f452fb14725bf2ab00764b26a5b1be0e21c55446409b85bceefca55bde9488b2"), looks := false }, kinds := [], alts := [], laidByText := true, laidKinds := [.data, .data, .data], laidTests := true, laidLooks := .later }
def FnExactSlotTextUptoCardSaid : Prop := Claim7.holds Tryd.pinned (.plain (OpenSpec.upto fnExactSlotTextSpec)) fnExactSlotTextUptoCard

/-- THE SECOND FORM's CARD OF 'laws.FnExactReadSlot'. -/
def fnExactReadSlotUptoCard : Claim7 := { stood := { row := fnExactReadSlotUptoRow, standIns := [], harness := (true, "f452fb14725bf2ab00764b26a5b1be0e21c55446409b85bceefca55bde9488b2"), looks := false }, kinds := [], alts := [], laidByText := true, laidKinds := [.data, .data, .data, .data, .sentinel, .pinned], laidTests := true, laidLooks := .later }
def FnExactReadSlotUptoCardSaid : Prop := Claim7.holds Tryd.pinned (.plain (OpenSpec.upto fnExactReadSlotSpec)) fnExactReadSlotUptoCard
end Rows
end Go.Proofs.YtlipgmaiooljkaaDoor
