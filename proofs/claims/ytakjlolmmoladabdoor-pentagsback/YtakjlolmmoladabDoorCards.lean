/-
  DERIVED. GIVEN WITH THE SEED: THE CARDS: each row of YtakjlolmmoladabDoorRows.lean that lists a variable, with what it lists TIED to the program's text (the seventh form; the later family's looks); each row that meets fmt, with fmt's text TOLD by the authors' own Lean function (tested against real Go, not proved from fmt's source: count such statements apart). THE CARD IS WHAT COUNTS. Prove the row's statement (the work); the ties are given (YtakjlolmmoladabDoorTie.lean); close each card by the builder's one call (the guide's Derived/Test/ToyasCard.lean, 'card_holds'). Laid BY PROGRAM, IN A SANDBOX (cutbox-door.mjs). By AI agents, Wed Nov 11 2026. No macro, syntax, notation, axiom, sorry.
-/
import Derived.Test.YtakjlolmmoladabDoorRows
import GoSem.ClaimSeven
namespace Go.Proofs.YtakjlolmmoladabDoor
namespace Rows

/-- THE TIED CARD OF 'rectolaw06.PenTags'. -/
def penTagsCard : Claim7 := { stood := { row := penTagsRow, standIns := [], harness := (true, "d39169e4c530b57ca18636a7fcdfd2b353eb044e9ecb239b9dcc0e3c9048294c"), looks := false }, kinds := [], alts := [], laidByText := true, laidKinds := [.data, .data], laidTests := true, laidLooks := .later }
def PenTagsCardSaid : Prop := Claim7.holds Tryd.pinned (.plain (OpenSpec.ofChange penTagsSpec)) penTagsCard

/-- THE TIED CARD OF 'rectolaw06.PenTexts'. -/
def penTextsCard : Claim7 := { stood := { row := penTextsRow, standIns := [], harness := (true, "d39169e4c530b57ca18636a7fcdfd2b353eb044e9ecb239b9dcc0e3c9048294c"), looks := false }, kinds := [], alts := [], laidByText := true, laidKinds := [.data, .data], laidTests := true, laidLooks := .later }
def PenTextsCardSaid : Prop := Claim7.holds Tryd.pinned (.plain (OpenSpec.ofChange penTextsSpec)) penTextsCard

/-- THE TIED CARD OF 'rectolaw06.PenTagsBack'. -/
def penTagsBackCard : Claim7 := { stood := { row := penTagsBackRow, standIns := [], harness := (true, "d39169e4c530b57ca18636a7fcdfd2b353eb044e9ecb239b9dcc0e3c9048294c"), looks := false }, kinds := [], alts := [], laidByText := true, laidKinds := [.data, .data, .data, .data], laidTests := true, laidLooks := .later }
def PenTagsBackCardSaid : Prop := Claim7.holds Tryd.pinned (.plain (OpenSpec.ofChange penTagsBackSpec)) penTagsBackCard

/-- THE TIED CARD OF 'rectolaw06.PenCharsBack'. -/
def penCharsBackCard : Claim7 := { stood := { row := penCharsBackRow, standIns := [], harness := (true, "d39169e4c530b57ca18636a7fcdfd2b353eb044e9ecb239b9dcc0e3c9048294c"), looks := false }, kinds := [], alts := [], laidByText := true, laidKinds := [.data, .data, .data, .data], laidTests := true, laidLooks := .later }
def PenCharsBackCardSaid : Prop := Claim7.holds Tryd.pinned (.plain (OpenSpec.ofChange penCharsBackSpec)) penCharsBackCard

/-- THE TIED CARD OF 'rectolaw06.PenRawBack'. -/
def penRawBackCard : Claim7 := { stood := { row := penRawBackRow, standIns := [], harness := (true, "d39169e4c530b57ca18636a7fcdfd2b353eb044e9ecb239b9dcc0e3c9048294c"), looks := false }, kinds := [], alts := [], laidByText := true, laidKinds := [.data, .data, .data, .data], laidTests := true, laidLooks := .later }
def PenRawBackCardSaid : Prop := Claim7.holds Tryd.pinned (.plain (OpenSpec.ofChange penRawBackSpec)) penRawBackCard

/-- THE SECOND FORM's CARD OF 'rectolaw06.PenTags'. -/
def penTagsUptoCard : Claim7 := { stood := { row := penTagsUptoRow, standIns := [], harness := (true, "d39169e4c530b57ca18636a7fcdfd2b353eb044e9ecb239b9dcc0e3c9048294c"), looks := false }, kinds := [], alts := [], laidByText := true, laidKinds := [.data, .data], laidTests := true, laidLooks := .later }
def PenTagsUptoCardSaid : Prop := Claim7.holds Tryd.pinned (.plain (OpenSpec.upto penTagsSpec)) penTagsUptoCard

/-- THE SECOND FORM's CARD OF 'rectolaw06.PenTexts'. -/
def penTextsUptoCard : Claim7 := { stood := { row := penTextsUptoRow, standIns := [], harness := (true, "d39169e4c530b57ca18636a7fcdfd2b353eb044e9ecb239b9dcc0e3c9048294c"), looks := false }, kinds := [], alts := [], laidByText := true, laidKinds := [.data, .data], laidTests := true, laidLooks := .later }
def PenTextsUptoCardSaid : Prop := Claim7.holds Tryd.pinned (.plain (OpenSpec.upto penTextsSpec)) penTextsUptoCard

/-- THE SECOND FORM's CARD OF 'rectolaw06.PenTagsBack'. -/
def penTagsBackUptoCard : Claim7 := { stood := { row := penTagsBackUptoRow, standIns := [], harness := (true, "d39169e4c530b57ca18636a7fcdfd2b353eb044e9ecb239b9dcc0e3c9048294c"), looks := false }, kinds := [], alts := [], laidByText := true, laidKinds := [.data, .data, .data, .data], laidTests := true, laidLooks := .later }
def PenTagsBackUptoCardSaid : Prop := Claim7.holds Tryd.pinned (.plain (OpenSpec.upto penTagsBackSpec)) penTagsBackUptoCard

/-- THE SECOND FORM's CARD OF 'rectolaw06.PenCharsBack'. -/
def penCharsBackUptoCard : Claim7 := { stood := { row := penCharsBackUptoRow, standIns := [], harness := (true, "d39169e4c530b57ca18636a7fcdfd2b353eb044e9ecb239b9dcc0e3c9048294c"), looks := false }, kinds := [], alts := [], laidByText := true, laidKinds := [.data, .data, .data, .data], laidTests := true, laidLooks := .later }
def PenCharsBackUptoCardSaid : Prop := Claim7.holds Tryd.pinned (.plain (OpenSpec.upto penCharsBackSpec)) penCharsBackUptoCard

/-- THE SECOND FORM's CARD OF 'rectolaw06.PenRawBack'. -/
def penRawBackUptoCard : Claim7 := { stood := { row := penRawBackUptoRow, standIns := [], harness := (true, "d39169e4c530b57ca18636a7fcdfd2b353eb044e9ecb239b9dcc0e3c9048294c"), looks := false }, kinds := [], alts := [], laidByText := true, laidKinds := [.data, .data, .data, .data], laidTests := true, laidLooks := .later }
def PenRawBackUptoCardSaid : Prop := Claim7.holds Tryd.pinned (.plain (OpenSpec.upto penRawBackSpec)) penRawBackUptoCard
end Rows
end Go.Proofs.YtakjlolmmoladabDoor
