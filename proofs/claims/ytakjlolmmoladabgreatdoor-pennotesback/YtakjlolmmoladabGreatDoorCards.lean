/-
  DERIVED. GIVEN WITH THE SEED: THE CARDS: each row of YtakjlolmmoladabGreatDoorRows.lean that lists a variable, with what it lists TIED to the program's text (the seventh form; the later family's looks); each row that meets fmt, with fmt's text TOLD by the authors' own Lean function (tested against real Go, not proved from fmt's source: count such statements apart). THE CARD IS WHAT COUNTS. Prove the row's statement (the work); the ties are given (YtakjlolmmoladabGreatDoorTie.lean); close each card by the builder's one call (the guide's Derived/Test/ToyasCard.lean, 'card_holds'). Laid BY PROGRAM, IN A SANDBOX (cutbox-door.mjs). By AI agents, Wed Nov 11 2026. No macro, syntax, notation, axiom, sorry.
-/
import Derived.Test.YtakjlolmmoladabGreatDoorRows
import GoSem.ClaimSeven
namespace Go.Proofs.YtakjlolmmoladabGreatDoor
namespace Rows

/-- THE TIED CARD OF 'rectolaw06.PenNotesBack'. -/
def penNotesBackCard : Claim7 := { stood := { row := penNotesBackRow, standIns := [], harness := (true, "06f7b77b419b1c119d6069fa089ac3f3f494fb59d50da37f390f1bb0f5f3b028"), looks := false }, kinds := [], alts := [], laidByText := true, laidKinds := [.data, .data, .data, .data], laidTests := true, laidLooks := .later }
def PenNotesBackCardSaid : Prop := Claim7.holds Tryz.pinned (.plain (OpenSpec.ofChange penNotesBackSpec)) penNotesBackCard

/-- THE SECOND FORM's CARD OF 'rectolaw06.PenNotesBack'. -/
def penNotesBackUptoCard : Claim7 := { stood := { row := penNotesBackUptoRow, standIns := [], harness := (true, "06f7b77b419b1c119d6069fa089ac3f3f494fb59d50da37f390f1bb0f5f3b028"), looks := false }, kinds := [], alts := [], laidByText := true, laidKinds := [.data, .data, .data, .data], laidTests := true, laidLooks := .later }
def PenNotesBackUptoCardSaid : Prop := Claim7.holds Tryz.pinned (.plain (OpenSpec.upto penNotesBackSpec)) penNotesBackUptoCard
end Rows
end Go.Proofs.YtakjlolmmoladabGreatDoor
