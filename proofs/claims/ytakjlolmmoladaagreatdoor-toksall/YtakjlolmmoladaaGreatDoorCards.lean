/-
  DERIVED. GIVEN WITH THE SEED: THE CARDS: each row of YtakjlolmmoladaaGreatDoorRows.lean that lists a variable, with what it lists TIED to the program's text (the seventh form; the later family's looks); each row that meets fmt, with fmt's text TOLD by the authors' own Lean function (tested against real Go, not proved from fmt's source: count such statements apart). THE CARD IS WHAT COUNTS. Prove the row's statement (the work); the ties are given (YtakjlolmmoladaaGreatDoorTie.lean); close each card by the builder's one call (the guide's Derived/Test/ToyasCard.lean, 'card_holds'). Laid BY PROGRAM, IN A SANDBOX (cutbox-door.mjs). By AI agents, Wed Nov 11 2026. No macro, syntax, notation, axiom, sorry.
-/
import Derived.Test.YtakjlolmmoladaaGreatDoorRows
import GoSem.ClaimSeven
namespace Go.Proofs.YtakjlolmmoladaaGreatDoor
namespace Rows

/-- THE TIED CARD OF 'rectolaw05.ToksNext'. -/
def toksNextCard : Claim7 := { stood := { row := toksNextRow, standIns := [], harness := (true, "91649b534febc0057680790542f833f8034710789b005c544c53c79d8c22f977"), looks := false }, kinds := [], alts := [], laidByText := true, laidKinds := [.data, .data, .data, .data], laidTests := true, laidLooks := .later }
def ToksNextCardSaid : Prop := Claim7.holds Tryz.pinned (.plain (OpenSpec.ofChange toksNextSpec)) toksNextCard

/-- THE TIED CARD OF 'rectolaw05.ToksAll'. -/
def toksAllCard : Claim7 := { stood := { row := toksAllRow, standIns := [], harness := (true, "91649b534febc0057680790542f833f8034710789b005c544c53c79d8c22f977"), looks := false }, kinds := [], alts := [], laidByText := true, laidKinds := [.data, .data, .data, .data], laidTests := true, laidLooks := .later }
def ToksAllCardSaid : Prop := Claim7.holds Tryz.pinned (.plain (OpenSpec.ofChange toksAllSpec)) toksAllCard

/-- THE SECOND FORM's CARD OF 'rectolaw05.ToksNext'. -/
def toksNextUptoCard : Claim7 := { stood := { row := toksNextUptoRow, standIns := [], harness := (true, "91649b534febc0057680790542f833f8034710789b005c544c53c79d8c22f977"), looks := false }, kinds := [], alts := [], laidByText := true, laidKinds := [.data, .data, .data, .data], laidTests := true, laidLooks := .later }
def ToksNextUptoCardSaid : Prop := Claim7.holds Tryz.pinned (.plain (OpenSpec.upto toksNextSpec)) toksNextUptoCard

/-- THE SECOND FORM's CARD OF 'rectolaw05.ToksAll'. -/
def toksAllUptoCard : Claim7 := { stood := { row := toksAllUptoRow, standIns := [], harness := (true, "91649b534febc0057680790542f833f8034710789b005c544c53c79d8c22f977"), looks := false }, kinds := [], alts := [], laidByText := true, laidKinds := [.data, .data, .data, .data], laidTests := true, laidLooks := .later }
def ToksAllUptoCardSaid : Prop := Claim7.holds Tryz.pinned (.plain (OpenSpec.upto toksAllSpec)) toksAllUptoCard
end Rows
end Go.Proofs.YtakjlolmmoladaaGreatDoor
