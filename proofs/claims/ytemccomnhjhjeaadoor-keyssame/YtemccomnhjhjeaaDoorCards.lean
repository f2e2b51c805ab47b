/-
  DERIVED. GIVEN WITH THE SEED: THE CARDS: each row of YtemccomnhjhjeaaDoorRows.lean that lists a variable, with what it lists TIED to the program's text (the seventh form; the later family's looks); each row that meets fmt, with fmt's text TOLD by the authors' own Lean function (tested against real Go, not proved from fmt's source: count such statements apart). THE CARD IS WHAT COUNTS. Prove the row's statement (the work); the ties are given (YtemccomnhjhjeaaDoorTie.lean); close each card by the builder's one call (the guide's Derived/Test/ToyasCard.lean, 'card_holds'). Laid BY PROGRAM, IN A SANDBOX (cutbox-door.mjs). By AI agents, Wed Nov 11 2026. No macro, syntax, notation, axiom, sorry.
-/
import Derived.Test.YtemccomnhjhjeaaDoorRows
import GoSem.ClaimSeven
namespace Go.Proofs.YtemccomnhjhjeaaDoor
namespace Rows

/-- THE TIED CARD OF 'rectolaw19.KeysItems'. -/
def keysItemsCard : Claim7 := { stood := { row := keysItemsRow, standIns := [], harness := (true, "45a43a3fd4162ac6376144088bac4c7077e52e704a070cf0d80bc4c7c289059b"), looks := false }, kinds := [], alts := [], laidByText := true, laidKinds := [.data, .data, .data], laidTests := true, laidLooks := .later }
def KeysItemsCardSaid : Prop := Claim7.holds Tryd.pinned (.plain (OpenSpec.ofChange keysItemsSpec)) keysItemsCard

/-- THE TIED CARD OF 'rectolaw19.KeysWays'. -/
def keysWaysCard : Claim7 := { stood := { row := keysWaysRow, standIns := [], harness := (true, "45a43a3fd4162ac6376144088bac4c7077e52e704a070cf0d80bc4c7c289059b"), looks := false }, kinds := [], alts := [], laidByText := true, laidKinds := [.data, .data, .data], laidTests := true, laidLooks := .later }
def KeysWaysCardSaid : Prop := Claim7.holds Tryd.pinned (.plain (OpenSpec.ofChange keysWaysSpec)) keysWaysCard

/-- THE TIED CARD OF 'rectolaw19.KeysTurns'. -/
def keysTurnsCard : Claim7 := { stood := { row := keysTurnsRow, standIns := [], harness := (true, "45a43a3fd4162ac6376144088bac4c7077e52e704a070cf0d80bc4c7c289059b"), looks := false }, kinds := [], alts := [], laidByText := true, laidKinds := [.data, .data, .data], laidTests := true, laidLooks := .later }
def KeysTurnsCardSaid : Prop := Claim7.holds Tryd.pinned (.plain (OpenSpec.ofChange keysTurnsSpec)) keysTurnsCard

/-- THE TIED CARD OF 'rectolaw19.KeysBack'. -/
def keysBackCard : Claim7 := { stood := { row := keysBackRow, standIns := [], harness := (true, "45a43a3fd4162ac6376144088bac4c7077e52e704a070cf0d80bc4c7c289059b"), looks := false }, kinds := [], alts := [], laidByText := true, laidKinds := [.data, .data, .data], laidTests := true, laidLooks := .later }
def KeysBackCardSaid : Prop := Claim7.holds Tryd.pinned (.plain (OpenSpec.ofChange keysBackSpec)) keysBackCard

/-- THE TIED CARD OF 'rectolaw19.KeysSame'. -/
def keysSameCard : Claim7 := { stood := { row := keysSameRow, standIns := [], harness := (true, "45a43a3fd4162ac6376144088bac4c7077e52e704a070cf0d80bc4c7c289059b"), looks := false }, kinds := [], alts := [], laidByText := true, laidKinds := [.data, .data, .data], laidTests := true, laidLooks := .later }
def KeysSameCardSaid : Prop := Claim7.holds Tryd.pinned (.plain (OpenSpec.ofChange keysSameSpec)) keysSameCard

/-- THE SECOND FORM's CARD OF 'rectolaw19.KeysItems'. -/
def keysItemsUptoCard : Claim7 := { stood := { row := keysItemsUptoRow, standIns := [], harness := (true, "45a43a3fd4162ac6376144088bac4c7077e52e704a070cf0d80bc4c7c289059b"), looks := false }, kinds := [], alts := [], laidByText := true, laidKinds := [.data, .data, .data], laidTests := true, laidLooks := .later }
def KeysItemsUptoCardSaid : Prop := Claim7.holds Tryd.pinned (.plain (OpenSpec.upto keysItemsSpec)) keysItemsUptoCard

/-- THE SECOND FORM's CARD OF 'rectolaw19.KeysWays'. -/
def keysWaysUptoCard : Claim7 := { stood := { row := keysWaysUptoRow, standIns := [], harness := (true, "45a43a3fd4162ac6376144088bac4c7077e52e704a070cf0d80bc4c7c289059b"), looks := false }, kinds := [], alts := [], laidByText := true, laidKinds := [.data, .data, .data], laidTests := true, laidLooks := .later }
def KeysWaysUptoCardSaid : Prop := Claim7.holds Tryd.pinned (.plain (OpenSpec.upto keysWaysSpec)) keysWaysUptoCard

/-- THE SECOND FORM's CARD OF 'rectolaw19.KeysTurns'. -/
def keysTurnsUptoCard : Claim7 := { stood := { row := keysTurnsUptoRow, standIns := [], harness := (true, "45a43a3fd4162ac6376144088bac4c7077e52e704a070cf0d80bc4c7c289059b"), looks := false }, kinds := [], alts := [], laidByText := true, laidKinds := [.data, .data, .data], laidTests := true, laidLooks := .later }
def KeysTurnsUptoCardSaid : Prop := Claim7.holds Tryd.pinned (.plain (OpenSpec.upto keysTurnsSpec)) keysTurnsUptoCard

/-- THE SECOND FORM's CARD OF 'rectolaw19.KeysBack'. -/
def keysBackUptoCard : Claim7 := { stood := { row := keysBackUptoRow, standIns := [], harness := (true, "45a43a3fd4162ac6376144088bac4c7077e52e704a070cf0d80bc4c7c289059b"), looks := false }, kinds := [], alts := [], laidByText := true, laidKinds := [.data, .data, .data], laidTests := true, laidLooks := .later }
def KeysBackUptoCardSaid : Prop := Claim7.holds Tryd.pinned (.plain (OpenSpec.upto keysBackSpec)) keysBackUptoCard

/-- THE SECOND FORM's CARD OF 'rectolaw19.KeysSame'. -/
def keysSameUptoCard : Claim7 := { stood := { row := keysSameUptoRow, standIns := [], harness := (true, "45a43a3fd4162ac6376144088bac4c7077e52e704a070cf0d80bc4c7c289059b"), looks := false }, kinds := [], alts := [], laidByText := true, laidKinds := [.data, .data, .data], laidTests := true, laidLooks := .later }
def KeysSameUptoCardSaid : Prop := Claim7.holds Tryd.pinned (.plain (OpenSpec.upto keysSameSpec)) keysSameUptoCard
end Rows
end Go.Proofs.YtemccomnhjhjeaaDoor
