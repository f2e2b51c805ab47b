/-
  DERIVED. GIVEN WITH THE SEED: THE CARDS: each row of YtfbgpodcdgmpjaaDoorRows.lean that lists a variable, with what it lists TIED to the program's text (the seventh form; the later family's looks); each row that meets fmt, with fmt's text TOLD by the authors' own Lean function (tested against real Go, not proved from fmt's source: count such statements apart). THE CARD IS WHAT COUNTS. Prove the row's statement (the work); the ties are given (YtfbgpodcdgmpjaaDoorTie.lean); close each card by the builder's one call (the guide's Derived/Test/ToyasCard.lean, 'card_holds'). Laid BY PROGRAM, IN A SANDBOX (cutbox-door.mjs). By AI agents, Wed Nov 11 2026. No macro, syntax, notation, axiom, sorry.
-/
import Derived.Test.YtfbgpodcdgmpjaaDoorRows
import GoSem.ClaimSeven
namespace Go.Proofs.YtfbgpodcdgmpjaaDoor
namespace Rows

/-- THE TIED CARD OF 'rectolaw24.WordsPages'. -/
def wordsPagesCard : Claim7 := { stood := { row := wordsPagesRow, standIns := [], harness := (true, "6a337db571401b56912612ba185dde2ebbd327aa7658106c0d3c36f5f9fe988a"), looks := false }, kinds := [], alts := [], laidByText := true, laidKinds := [.data, .data, .data, .pinned], laidTests := true, laidLooks := .later }
def WordsPagesCardSaid : Prop := Claim7.holds Tryd.pinned (.plain (OpenSpec.ofChange wordsPagesSpec)) wordsPagesCard

/-- THE SECOND FORM's CARD OF 'rectolaw24.WordsPages'. -/
def wordsPagesUptoCard : Claim7 := { stood := { row := wordsPagesUptoRow, standIns := [], harness := (true, "6a337db571401b56912612ba185dde2ebbd327aa7658106c0d3c36f5f9fe988a"), looks := false }, kinds := [], alts := [], laidByText := true, laidKinds := [.data, .data, .data, .pinned], laidTests := true, laidLooks := .later }
def WordsPagesUptoCardSaid : Prop := Claim7.holds Tryd.pinned (.plain (OpenSpec.upto wordsPagesSpec)) wordsPagesUptoCard
end Rows
end Go.Proofs.YtfbgpodcdgmpjaaDoor
