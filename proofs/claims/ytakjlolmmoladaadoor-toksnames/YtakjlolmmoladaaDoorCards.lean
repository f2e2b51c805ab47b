/-
  DERIVED. GIVEN WITH THE SEED: THE CARDS: each row of YtakjlolmmoladaaDoorRows.lean that lists a variable, with what it lists TIED to the program's text (the seventh form; the later family's looks); each row that meets fmt, with fmt's text TOLD by the authors' own Lean function (tested against real Go, not proved from fmt's source: count such statements apart). THE CARD IS WHAT COUNTS. Prove the row's statement (the work); the ties are given (YtakjlolmmoladaaDoorTie.lean); close each card by the builder's one call (the guide's Derived/Test/ToyasCard.lean, 'card_holds'). Laid BY PROGRAM, IN A SANDBOX (cutbox-door.mjs). By AI agents, Wed Nov 11 2026. No macro, syntax, notation, axiom, sorry.
-/
import Derived.Test.YtakjlolmmoladaaDoorRows
import GoSem.ClaimSeven
namespace Go.Proofs.YtakjlolmmoladaaDoor
namespace Rows

/-- THE TIED CARD OF 'rectolaw05.ToksGoes'. -/
def toksGoesCard : Claim7 := { stood := { row := toksGoesRow, standIns := [], harness := (true, "73f53c30f23f5f6cac3222f1dda7ea1b02591c4cff06e378a12ad6400b334095"), looks := false }, kinds := [], alts := [], laidByText := true, laidKinds := [.data, .data, .data, .data], laidTests := true, laidLooks := .later }
def ToksGoesCardSaid : Prop := Claim7.holds Tryd.pinned (.plain (OpenSpec.ofChange toksGoesSpec)) toksGoesCard

/-- THE TIED CARD OF 'rectolaw05.ToksNames'. -/
def toksNamesCard : Claim7 := { stood := { row := toksNamesRow, standIns := [], harness := (true, "73f53c30f23f5f6cac3222f1dda7ea1b02591c4cff06e378a12ad6400b334095"), looks := false }, kinds := [], alts := [], laidByText := true, laidKinds := [.data, .data, .data, .data], laidTests := true, laidLooks := .later }
def ToksNamesCardSaid : Prop := Claim7.holds Tryd.pinned (.plain (OpenSpec.ofChange toksNamesSpec)) toksNamesCard

/-- THE TIED CARD OF 'rectolaw05.ToksRaw'. -/
def toksRawCard : Claim7 := { stood := { row := toksRawRow, standIns := [], harness := (true, "73f53c30f23f5f6cac3222f1dda7ea1b02591c4cff06e378a12ad6400b334095"), looks := false }, kinds := [], alts := [], laidByText := true, laidKinds := [.data, .data, .data, .data], laidTests := true, laidLooks := .later }
def ToksRawCardSaid : Prop := Claim7.holds Tryd.pinned (.plain (OpenSpec.ofChange toksRawSpec)) toksRawCard

/-- THE TIED CARD OF 'rectolaw05.ToksPlain'. -/
def toksPlainCard : Claim7 := { stood := { row := toksPlainRow, standIns := [], harness := (true, "73f53c30f23f5f6cac3222f1dda7ea1b02591c4cff06e378a12ad6400b334095"), looks := false }, kinds := [], alts := [], laidByText := true, laidKinds := [.data, .data, .data, .data], laidTests := true, laidLooks := .later }
def ToksPlainCardSaid : Prop := Claim7.holds Tryd.pinned (.plain (OpenSpec.ofChange toksPlainSpec)) toksPlainCard

/-- THE SECOND FORM's CARD OF 'rectolaw05.ToksGoes'. -/
def toksGoesUptoCard : Claim7 := { stood := { row := toksGoesUptoRow, standIns := [], harness := (true, "73f53c30f23f5f6cac3222f1dda7ea1b02591c4cff06e378a12ad6400b334095"), looks := false }, kinds := [], alts := [], laidByText := true, laidKinds := [.data, .data, .data, .data], laidTests := true, laidLooks := .later }
def ToksGoesUptoCardSaid : Prop := Claim7.holds Tryd.pinned (.plain (OpenSpec.upto toksGoesSpec)) toksGoesUptoCard

/-- THE SECOND FORM's CARD OF 'rectolaw05.ToksNames'. -/
def toksNamesUptoCard : Claim7 := { stood := { row := toksNamesUptoRow, standIns := [], harness := (true, "73f53c30f23f5f6cac3222f1dda7ea1b02591c4cff06e378a12ad6400b334095"), looks := false }, kinds := [], alts := [], laidByText := true, laidKinds := [.data, .data, .data, .data], laidTests := true, laidLooks := .later }
def ToksNamesUptoCardSaid : Prop := Claim7.holds Tryd.pinned (.plain (OpenSpec.upto toksNamesSpec)) toksNamesUptoCard

/-- THE SECOND FORM's CARD OF 'rectolaw05.ToksRaw'. -/
def toksRawUptoCard : Claim7 := { stood := { row := toksRawUptoRow, standIns := [], harness := (true, "73f53c30f23f5f6cac3222f1dda7ea1b02591c4cff06e378a12ad6400b334095"), looks := false }, kinds := [], alts := [], laidByText := true, laidKinds := [.data, .data, .data, .data], laidTests := true, laidLooks := .later }
def ToksRawUptoCardSaid : Prop := Claim7.holds Tryd.pinned (.plain (OpenSpec.upto toksRawSpec)) toksRawUptoCard

/-- THE SECOND FORM's CARD OF 'rectolaw05.ToksPlain'. -/
def toksPlainUptoCard : Claim7 := { stood := { row := toksPlainUptoRow, standIns := [], harness := (true, "73f53c30f23f5f6cac3222f1dda7ea1b02591c4cff06e378a12ad6400b334095"), looks := false }, kinds := [], alts := [], laidByText := true, laidKinds := [.data, .data, .data, .data], laidTests := true, laidLooks := .later }
def ToksPlainUptoCardSaid : Prop := Claim7.holds Tryd.pinned (.plain (OpenSpec.upto toksPlainSpec)) toksPlainUptoCard
end Rows
end Go.Proofs.YtakjlolmmoladaaDoor
