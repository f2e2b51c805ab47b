/-
  DERIVED. GIVEN WITH THE SEED: THE CARDS: each row of YtekkgmgdihlefabDoorRows.lean that lists a variable, with what it lists TIED to the program's text (the seventh form; the later family's looks); each row that meets fmt, with fmt's text TOLD by the authors' own Lean function (tested against real Go, not proved from fmt's source: count such statements apart). THE CARD IS WHAT COUNTS. Prove the row's statement (the work); the ties are given (YtekkgmgdihlefabDoorTie.lean); close each card by the builder's one call (the guide's Derived/Test/ToyasCard.lean, 'card_holds'). Laid BY PROGRAM, IN A SANDBOX (cutbox-door.mjs). By AI agents, Wed Nov 11 2026. No macro, syntax, notation, axiom, sorry.
-/
import Derived.Test.YtekkgmgdihlefabDoorRows
import GoSem.ClaimSeven
namespace Go.Proofs.YtekkgmgdihlefabDoor
namespace Rows

/-- THE TIED CARD OF 'rectolaw02.UtfBytes'. -/
def utfBytesCard : Claim7 := { stood := { row := utfBytesRow, standIns := [], harness := (true, "4504f1a313167d1f1a31d362da610283fb58abda548c1dc810bfce4f2fd426ea"), looks := false }, kinds := [], alts := [], laidByText := true, laidKinds := [.data, .data], laidTests := true, laidLooks := .later }
def UtfBytesCardSaid : Prop := Claim7.holds Tryd.pinned (.plain (OpenSpec.ofChange utfBytesSpec)) utfBytesCard

/-- THE TIED CARD OF 'rectolaw02.UtfFirsts'. -/
def utfFirstsCard : Claim7 := { stood := { row := utfFirstsRow, standIns := [], harness := (true, "4504f1a313167d1f1a31d362da610283fb58abda548c1dc810bfce4f2fd426ea"), looks := false }, kinds := [], alts := [], laidByText := true, laidKinds := [.data, .data], laidTests := true, laidLooks := .later }
def UtfFirstsCardSaid : Prop := Claim7.holds Tryd.pinned (.plain (OpenSpec.ofChange utfFirstsSpec)) utfFirstsCard

/-- THE TIED CARD OF 'rectolaw02.UtfCleans'. -/
def utfCleansCard : Claim7 := { stood := { row := utfCleansRow, standIns := [], harness := (true, "4504f1a313167d1f1a31d362da610283fb58abda548c1dc810bfce4f2fd426ea"), looks := false }, kinds := [], alts := [], laidByText := true, laidKinds := [.data, .data], laidTests := true, laidLooks := .later }
def UtfCleansCardSaid : Prop := Claim7.holds Tryd.pinned (.plain (OpenSpec.ofChange utfCleansSpec)) utfCleansCard

/-- THE TIED CARD OF 'rectolaw02.UtfBack'. -/
def utfBackCard : Claim7 := { stood := { row := utfBackRow, standIns := [], harness := (true, "4504f1a313167d1f1a31d362da610283fb58abda548c1dc810bfce4f2fd426ea"), looks := false }, kinds := [], alts := [], laidByText := true, laidKinds := [.data, .data], laidTests := true, laidLooks := .later }
def UtfBackCardSaid : Prop := Claim7.holds Tryd.pinned (.plain (OpenSpec.ofChange utfBackSpec)) utfBackCard

/-- THE TIED CARD OF 'rectolaw02.UtfStays'. -/
def utfStaysCard : Claim7 := { stood := { row := utfStaysRow, standIns := [], harness := (true, "4504f1a313167d1f1a31d362da610283fb58abda548c1dc810bfce4f2fd426ea"), looks := false }, kinds := [], alts := [], laidByText := true, laidKinds := [.data, .data], laidTests := true, laidLooks := .later }
def UtfStaysCardSaid : Prop := Claim7.holds Tryd.pinned (.plain (OpenSpec.ofChange utfStaysSpec)) utfStaysCard

/-- THE SECOND FORM's CARD OF 'rectolaw02.UtfBytes'. -/
def utfBytesUptoCard : Claim7 := { stood := { row := utfBytesUptoRow, standIns := [], harness := (true, "4504f1a313167d1f1a31d362da610283fb58abda548c1dc810bfce4f2fd426ea"), looks := false }, kinds := [], alts := [], laidByText := true, laidKinds := [.data, .data], laidTests := true, laidLooks := .later }
def UtfBytesUptoCardSaid : Prop := Claim7.holds Tryd.pinned (.plain (OpenSpec.upto utfBytesSpec)) utfBytesUptoCard

/-- THE SECOND FORM's CARD OF 'rectolaw02.UtfFirsts'. -/
def utfFirstsUptoCard : Claim7 := { stood := { row := utfFirstsUptoRow, standIns := [], harness := (true, "4504f1a313167d1f1a31d362da610283fb58abda548c1dc810bfce4f2fd426ea"), looks := false }, kinds := [], alts := [], laidByText := true, laidKinds := [.data, .data], laidTests := true, laidLooks := .later }
def UtfFirstsUptoCardSaid : Prop := Claim7.holds Tryd.pinned (.plain (OpenSpec.upto utfFirstsSpec)) utfFirstsUptoCard

/-- THE SECOND FORM's CARD OF 'rectolaw02.UtfCleans'. -/
def utfCleansUptoCard : Claim7 := { stood := { row := utfCleansUptoRow, standIns := [], harness := (true, "4504f1a313167d1f1a31d362da610283fb58abda548c1dc810bfce4f2fd426ea"), looks := false }, kinds := [], alts := [], laidByText := true, laidKinds := [.data, .data], laidTests := true, laidLooks := .later }
def UtfCleansUptoCardSaid : Prop := Claim7.holds Tryd.pinned (.plain (OpenSpec.upto utfCleansSpec)) utfCleansUptoCard

/-- THE SECOND FORM's CARD OF 'rectolaw02.UtfBack'. -/
def utfBackUptoCard : Claim7 := { stood := { row := utfBackUptoRow, standIns := [], harness := (true, "4504f1a313167d1f1a31d362da610283fb58abda548c1dc810bfce4f2fd426ea"), looks := false }, kinds := [], alts := [], laidByText := true, laidKinds := [.data, .data], laidTests := true, laidLooks := .later }
def UtfBackUptoCardSaid : Prop := Claim7.holds Tryd.pinned (.plain (OpenSpec.upto utfBackSpec)) utfBackUptoCard

/-- THE SECOND FORM's CARD OF 'rectolaw02.UtfStays'. -/
def utfStaysUptoCard : Claim7 := { stood := { row := utfStaysUptoRow, standIns := [], harness := (true, "4504f1a313167d1f1a31d362da610283fb58abda548c1dc810bfce4f2fd426ea"), looks := false }, kinds := [], alts := [], laidByText := true, laidKinds := [.data, .data], laidTests := true, laidLooks := .later }
def UtfStaysUptoCardSaid : Prop := Claim7.holds Tryd.pinned (.plain (OpenSpec.upto utfStaysSpec)) utfStaysUptoCard
end Rows
end Go.Proofs.YtekkgmgdihlefabDoor
