/-
  DERIVED. GIVEN WITH THE SEED: THE CARDS: each row of YtmiehnknnkcdlaaDoorRows.lean that lists a variable, with what it lists TIED to the program's text (the seventh form; the later family's looks); each row that meets fmt, with fmt's text TOLD by the authors' own Lean function (tested against real Go, not proved from fmt's source: count such statements apart). THE CARD IS WHAT COUNTS. Prove the row's statement (the work); the ties are given (YtmiehnknnkcdlaaDoorTie.lean); close each card by the builder's one call (the guide's Derived/Test/ToyasCard.lean, 'card_holds'). Laid BY PROGRAM, IN A SANDBOX (cutbox-door.mjs). By AI agents, Wed Nov 11 2026. No macro, syntax, notation, axiom, sorry.
-/
import Derived.Test.YtmiehnknnkcdlaaDoorRows
import GoSem.ClaimSeven
namespace Go.Proofs.YtmiehnknnkcdlaaDoor
namespace Rows

/-- THE TIED CARD OF 'rectolaw04.RefsAt'. -/
def refsAtCard : Claim7 := { stood := { row := refsAtRow, standIns := [], harness := (true, "38cc54f259a429da545740e2925bd7e7068be9b5dd906772f09eb239ac331e42"), looks := false }, kinds := [], alts := [], laidByText := true, laidKinds := [.data, .data, .data, .data], laidTests := true, laidLooks := .later }
def RefsAtCardSaid : Prop := Claim7.holds Tryd.pinned (.plain (OpenSpec.ofChange refsAtSpec)) refsAtCard

/-- THE TIED CARD OF 'rectolaw04.RefsAll'. -/
def refsAllCard : Claim7 := { stood := { row := refsAllRow, standIns := [], harness := (true, "38cc54f259a429da545740e2925bd7e7068be9b5dd906772f09eb239ac331e42"), looks := false }, kinds := [], alts := [], laidByText := true, laidKinds := [.data, .data, .data, .data], laidTests := true, laidLooks := .later }
def RefsAllCardSaid : Prop := Claim7.holds Tryd.pinned (.plain (OpenSpec.ofChange refsAllSpec)) refsAllCard

/-- THE TIED CARD OF 'rectolaw04.RefsNames'. -/
def refsNamesCard : Claim7 := { stood := { row := refsNamesRow, standIns := [], harness := (true, "38cc54f259a429da545740e2925bd7e7068be9b5dd906772f09eb239ac331e42"), looks := false }, kinds := [], alts := [], laidByText := true, laidKinds := [.data, .data, .data, .data], laidTests := true, laidLooks := .later }
def RefsNamesCardSaid : Prop := Claim7.holds Tryd.pinned (.plain (OpenSpec.ofChange refsNamesSpec)) refsNamesCard

/-- THE TIED CARD OF 'rectolaw04.RefsEscapes'. -/
def refsEscapesCard : Claim7 := { stood := { row := refsEscapesRow, standIns := [], harness := (true, "38cc54f259a429da545740e2925bd7e7068be9b5dd906772f09eb239ac331e42"), looks := false }, kinds := [], alts := [], laidByText := true, laidKinds := [.data, .data, .data, .data], laidTests := true, laidLooks := .later }
def RefsEscapesCardSaid : Prop := Claim7.holds Tryd.pinned (.plain (OpenSpec.ofChange refsEscapesSpec)) refsEscapesCard

/-- THE TIED CARD OF 'rectolaw04.RefsBack'. -/
def refsBackCard : Claim7 := { stood := { row := refsBackRow, standIns := [], harness := (true, "38cc54f259a429da545740e2925bd7e7068be9b5dd906772f09eb239ac331e42"), looks := false }, kinds := [], alts := [], laidByText := true, laidKinds := [.data, .data, .data, .data], laidTests := true, laidLooks := .later }
def RefsBackCardSaid : Prop := Claim7.holds Tryd.pinned (.plain (OpenSpec.ofChange refsBackSpec)) refsBackCard

/-- THE TIED CARD OF 'rectolaw04.RefsPlain'. -/
def refsPlainCard : Claim7 := { stood := { row := refsPlainRow, standIns := [], harness := (true, "38cc54f259a429da545740e2925bd7e7068be9b5dd906772f09eb239ac331e42"), looks := false }, kinds := [], alts := [], laidByText := true, laidKinds := [.data, .data, .data, .data], laidTests := true, laidLooks := .later }
def RefsPlainCardSaid : Prop := Claim7.holds Tryd.pinned (.plain (OpenSpec.ofChange refsPlainSpec)) refsPlainCard

/-- THE SECOND FORM's CARD OF 'rectolaw04.RefsAt'. -/
def refsAtUptoCard : Claim7 := { stood := { row := refsAtUptoRow, standIns := [], harness := (true, "38cc54f259a429da545740e2925bd7e7068be9b5dd906772f09eb239ac331e42"), looks := false }, kinds := [], alts := [], laidByText := true, laidKinds := [.data, .data, .data, .data], laidTests := true, laidLooks := .later }
def RefsAtUptoCardSaid : Prop := Claim7.holds Tryd.pinned (.plain (OpenSpec.upto refsAtSpec)) refsAtUptoCard

/-- THE SECOND FORM's CARD OF 'rectolaw04.RefsAll'. -/
def refsAllUptoCard : Claim7 := { stood := { row := refsAllUptoRow, standIns := [], harness := (true, "38cc54f259a429da545740e2925bd7e7068be9b5dd906772f09eb239ac331e42"), looks := false }, kinds := [], alts := [], laidByText := true, laidKinds := [.data, .data, .data, .data], laidTests := true, laidLooks := .later }
def RefsAllUptoCardSaid : Prop := Claim7.holds Tryd.pinned (.plain (OpenSpec.upto refsAllSpec)) refsAllUptoCard

/-- THE SECOND FORM's CARD OF 'rectolaw04.RefsNames'. -/
def refsNamesUptoCard : Claim7 := { stood := { row := refsNamesUptoRow, standIns := [], harness := (true, "38cc54f259a429da545740e2925bd7e7068be9b5dd906772f09eb239ac331e42"), looks := false }, kinds := [], alts := [], laidByText := true, laidKinds := [.data, .data, .data, .data], laidTests := true, laidLooks := .later }
def RefsNamesUptoCardSaid : Prop := Claim7.holds Tryd.pinned (.plain (OpenSpec.upto refsNamesSpec)) refsNamesUptoCard

/-- THE SECOND FORM's CARD OF 'rectolaw04.RefsEscapes'. -/
def refsEscapesUptoCard : Claim7 := { stood := { row := refsEscapesUptoRow, standIns := [], harness := (true, "38cc54f259a429da545740e2925bd7e7068be9b5dd906772f09eb239ac331e42"), looks := false }, kinds := [], alts := [], laidByText := true, laidKinds := [.data, .data, .data, .data], laidTests := true, laidLooks := .later }
def RefsEscapesUptoCardSaid : Prop := Claim7.holds Tryd.pinned (.plain (OpenSpec.upto refsEscapesSpec)) refsEscapesUptoCard

/-- THE SECOND FORM's CARD OF 'rectolaw04.RefsBack'. -/
def refsBackUptoCard : Claim7 := { stood := { row := refsBackUptoRow, standIns := [], harness := (true, "38cc54f259a429da545740e2925bd7e7068be9b5dd906772f09eb239ac331e42"), looks := false }, kinds := [], alts := [], laidByText := true, laidKinds := [.data, .data, .data, .data], laidTests := true, laidLooks := .later }
def RefsBackUptoCardSaid : Prop := Claim7.holds Tryd.pinned (.plain (OpenSpec.upto refsBackSpec)) refsBackUptoCard

/-- THE SECOND FORM's CARD OF 'rectolaw04.RefsPlain'. -/
def refsPlainUptoCard : Claim7 := { stood := { row := refsPlainUptoRow, standIns := [], harness := (true, "38cc54f259a429da545740e2925bd7e7068be9b5dd906772f09eb239ac331e42"), looks := false }, kinds := [], alts := [], laidByText := true, laidKinds := [.data, .data, .data, .data], laidTests := true, laidLooks := .later }
def RefsPlainUptoCardSaid : Prop := Claim7.holds Tryd.pinned (.plain (OpenSpec.upto refsPlainSpec)) refsPlainUptoCard
end Rows
end Go.Proofs.YtmiehnknnkcdlaaDoor
