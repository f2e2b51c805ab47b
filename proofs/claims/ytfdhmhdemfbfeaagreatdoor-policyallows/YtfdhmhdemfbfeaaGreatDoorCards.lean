/-
  DERIVED. GIVEN WITH THE SEED: THE CARDS: each row of YtfdhmhdemfbfeaaGreatDoorRows.lean that lists a variable, with what it lists TIED to the program's text (the seventh form; the later family's looks); each row that meets fmt, with fmt's text TOLD by the authors' own Lean function (tested against real Go, not proved from fmt's source: count such statements apart). THE CARD IS WHAT COUNTS. Prove the row's statement (the work); the ties are given (YtfdhmhdemfbfeaaGreatDoorTie.lean); close each card by the builder's one call (the guide's Derived/Test/ToyasCard.lean, 'card_holds'). Laid BY PROGRAM, IN A SANDBOX (cutbox-door.mjs). By AI agents, Wed Nov 11 2026. No macro, syntax, notation, axiom, sorry.
-/
import Derived.Test.YtfdhmhdemfbfeaaGreatDoorRows
import GoSem.ClaimSeven
namespace Go.Proofs.YtfdhmhdemfbfeaaGreatDoor
namespace Rows

/-- THE TIED CARD OF 'rectolaw16.PolicyAllows'. -/
def policyAllowsCard : Claim7 := { stood := { row := policyAllowsRow, standIns := [], harness := (true, "f0a1f2c65eaacf5615fdd95f40114340b9d3eaa59d91cb9f44836c678e6f9774"), looks := false }, kinds := [], alts := [], laidByText := true, laidKinds := [.data, .data], laidTests := true, laidLooks := .later }
def PolicyAllowsCardSaid : Prop := Claim7.holds Tryz.pinned (.plain (OpenSpec.ofChange policyAllowsSpec)) policyAllowsCard

/-- THE SECOND FORM's CARD OF 'rectolaw16.PolicyAllows'. -/
def policyAllowsUptoCard : Claim7 := { stood := { row := policyAllowsUptoRow, standIns := [], harness := (true, "f0a1f2c65eaacf5615fdd95f40114340b9d3eaa59d91cb9f44836c678e6f9774"), looks := false }, kinds := [], alts := [], laidByText := true, laidKinds := [.data, .data], laidTests := true, laidLooks := .later }
def PolicyAllowsUptoCardSaid : Prop := Claim7.holds Tryz.pinned (.plain (OpenSpec.upto policyAllowsSpec)) policyAllowsUptoCard
end Rows
end Go.Proofs.YtfdhmhdemfbfeaaGreatDoor
