/-
  DERIVED. GIVEN WITH THE SEED: THE CARDS: each row of YtbabmkilbbbmoaaDoorRows.lean that lists a variable, with what it lists TIED to the program's text (the seventh form; the later family's looks); each row that meets fmt, with fmt's text TOLD by the authors' own Lean function (tested against real Go, not proved from fmt's source: count such statements apart). THE CARD IS WHAT COUNTS. Prove the row's statement (the work); the ties are given (YtbabmkilbbbmoaaDoorTie.lean); close each card by the builder's one call (the guide's Derived/Test/ToyasCard.lean, 'card_holds'). Laid BY PROGRAM, IN A SANDBOX (cutbox-door.mjs). By AI agents, Wed Nov 11 2026. No macro, syntax, notation, axiom, sorry.
-/
import Derived.Test.YtbabmkilbbbmoaaDoorRows
import GoSem.ClaimSeven
namespace Go.Proofs.YtbabmkilbbbmoaaDoor
namespace Rows

/-- THE TIED CARD OF 'rectolaw20.MatchLists'. -/
def matchListsCard : Claim7 := { stood := { row := matchListsRow, standIns := [], harness := (true, "435971eae6b161fb58150f46bd7e2309e9745a3b3b28cd60461ef3d538c0ac92"), looks := false }, kinds := [], alts := [], laidByText := true, laidKinds := [.data, .data, .data], laidTests := true, laidLooks := .later }
def MatchListsCardSaid : Prop := Claim7.holds Tryd.pinned (.plain (OpenSpec.ofChange matchListsSpec)) matchListsCard

/-- THE TIED CARD OF 'rectolaw20.MatchPages'. -/
def matchPagesCard : Claim7 := { stood := { row := matchPagesRow, standIns := [], harness := (true, "435971eae6b161fb58150f46bd7e2309e9745a3b3b28cd60461ef3d538c0ac92"), looks := false }, kinds := [], alts := [], laidByText := true, laidKinds := [.data, .data, .data], laidTests := true, laidLooks := .later }
def MatchPagesCardSaid : Prop := Claim7.holds Tryd.pinned (.plain (OpenSpec.ofChange matchPagesSpec)) matchPagesCard

/-- THE TIED CARD OF 'rectolaw20.MatchRises'. -/
def matchRisesCard : Claim7 := { stood := { row := matchRisesRow, standIns := [], harness := (true, "435971eae6b161fb58150f46bd7e2309e9745a3b3b28cd60461ef3d538c0ac92"), looks := false }, kinds := [], alts := [], laidByText := true, laidKinds := [.data, .data, .data], laidTests := true, laidLooks := .later }
def MatchRisesCardSaid : Prop := Claim7.holds Tryd.pinned (.plain (OpenSpec.ofChange matchRisesSpec)) matchRisesCard

/-- THE TIED CARD OF 'rectolaw20.MatchSelf'. -/
def matchSelfCard : Claim7 := { stood := { row := matchSelfRow, standIns := [], harness := (true, "435971eae6b161fb58150f46bd7e2309e9745a3b3b28cd60461ef3d538c0ac92"), looks := false }, kinds := [], alts := [], laidByText := true, laidKinds := [.data, .data, .data], laidTests := true, laidLooks := .later }
def MatchSelfCardSaid : Prop := Claim7.holds Tryd.pinned (.plain (OpenSpec.ofChange matchSelfSpec)) matchSelfCard

/-- THE TIED CARD OF 'rectolaw25.BlendNodes'. -/
def blendNodesCard : Claim7 := { stood := { row := blendNodesRow, standIns := [], harness := (true, "435971eae6b161fb58150f46bd7e2309e9745a3b3b28cd60461ef3d538c0ac92"), looks := false }, kinds := [], alts := [], laidByText := true, laidKinds := [.data, .data, .data], laidTests := true, laidLooks := .later }
def BlendNodesCardSaid : Prop := Claim7.holds Tryd.pinned (.plain (OpenSpec.ofChange blendNodesSpec)) blendNodesCard

/-- THE SECOND FORM's CARD OF 'rectolaw20.MatchLists'. -/
def matchListsUptoCard : Claim7 := { stood := { row := matchListsUptoRow, standIns := [], harness := (true, "435971eae6b161fb58150f46bd7e2309e9745a3b3b28cd60461ef3d538c0ac92"), looks := false }, kinds := [], alts := [], laidByText := true, laidKinds := [.data, .data, .data], laidTests := true, laidLooks := .later }
def MatchListsUptoCardSaid : Prop := Claim7.holds Tryd.pinned (.plain (OpenSpec.upto matchListsSpec)) matchListsUptoCard

/-- THE SECOND FORM's CARD OF 'rectolaw20.MatchPages'. -/
def matchPagesUptoCard : Claim7 := { stood := { row := matchPagesUptoRow, standIns := [], harness := (true, "435971eae6b161fb58150f46bd7e2309e9745a3b3b28cd60461ef3d538c0ac92"), looks := false }, kinds := [], alts := [], laidByText := true, laidKinds := [.data, .data, .data], laidTests := true, laidLooks := .later }
def MatchPagesUptoCardSaid : Prop := Claim7.holds Tryd.pinned (.plain (OpenSpec.upto matchPagesSpec)) matchPagesUptoCard

/-- THE SECOND FORM's CARD OF 'rectolaw20.MatchRises'. -/
def matchRisesUptoCard : Claim7 := { stood := { row := matchRisesUptoRow, standIns := [], harness := (true, "435971eae6b161fb58150f46bd7e2309e9745a3b3b28cd60461ef3d538c0ac92"), looks := false }, kinds := [], alts := [], laidByText := true, laidKinds := [.data, .data, .data], laidTests := true, laidLooks := .later }
def MatchRisesUptoCardSaid : Prop := Claim7.holds Tryd.pinned (.plain (OpenSpec.upto matchRisesSpec)) matchRisesUptoCard

/-- THE SECOND FORM's CARD OF 'rectolaw20.MatchSelf'. -/
def matchSelfUptoCard : Claim7 := { stood := { row := matchSelfUptoRow, standIns := [], harness := (true, "435971eae6b161fb58150f46bd7e2309e9745a3b3b28cd60461ef3d538c0ac92"), looks := false }, kinds := [], alts := [], laidByText := true, laidKinds := [.data, .data, .data], laidTests := true, laidLooks := .later }
def MatchSelfUptoCardSaid : Prop := Claim7.holds Tryd.pinned (.plain (OpenSpec.upto matchSelfSpec)) matchSelfUptoCard

/-- THE SECOND FORM's CARD OF 'rectolaw25.BlendNodes'. -/
def blendNodesUptoCard : Claim7 := { stood := { row := blendNodesUptoRow, standIns := [], harness := (true, "435971eae6b161fb58150f46bd7e2309e9745a3b3b28cd60461ef3d538c0ac92"), looks := false }, kinds := [], alts := [], laidByText := true, laidKinds := [.data, .data, .data], laidTests := true, laidLooks := .later }
def BlendNodesUptoCardSaid : Prop := Claim7.holds Tryd.pinned (.plain (OpenSpec.upto blendNodesSpec)) blendNodesUptoCard
end Rows
end Go.Proofs.YtbabmkilbbbmoaaDoor
