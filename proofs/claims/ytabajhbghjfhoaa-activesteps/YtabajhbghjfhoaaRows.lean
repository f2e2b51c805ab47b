/-
  No cell of these rows narrows 'for every input' (looked for: loops, veiled, ifaces, maps, wideKeys, modest, calm, conditions, laid).
  DERIVED. THE GIVEN ROWS OF THIS SEAT. 6 by the template 'for every input the law returns true; each argument reads behind the call as it read before'; 0 by the template 'total and deterministic' (their statements: YtabajhbghjfhoaaTotals.lean).
  GIVEN WITH THE SEED: the statements are not yours to turn. If you find one false, say at which input.
  Laid BY PROGRAM, IN A SANDBOX (cutbox-rows.mjs): the forced cells as the released guide's own fill.sh prints them over the translation cab0d5e39cbdb54b… (all of the seat's roots in one cut). By AI agents, Wed Nov 11 2026. No macro, syntax, notation, axiom, sorry.
-/
import Derived.Test.YtabajhbghjfhoaaChecked
import GoSem.Claim
import GoSem.ClaimJoined
import GoSem.ClaimMapViews
import Derived.JoinedTies
import Derived.KernelRfl
namespace Go.Proofs.Ytabajhbghjfhoaa
/- THE CELL 'sum', in the pinned program and in every row, IS THE sha256 OF THE DUMP (.gsa) THAT YtabajhbghjfhoaaProg.lean LOADS. Nothing in Lean hashes anything: it is a label: what it is worth is what the hold of that sum in a sandbox is worth. -/
noncomputable def Try.pinned : Pinned := { name := "ytabajhbghjfhoaa", sum := "cab0d5e39cbdb54be0fde2f87210becc675cfcad63ccca4b5359c583c40998d4", checked := Try.checked }
namespace Rows
def none {H : Type} : Left H := { results := [], args := [] }

/-- 'rectolaw09.StackSteps': WHATEVER THE INPUT: true; the input reads as it did. -/
def stackStepsSpec : ChangeSpec := { name := "stackSteps", fn := fun _ => fun
  | [d1, d2, d3] => { results := [.lit (.bool true)], args := [d1, d2, d3] }
  | _ => none }
def stackStepsRow : OpenClaim := { program := "ytabajhbghjfhoaa", sum := "cab0d5e39cbdb54be0fde2f87210becc675cfcad63ccca4b5359c583c40998d4", func := "recto/rectolaw09.StackSteps", spec := "stackSteps", inPlace := ["slices.overlaps[recto/stack.Entry]"], unfollowed := true, recurses := true, plainKeys := false, apart := false }
def StackStepsSaid : Prop := stackStepsRow.holds Try.pinned (OpenSpec.ofChange stackStepsSpec)

/-- ITS FALSE NEIGHBOUR: 'it returns false'. Refute it at one input. -/
def stackStepsWrong : ChangeSpec := { name := "stackSteps", fn := fun _ => fun
  | [d1, d2, d3] => { results := [.lit (.bool false)], args := [d1, d2, d3] }
  | _ => none }
def StackStepsWrongFalsely : Prop := stackStepsRow.holds Try.pinned (OpenSpec.ofChange stackStepsWrong)

/-- 'rectolaw10.ActiveSteps': WHATEVER THE INPUT: true; the input reads as it did. -/
def activeStepsSpec : ChangeSpec := { name := "activeSteps", fn := fun _ => fun
  | [d1, d2, d3] => { results := [.lit (.bool true)], args := [d1, d2, d3] }
  | _ => none }
def activeStepsRow : OpenClaim := { program := "ytabajhbghjfhoaa", sum := "cab0d5e39cbdb54be0fde2f87210becc675cfcad63ccca4b5359c583c40998d4", func := "recto/rectolaw10.ActiveSteps", spec := "activeSteps", inPlace := ["slices.overlaps[recto/active.Entry]"], unfollowed := true, recurses := true, plainKeys := false, apart := false }
def ActiveStepsSaid : Prop := activeStepsRow.holds Try.pinned (OpenSpec.ofChange activeStepsSpec)

/-- ITS FALSE NEIGHBOUR: 'it returns false'. Refute it at one input. -/
def activeStepsWrong : ChangeSpec := { name := "activeSteps", fn := fun _ => fun
  | [d1, d2, d3] => { results := [.lit (.bool false)], args := [d1, d2, d3] }
  | _ => none }
def ActiveStepsWrongFalsely : Prop := activeStepsRow.holds Try.pinned (OpenSpec.ofChange activeStepsWrong)

/-- 'rectolaw10.ActiveArk': WHATEVER THE INPUT: true; the input reads as it did. -/
def activeArkSpec : ChangeSpec := { name := "activeArk", fn := fun _ => fun
  | [d] => { results := [.lit (.bool true)], args := [d] }
  | _ => none }
def activeArkRow : OpenClaim := { program := "ytabajhbghjfhoaa", sum := "cab0d5e39cbdb54be0fde2f87210becc675cfcad63ccca4b5359c583c40998d4", func := "recto/rectolaw10.ActiveArk", spec := "activeArk", unfollowed := true, recurses := true, plainKeys := false, apart := false }
def ActiveArkSaid : Prop := activeArkRow.holds Try.pinned (OpenSpec.ofChange activeArkSpec)

/-- ITS FALSE NEIGHBOUR: 'it returns false'. Refute it at one input. -/
def activeArkWrong : ChangeSpec := { name := "activeArk", fn := fun _ => fun
  | [d] => { results := [.lit (.bool false)], args := [d] }
  | _ => none }
def ActiveArkWrongFalsely : Prop := activeArkRow.holds Try.pinned (OpenSpec.ofChange activeArkWrong)

/-- 'rectolaw10.ActiveCut': WHATEVER THE INPUT: true; the input reads as it did. -/
def activeCutSpec : ChangeSpec := { name := "activeCut", fn := fun _ => fun
  | [d1, d2] => { results := [.lit (.bool true)], args := [d1, d2] }
  | _ => none }
def activeCutRow : OpenClaim := { program := "ytabajhbghjfhoaa", sum := "cab0d5e39cbdb54be0fde2f87210becc675cfcad63ccca4b5359c583c40998d4", func := "recto/rectolaw10.ActiveCut", spec := "activeCut", unfollowed := true, recurses := true, plainKeys := false, apart := false }
def ActiveCutSaid : Prop := activeCutRow.holds Try.pinned (OpenSpec.ofChange activeCutSpec)

/-- ITS FALSE NEIGHBOUR: 'it returns false'. Refute it at one input. -/
def activeCutWrong : ChangeSpec := { name := "activeCut", fn := fun _ => fun
  | [d1, d2] => { results := [.lit (.bool false)], args := [d1, d2] }
  | _ => none }
def ActiveCutWrongFalsely : Prop := activeCutRow.holds Try.pinned (OpenSpec.ofChange activeCutWrong)

/-- 'rectolaw09.StackFull': WHATEVER THE INPUT: true; the input reads as it did. -/
def stackFullSpec : ChangeSpec := { name := "stackFull", fn := fun _ => fun
  | [d1, d2] => { results := [.lit (.bool true)], args := [d1, d2] }
  | _ => none }
def stackFullRow : OpenClaim := { program := "ytabajhbghjfhoaa", sum := "cab0d5e39cbdb54be0fde2f87210becc675cfcad63ccca4b5359c583c40998d4", func := "recto/rectolaw09.StackFull", spec := "stackFull", inPlace := ["slices.overlaps[recto/stack.Entry]"], unfollowed := true, recurses := true, plainKeys := false, apart := false }
def StackFullSaid : Prop := stackFullRow.holds Try.pinned (OpenSpec.ofChange stackFullSpec)

/-- ITS FALSE NEIGHBOUR: 'it returns false'. Refute it at one input. -/
def stackFullWrong : ChangeSpec := { name := "stackFull", fn := fun _ => fun
  | [d1, d2] => { results := [.lit (.bool false)], args := [d1, d2] }
  | _ => none }
def StackFullWrongFalsely : Prop := stackFullRow.holds Try.pinned (OpenSpec.ofChange stackFullWrong)

/-- 'rectolaw10.ActiveFull': WHATEVER THE INPUT: true; the input reads as it did. -/
def activeFullSpec : ChangeSpec := { name := "activeFull", fn := fun _ => fun
  | [d] => { results := [.lit (.bool true)], args := [d] }
  | _ => none }
def activeFullRow : OpenClaim := { program := "ytabajhbghjfhoaa", sum := "cab0d5e39cbdb54be0fde2f87210becc675cfcad63ccca4b5359c583c40998d4", func := "recto/rectolaw10.ActiveFull", spec := "activeFull", inPlace := ["slices.overlaps[recto/active.Entry]"], unfollowed := true, recurses := true, plainKeys := false, apart := false }
def ActiveFullSaid : Prop := activeFullRow.holds Try.pinned (OpenSpec.ofChange activeFullSpec)

/-- ITS FALSE NEIGHBOUR: 'it returns false'. Refute it at one input. -/
def activeFullWrong : ChangeSpec := { name := "activeFull", fn := fun _ => fun
  | [d] => { results := [.lit (.bool false)], args := [d] }
  | _ => none }
def ActiveFullWrongFalsely : Prop := activeFullRow.holds Try.pinned (OpenSpec.ofChange activeFullWrong)

/- THE SECOND FORM. 'bulk': how many values and letters a reading holds, each counted each time it is reached (what is shared counts as often as it is met; a slice's spare places count too). A statement '..UptoSaid' is the law's where the arguments, and the package variables that the reading takes, are together of bulk at most 1048576: NARROWER than '..Said'. Prove '..Said' where nothing that the law and all that it calls make is longer than what came in: it says more and counts as full. Else prove '..UptoSaid'. A law counts once. -/
mutual
def uptoBulk {H : Type} : DataW H → Nat
  | .lit (.string bytes) => bytes.length + 1
  | .lit _ => 1
  | .nil => 1
  | .ptr d => uptoBulk d + 1
  | .slice elems spare => uptoBulkAll elems + uptoBulkAll spare + 1
  | .agg parts => uptoBulkAll parts + 1
  | .iface _ d => uptoBulk d + 1
  | .map entries => uptoBulkEntries entries + 1
  | .held _ => 1
def uptoBulkAll {H : Type} : List (DataW H) → Nat
  | [] => 0
  | d :: r => uptoBulk d + uptoBulkAll r
def uptoBulkEntries {H : Type} : List (Lit × DataW H) → Nat
  | [] => 0
  | x :: r => uptoBulkEntry x + uptoBulkEntries r
def uptoBulkEntry {H : Type} : Lit × DataW H → Nat
  | (.string bytes, d) => bytes.length + uptoBulk d + 1
  | (_, d) => uptoBulk d + 1
 end
def uptoSmall : (H : Type) → List (DataW H) → Bool := fun _ ds => decide (uptoBulkAll ds ≤ 1048576)
def OpenSpec.upto (s : _root_.Go.ChangeSpec) : _root_.Go.OpenSpec := { _root_.Go.OpenSpec.ofChange s with cond := some uptoSmall }

/-- 'rectolaw09.StackSteps', WHERE WHAT IT READS IS OF BULK AT MOST 1048576: true; the input reads as it did. -/
def stackStepsUptoRow : OpenClaim := { program := "ytabajhbghjfhoaa", sum := "cab0d5e39cbdb54be0fde2f87210becc675cfcad63ccca4b5359c583c40998d4", func := "recto/rectolaw09.StackSteps", spec := "stackSteps", inPlace := ["slices.overlaps[recto/stack.Entry]"], unfollowed := true, recurses := true, plainKeys := false, apart := false, narrowed := true }
def StackStepsUptoSaid : Prop := stackStepsUptoRow.holds Try.pinned (OpenSpec.upto stackStepsSpec)

/-- 'rectolaw10.ActiveSteps', WHERE WHAT IT READS IS OF BULK AT MOST 1048576: true; the input reads as it did. -/
def activeStepsUptoRow : OpenClaim := { program := "ytabajhbghjfhoaa", sum := "cab0d5e39cbdb54be0fde2f87210becc675cfcad63ccca4b5359c583c40998d4", func := "recto/rectolaw10.ActiveSteps", spec := "activeSteps", inPlace := ["slices.overlaps[recto/active.Entry]"], unfollowed := true, recurses := true, plainKeys := false, apart := false, narrowed := true }
def ActiveStepsUptoSaid : Prop := activeStepsUptoRow.holds Try.pinned (OpenSpec.upto activeStepsSpec)

/-- 'rectolaw10.ActiveArk', WHERE WHAT IT READS IS OF BULK AT MOST 1048576: true; the input reads as it did. -/
def activeArkUptoRow : OpenClaim := { program := "ytabajhbghjfhoaa", sum := "cab0d5e39cbdb54be0fde2f87210becc675cfcad63ccca4b5359c583c40998d4", func := "recto/rectolaw10.ActiveArk", spec := "activeArk", unfollowed := true, recurses := true, plainKeys := false, apart := false, narrowed := true }
def ActiveArkUptoSaid : Prop := activeArkUptoRow.holds Try.pinned (OpenSpec.upto activeArkSpec)

/-- 'rectolaw10.ActiveCut', WHERE WHAT IT READS IS OF BULK AT MOST 1048576: true; the input reads as it did. -/
def activeCutUptoRow : OpenClaim := { program := "ytabajhbghjfhoaa", sum := "cab0d5e39cbdb54be0fde2f87210becc675cfcad63ccca4b5359c583c40998d4", func := "recto/rectolaw10.ActiveCut", spec := "activeCut", unfollowed := true, recurses := true, plainKeys := false, apart := false, narrowed := true }
def ActiveCutUptoSaid : Prop := activeCutUptoRow.holds Try.pinned (OpenSpec.upto activeCutSpec)

/-- 'rectolaw09.StackFull', WHERE WHAT IT READS IS OF BULK AT MOST 1048576: true; the input reads as it did. -/
def stackFullUptoRow : OpenClaim := { program := "ytabajhbghjfhoaa", sum := "cab0d5e39cbdb54be0fde2f87210becc675cfcad63ccca4b5359c583c40998d4", func := "recto/rectolaw09.StackFull", spec := "stackFull", inPlace := ["slices.overlaps[recto/stack.Entry]"], unfollowed := true, recurses := true, plainKeys := false, apart := false, narrowed := true }
def StackFullUptoSaid : Prop := stackFullUptoRow.holds Try.pinned (OpenSpec.upto stackFullSpec)

/-- 'rectolaw10.ActiveFull', WHERE WHAT IT READS IS OF BULK AT MOST 1048576: true; the input reads as it did. -/
def activeFullUptoRow : OpenClaim := { program := "ytabajhbghjfhoaa", sum := "cab0d5e39cbdb54be0fde2f87210becc675cfcad63ccca4b5359c583c40998d4", func := "recto/rectolaw10.ActiveFull", spec := "activeFull", inPlace := ["slices.overlaps[recto/active.Entry]"], unfollowed := true, recurses := true, plainKeys := false, apart := false, narrowed := true }
def ActiveFullUptoSaid : Prop := activeFullUptoRow.holds Try.pinned (OpenSpec.upto activeFullSpec)

end Rows
end Go.Proofs.Ytabajhbghjfhoaa
