/-
  No cell of these rows narrows 'for every input' (looked for: loops, veiled, ifaces, maps, wideKeys, modest, calm, conditions, laid).
  DERIVED. THE GIVEN ROWS OF THIS SEAT. 4 by the template 'for every input the law returns true; each argument reads behind the call as it read before'; 0 by the template 'total and deterministic' (their statements: YtbaoomkdlbjhlaaTotals.lean).
  GIVEN WITH THE SEED: the statements are not yours to turn. If you find one false, say at which input.
  Laid BY PROGRAM, IN A SANDBOX (cutbox-rows.mjs): the forced cells as the released guide's own fill.sh prints them over the translation 4bc67cbb3793830f… (all of the seat's roots in one cut). By AI agents, Wed Nov 11 2026. No macro, syntax, notation, axiom, sorry.
-/
import Derived.Test.YtbaoomkdlbjhlaaChecked
import GoSem.Claim
import GoSem.ClaimJoined
import GoSem.ClaimMapViews
import Derived.JoinedTies
import Derived.KernelRfl
namespace Go.Proofs.Ytbaoomkdlbjhlaa
/- THE CELL 'sum', in the pinned program and in every row, IS THE sha256 OF THE DUMP (.gsa) THAT YtbaoomkdlbjhlaaProg.lean LOADS. Nothing in Lean hashes anything: it is a label: what it is worth is what the hold of that sum in a sandbox is worth. -/
noncomputable def Try.pinned : Pinned := { name := "ytbaoomkdlbjhlaa", sum := "4bc67cbb3793830f4e52515da57b11fd82de04b82f816dd76f3791600b065337", checked := Try.checked }
namespace Rows
def none {H : Type} : Left H := { results := [], args := [] }

/-- 'rectolaw25.BlendTexts': WHATEVER THE INPUT: true; the input reads as it did. -/
def blendTextsSpec : ChangeSpec := { name := "blendTexts", fn := fun _ => fun
  | [d1, d2, d3] => { results := [.lit (.bool true)], args := [d1, d2, d3] }
  | _ => none }
def blendTextsRow : OpenClaim := { program := "ytbaoomkdlbjhlaa", sum := "4bc67cbb3793830f4e52515da57b11fd82de04b82f816dd76f3791600b065337", func := "recto/rectolaw25.BlendTexts", spec := "blendTexts", unfollowed := true, recurses := true, apart := false }
def BlendTextsSaid : Prop := blendTextsRow.holds Try.pinned (OpenSpec.ofChange blendTextsSpec)

/-- ITS FALSE NEIGHBOUR: 'it returns false'. Refute it at one input. -/
def blendTextsWrong : ChangeSpec := { name := "blendTexts", fn := fun _ => fun
  | [d1, d2, d3] => { results := [.lit (.bool false)], args := [d1, d2, d3] }
  | _ => none }
def BlendTextsWrongFalsely : Prop := blendTextsRow.holds Try.pinned (OpenSpec.ofChange blendTextsWrong)

/-- 'rectolaw25.BlendGoes': WHATEVER THE INPUT: true; the input reads as it did. -/
def blendGoesSpec : ChangeSpec := { name := "blendGoes", fn := fun _ => fun
  | [d1, d2, d3] => { results := [.lit (.bool true)], args := [d1, d2, d3] }
  | _ => none }
def blendGoesRow : OpenClaim := { program := "ytbaoomkdlbjhlaa", sum := "4bc67cbb3793830f4e52515da57b11fd82de04b82f816dd76f3791600b065337", func := "recto/rectolaw25.BlendGoes", spec := "blendGoes", unfollowed := true, recurses := true, apart := false }
def BlendGoesSaid : Prop := blendGoesRow.holds Try.pinned (OpenSpec.ofChange blendGoesSpec)

/-- ITS FALSE NEIGHBOUR: 'it returns false'. Refute it at one input. -/
def blendGoesWrong : ChangeSpec := { name := "blendGoes", fn := fun _ => fun
  | [d1, d2, d3] => { results := [.lit (.bool false)], args := [d1, d2, d3] }
  | _ => none }
def BlendGoesWrongFalsely : Prop := blendGoesRow.holds Try.pinned (OpenSpec.ofChange blendGoesWrong)

/-- 'rectolaw25.BlendOne': WHATEVER THE INPUT: true; the input reads as it did. -/
def blendOneSpec : ChangeSpec := { name := "blendOne", fn := fun _ => fun
  | [d1, d2] => { results := [.lit (.bool true)], args := [d1, d2] }
  | _ => none }
def blendOneRow : OpenClaim := { program := "ytbaoomkdlbjhlaa", sum := "4bc67cbb3793830f4e52515da57b11fd82de04b82f816dd76f3791600b065337", func := "recto/rectolaw25.BlendOne", spec := "blendOne", unfollowed := true, recurses := true, apart := false }
def BlendOneSaid : Prop := blendOneRow.holds Try.pinned (OpenSpec.ofChange blendOneSpec)

/-- ITS FALSE NEIGHBOUR: 'it returns false'. Refute it at one input. -/
def blendOneWrong : ChangeSpec := { name := "blendOne", fn := fun _ => fun
  | [d1, d2] => { results := [.lit (.bool false)], args := [d1, d2] }
  | _ => none }
def BlendOneWrongFalsely : Prop := blendOneRow.holds Try.pinned (OpenSpec.ofChange blendOneWrong)

/-- 'rectolaw25.BlendTurned': WHATEVER THE INPUT: true; the input reads as it did. -/
def blendTurnedSpec : ChangeSpec := { name := "blendTurned", fn := fun _ => fun
  | [d1, d2, d3] => { results := [.lit (.bool true)], args := [d1, d2, d3] }
  | _ => none }
def blendTurnedRow : OpenClaim := { program := "ytbaoomkdlbjhlaa", sum := "4bc67cbb3793830f4e52515da57b11fd82de04b82f816dd76f3791600b065337", func := "recto/rectolaw25.BlendTurned", spec := "blendTurned", unfollowed := true, recurses := true, apart := false }
def BlendTurnedSaid : Prop := blendTurnedRow.holds Try.pinned (OpenSpec.ofChange blendTurnedSpec)

/-- ITS FALSE NEIGHBOUR: 'it returns false'. Refute it at one input. -/
def blendTurnedWrong : ChangeSpec := { name := "blendTurned", fn := fun _ => fun
  | [d1, d2, d3] => { results := [.lit (.bool false)], args := [d1, d2, d3] }
  | _ => none }
def BlendTurnedWrongFalsely : Prop := blendTurnedRow.holds Try.pinned (OpenSpec.ofChange blendTurnedWrong)

/- THE SECOND FORM. 'bulk': how many values and letters a reading holds, each counted each time it is reached (what is shared counts as often as it is met; a slice's spare places count too). A statement '..UptoSaid' is the law's where the arguments, and the package variables that the reading takes, are together of bulk at most 1048576: NARROWER than '..Said'. Prove '..Said' where nothing that the law and all that it calls make is longer than what came in: it says more and counts as full. Else prove '..UptoSaid'. A law counts once. -/
mutual
def uptoBulk {H : Type} : DataW H → Nat
  | .lit (.string bytes) => bytes.length + 1
  | .lit _ => 1
  | .nil => 1
  | .ptr d => uptoBulk d + 1
  | .slice elems spare => uptoBulkAll elems + uptoBulkAll spare + 1
  | .agg parts => uptoBulkAll parts + 1
  | .iface _ d => uptoBulk d + 1
  | .map entries => uptoBulkEntries entries + 1
  | .held _ => 1
def uptoBulkAll {H : Type} : List (DataW H) → Nat
  | [] => 0
  | d :: r => uptoBulk d + uptoBulkAll r
def uptoBulkEntries {H : Type} : List (Lit × DataW H) → Nat
  | [] => 0
  | x :: r => uptoBulkEntry x + uptoBulkEntries r
def uptoBulkEntry {H : Type} : Lit × DataW H → Nat
  | (.string bytes, d) => bytes.length + uptoBulk d + 1
  | (_, d) => uptoBulk d + 1
 end
def uptoSmall : (H : Type) → List (DataW H) → Bool := fun _ ds => decide (uptoBulkAll ds ≤ 1048576)
def OpenSpec.upto (s : _root_.Go.ChangeSpec) : _root_.Go.OpenSpec := { _root_.Go.OpenSpec.ofChange s with cond := some uptoSmall }

/-- 'rectolaw25.BlendTexts', WHERE WHAT IT READS IS OF BULK AT MOST 1048576: true; the input reads as it did. -/
def blendTextsUptoRow : OpenClaim := { program := "ytbaoomkdlbjhlaa", sum := "4bc67cbb3793830f4e52515da57b11fd82de04b82f816dd76f3791600b065337", func := "recto/rectolaw25.BlendTexts", spec := "blendTexts", unfollowed := true, recurses := true, apart := false, narrowed := true }
def BlendTextsUptoSaid : Prop := blendTextsUptoRow.holds Try.pinned (OpenSpec.upto blendTextsSpec)

/-- 'rectolaw25.BlendGoes', WHERE WHAT IT READS IS OF BULK AT MOST 1048576: true; the input reads as it did. -/
def blendGoesUptoRow : OpenClaim := { program := "ytbaoomkdlbjhlaa", sum := "4bc67cbb3793830f4e52515da57b11fd82de04b82f816dd76f3791600b065337", func := "recto/rectolaw25.BlendGoes", spec := "blendGoes", unfollowed := true, recurses := true, apart := false, narrowed := true }
def BlendGoesUptoSaid : Prop := blendGoesUptoRow.holds Try.pinned (OpenSpec.upto blendGoesSpec)

/-- 'rectolaw25.BlendOne', WHERE WHAT IT READS IS OF BULK AT MOST 1048576: true; the input reads as it did. -/
def blendOneUptoRow : OpenClaim := { program := "ytbaoomkdlbjhlaa", sum := "4bc67cbb3793830f4e52515da57b11fd82de04b82f816dd76f3791600b065337", func := "recto/rectolaw25.BlendOne", spec := "blendOne", unfollowed := true, recurses := true, apart := false, narrowed := true }
def BlendOneUptoSaid : Prop := blendOneUptoRow.holds Try.pinned (OpenSpec.upto blendOneSpec)

/-- 'rectolaw25.BlendTurned', WHERE WHAT IT READS IS OF BULK AT MOST 1048576: true; the input reads as it did. -/
def blendTurnedUptoRow : OpenClaim := { program := "ytbaoomkdlbjhlaa", sum := "4bc67cbb3793830f4e52515da57b11fd82de04b82f816dd76f3791600b065337", func := "recto/rectolaw25.BlendTurned", spec := "blendTurned", unfollowed := true, recurses := true, apart := false, narrowed := true }
def BlendTurnedUptoSaid : Prop := blendTurnedUptoRow.holds Try.pinned (OpenSpec.upto blendTurnedSpec)

end Rows
end Go.Proofs.Ytbaoomkdlbjhlaa
