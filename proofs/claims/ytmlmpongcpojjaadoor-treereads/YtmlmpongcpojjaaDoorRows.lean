/-
  NARROWER THAN 'FOR EVERY INPUT', by the rows' own cells (each row's printed sentence says how): TreeChecks: loops, laid · TreeWrites: loops, laid · TreeReads: laid · TreeBack: loops, laid · TreeApart: loops, laid · TreeCopies: loops, laid.
  DERIVED. THE GIVEN ROWS OF THIS SEAT. 6 by the template 'for every input the law returns true; each argument reads behind the call as it read before'; 0 by the template 'total and deterministic' (their statements: YtmlmpongcpojjaaDoorTotals.lean).
  GIVEN WITH THE SEED: the statements are not yours to turn. If you find one false, say at which input.
  Laid BY PROGRAM, IN A SANDBOX (cutbox-rows.mjs): the forced cells as the released guide's own fill.sh prints them over the translation da5bd9c117deab3b… (all of the seat's roots in one cut). By AI agents, Wed Nov 11 2026. No macro, syntax, notation, axiom, sorry.
-/
import Derived.Test.YtmlmpongcpojjaaDoorChecked
import GoSem.Claim
import GoSem.ClaimJoined
import GoSem.ClaimMapViews
import Derived.JoinedTies
import Derived.KernelRfl
namespace Go.Proofs.YtmlmpongcpojjaaDoor
/- THE CELL 'sum', in the pinned program and in every row, IS THE sha256 OF THE DUMP (.gsa) THAT YtmlmpongcpojjaaDoorProg.lean LOADS. Nothing in Lean hashes anything: it is a label: what it is worth is what the hold of that sum in a sandbox is worth. -/
noncomputable def Tryd.pinned : Pinned := { name := "ytmlmpongcpojjaadoor", sum := "da5bd9c117deab3b1f2bfdc1e1839fce14f7c33dfb07bb936472cf65fbb2101f", checked := Tryd.checked }
namespace Rows
def none {H : Type} : Left H := { results := [], args := [] }

/- WHAT THE LISTED PACKAGE-LEVEL VARIABLES READ AS WHEN THE CALL BEGINS. Each datum BY PROGRAM (the guide's laid-datum.mjs) off the statement by which the dump's own 'gosem.cut.vars' lays the variable. In a bare row this is a premise. The card (YtmlmpongcpojjaaDoorCards.lean) ties it to the program's text. -/
def laid_recto_utf_heads {H : Type} : DataW H := .agg [.lit (.int .i64 0), .lit (.int .i64 0), .lit (.int .i64 192), .lit (.int .i64 224), .lit (.int .i64 240)]
def laid_recto_utf_ends {H : Type} : DataW H := .agg [.lit (.int .i64 0), .lit (.int .i64 128), .lit (.int .i64 2048), .lit (.int .i64 65536), .lit (.int .i64 1114112)]

/-- 'rectolaw08.TreeChecks': WHATEVER THE INPUT: true; the input reads as it did. -/
def treeChecksSpec : ChangeSpec := { name := "treeChecks", fn := fun _ => fun
  | [d] => { results := [.lit (.bool true)], args := [d] }
  | _ => none }
def treeChecksRow : OpenClaim := { program := "ytmlmpongcpojjaadoor", sum := "da5bd9c117deab3b1f2bfdc1e1839fce14f7c33dfb07bb936472cf65fbb2101f", func := "recto/rectolaw08.TreeChecks", spec := "treeChecks", inPlace := ["internal/abi.NoEscape"], unfollowed := true, recurses := true, named := ["recto/utf.heads", "recto/utf.ends"], loops := true, apart := false, laid := [("recto/utf.heads", laid_recto_utf_heads), ("recto/utf.ends", laid_recto_utf_ends)] }
def TreeChecksSaid : Prop := treeChecksRow.holds Tryd.pinned (OpenSpec.ofChange treeChecksSpec)

/-- ITS FALSE NEIGHBOUR: 'it returns false'. Refute it at one input. -/
def treeChecksWrong : ChangeSpec := { name := "treeChecks", fn := fun _ => fun
  | [d] => { results := [.lit (.bool false)], args := [d] }
  | _ => none }
def TreeChecksWrongFalsely : Prop := treeChecksRow.holds Tryd.pinned (OpenSpec.ofChange treeChecksWrong)

/-- 'rectolaw08.TreeWrites': WHATEVER THE INPUT: true; the input reads as it did. -/
def treeWritesSpec : ChangeSpec := { name := "treeWrites", fn := fun _ => fun
  | [d] => { results := [.lit (.bool true)], args := [d] }
  | _ => none }
def treeWritesRow : OpenClaim := { program := "ytmlmpongcpojjaadoor", sum := "da5bd9c117deab3b1f2bfdc1e1839fce14f7c33dfb07bb936472cf65fbb2101f", func := "recto/rectolaw08.TreeWrites", spec := "treeWrites", inPlace := ["internal/abi.NoEscape"], unfollowed := true, recurses := true, named := ["recto/utf.heads", "recto/utf.ends"], loops := true, apart := false, laid := [("recto/utf.heads", laid_recto_utf_heads), ("recto/utf.ends", laid_recto_utf_ends)] }
def TreeWritesSaid : Prop := treeWritesRow.holds Tryd.pinned (OpenSpec.ofChange treeWritesSpec)

/-- ITS FALSE NEIGHBOUR: 'it returns false'. Refute it at one input. -/
def treeWritesWrong : ChangeSpec := { name := "treeWrites", fn := fun _ => fun
  | [d] => { results := [.lit (.bool false)], args := [d] }
  | _ => none }
def TreeWritesWrongFalsely : Prop := treeWritesRow.holds Tryd.pinned (OpenSpec.ofChange treeWritesWrong)

/-- 'rectolaw08.TreeReads': WHATEVER THE INPUT: true; the input reads as it did. -/
def treeReadsSpec : ChangeSpec := { name := "treeReads", fn := fun _ => fun
  | [d] => { results := [.lit (.bool true)], args := [d] }
  | _ => none }
def treeReadsRow : OpenClaim := { program := "ytmlmpongcpojjaadoor", sum := "da5bd9c117deab3b1f2bfdc1e1839fce14f7c33dfb07bb936472cf65fbb2101f", func := "recto/rectolaw08.TreeReads", spec := "treeReads", inPlace := ["internal/abi.NoEscape"], unfollowed := true, recurses := true, named := ["recto/utf.heads", "recto/utf.ends"], apart := false, laid := [("recto/utf.heads", laid_recto_utf_heads), ("recto/utf.ends", laid_recto_utf_ends)] }
def TreeReadsSaid : Prop := treeReadsRow.holds Tryd.pinned (OpenSpec.ofChange treeReadsSpec)

/-- ITS FALSE NEIGHBOUR: 'it returns false'. Refute it at one input. -/
def treeReadsWrong : ChangeSpec := { name := "treeReads", fn := fun _ => fun
  | [d] => { results := [.lit (.bool false)], args := [d] }
  | _ => none }
def TreeReadsWrongFalsely : Prop := treeReadsRow.holds Tryd.pinned (OpenSpec.ofChange treeReadsWrong)

/-- 'rectolaw08.TreeBack': WHATEVER THE INPUT: true; the input reads as it did. -/
def treeBackSpec : ChangeSpec := { name := "treeBack", fn := fun _ => fun
  | [d1, d2] => { results := [.lit (.bool true)], args := [d1, d2] }
  | _ => none }
def treeBackRow : OpenClaim := { program := "ytmlmpongcpojjaadoor", sum := "da5bd9c117deab3b1f2bfdc1e1839fce14f7c33dfb07bb936472cf65fbb2101f", func := "recto/rectolaw08.TreeBack", spec := "treeBack", inPlace := ["internal/abi.NoEscape"], unfollowed := true, recurses := true, named := ["recto/utf.heads", "recto/utf.ends"], loops := true, apart := false, laid := [("recto/utf.heads", laid_recto_utf_heads), ("recto/utf.ends", laid_recto_utf_ends)] }
def TreeBackSaid : Prop := treeBackRow.holds Tryd.pinned (OpenSpec.ofChange treeBackSpec)

/-- ITS FALSE NEIGHBOUR: 'it returns false'. Refute it at one input. -/
def treeBackWrong : ChangeSpec := { name := "treeBack", fn := fun _ => fun
  | [d1, d2] => { results := [.lit (.bool false)], args := [d1, d2] }
  | _ => none }
def TreeBackWrongFalsely : Prop := treeBackRow.holds Tryd.pinned (OpenSpec.ofChange treeBackWrong)

/-- 'rectolaw08.TreeApart': WHATEVER THE INPUT: true; the input reads as it did. -/
def treeApartSpec : ChangeSpec := { name := "treeApart", fn := fun _ => fun
  | [d1, d2] => { results := [.lit (.bool true)], args := [d1, d2] }
  | _ => none }
def treeApartRow : OpenClaim := { program := "ytmlmpongcpojjaadoor", sum := "da5bd9c117deab3b1f2bfdc1e1839fce14f7c33dfb07bb936472cf65fbb2101f", func := "recto/rectolaw08.TreeApart", spec := "treeApart", inPlace := ["internal/abi.NoEscape"], unfollowed := true, recurses := true, named := ["recto/utf.heads", "recto/utf.ends"], loops := true, apart := false, laid := [("recto/utf.heads", laid_recto_utf_heads), ("recto/utf.ends", laid_recto_utf_ends)] }
def TreeApartSaid : Prop := treeApartRow.holds Tryd.pinned (OpenSpec.ofChange treeApartSpec)

/-- ITS FALSE NEIGHBOUR: 'it returns false'. Refute it at one input. -/
def treeApartWrong : ChangeSpec := { name := "treeApart", fn := fun _ => fun
  | [d1, d2] => { results := [.lit (.bool false)], args := [d1, d2] }
  | _ => none }
def TreeApartWrongFalsely : Prop := treeApartRow.holds Tryd.pinned (OpenSpec.ofChange treeApartWrong)

/-- 'rectolaw08.TreeCopies': WHATEVER THE INPUT: true; the input reads as it did. -/
def treeCopiesSpec : ChangeSpec := { name := "treeCopies", fn := fun _ => fun
  | [d] => { results := [.lit (.bool true)], args := [d] }
  | _ => none }
def treeCopiesRow : OpenClaim := { program := "ytmlmpongcpojjaadoor", sum := "da5bd9c117deab3b1f2bfdc1e1839fce14f7c33dfb07bb936472cf65fbb2101f", func := "recto/rectolaw08.TreeCopies", spec := "treeCopies", inPlace := ["internal/abi.NoEscape"], unfollowed := true, recurses := true, named := ["recto/utf.heads", "recto/utf.ends"], loops := true, apart := false, laid := [("recto/utf.heads", laid_recto_utf_heads), ("recto/utf.ends", laid_recto_utf_ends)] }
def TreeCopiesSaid : Prop := treeCopiesRow.holds Tryd.pinned (OpenSpec.ofChange treeCopiesSpec)

/-- ITS FALSE NEIGHBOUR: 'it returns false'. Refute it at one input. -/
def treeCopiesWrong : ChangeSpec := { name := "treeCopies", fn := fun _ => fun
  | [d] => { results := [.lit (.bool false)], args := [d] }
  | _ => none }
def TreeCopiesWrongFalsely : Prop := treeCopiesRow.holds Tryd.pinned (OpenSpec.ofChange treeCopiesWrong)

/- THE SECOND FORM. 'bulk': how many values and letters a reading holds, each counted each time it is reached (what is shared counts as often as it is met; a slice's spare places count too). A statement '..UptoSaid' is the law's where the arguments, and the package variables that the reading takes, are together of bulk at most 1048576: NARROWER than '..Said'. Prove '..Said' where nothing that the law and all that it calls make is longer than what came in: it says more and counts as full. Else prove '..UptoSaid'. A law counts once. -/
mutual
def uptoBulk {H : Type} : DataW H → Nat
  | .lit (.string bytes) => bytes.length + 1
  | .lit _ => 1
  | .nil => 1
  | .ptr d => uptoBulk d + 1
  | .slice elems spare => uptoBulkAll elems + uptoBulkAll spare + 1
  | .agg parts => uptoBulkAll parts + 1
  | .iface _ d => uptoBulk d + 1
  | .map entries => uptoBulkEntries entries + 1
  | .held _ => 1
def uptoBulkAll {H : Type} : List (DataW H) → Nat
  | [] => 0
  | d :: r => uptoBulk d + uptoBulkAll r
def uptoBulkEntries {H : Type} : List (Lit × DataW H) → Nat
  | [] => 0
  | x :: r => uptoBulkEntry x + uptoBulkEntries r
def uptoBulkEntry {H : Type} : Lit × DataW H → Nat
  | (.string bytes, d) => bytes.length + uptoBulk d + 1
  | (_, d) => uptoBulk d + 1
 end
def uptoSmall : (H : Type) → List (DataW H) → Bool := fun _ ds => decide (uptoBulkAll ds ≤ 1048576)
def OpenSpec.upto (s : _root_.Go.ChangeSpec) : _root_.Go.OpenSpec := { _root_.Go.OpenSpec.ofChange s with cond := some uptoSmall }

/-- 'rectolaw08.TreeChecks', WHERE WHAT IT READS IS OF BULK AT MOST 1048576: true; the input reads as it did. -/
def treeChecksUptoRow : OpenClaim := { program := "ytmlmpongcpojjaadoor", sum := "da5bd9c117deab3b1f2bfdc1e1839fce14f7c33dfb07bb936472cf65fbb2101f", func := "recto/rectolaw08.TreeChecks", spec := "treeChecks", inPlace := ["internal/abi.NoEscape"], unfollowed := true, recurses := true, named := ["recto/utf.heads", "recto/utf.ends"], loops := true, apart := false, laid := [("recto/utf.heads", laid_recto_utf_heads), ("recto/utf.ends", laid_recto_utf_ends)], narrowed := true }
def TreeChecksUptoSaid : Prop := treeChecksUptoRow.holds Tryd.pinned (OpenSpec.upto treeChecksSpec)

/-- 'rectolaw08.TreeWrites', WHERE WHAT IT READS IS OF BULK AT MOST 1048576: true; the input reads as it did. -/
def treeWritesUptoRow : OpenClaim := { program := "ytmlmpongcpojjaadoor", sum := "da5bd9c117deab3b1f2bfdc1e1839fce14f7c33dfb07bb936472cf65fbb2101f", func := "recto/rectolaw08.TreeWrites", spec := "treeWrites", inPlace := ["internal/abi.NoEscape"], unfollowed := true, recurses := true, named := ["recto/utf.heads", "recto/utf.ends"], loops := true, apart := false, laid := [("recto/utf.heads", laid_recto_utf_heads), ("recto/utf.ends", laid_recto_utf_ends)], narrowed := true }
def TreeWritesUptoSaid : Prop := treeWritesUptoRow.holds Tryd.pinned (OpenSpec.upto treeWritesSpec)

/-- 'rectolaw08.TreeReads', WHERE WHAT IT READS IS OF BULK AT MOST 1048576: true; the input reads as it did. -/
def treeReadsUptoRow : OpenClaim := { program := "ytmlmpongcpojjaadoor", sum := "da5bd9c117deab3b1f2bfdc1e1839fce14f7c33dfb07bb936472cf65fbb2101f", func := "recto/rectolaw08.TreeReads", spec := "treeReads", inPlace := ["internal/abi.NoEscape"], unfollowed := true, recurses := true, named := ["recto/utf.heads", "recto/utf.ends"], apart := false, laid := [("recto/utf.heads", laid_recto_utf_heads), ("recto/utf.ends", laid_recto_utf_ends)], narrowed := true }
def TreeReadsUptoSaid : Prop := treeReadsUptoRow.holds Tryd.pinned (OpenSpec.upto treeReadsSpec)

/-- 'rectolaw08.TreeBack', WHERE WHAT IT READS IS OF BULK AT MOST 1048576: true; the input reads as it did. -/
def treeBackUptoRow : OpenClaim := { program := "ytmlmpongcpojjaadoor", sum := "da5bd9c117deab3b1f2bfdc1e1839fce14f7c33dfb07bb936472cf65fbb2101f", func := "recto/rectolaw08.TreeBack", spec := "treeBack", inPlace := ["internal/abi.NoEscape"], unfollowed := true, recurses := true, named := ["recto/utf.heads", "recto/utf.ends"], loops := true, apart := false, laid := [("recto/utf.heads", laid_recto_utf_heads), ("recto/utf.ends", laid_recto_utf_ends)], narrowed := true }
def TreeBackUptoSaid : Prop := treeBackUptoRow.holds Tryd.pinned (OpenSpec.upto treeBackSpec)

/-- 'rectolaw08.TreeApart', WHERE WHAT IT READS IS OF BULK AT MOST 1048576: true; the input reads as it did. -/
def treeApartUptoRow : OpenClaim := { program := "ytmlmpongcpojjaadoor", sum := "da5bd9c117deab3b1f2bfdc1e1839fce14f7c33dfb07bb936472cf65fbb2101f", func := "recto/rectolaw08.TreeApart", spec := "treeApart", inPlace := ["internal/abi.NoEscape"], unfollowed := true, recurses := true, named := ["recto/utf.heads", "recto/utf.ends"], loops := true, apart := false, laid := [("recto/utf.heads", laid_recto_utf_heads), ("recto/utf.ends", laid_recto_utf_ends)], narrowed := true }
def TreeApartUptoSaid : Prop := treeApartUptoRow.holds Tryd.pinned (OpenSpec.upto treeApartSpec)

/-- 'rectolaw08.TreeCopies', WHERE WHAT IT READS IS OF BULK AT MOST 1048576: true; the input reads as it did. -/
def treeCopiesUptoRow : OpenClaim := { program := "ytmlmpongcpojjaadoor", sum := "da5bd9c117deab3b1f2bfdc1e1839fce14f7c33dfb07bb936472cf65fbb2101f", func := "recto/rectolaw08.TreeCopies", spec := "treeCopies", inPlace := ["internal/abi.NoEscape"], unfollowed := true, recurses := true, named := ["recto/utf.heads", "recto/utf.ends"], loops := true, apart := false, laid := [("recto/utf.heads", laid_recto_utf_heads), ("recto/utf.ends", laid_recto_utf_ends)], narrowed := true }
def TreeCopiesUptoSaid : Prop := treeCopiesUptoRow.holds Tryd.pinned (OpenSpec.upto treeCopiesSpec)

end Rows
end Go.Proofs.YtmlmpongcpojjaaDoor
