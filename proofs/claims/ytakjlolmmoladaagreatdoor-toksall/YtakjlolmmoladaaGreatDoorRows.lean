/-
  NARROWER THAN 'FOR EVERY INPUT', by the rows' own cells (each row's printed sentence says how): ToksNext: laid · ToksAll: laid.
  DERIVED. THE GIVEN ROWS OF THIS SEAT. 2 by the template 'for every input the law returns true; each argument reads behind the call as it read before'; 0 by the template 'total and deterministic' (their statements: YtakjlolmmoladaaGreatDoorTotals.lean).
  GIVEN WITH THE SEED: the statements are not yours to turn. If you find one false, say at which input.
  Laid BY PROGRAM, IN A SANDBOX (cutbox-rows.mjs): the forced cells as the released guide's own fill.sh prints them over the translation 10a8406bc100945e… (all of the seat's roots in one cut). By AI agents, Wed Nov 11 2026. No macro, syntax, notation, axiom, sorry.
-/
import Derived.Test.YtakjlolmmoladaaGreatDoorChecked
import GoSem.Claim
import GoSem.ClaimJoined
import GoSem.ClaimMapViews
import Derived.JoinedTies
import Derived.KernelRfl
namespace Go.Proofs.YtakjlolmmoladaaGreatDoor
/- THE CELL 'sum', in the pinned program and in every row, IS THE sha256 OF THE DUMP (.gsa) THAT YtakjlolmmoladaaGreatDoorProg.lean LOADS. Nothing in Lean hashes anything: it is a label: what it is worth is what the hold of that sum in a sandbox is worth. -/
noncomputable def Tryz.pinned : Pinned := { name := "ytakjlolmmoladaagreatdoor", sum := "10a8406bc100945e490486c1ae69f1c2cc4c1f7c33766c990ff83718fa717bc4", checked := Tryz.checked }
namespace Rows
def none {H : Type} : Left H := { results := [], args := [] }

/- WHAT THE LISTED PACKAGE-LEVEL VARIABLES READ AS WHEN THE CALL BEGINS. Each datum BY PROGRAM (the guide's laid-datum.mjs) off the statement by which the dump's own 'gosem.cut.vars' lays the variable. In a bare row this is a premise. The card (YtakjlolmmoladaaGreatDoorCards.lean) ties it to the program's text. -/
def laid_recto_utf_heads {H : Type} : DataW H := .agg [.lit (.int .i64 0), .lit (.int .i64 0), .lit (.int .i64 192), .lit (.int .i64 224), .lit (.int .i64 240)]
def laid_recto_utf_ends {H : Type} : DataW H := .agg [.lit (.int .i64 0), .lit (.int .i64 128), .lit (.int .i64 2048), .lit (.int .i64 65536), .lit (.int .i64 1114112)]
def laid_recto_refs_names {H : Type} : DataW H := .agg [.agg [.lit (.string [97, 109, 112]), .lit (.int .i64 38), .lit (.bool true)], .agg [.lit (.string [108, 116]), .lit (.int .i64 60), .lit (.bool true)], .agg [.lit (.string [103, 116]), .lit (.int .i64 62), .lit (.bool true)], .agg [.lit (.string [113, 117, 111, 116]), .lit (.int .i64 34), .lit (.bool true)], .agg [.lit (.string [110, 98, 115, 112]), .lit (.int .i64 160), .lit (.bool true)], .agg [.lit (.string [99, 111, 112, 121]), .lit (.int .i64 169), .lit (.bool true)], .agg [.lit (.string [114, 101, 103]), .lit (.int .i64 174), .lit (.bool true)], .agg [.lit (.string [110, 111, 116]), .lit (.int .i64 172), .lit (.bool true)], .agg [.lit (.string [110, 111, 116, 105, 110]), .lit (.int .i64 8713), .lit (.bool false)], .agg [.lit (.string [116, 105, 109, 101, 115]), .lit (.int .i64 215), .lit (.bool true)], .agg [.lit (.string [112, 97, 114, 97]), .lit (.int .i64 182), .lit (.bool true)], .agg [.lit (.string [115, 101, 99, 116]), .lit (.int .i64 167), .lit (.bool true)], .agg [.lit (.string [101, 97, 99, 117, 116, 101]), .lit (.int .i64 233), .lit (.bool true)], .agg [.lit (.string [69, 97, 99, 117, 116, 101]), .lit (.int .i64 201), .lit (.bool true)], .agg [.lit (.string [97, 117, 109, 108]), .lit (.int .i64 228), .lit (.bool true)], .agg [.lit (.string [65, 117, 109, 108]), .lit (.int .i64 196), .lit (.bool true)], .agg [.lit (.string [115, 122, 108, 105, 103]), .lit (.int .i64 223), .lit (.bool true)], .agg [.lit (.string [101, 117, 114, 111]), .lit (.int .i64 8364), .lit (.bool false)], .agg [.lit (.string [104, 101, 108, 108, 105, 112]), .lit (.int .i64 8230), .lit (.bool false)], .agg [.lit (.string [109, 100, 97, 115, 104]), .lit (.int .i64 8212), .lit (.bool false)], .agg [.lit (.string [110, 100, 97, 115, 104]), .lit (.int .i64 8211), .lit (.bool false)], .agg [.lit (.string [97, 108, 112, 104, 97]), .lit (.int .i64 945), .lit (.bool false)], .agg [.lit (.string [98, 101, 116, 97]), .lit (.int .i64 946), .lit (.bool false)], .agg [.lit (.string [114, 97, 114, 114]), .lit (.int .i64 8594), .lit (.bool false)], .agg [.lit (.string [108, 97, 114, 114]), .lit (.int .i64 8592), .lit (.bool false)], .agg [.lit (.string [97, 112, 111, 115]), .lit (.int .i64 39), .lit (.bool false)], .agg [.lit (.string [121, 101, 110]), .lit (.int .i64 165), .lit (.bool true)], .agg [.lit (.string [109, 105, 99, 114, 111]), .lit (.int .i64 181), .lit (.bool true)]]
def laid_recto_refs_olds {H : Type} : DataW H := .agg [.lit (.int .i64 8364), .lit (.int .i64 0), .lit (.int .i64 8218), .lit (.int .i64 402), .lit (.int .i64 8222), .lit (.int .i64 8230), .lit (.int .i64 8224), .lit (.int .i64 8225), .lit (.int .i64 710), .lit (.int .i64 8240), .lit (.int .i64 352), .lit (.int .i64 8249), .lit (.int .i64 338), .lit (.int .i64 0), .lit (.int .i64 381), .lit (.int .i64 0), .lit (.int .i64 0), .lit (.int .i64 8216), .lit (.int .i64 8217), .lit (.int .i64 8220), .lit (.int .i64 8221), .lit (.int .i64 8226), .lit (.int .i64 8211), .lit (.int .i64 8212), .lit (.int .i64 732), .lit (.int .i64 8482), .lit (.int .i64 353), .lit (.int .i64 8250), .lit (.int .i64 339), .lit (.int .i64 0), .lit (.int .i64 382), .lit (.int .i64 376)]

/-- 'rectolaw05.ToksNext': WHATEVER THE INPUT: true; the input reads as it did. -/
def toksNextSpec : ChangeSpec := { name := "toksNext", fn := fun _ => fun
  | [d1, d2, d3] => { results := [.lit (.bool true)], args := [d1, d2, d3] }
  | _ => none }
def toksNextRow : OpenClaim := { program := "ytakjlolmmoladaagreatdoor", sum := "10a8406bc100945e490486c1ae69f1c2cc4c1f7c33766c990ff83718fa717bc4", func := "recto/rectolaw05.ToksNext", spec := "toksNext", inPlace := ["internal/bytealg.IndexByteString", "internal/bytealg.IndexString", "internal/abi.NoEscape"], unfollowed := true, recurses := true, named := ["internal/bytealg.MaxLen", "recto/utf.heads", "recto/utf.ends", "recto/refs.olds", "recto/refs.names"], apart := false, laid := [("recto/utf.heads", laid_recto_utf_heads), ("recto/utf.ends", laid_recto_utf_ends), ("recto/refs.names", laid_recto_refs_names), ("recto/refs.olds", laid_recto_refs_olds)] }
def ToksNextSaid : Prop := toksNextRow.holds Tryz.pinned (OpenSpec.ofChange toksNextSpec)

/-- ITS FALSE NEIGHBOUR: 'it returns false'. Refute it at one input. -/
def toksNextWrong : ChangeSpec := { name := "toksNext", fn := fun _ => fun
  | [d1, d2, d3] => { results := [.lit (.bool false)], args := [d1, d2, d3] }
  | _ => none }
def ToksNextWrongFalsely : Prop := toksNextRow.holds Tryz.pinned (OpenSpec.ofChange toksNextWrong)

/-- 'rectolaw05.ToksAll': WHATEVER THE INPUT: true; the input reads as it did. -/
def toksAllSpec : ChangeSpec := { name := "toksAll", fn := fun _ => fun
  | [d1, d2, d3] => { results := [.lit (.bool true)], args := [d1, d2, d3] }
  | _ => none }
def toksAllRow : OpenClaim := { program := "ytakjlolmmoladaagreatdoor", sum := "10a8406bc100945e490486c1ae69f1c2cc4c1f7c33766c990ff83718fa717bc4", func := "recto/rectolaw05.ToksAll", spec := "toksAll", inPlace := ["internal/bytealg.IndexByteString", "internal/bytealg.IndexString", "internal/abi.NoEscape"], unfollowed := true, recurses := true, named := ["internal/bytealg.MaxLen", "recto/utf.heads", "recto/utf.ends", "recto/refs.olds", "recto/refs.names"], apart := false, laid := [("recto/utf.heads", laid_recto_utf_heads), ("recto/utf.ends", laid_recto_utf_ends), ("recto/refs.names", laid_recto_refs_names), ("recto/refs.olds", laid_recto_refs_olds)] }
def ToksAllSaid : Prop := toksAllRow.holds Tryz.pinned (OpenSpec.ofChange toksAllSpec)

/-- ITS FALSE NEIGHBOUR: 'it returns false'. Refute it at one input. -/
def toksAllWrong : ChangeSpec := { name := "toksAll", fn := fun _ => fun
  | [d1, d2, d3] => { results := [.lit (.bool false)], args := [d1, d2, d3] }
  | _ => none }
def ToksAllWrongFalsely : Prop := toksAllRow.holds Tryz.pinned (OpenSpec.ofChange toksAllWrong)

/- THE SECOND FORM. 'bulk': how many values and letters a reading holds, each counted each time it is reached (what is shared counts as often as it is met; a slice's spare places count too). A statement '..UptoSaid' is the law's where the arguments, and the package variables that the reading takes, are together of bulk at most 1048576: NARROWER than '..Said'. Prove '..Said' where nothing that the law and all that it calls make is longer than what came in: it says more and counts as full. Else prove '..UptoSaid'. A law counts once. -/
mutual
def uptoBulk {H : Type} : DataW H → Nat
  | .lit (.string bytes) => bytes.length + 1
  | .lit _ => 1
  | .nil => 1
  | .ptr d => uptoBulk d + 1
  | .slice elems spare => uptoBulkAll elems + uptoBulkAll spare + 1
  | .agg parts => uptoBulkAll parts + 1
  | .iface _ d => uptoBulk d + 1
  | .map entries => uptoBulkEntries entries + 1
  | .held _ => 1
def uptoBulkAll {H : Type} : List (DataW H) → Nat
  | [] => 0
  | d :: r => uptoBulk d + uptoBulkAll r
def uptoBulkEntries {H : Type} : List (Lit × DataW H) → Nat
  | [] => 0
  | x :: r => uptoBulkEntry x + uptoBulkEntries r
def uptoBulkEntry {H : Type} : Lit × DataW H → Nat
  | (.string bytes, d) => bytes.length + uptoBulk d + 1
  | (_, d) => uptoBulk d + 1
 end
def uptoSmall : (H : Type) → List (DataW H) → Bool := fun _ ds => decide (uptoBulkAll ds ≤ 1048576)
def OpenSpec.upto (s : _root_.Go.ChangeSpec) : _root_.Go.OpenSpec := { _root_.Go.OpenSpec.ofChange s with cond := some uptoSmall }

/-- 'rectolaw05.ToksNext', WHERE WHAT IT READS IS OF BULK AT MOST 1048576: true; the input reads as it did. -/
def toksNextUptoRow : OpenClaim := { program := "ytakjlolmmoladaagreatdoor", sum := "10a8406bc100945e490486c1ae69f1c2cc4c1f7c33766c990ff83718fa717bc4", func := "recto/rectolaw05.ToksNext", spec := "toksNext", inPlace := ["internal/bytealg.IndexByteString", "internal/bytealg.IndexString", "internal/abi.NoEscape"], unfollowed := true, recurses := true, named := ["internal/bytealg.MaxLen", "recto/utf.heads", "recto/utf.ends", "recto/refs.olds", "recto/refs.names"], apart := false, laid := [("recto/utf.heads", laid_recto_utf_heads), ("recto/utf.ends", laid_recto_utf_ends), ("recto/refs.names", laid_recto_refs_names), ("recto/refs.olds", laid_recto_refs_olds)], narrowed := true }
def ToksNextUptoSaid : Prop := toksNextUptoRow.holds Tryz.pinned (OpenSpec.upto toksNextSpec)

/-- 'rectolaw05.ToksAll', WHERE WHAT IT READS IS OF BULK AT MOST 1048576: true; the input reads as it did. -/
def toksAllUptoRow : OpenClaim := { program := "ytakjlolmmoladaagreatdoor", sum := "10a8406bc100945e490486c1ae69f1c2cc4c1f7c33766c990ff83718fa717bc4", func := "recto/rectolaw05.ToksAll", spec := "toksAll", inPlace := ["internal/bytealg.IndexByteString", "internal/bytealg.IndexString", "internal/abi.NoEscape"], unfollowed := true, recurses := true, named := ["internal/bytealg.MaxLen", "recto/utf.heads", "recto/utf.ends", "recto/refs.olds", "recto/refs.names"], apart := false, laid := [("recto/utf.heads", laid_recto_utf_heads), ("recto/utf.ends", laid_recto_utf_ends), ("recto/refs.names", laid_recto_refs_names), ("recto/refs.olds", laid_recto_refs_olds)], narrowed := true }
def ToksAllUptoSaid : Prop := toksAllUptoRow.holds Tryz.pinned (OpenSpec.upto toksAllSpec)

end Rows
end Go.Proofs.YtakjlolmmoladaaGreatDoor
