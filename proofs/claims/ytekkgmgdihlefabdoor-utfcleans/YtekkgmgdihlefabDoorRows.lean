/-
  NARROWER THAN 'FOR EVERY INPUT', by the rows' own cells (each row's printed sentence says how): UtfBytes: laid · UtfFirsts: laid · UtfCleans: laid · UtfBack: laid · UtfStays: laid.
  DERIVED. THE GIVEN ROWS OF THIS SEAT. 5 by the template 'for every input the law returns true; each argument reads behind the call as it read before'; 0 by the template 'total and deterministic' (their statements: YtekkgmgdihlefabDoorTotals.lean).
  GIVEN WITH THE SEED: the statements are not yours to turn. If you find one false, say at which input.
  Laid BY PROGRAM, IN A SANDBOX (cutbox-rows.mjs): the forced cells as the released guide's own fill.sh prints them over the translation 4fcc38f28519f152… (all of the seat's roots in one cut). By AI agents, Wed Nov 11 2026. No macro, syntax, notation, axiom, sorry.
-/
import Derived.Test.YtekkgmgdihlefabDoorChecked
import GoSem.Claim
import GoSem.ClaimJoined
import GoSem.ClaimMapViews
import Derived.JoinedTies
import Derived.KernelRfl
namespace Go.Proofs.YtekkgmgdihlefabDoor
/- THE CELL 'sum', in the pinned program and in every row, IS THE sha256 OF THE DUMP (.gsa) THAT YtekkgmgdihlefabDoorProg.lean LOADS. Nothing in Lean hashes anything: it is a label: what it is worth is what the hold of that sum in a sandbox is worth. -/
noncomputable def Tryd.pinned : Pinned := { name := "ytekkgmgdihlefabdoor", sum := "4fcc38f28519f152127d94df2a9d76f1b2cba4bb6aa63be2777da14562932270", checked := Tryd.checked }
namespace Rows
def none {H : Type} : Left H := { results := [], args := [] }

/- WHAT THE LISTED PACKAGE-LEVEL VARIABLES READ AS WHEN THE CALL BEGINS. Each datum BY PROGRAM (the guide's laid-datum.mjs) off the statement by which the dump's own 'gosem.cut.vars' lays the variable. In a bare row this is a premise. The card (YtekkgmgdihlefabDoorCards.lean) ties it to the program's text. -/
def laid_recto_utf_heads {H : Type} : DataW H := .agg [.lit (.int .i64 0), .lit (.int .i64 0), .lit (.int .i64 192), .lit (.int .i64 224), .lit (.int .i64 240)]
def laid_recto_utf_ends {H : Type} : DataW H := .agg [.lit (.int .i64 0), .lit (.int .i64 128), .lit (.int .i64 2048), .lit (.int .i64 65536), .lit (.int .i64 1114112)]

/-- 'rectolaw02.UtfBytes': WHATEVER THE INPUT: true; the input reads as it did. -/
def utfBytesSpec : ChangeSpec := { name := "utfBytes", fn := fun _ => fun
  | [d] => { results := [.lit (.bool true)], args := [d] }
  | _ => none }
def utfBytesRow : OpenClaim := { program := "ytekkgmgdihlefabdoor", sum := "4fcc38f28519f152127d94df2a9d76f1b2cba4bb6aa63be2777da14562932270", func := "recto/rectolaw02.UtfBytes", spec := "utfBytes", recurses := true, named := ["recto/utf.heads", "recto/utf.ends"], apart := false, laid := [("recto/utf.heads", laid_recto_utf_heads), ("recto/utf.ends", laid_recto_utf_ends)] }
def UtfBytesSaid : Prop := utfBytesRow.holds Tryd.pinned (OpenSpec.ofChange utfBytesSpec)

/-- ITS FALSE NEIGHBOUR: 'it returns false'. Refute it at one input. -/
def utfBytesWrong : ChangeSpec := { name := "utfBytes", fn := fun _ => fun
  | [d] => { results := [.lit (.bool false)], args := [d] }
  | _ => none }
def UtfBytesWrongFalsely : Prop := utfBytesRow.holds Tryd.pinned (OpenSpec.ofChange utfBytesWrong)

/-- 'rectolaw02.UtfFirsts': WHATEVER THE INPUT: true; the input reads as it did. -/
def utfFirstsSpec : ChangeSpec := { name := "utfFirsts", fn := fun _ => fun
  | [d] => { results := [.lit (.bool true)], args := [d] }
  | _ => none }
def utfFirstsRow : OpenClaim := { program := "ytekkgmgdihlefabdoor", sum := "4fcc38f28519f152127d94df2a9d76f1b2cba4bb6aa63be2777da14562932270", func := "recto/rectolaw02.UtfFirsts", spec := "utfFirsts", recurses := true, named := ["recto/utf.heads", "recto/utf.ends"], apart := false, laid := [("recto/utf.heads", laid_recto_utf_heads), ("recto/utf.ends", laid_recto_utf_ends)] }
def UtfFirstsSaid : Prop := utfFirstsRow.holds Tryd.pinned (OpenSpec.ofChange utfFirstsSpec)

/-- ITS FALSE NEIGHBOUR: 'it returns false'. Refute it at one input. -/
def utfFirstsWrong : ChangeSpec := { name := "utfFirsts", fn := fun _ => fun
  | [d] => { results := [.lit (.bool false)], args := [d] }
  | _ => none }
def UtfFirstsWrongFalsely : Prop := utfFirstsRow.holds Tryd.pinned (OpenSpec.ofChange utfFirstsWrong)

/-- 'rectolaw02.UtfCleans': WHATEVER THE INPUT: true; the input reads as it did. -/
def utfCleansSpec : ChangeSpec := { name := "utfCleans", fn := fun _ => fun
  | [d1, d2] => { results := [.lit (.bool true)], args := [d1, d2] }
  | _ => none }
def utfCleansRow : OpenClaim := { program := "ytekkgmgdihlefabdoor", sum := "4fcc38f28519f152127d94df2a9d76f1b2cba4bb6aa63be2777da14562932270", func := "recto/rectolaw02.UtfCleans", spec := "utfCleans", inPlace := ["internal/abi.NoEscape"], recurses := true, named := ["recto/utf.heads", "recto/utf.ends"], apart := false, laid := [("recto/utf.heads", laid_recto_utf_heads), ("recto/utf.ends", laid_recto_utf_ends)] }
def UtfCleansSaid : Prop := utfCleansRow.holds Tryd.pinned (OpenSpec.ofChange utfCleansSpec)

/-- ITS FALSE NEIGHBOUR: 'it returns false'. Refute it at one input. -/
def utfCleansWrong : ChangeSpec := { name := "utfCleans", fn := fun _ => fun
  | [d1, d2] => { results := [.lit (.bool false)], args := [d1, d2] }
  | _ => none }
def UtfCleansWrongFalsely : Prop := utfCleansRow.holds Tryd.pinned (OpenSpec.ofChange utfCleansWrong)

/-- 'rectolaw02.UtfBack': WHATEVER THE INPUT: true; the input reads as it did. -/
def utfBackSpec : ChangeSpec := { name := "utfBack", fn := fun _ => fun
  | [d1, d2] => { results := [.lit (.bool true)], args := [d1, d2] }
  | _ => none }
def utfBackRow : OpenClaim := { program := "ytekkgmgdihlefabdoor", sum := "4fcc38f28519f152127d94df2a9d76f1b2cba4bb6aa63be2777da14562932270", func := "recto/rectolaw02.UtfBack", spec := "utfBack", named := ["recto/utf.heads", "recto/utf.ends"], apart := false, laid := [("recto/utf.heads", laid_recto_utf_heads), ("recto/utf.ends", laid_recto_utf_ends)] }
def UtfBackSaid : Prop := utfBackRow.holds Tryd.pinned (OpenSpec.ofChange utfBackSpec)

/-- ITS FALSE NEIGHBOUR: 'it returns false'. Refute it at one input. -/
def utfBackWrong : ChangeSpec := { name := "utfBack", fn := fun _ => fun
  | [d1, d2] => { results := [.lit (.bool false)], args := [d1, d2] }
  | _ => none }
def UtfBackWrongFalsely : Prop := utfBackRow.holds Tryd.pinned (OpenSpec.ofChange utfBackWrong)

/-- 'rectolaw02.UtfStays': WHATEVER THE INPUT: true; the input reads as it did. -/
def utfStaysSpec : ChangeSpec := { name := "utfStays", fn := fun _ => fun
  | [d1, d2] => { results := [.lit (.bool true)], args := [d1, d2] }
  | _ => none }
def utfStaysRow : OpenClaim := { program := "ytekkgmgdihlefabdoor", sum := "4fcc38f28519f152127d94df2a9d76f1b2cba4bb6aa63be2777da14562932270", func := "recto/rectolaw02.UtfStays", spec := "utfStays", inPlace := ["internal/abi.NoEscape"], named := ["recto/utf.heads", "recto/utf.ends"], apart := false, laid := [("recto/utf.heads", laid_recto_utf_heads), ("recto/utf.ends", laid_recto_utf_ends)] }
def UtfStaysSaid : Prop := utfStaysRow.holds Tryd.pinned (OpenSpec.ofChange utfStaysSpec)

/-- ITS FALSE NEIGHBOUR: 'it returns false'. Refute it at one input. -/
def utfStaysWrong : ChangeSpec := { name := "utfStays", fn := fun _ => fun
  | [d1, d2] => { results := [.lit (.bool false)], args := [d1, d2] }
  | _ => none }
def UtfStaysWrongFalsely : Prop := utfStaysRow.holds Tryd.pinned (OpenSpec.ofChange utfStaysWrong)

/- THE SECOND FORM. 'bulk': how many values and letters a reading holds, each counted each time it is reached (what is shared counts as often as it is met; a slice's spare places count too). A statement '..UptoSaid' is the law's where the arguments, and the package variables that the reading takes, are together of bulk at most 1048576: NARROWER than '..Said'. Prove '..Said' where nothing that the law and all that it calls make is longer than what came in: it says more and counts as full. Else prove '..UptoSaid'. A law counts once. -/
mutual
def uptoBulk {H : Type} : DataW H → Nat
  | .lit (.string bytes) => bytes.length + 1
  | .lit _ => 1
  | .nil => 1
  | .ptr d => uptoBulk d + 1
  | .slice elems spare => uptoBulkAll elems + uptoBulkAll spare + 1
  | .agg parts => uptoBulkAll parts + 1
  | .iface _ d => uptoBulk d + 1
  | .map entries => uptoBulkEntries entries + 1
  | .held _ => 1
def uptoBulkAll {H : Type} : List (DataW H) → Nat
  | [] => 0
  | d :: r => uptoBulk d + uptoBulkAll r
def uptoBulkEntries {H : Type} : List (Lit × DataW H) → Nat
  | [] => 0
  | x :: r => uptoBulkEntry x + uptoBulkEntries r
def uptoBulkEntry {H : Type} : Lit × DataW H → Nat
  | (.string bytes, d) => bytes.length + uptoBulk d + 1
  | (_, d) => uptoBulk d + 1
 end
def uptoSmall : (H : Type) → List (DataW H) → Bool := fun _ ds => decide (uptoBulkAll ds ≤ 1048576)
def OpenSpec.upto (s : _root_.Go.ChangeSpec) : _root_.Go.OpenSpec := { _root_.Go.OpenSpec.ofChange s with cond := some uptoSmall }

/-- 'rectolaw02.UtfBytes', WHERE WHAT IT READS IS OF BULK AT MOST 1048576: true; the input reads as it did. -/
def utfBytesUptoRow : OpenClaim := { program := "ytekkgmgdihlefabdoor", sum := "4fcc38f28519f152127d94df2a9d76f1b2cba4bb6aa63be2777da14562932270", func := "recto/rectolaw02.UtfBytes", spec := "utfBytes", recurses := true, named := ["recto/utf.heads", "recto/utf.ends"], apart := false, laid := [("recto/utf.heads", laid_recto_utf_heads), ("recto/utf.ends", laid_recto_utf_ends)], narrowed := true }
def UtfBytesUptoSaid : Prop := utfBytesUptoRow.holds Tryd.pinned (OpenSpec.upto utfBytesSpec)

/-- 'rectolaw02.UtfFirsts', WHERE WHAT IT READS IS OF BULK AT MOST 1048576: true; the input reads as it did. -/
def utfFirstsUptoRow : OpenClaim := { program := "ytekkgmgdihlefabdoor", sum := "4fcc38f28519f152127d94df2a9d76f1b2cba4bb6aa63be2777da14562932270", func := "recto/rectolaw02.UtfFirsts", spec := "utfFirsts", recurses := true, named := ["recto/utf.heads", "recto/utf.ends"], apart := false, laid := [("recto/utf.heads", laid_recto_utf_heads), ("recto/utf.ends", laid_recto_utf_ends)], narrowed := true }
def UtfFirstsUptoSaid : Prop := utfFirstsUptoRow.holds Tryd.pinned (OpenSpec.upto utfFirstsSpec)

/-- 'rectolaw02.UtfCleans', WHERE WHAT IT READS IS OF BULK AT MOST 1048576: true; the input reads as it did. -/
def utfCleansUptoRow : OpenClaim := { program := "ytekkgmgdihlefabdoor", sum := "4fcc38f28519f152127d94df2a9d76f1b2cba4bb6aa63be2777da14562932270", func := "recto/rectolaw02.UtfCleans", spec := "utfCleans", inPlace := ["internal/abi.NoEscape"], recurses := true, named := ["recto/utf.heads", "recto/utf.ends"], apart := false, laid := [("recto/utf.heads", laid_recto_utf_heads), ("recto/utf.ends", laid_recto_utf_ends)], narrowed := true }
def UtfCleansUptoSaid : Prop := utfCleansUptoRow.holds Tryd.pinned (OpenSpec.upto utfCleansSpec)

/-- 'rectolaw02.UtfBack', WHERE WHAT IT READS IS OF BULK AT MOST 1048576: true; the input reads as it did. -/
def utfBackUptoRow : OpenClaim := { program := "ytekkgmgdihlefabdoor", sum := "4fcc38f28519f152127d94df2a9d76f1b2cba4bb6aa63be2777da14562932270", func := "recto/rectolaw02.UtfBack", spec := "utfBack", named := ["recto/utf.heads", "recto/utf.ends"], apart := false, laid := [("recto/utf.heads", laid_recto_utf_heads), ("recto/utf.ends", laid_recto_utf_ends)], narrowed := true }
def UtfBackUptoSaid : Prop := utfBackUptoRow.holds Tryd.pinned (OpenSpec.upto utfBackSpec)

/-- 'rectolaw02.UtfStays', WHERE WHAT IT READS IS OF BULK AT MOST 1048576: true; the input reads as it did. -/
def utfStaysUptoRow : OpenClaim := { program := "ytekkgmgdihlefabdoor", sum := "4fcc38f28519f152127d94df2a9d76f1b2cba4bb6aa63be2777da14562932270", func := "recto/rectolaw02.UtfStays", spec := "utfStays", inPlace := ["internal/abi.NoEscape"], named := ["recto/utf.heads", "recto/utf.ends"], apart := false, laid := [("recto/utf.heads", laid_recto_utf_heads), ("recto/utf.ends", laid_recto_utf_ends)], narrowed := true }
def UtfStaysUptoSaid : Prop := utfStaysUptoRow.holds Tryd.pinned (OpenSpec.upto utfStaysSpec)

end Rows
end Go.Proofs.YtekkgmgdihlefabDoor
