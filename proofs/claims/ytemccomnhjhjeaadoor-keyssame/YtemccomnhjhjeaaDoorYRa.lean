/-
  'tree.rightAlone'.
-/
import Derived.Test.YtemccomnhjhjeaaDoorMgAN
namespace Go.Proofs.YtemccomnhjhjeaaDoor
open Go.RowKit
set_option linter.unusedVariables false

def raB (k sp : Int) (n : ByteArray) (ats : List (ByteArray × ByteArray)) (tx : ByteArray) (kl : Nat) : Bool :=
  if k = 1 then decide (wrongN n.data.toList ats = 0) && (decide (0 ≤ sp) && (decide (sp ≤ 2) && tx.toList.isEmpty))
  else if k = 2 then !tx.toList.isEmpty && taB sp n tx ats.length kl
  else if k = 3 then taB sp n tx ats.length kl else false
end Go.Proofs.YtemccomnhjhjeaaDoor
