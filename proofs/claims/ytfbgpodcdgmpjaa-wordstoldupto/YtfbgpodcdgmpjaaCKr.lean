/-
  What 'chars.Space', 'Letter', 'Digit' and the reference's do: of every byte, whether it is one.
-/
import Derived.Test.YtfbgpodcdgmpjaaCPl
namespace Go.Proofs.Ytfbgpodcdgmpjaa
open Go.RowKit
set_option linter.unusedVariables false

theorem bneI {b : Nat} {k : Int} (h : ¬ (b : Int) = k) : ((b : Int) == k) = false := beq_eq_false_iff_ne.2 h

def ByteIs (f : Nat) (t : Nat → Bool) : Prop := ∀ (b : Nat) (w : World), Calls Try.prog f #[.int .u8 (b : Int)] w fun e w' => e = .returned (.bool (t b)) ∧ w' = w

end Go.Proofs.Ytfbgpodcdgmpjaa

