/-
  What 'chars.Space' and the reference's do: of each byte, whether it is a space.
-/
import Derived.Test.YtcpebhecjlcioaaCKr
namespace Go.Proofs.Ytcpebhecjlcioaa
open Go.RowKit
set_option linter.unusedVariables false

end Go.Proofs.Ytcpebhecjlcioaa
