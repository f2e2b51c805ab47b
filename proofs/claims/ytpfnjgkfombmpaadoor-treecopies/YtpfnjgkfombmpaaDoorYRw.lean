/-
  The reference's 'Words' of nodes is all their texts, one behind the other: what 'tree.Words' is.
-/
import Derived.Test.YtpfnjgkfombmpaaDoorYWw
namespace Go.Proofs.YtpfnjgkfombmpaaDoor
open Go.RowKit
set_option linter.unusedVariables false

end Go.Proofs.YtpfnjgkfombmpaaDoor
