/-
  What 'utf.Clean' does: of every text that isn't too long, it cleaned.
-/
import Derived.Test.YtmiehnknnkcdlacDoorMg
import Derived.Test.YtmiehnknnkcdlacDoorQUByt
import Derived.Test.YtmiehnknnkcdlacDoorQBd
namespace Go.Proofs.YtmiehnknnkcdlacDoor
open Go.RowKit
set_option linter.unusedVariables false

end Go.Proofs.YtmiehnknnkcdlacDoor
