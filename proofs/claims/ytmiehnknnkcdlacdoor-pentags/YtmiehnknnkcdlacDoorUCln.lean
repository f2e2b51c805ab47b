/-
  What 'utf.Clean' does: of every text that isn't too long, it cleaned.
-/
import Derived.Test.YtmiehnknnkcdlacDoorURgt
import Derived.Test.YtmiehnknnkcdlacDoorUByt
import Derived.Test.YtmiehnknnkcdlacDoorBd
namespace Go.Proofs.YtmiehnknnkcdlacDoor
open Go.RowKit
set_option linter.unusedVariables false

end Go.Proofs.YtmiehnknnkcdlacDoor
