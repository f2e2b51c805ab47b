/-
  What the reference s Refs does: all names with their characters, in new memory.
-/
import Derived.Test.YtmiehnknnkcdlaaDoorENm
namespace Go.Proofs.YtmiehnknnkcdlaaDoor
open Go.RowKit
set_option linter.unusedVariables false
def rfCells : List Value := nmT.flatMap fun x => [.string (bs x.1), .int .i64 x.2.1]
set_option maxHeartbeats 4000000 in
set_option maxRecDepth 100000 in
theorem rrefs_any (w : World) : Calls Tryd.prog 33 #[] w fun e w' => e = .returned (.slice (some ⟨w.heap.size, 0, none⟩) 28 28) ∧ w' = w.alloc (.cells rfCells.toArray 63) := by
  go_enter Tryd.func33, Tryd.ntmps33
  go_wp2
  go_ret
  exact ⟨rfl, rfl⟩
end Go.Proofs.YtmiehnknnkcdlaaDoor
