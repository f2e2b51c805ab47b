/-
  What package tags does: of every name and space.
-/
import Derived.Test.YtimkijmjbphhlaaGTp
namespace Go.Proofs.Ytimkijmjbphhlaa
open Go.RowKit
set_option linter.unusedVariables false

theorem no_both {x : Bool} (h : x = true) (h' : x = false) : False := by rw [h] at h'; cases h'
set_option maxHeartbeats 4000000 in
theorem group_any (s : ByteArray) (w : World) :
    Calls Try.prog 109 #[.string s] w fun e w' => e = .returned (.int .i64 (ofN s.toList : Nat)) ∧ w' = w := by
  go_enter Try.func109, Try.ntmps109
  go_wp2_with (exact (no_both (by assumption) (by assumption)).elim)
  all_goals (go_ret; refine ⟨?_, rfl⟩; simp_all [ofN, gN, inB])

set_option maxHeartbeats 4000000 in
theorem again_any (sp : Int) (s : ByteArray) (w : World) :
    Calls Try.prog 108 #[.int .i64 sp, .string s] w fun e w' => e = .returned (.int .i64 (againN sp s.toList)) ∧ w' = w := by
  go_enter Try.func108, Try.ntmps108
  go_wp2_with (exact (no_both (by assumption) (by assumption)).elim)
  all_goals (go_ret; refine ⟨?_, rfl⟩; simp_all [againN, mathNs, svgNs, inB])
end Go.Proofs.Ytimkijmjbphhlaa
