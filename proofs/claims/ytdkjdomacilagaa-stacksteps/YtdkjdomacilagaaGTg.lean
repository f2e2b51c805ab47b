/-
  What package tags does: of every name and space.
-/
import Derived.Test.YtdkjdomacilagaaGTp
namespace Go.Proofs.Ytdkjdomacilagaa
open Go.RowKit
set_option linter.unusedVariables false

theorem no_both {x : Bool} (h : x = true) (h' : x = false) : False := by rw [h] at h'; cases h'
set_option maxHeartbeats 4000000 in
theorem group_any (s : ByteArray) (w : World) :
    Calls Try.prog 111 #[.string s] w fun e w' => e = .returned (.int .i64 (ofN s.toList : Nat)) ∧ w' = w := by
  go_enter Try.func111, Try.ntmps111
  go_wp2_with (exact (no_both (by assumption) (by assumption)).elim)
  all_goals (go_ret; refine ⟨?_, rfl⟩; simp_all [ofN, gN, inB])

set_option maxHeartbeats 4000000 in
theorem again_any (sp : Int) (s : ByteArray) (w : World) :
    Calls Try.prog 110 #[.int .i64 sp, .string s] w fun e w' => e = .returned (.int .i64 (againN sp s.toList)) ∧ w' = w := by
  go_enter Try.func110, Try.ntmps110
  go_wp2_with (exact (no_both (by assumption) (by assumption)).elim)
  all_goals (go_ret; refine ⟨?_, rfl⟩; simp_all [againN, mathNs, svgNs, inB])
end Go.Proofs.Ytdkjdomacilagaa
