/-
  The law RefsAll walked: all of any text is the document's.
-/
import Derived.Test.YtmiehnknnkcdlaaDoorFAl
import Derived.Test.YtmiehnknnkcdlaaDoorEAl
namespace Go.Proofs.YtmiehnknnkcdlaaDoor
open Go.RowKit
set_option linter.unusedVariables false

set_option maxHeartbeats 2000000 in
theorem refsAll_walk (s : ByteArray) (v : Bool) (w : World) (ht : Tab4 w) (hs : s.size ≤ 9223372036854775807) :
    Calls Tryd.prog 4 #[.string s, .bool v] w fun e w' => e = .returned (.bool true) ∧ Below w.heap.size w w' := by
  have HT := hide ht
  have E := hide notin_any
  clear ht
  by_cases h1 : 2000 < s.size
  · have hi : (2000 : Int) < (s.size : Int) := by omega
    go_enter Tryd.func4, Tryd.ntmps4
    go_wp2_with fail
    refine (unhide E _ (unhide HT)).mono ?_
    rintro e w2 ⟨rfl, hb2⟩
    go_wp2
    go_ret
    exact ⟨rfl, hb2⟩
  have hi : ¬ (2000 : Int) < (s.size : Int) := by omega
  have C1 := hide (fun w h => all_any s v w h (by omega))
  have C2 := hide (fun w => rall_any s v w (by omega))
  generalize bs (allL v s.data.toList) = x at *
  have hyy : (x.toList == x.toList) = true := by simp
  go_enter Tryd.func4, Tryd.ntmps4
  go_wp2_with fail
  refine (unhide C1 _ (unhide HT)).mono ?_
  rintro e w2 ⟨rfl, hb2⟩
  go_wp2_with fail
  refine (unhide C2 _).mono ?_
  rintro e w3 ⟨rfl, hb3⟩
  have hb13 := tr2 hb2 hb3
  go_wp2_with fail
  refine (unhide E _ ((unhide HT).below hb13)).mono ?_
  rintro e w4 ⟨rfl, hb4⟩
  go_wp2
  go_ret
  exact ⟨rfl, tr2 hb13 hb4⟩
end Go.Proofs.YtmiehnknnkcdlaaDoor
