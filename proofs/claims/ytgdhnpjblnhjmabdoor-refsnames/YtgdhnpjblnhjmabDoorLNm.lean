/-
  The law RefsNames walked: the character of each name, and of each number.
-/
import Derived.Test.YtgdhnpjblnhjmabDoorEAl
import Derived.Test.YtgdhnpjblnhjmabDoorFNn
import Derived.Test.YtgdhnpjblnhjmabDoorFNm
namespace Go.Proofs.YtgdhnpjblnhjmabDoor
open Go.RowKit
set_option linter.unusedVariables false

theorem beqI (n : Int) : (n == n) = true := by simp
theorem bbs (t : Bool) : (t == t) = true := by cases t <;> rfl
set_option maxHeartbeats 1000000 in
theorem refsNames_walk (s : ByteArray) (n : Int) (w : World) (ht : Tab4 w) (hs : s.size ≤ 9223372036854775807) (hn : -9223372036854775808 ≤ n ∧ n ≤ 9223372036854775807) :
    Calls Tryd.prog 5 #[.string s, .int .i64 n] w fun e w' => e = .returned (.bool true) ∧ Below w.heap.size w w' := by
  have HT := hide ht
  have E := hide notin_any
  have C1 := hide (fun w h => name_any s w h)
  have C2 := hide (fun w => rname_any s w)
  have C3 := hide (fun w h => number_any n w h)
  have C4 := hide (fun w => rnumber_any n w)
  have h1 := beqI (nameC s.data.toList)
  have h2 := beqI (numC n)
  have h3 := bbs (nameC s.data.toList != 0)
  generalize nameC s.data.toList = c at *
  generalize numC n = m at *
  clear ht
  go_enter Tryd.func5, Tryd.ntmps5
  go_wp2_with fail
  refine (unhide C1 _ (unhide HT).2.1).mono ?_
  rintro e w1 ⟨rfl, hb1⟩
  go_wp2_with fail
  refine (unhide C2 _).mono ?_
  rintro e w2 ⟨rfl, hb2⟩
  have hb12 := tr2 hb1 hb2
  go_wp2_with fail
  refine (unhide C3 _ ((unhide HT).below hb12).2.2).mono ?_
  rintro e w3 ⟨rfl, hb3⟩
  have hb13 := tr2 hb12 hb3
  go_wp2_with fail
  refine (unhide C4 _).mono ?_
  rintro e w4 ⟨rfl, hb4⟩
  have hb14 := tr2 hb13 hb4
  go_wp2_with fail
  refine (unhide E _ ((unhide HT).below hb14)).mono ?_
  rintro e w5 ⟨rfl, hb5⟩
  go_wp2
  go_ret
  exact ⟨rfl, tr2 hb14 hb5⟩
end Go.Proofs.YtgdhnpjblnhjmabDoor
