/-
  The law PenTexts walked: the text of characters, of what is read as it is, of comments, or that there is none.
-/
import Derived.Test.YtmiehnknnkcdlacDoorLLk
import Derived.Test.YtmiehnknnkcdlacDoorPRx
namespace Go.Proofs.YtmiehnknnkcdlacDoor
open Go.RowKit
set_option linter.unusedVariables false

theorem toldV_eq (b : Bool) (x : ByteArray) : ∃ y c, toldV b x = .tuple #[.string y, .int .i64 c] ∧ -10 ≤ c ∧ c ≤ 10 := by
  cases b with
  | true => exact ⟨_, _, rfl, by decide, by decide⟩
  | false => exact ⟨_, _, rfl, by decide, by decide⟩

set_option maxHeartbeats 4000000 in
theorem penTexts_walk (s n : ByteArray) (w : World) (ht : Tabs w) (hm : Mx w) (hs : s.size ≤ 9223372036854775807) (hn : n.size ≤ 9223372036854775807) :
    Calls Tryd.prog 4 #[.string s, .string n] w fun e w' => e = .returned (.bool true) ∧ Below w.heap.size w w' := by
  have HT := hide ht
  have HM := hide hm
  have E := hide link_any
  clear ht hm
  by_cases h1 : 1500 < s.size
  · have hi : (1500 : Int) < (s.size : Int) := by omega
    go_enter Tryd.func4, Tryd.ntmps4
    go_wp2_with fail
    refine (unhide E _ (unhide HT) (unhide HM)).mono ?_
    rintro e w2 ⟨rfl, hb2⟩
    go_wp2
    go_ret
    exact ⟨rfl, hb2⟩
  have hi : ¬ (1500 : Int) < (s.size : Int) := by omega
  by_cases h2 : 200 < n.size
  · have hi2 : (200 : Int) < (n.size : Int) := by omega
    go_enter Tryd.func4, Tryd.ntmps4
    go_wp2_with fail
    refine (unhide E _ (unhide HT) (unhide HM)).mono ?_
    rintro e w2 ⟨rfl, hb2⟩
    go_wp2
    go_ret
    exact ⟨rfl, hb2⟩
  have hi2 : ¬ (200 : Int) < (n.size : Int) := by omega
  have C1 := hide (fun w h => pchars_any s w h (by omega))
  have C2 := hide (fun w => rchars6_any s w (by omega))
  have C3 := hide (fun w h1 h2 => praw_any s n w h1 h2 (by omega) (by omega))
  have C4 := hide (fun w => rraw6_any s n w (by omega) (by omega))
  have C5 := hide (fun w h1 h2 => pnote_any s w h1 h2 (by omega))
  have C6 := hide (fun w => rnote6_any s w (by omega))
  obtain ⟨y1, c1, e1, l1, u1⟩ := toldV_eq (charsB s.data.toList) (bs (escL false s.data.toList))
  obtain ⟨y2, c2, e2, l2, u2⟩ := toldV_eq (rawB s.data.toList n.data.toList) s
  obtain ⟨y3, c3, e3, l3, u3⟩ := toldV_eq (noteB s.data.toList) (bs (noteL s.data.toList))
  rw [e1] at C1 C2
  rw [e2] at C3 C4
  rw [e3] at C5 C6
  have q1 : (y1.toList == y1.toList) = true := by simp
  have q2 : (y2.toList == y2.toList) = true := by simp
  have q3 : (y3.toList == y3.toList) = true := by simp
  have r1 : (c1 == c1) = true := by simp
  have r2 : (c2 == c2) = true := by simp
  have r3 : (c3 == c3) = true := by simp
  clear e1 e2 e3
  go_enter Tryd.func4, Tryd.ntmps4
  go_wp2_with fail
  refine (unhide C1 _ (unhide HT)).mono ?_
  rintro e w1 ⟨rfl, hb1⟩
  go_wp2_with fail
  refine (unhide C2 _).mono ?_
  rintro e w2 ⟨rfl, hb2⟩
  have hb02 := tr2 hb1 hb2
  go_wp2_with fail
  refine (unhide C3 _ ((unhide HT).below hb02) ((unhide HM).below hb02)).mono ?_
  rintro e w3 ⟨rfl, hb3⟩
  have hb03 := tr2 hb02 hb3
  go_wp2_with fail
  refine (unhide C4 _).mono ?_
  rintro e w4 ⟨rfl, hb4⟩
  have hb04 := tr2 hb03 hb4
  go_wp2_with fail
  refine (unhide C5 _ ((unhide HT).below hb04) ((unhide HM).below hb04)).mono ?_
  rintro e w5 ⟨rfl, hb5⟩
  have hb05 := tr2 hb04 hb5
  go_wp2_with fail
  refine (unhide C6 _).mono ?_
  rintro e w6 ⟨rfl, hb6⟩
  have hb06 := tr2 hb05 hb6
  go_wp2_with fail
  refine (unhide E _ ((unhide HT).below hb06) ((unhide HM).below hb06)).mono ?_
  rintro e w7 ⟨rfl, hb7⟩
  go_wp2
  go_ret
  exact ⟨rfl, tr2 hb06 hb7⟩
end Go.Proofs.YtmiehnknnkcdlacDoor
