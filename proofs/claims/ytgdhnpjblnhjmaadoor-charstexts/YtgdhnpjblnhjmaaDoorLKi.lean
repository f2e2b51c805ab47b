/-
  The laws CharsKinds, CharsReady and CharsTexts walked.
-/
import Derived.Test.YtgdhnpjblnhjmaaDoorLEn
import Derived.Test.YtgdhnpjblnhjmaaDoorKRd
import Derived.Test.YtgdhnpjblnhjmaaDoorKWo
import Derived.Test.YtgdhnpjblnhjmaaDoorPTx
namespace Go.Proofs.YtgdhnpjblnhjmaaDoor
open Go.RowKit
set_option linter.unusedVariables false

theorem bsame (t : Bool) : (t == t) = true := by cases t <;> rfl
theorem ssame (x : ByteArray) : (x.toList == x.toList) = true := by simp

set_option maxHeartbeats 1000000 in
theorem charsKinds_walk (b : Nat) (w : World) (ht : Tabs w) :
    Calls Tryd.prog 4 #[.int .u8 (b : Int)] w fun e w' => e = .returned (.bool true) ∧ Below w.heap.size w w' := by
  have HT := hide ht
  have E := hide ends_any
  have C1 := hide (space_any b)
  have C2 := hide (rspace_any b)
  have C3 := hide (letter_any b)
  have C4 := hide (rletter_any b)
  have C5 := hide (digit_any b)
  have C6 := hide (rdigit_any b)
  have h1 := bsame (spN b)
  have h2 := bsame (ltN b)
  have h3 := bsame (dgN b)
  generalize spN b = t1 at *
  generalize ltN b = t2 at *
  generalize dgN b = t3 at *
  clear ht
  go_enter Tryd.func4, Tryd.ntmps4
  go_wp2_with fail
  refine (unhide C1 _).mono ?_
  rintro e w1 ⟨rfl, rfl⟩
  go_wp2_with fail
  refine (unhide C2 _).mono ?_
  rintro e w1 ⟨rfl, rfl⟩
  go_wp2_with fail
  refine (unhide C3 _).mono ?_
  rintro e w1 ⟨rfl, rfl⟩
  go_wp2_with fail
  refine (unhide C4 _).mono ?_
  rintro e w1 ⟨rfl, rfl⟩
  go_wp2_with fail
  refine (unhide C5 _).mono ?_
  rintro e w1 ⟨rfl, rfl⟩
  go_wp2_with fail
  refine (unhide C6 _).mono ?_
  rintro e w1 ⟨rfl, rfl⟩
  go_wp2_with fail
  refine (unhide E _ (unhide HT)).mono ?_
  rintro e w2 ⟨rfl, hb⟩
  go_wp2
  go_ret
  exact ⟨rfl, hb⟩

set_option maxHeartbeats 1000000 in
theorem charsReady_walk (s : ByteArray) (w : World) (ht : Tabs w) (hs : s.size ≤ 9223372036854775807) :
    Calls Tryd.prog 3 #[.string s] w fun e w' => e = .returned (.bool true) ∧ Below w.heap.size w w' := by
  have HT := hide ht
  have E := hide ends_any
  by_cases h : 4000 < s.size
  · have hi : (4000 : Int) < (s.size : Int) := by omega
    have C1 := hide (fun w => ready_long s w h hs)
    clear ht
    go_enter Tryd.func3, Tryd.ntmps3
    go_wp2_with fail
    refine (unhide C1 _).mono ?_
    rintro e w1 ⟨rfl, hb1⟩
    go_wp2_with fail
    refine (unhide E _ ((unhide HT).below hb1)).mono ?_
    rintro e w2 ⟨rfl, hb2⟩
    go_wp2
    go_ret
    exact ⟨rfl, tr2 hb1 hb2⟩
  · have hi : ¬ (4000 : Int) < (s.size : Int) := by omega
    have C1 := hide (fun w ht => ready_any s w ht (by omega))
    have C2 := hide (fun w => rready_any s w (by omega))
    have hy := ssame (bs (readyL s.data.toList))
    generalize bs (readyL s.data.toList) = y at *
    clear ht
    go_enter Tryd.func3, Tryd.ntmps3
    go_wp2_with fail
    refine (unhide C1 _ (unhide HT)).mono ?_
    rintro e w1 ⟨rfl, hb1⟩
    go_wp2_with fail
    refine (unhide C2 _).mono ?_
    rintro e w2 ⟨rfl, hb2⟩
    go_wp2_with fail
    refine (unhide E _ (((unhide HT).below hb1).below hb2)).mono ?_
    rintro e w3 ⟨rfl, hb3⟩
    go_wp2
    go_ret
    exact ⟨rfl, tr3 hb1 hb2 hb3⟩

theorem words_view {w w' : World} {l : List UInt8} {e : Ending} (h : WordsPost w l e w') : ∃ v, e = .returned v ∧ View w' v (txt (wordsL l)) ∧ Below w.heap.size w w' := by
  obtain ⟨v, h1, h2, h3⟩ := h
  exact ⟨v, h1, view_of_owns h2, h3⟩

set_option maxHeartbeats 1000000 in
theorem charsTexts_walk (s : ByteArray) (w : World) (ht : Tabs w) (hs : s.size ≤ 9223372036854775807) :
    Calls Tryd.prog 5 #[.string s] w fun e w' => e = .returned (.bool true) ∧ Below w.heap.size w w' := by
  have HT := hide ht
  have E := hide ends_any
  by_cases h : 2000 < s.size
  · have hi : (2000 : Int) < (s.size : Int) := by omega
    clear ht
    go_enter Tryd.func5, Tryd.ntmps5
    go_wp2_with fail
    refine (unhide E _ (unhide HT)).mono ?_
    rintro e w2 ⟨rfl, hb2⟩
    go_wp2
    go_ret
    exact ⟨rfl, hb2⟩
  · have hi : ¬ (2000 : Int) < (s.size : Int) := by omega
    have C1 := hide (fun w => blank_any s w hs)
    have C2 := hide (fun w => rblank_any s w hs)
    have C3 := hide (fun w => lower_any s w hs)
    have C4 := hide (fun w => rlower_any s w (by omega))
    have C5 := hide (fun w => trim_any s w hs)
    have C6 := hide (fun w => rtrim_any s w (by omega))
    have C7 := hide (fun w => (words_any s w (by omega)).mono (fun e w' h => words_view h))
    have C8 := hide (fun w => (rwords_any s w (by omega)).mono (fun e w' h => words_view h))
    have C9 := hide (fun va vb w h1 h2 => texts_any va vb (txt (wordsL s.data.toList)) (txt (wordsL s.data.toList)) w h1 h2)
    rw [sameT_refl] at C9
    have h1 := bsame (blankL s.data.toList)
    have h2 := ssame (bs (lowL s.data.toList))
    have h3 := ssame (bs (trimL s.data.toList))
    generalize blankL s.data.toList = t1 at *
    generalize bs (lowL s.data.toList) = x2 at *
    generalize bs (trimL s.data.toList) = x3 at *
    clear ht
    go_enter Tryd.func5, Tryd.ntmps5
    go_wp2_with fail
    refine (unhide C1 _).mono ?_
    rintro e w1 ⟨rfl, hb1⟩
    go_wp2_with fail
    refine (unhide C2 _).mono ?_
    rintro e w2 ⟨rfl, rfl⟩
    go_wp2_with fail
    refine (unhide C3 _).mono ?_
    rintro e w3 ⟨rfl, hb3⟩
    go_wp2_with fail
    refine (unhide C4 _).mono ?_
    rintro e w4 ⟨rfl, hb4⟩
    have hb14 := tr3 hb1 hb3 hb4
    clear hb1 hb3 hb4
    go_wp2_with fail
    refine (unhide C5 _).mono ?_
    rintro e w5 ⟨rfl, rfl⟩
    go_wp2_with fail
    refine (unhide C6 _).mono ?_
    rintro e w6 ⟨rfl, hb6⟩
    go_wp2_with fail
    refine (unhide C7 _).mono ?_
    rintro e w7 ⟨va, rfl, hva, hb7⟩
    have hb17 := tr3 hb14 hb6 hb7
    go_wp2_with fail
    refine (unhide C8 _).mono ?_
    rintro e w8 ⟨vb, rfl, hvb, hb8⟩
    have VA := hide (view_below hva hb8)
    have VB := hide hvb
    clear hva hvb
    go_wp2_with fail
    refine (unhide C9 _ _ _ (unhide VA) (unhide VB)).mono ?_
    rintro e w9 ⟨rfl, hb9⟩
    have hb19 := tr3 hb17 hb8 hb9
    go_wp2_with fail
    refine (unhide E _ ((unhide HT).below hb19)).mono ?_
    rintro e w10 ⟨rfl, hb10⟩
    go_wp2
    go_ret
    exact ⟨rfl, tr2 hb19 hb10⟩
end Go.Proofs.YtgdhnpjblnhjmaaDoor
