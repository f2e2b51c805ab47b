/-
  What 'rectoref02.First' does; and the law UtfFirsts walked.
-/
import Derived.Test.YtekkgmgdihlefabDoorUs
namespace Go.Proofs.YtekkgmgdihlefabDoor
open Go.RowKit
set_option linter.unusedVariables false

theorem rfirst_empty (s : ByteArray) (w : World) (h : s.size = 0) :
    Calls Tryd.prog 12 #[.string s] w fun e w' => e = .returned (got 0 0 false) ∧ Below w.heap.size w w' := by
  have he := is_empty s h
  go_enter Tryd.func12, Tryd.ntmps12
  go_wp2
  exact bodyPost_ret (v := .agg #[.int .i64 0, .int .i64 0, .bool false]) (by simp [results, Tryd.results12, go_sem]) rfl ⟨rfl, (Below.refl _ _).alloc (Nat.le_refl _) _⟩

theorem rfirst_some (s : ByteArray) (c n : Int) (b : Bool) (w : World) (h : 0 < s.size) (C : Hid (∀ w, Calls Tryd.prog 24 #[.string s, .int .i64 0] w fun e w' => e = .returned (.agg #[.int .i64 c, .int .i64 n, .bool b]) ∧ Below w.heap.size w w')) :
    Calls Tryd.prog 12 #[.string s] w fun e w' => e = .returned (got c n b) ∧ Below w.heap.size w w' := by
  have he := not_empty s h
  go_enter Tryd.func12, Tryd.ntmps12
  go_wp2_with fail
  refine (unhide C _).mono ?_
  rintro e w1 ⟨rfl, hb1⟩
  have hz : w.heap.size < w1.heap.size := by have := hb1.size; simp at this; omega
  obtain ⟨hc, hf⟩ := bcell hb1
  go_wp2
  exact bodyPost_ret (v := .agg #[.int .i64 c, .int .i64 n, .bool b]) (by simp [results, Tryd.results12, go_sem, hc]) rfl
    ⟨rfl, (((bel_of hb1).setCell (by simp) _).setCell (by simp) _).setCell (by simp) _⟩

theorem firsts_main (s : ByteArray) (c n : Int) (b : Bool) (w : World) (ht : Tabs w) (hab : Euro)
    (C1 : Hid (∀ w, Tabs w → Calls Tryd.prog 11 #[.string s] w fun e w' => e = .returned (.tuple #[.int .i64 c, .int .i64 n]) ∧ Below w.heap.size w w'))
    (C2 : Hid (∀ w, Calls Tryd.prog 12 #[.string s] w fun e w' => e = .returned (.agg #[.int .i64 c, .int .i64 n, .bool b]) ∧ Below w.heap.size w w')) :
    Calls Tryd.prog 4 #[.string s] w fun e w' => e = .returned (.bool true) ∧ Below w.heap.size w w' := by
  have HT := hide ht
  clear ht
  go_enter Tryd.func4, Tryd.ntmps4
  go_wp2_with fail
  refine (unhide C1 _ (unhide HT)).mono ?_
  rintro e w1 ⟨rfl, hb1⟩
  go_wp2_with fail
  refine (unhide C2 _).mono ?_
  rintro e w2 ⟨rfl, hb2⟩
  have hb02 := tr2 hb1 hb2
  have hb03 := tr2 hb02 ((Below.refl _ _).alloc (Nat.le_refl _) (Obj.cells #[.int .i64 c, .int .i64 n, .bool b] 28))
  go_wp2_with fail
  refine (hab _ ((unhide HT).below hb03)).mono ?_
  rintro e w3 ⟨rfl, hb3⟩
  go_wp2
  go_ret
  exact ⟨rfl, tr2 hb02 (bel_of hb3)⟩

theorem utfFirsts_walk (s : ByteArray) (w : World) (ht : Tabs w) (hs : s.size ≤ 9223372036854775807) :
    Calls Tryd.prog 4 #[.string s] w fun e w' => e = .returned (.bool true) ∧ Below w.heap.size w w' := by
  by_cases h0 : s.size = 0
  · exact firsts_main s 0 0 false w ht euro_any (hide fun w h => first_empty s w h0) (hide fun w => rfirst_empty s w h0)
  · have hp : 0 < s.size := by omega
    refine firsts_main s (step s.data.toList).1 ((step s.data.toList).2.1 : Int) (step s.data.toList).2.2 w ht euro_any (hide fun w h => firstIs s hs hp w h) (hide fun w => rfirst_some s _ _ _ w hp (hide fun w => ?_))
    exact rat_any s 0 w hs (by omega) hp
end Go.Proofs.YtekkgmgdihlefabDoor
