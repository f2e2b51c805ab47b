/-
  The law RefsAt walked: what stands at each place of any text is the document's.
-/
import Derived.Test.YtmiehnknnkcdlaaDoorFAl
import Derived.Test.YtmiehnknnkcdlaaDoorEAl
namespace Go.Proofs.YtmiehnknnkcdlaaDoor
open Go.RowKit
set_option linter.unusedVariables false

set_option maxHeartbeats 2000000 in
theorem refsAt_main (s x : ByteArray) (a m : Int) (v : Bool) (w : World) (ht : Tab4 w) (hs : s.size ≤ 2000) (hm : -10 ≤ m) (hm2 : m ≤ 10000)
    (C1 : Hid (∀ w, Tab4 w → Calls Tryd.prog 10 #[.string s, .int .i64 a, .bool v] w fun e w' => e = .returned (.tuple #[.string x, .int .i64 m]) ∧ Below w.heap.size w w'))
    (C2 : Hid (∀ w, Calls Tryd.prog 11 #[.string s, .int .i64 a, .bool v] w fun e w' => e = .returned (.agg #[.string x, .int .i64 m]) ∧ Below w.heap.size w w')) :
    Calls Tryd.prog 3 #[.string s, .int .i64 a, .bool v] w fun e w' => e = .returned (.bool true) ∧ Below w.heap.size w w' := by
  have HT := hide ht
  have E := hide notin_any
  have hi : ¬ (2000 : Int) < (s.size : Int) := by omega
  have hyy : (x.toList == x.toList) = true := by simp
  have hmm : (m == m) = true := by simp
  clear ht
  go_enter Tryd.func3, Tryd.ntmps3
  go_wp2_with fail
  refine (unhide C1 _ (unhide HT)).mono ?_
  rintro e w2 ⟨rfl, hb2⟩
  go_wp2_with fail
  refine (unhide C2 _).mono ?_
  rintro e w3 ⟨rfl, hb3⟩
  have hb13 := tr2 hb2 hb3
  go_wp2_with fail
  refine (unhide E _ ((unhide HT).below (tr2 hb13 ((Below.refl _ w3).alloc (Nat.le_refl _) _)))).mono ?_
  rintro e w4 ⟨rfl, hb4⟩
  go_wp2
  go_ret
  exact ⟨rfl, tr2 (tr2 hb13 ((Below.refl _ w3).alloc (Nat.le_refl _) _)) hb4⟩

theorem refsAt_walk (s : ByteArray) (a : Int) (v : Bool) (w : World) (ht : Tab4 w) (hs : s.size ≤ 9223372036854775807) (ha : -9223372036854775808 ≤ a ∧ a ≤ 9223372036854775807) :
    Calls Tryd.prog 3 #[.string s, .int .i64 a, .bool v] w fun e w' => e = .returned (.bool true) ∧ Below w.heap.size w w' := by
  by_cases h1 : 2000 < s.size
  · have HT := hide ht
    have E := hide notin_any
    have hi : (2000 : Int) < (s.size : Int) := by omega
    clear ht
    go_enter Tryd.func3, Tryd.ntmps3
    go_wp2_with fail
    refine (unhide E _ (unhide HT)).mono ?_
    rintro e w2 ⟨rfl, hb2⟩
    go_wp2
    go_ret
    exact ⟨rfl, hb2⟩
  · by_cases h2 : a < 0 ∨ (s.size : Int) ≤ a
    · refine refsAt_main s ⟨#[]⟩ a (s.size : Int) v w ht (by omega) (by omega) (by omega) (hide fun w _ => ?_) (hide fun w => ?_)
      · exact (at_none s a v w (by omega) h2).mono fun e w' ⟨h1, h2⟩ => ⟨h1, by rw [h2]; exact Below.refl _ _⟩
      · exact rat_none s a v w (by omega) h2
    · obtain ⟨k, rfl⟩ : ∃ k : Nat, a = (k : Int) := ⟨a.toNat, by omega⟩
      have hk : k < s.size := by omega
      have hl : s.data.toList.drop k ≠ [] := by
        intro e
        have := congrArg List.length e
        rw [List.length_drop, data_len] at this; simp at this; omega
      have hbd := at_bd v hl
      rw [List.length_drop, data_len] at hbd
      exact refsAt_main s _ _ _ v w ht (by omega) (by omega) (by omega) (hide fun w h => at_at s k v w h (by omega) hk) (hide fun w => rat4_any s k v w (by omega) hk)
end Go.Proofs.YtmiehnknnkcdlaaDoor
