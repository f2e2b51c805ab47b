/-
  The four statements of layer 7, walked.
-/
import Derived.Test.YtheblofbglalfaaGTh
import Derived.Test.YtheblofbglalfaaGTt
namespace Go.Proofs.Ytheblofbglalfaa
open Go.RowKit
set_option linter.unusedVariables false

theorem b_same (b : Bool) : (b == b) = true := by cases b <;> rfl
theorem i_same (i : Int) : (i == i) = true := by simp

theorem td_g (w : World) : Calls Try.prog 7 #[.string ⟨#[116, 100]⟩] w fun e w' => e = .returned (.int .i64 2) ∧ w' = w := by
  have h : ofN (ByteArray.toList ⟨#[116, 100]⟩) = 2 := by rw [Lib.toList_data]; decide +kernel
  have := group_any ⟨#[116, 100]⟩ w
  rw [h] at this; exact this
theorem td_s (w : World) : Calls Try.prog 12 #[.int .i64 0, .string ⟨#[116, 100]⟩] w fun e w' => e = .returned (.bool true) ∧ w' = w := by
  have h : spcB 0 (ByteArray.toList ⟨#[116, 100]⟩) = true := by rw [Lib.toList_data]; decide +kernel
  have := special_any 0 ⟨#[116, 100]⟩ w
  rw [h] at this; exact this
theorem td_e0 (w : World) : Calls Try.prog 14 #[.int .i64 0, .string ⟨#[116, 100]⟩] w fun e w' => e = .returned (.bool true) ∧ w' = w := by
  have h : endB 0 (ByteArray.toList ⟨#[116, 100]⟩) = true := by rw [Lib.toList_data]; decide +kernel
  have := ends_any 0 ⟨#[116, 100]⟩ w
  rw [h] at this; exact this
theorem td_e1 (w : World) : Calls Try.prog 14 #[.int .i64 1, .string ⟨#[116, 100]⟩] w fun e w' => e = .returned (.bool false) ∧ w' = w := by
  have h : endB 1 (ByteArray.toList ⟨#[116, 100]⟩) = false := by rw [Lib.toList_data]; decide +kernel
  have := ends_any 1 ⟨#[116, 100]⟩ w
  rw [h] at this; exact this
theorem td_b (w : World) : Calls Try.prog 16 #[.string ⟨#[98]⟩] w fun e w' => e = .returned (.bool true) ∧ w' = w := by
  have h : inB (ByteArray.toList ⟨#[98]⟩) brkNs = true := by rw [Lib.toList_data]; decide +kernel
  have := breaks_any ⟨#[98]⟩ w
  rw [h] at this; exact this
theorem td_a (w : World) : Calls Try.prog 18 #[.int .i64 2, .string ⟨#[109, 105]⟩] w fun e w' => e = .returned (.int .i64 1) ∧ w' = w := by
  have h : againN 2 (ByteArray.toList ⟨#[109, 105]⟩) = 1 := by rw [Lib.toList_data]; decide +kernel
  have := again_any 2 ⟨#[109, 105]⟩ w
  rw [h] at this; exact this

set_option maxHeartbeats 1000000 in
theorem td_ok (w : World) : Calls Try.prog 11 #[] w fun e w' => e = .returned (.bool true) ∧ w' = w := by
  have C1 := hide td_g
  have C2 := hide td_s
  have C3 := hide td_e0
  have C4 := hide td_e1
  have C5 := hide td_b
  have C6 := hide td_a
  go_enter Try.func11, Try.ntmps11
  go_wp2_with fail
  refine (unhide C1 _).mono ?_
  rintro e w1 ⟨rfl, rfl⟩
  go_wp2_with fail
  refine (unhide C2 _).mono ?_
  rintro e w1 ⟨rfl, rfl⟩
  go_wp2_with fail
  refine (unhide C3 _).mono ?_
  rintro e w1 ⟨rfl, rfl⟩
  go_wp2_with fail
  refine (unhide C4 _).mono ?_
  rintro e w1 ⟨rfl, rfl⟩
  go_wp2_with fail
  refine (unhide C5 _).mono ?_
  rintro e w1 ⟨rfl, rfl⟩
  go_wp2_with fail
  refine (unhide C6 _).mono ?_
  rintro e w1 ⟨rfl, rfl⟩
  go_wp2
  go_ret
  exact ⟨rfl, rfl⟩

set_option maxHeartbeats 1000000 in
theorem groups_walk (s : ByteArray) (w : World) : Calls Try.prog 3 #[.string s] w fun e w' => e = .returned (.bool true) ∧ Below w.heap.size w w' := by
  have C1 := hide (group_any s)
  have C2 := hide (of_any s)
  have C3 := hide (void_any s)
  have C4 := hide (rvoid_any s)
  have C5 := hide td_ok
  generalize ofN s.toList = n at *
  generalize inB s.toList voidNs = b at *
  have e1 := i_same (n : Int)
  have e2 := b_same b
  go_enter Try.func3, Try.ntmps3
  go_wp2_with fail
  refine (unhide C1 _).mono ?_
  rintro e w1 ⟨rfl, rfl⟩
  go_wp2_with fail
  refine (unhide C2 _).mono ?_
  rintro e w1 ⟨rfl, hb1⟩
  go_wp2_with fail
  refine (unhide C3 _).mono ?_
  rintro e w2 ⟨rfl, rfl⟩
  go_wp2_with fail
  refine (unhide C4 _).mono ?_
  rintro e w2 ⟨rfl, hb2⟩
  go_wp2_with fail
  refine (unhide C5 _).mono ?_
  rintro e w3 ⟨rfl, rfl⟩
  go_wp2
  go_ret
  exact ⟨rfl, tr2 hb1 hb2⟩

set_option maxHeartbeats 1000000 in
theorem kinds_walk (sp : Int) (s : ByteArray) (w : World) : Calls Try.prog 4 #[.int .i64 sp, .string s] w fun e w' => e = .returned (.bool true) ∧ Below w.heap.size w w' := by
  have C1 := hide (special_any sp s)
  have C2 := hide (rspecial_any sp s)
  have C3 := hide (ends_any sp s)
  have C4 := hide (rends_any sp s)
  have C5 := hide (breaks_any s)
  have C6 := hide (rbreaks_any s)
  have C7 := hide (again_any sp s)
  have C8 := hide (ragain_any sp s)
  have C9 := hide td_ok
  generalize spcB sp s.toList = a at *
  generalize endB sp s.toList = b at *
  generalize inB s.toList brkNs = c at *
  generalize againN sp s.toList = n at *
  have e1 := i_same n
  have e2 := b_same a
  have e3 := b_same b
  have e4 := b_same c
  go_enter Try.func4, Try.ntmps4
  go_wp2_with fail
  refine (unhide C1 _).mono ?_
  rintro e w1 ⟨rfl, rfl⟩
  go_wp2_with fail
  refine (unhide C2 _).mono ?_
  rintro e v2 ⟨rfl, hb2⟩
  go_wp2_with fail
  refine (unhide C3 _).mono ?_
  rintro e w1 ⟨rfl, rfl⟩
  go_wp2_with fail
  refine (unhide C4 _).mono ?_
  rintro e v4 ⟨rfl, hb4⟩
  go_wp2_with fail
  refine (unhide C5 _).mono ?_
  rintro e w1 ⟨rfl, rfl⟩
  go_wp2_with fail
  refine (unhide C6 _).mono ?_
  rintro e v6 ⟨rfl, hb6⟩
  go_wp2_with fail
  refine (unhide C7 _).mono ?_
  rintro e w1 ⟨rfl, rfl⟩
  go_wp2_with fail
  refine (unhide C8 _).mono ?_
  rintro e v8 ⟨rfl, hb8⟩
  go_wp2_with fail
  refine (unhide C9 _).mono ?_
  rintro e w3 ⟨rfl, rfl⟩
  go_wp2
  go_ret
  exact ⟨rfl, tr2 (tr3 hb2 hb4 hb6) hb8⟩

set_option maxHeartbeats 1000000 in
theorem spaces_walk (sp : Int) (s : ByteArray) (w : World) : Calls Try.prog 6 #[.int .i64 sp, .string s] w fun e w' => e = .returned (.bool true) ∧ Below w.heap.size w w' := by
  have C5 := hide td_ok
  by_cases h : 0 ≤ sp ∧ sp ≤ 2
  · have h1 := h.1
    have h2 := h.2
    clear h
    go_enter Try.func6, Try.ntmps6
    go_wp2_with fail
    refine (unhide C5 _).mono ?_
    rintro e w1 ⟨rfl, rfl⟩
    go_wp2
    go_ret
    exact ⟨rfl, Below.refl _ _⟩
  · have hn := none_spaces h s.toList
    have C1 := hide (special_any sp s)
    have C2 := hide (ends_any sp s)
    have C3 := hide (again_any sp s)
    rw [hn.2.1] at C1
    rw [hn.2.2] at C2
    rw [hn.1] at C3
    clear hn
    by_cases h1 : 0 ≤ sp
    · have h2 : ¬ sp ≤ 2 := fun e => h ⟨h1, e⟩
      have h2' : decide (sp ≤ 2) = false := decide_eq_false h2
      clear h h2
      go_enter Try.func6, Try.ntmps6
      go_wp2_with fail
      refine (unhide C1 _).mono ?_
      rintro e w1 ⟨rfl, rfl⟩
      go_wp2_with fail
      refine (unhide C2 _).mono ?_
      rintro e w1 ⟨rfl, rfl⟩
      go_wp2_with fail
      refine (unhide C3 _).mono ?_
      rintro e w1 ⟨rfl, rfl⟩
      go_wp2_with fail
      refine (unhide C5 _).mono ?_
      rintro e w1 ⟨rfl, rfl⟩
      go_wp2
      go_ret
      exact ⟨rfl, Below.refl _ _⟩
    · have h1' : decide (0 ≤ sp) = false := decide_eq_false h1
      clear h h1
      go_enter Try.func6, Try.ntmps6
      go_wp2_with fail
      refine (unhide C1 _).mono ?_
      rintro e w1 ⟨rfl, rfl⟩
      go_wp2_with fail
      refine (unhide C2 _).mono ?_
      rintro e w1 ⟨rfl, rfl⟩
      go_wp2_with fail
      refine (unhide C3 _).mono ?_
      rintro e w1 ⟨rfl, rfl⟩
      go_wp2_with fail
      refine (unhide C5 _).mono ?_
      rintro e w1 ⟨rfl, rfl⟩
      go_wp2
      go_ret
      exact ⟨rfl, Below.refl _ _⟩
end Go.Proofs.Ytheblofbglalfaa
