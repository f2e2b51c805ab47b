/-
  The statement TagsFollows, walked.
-/
import Derived.Test.YtheblofbglalfaaLTa
namespace Go.Proofs.Ytheblofbglalfaa
open Go.RowKit
set_option linter.unusedVariables false

/-- What the calls answer, told by a few values. -/
def Tell (sp : Int) (s : ByteArray) (n : Int) (d a c b : Bool) : Prop :=
  (∀ w, Calls Try.prog 7 #[.string s] w fun e w' => e = .returned (.int .i64 n) ∧ w' = w) ∧
  (∀ w, Calls Try.prog 9 #[.string s] w fun e w' => e = .returned (.bool d) ∧ w' = w) ∧
  (∀ w, Calls Try.prog 12 #[.int .i64 0, .string s] w fun e w' => e = .returned (.bool a) ∧ w' = w) ∧
  (∀ w, Calls Try.prog 14 #[.int .i64 sp, .string s] w fun e w' => e = .returned (.bool c) ∧ w' = w) ∧
  (∀ w, Calls Try.prog 12 #[.int .i64 sp, .string s] w fun e w' => e = .returned (.bool b) ∧ w' = w)
def FolIs (sp : Int) (s : ByteArray) : Prop := ∀ w, Calls Try.prog 5 #[.int .i64 sp, .string s] w fun e w' => e = .returned (.bool true) ∧ Below w.heap.size w w'

set_option maxHeartbeats 1000000 in
theorem fol_d_cb (sp : Int) (s : ByteArray) (n : Int) (h10 : (n == 10) = false) (g10 : ¬ n = 10) (H : Tell sp s n true true true true) : FolIs sp s := by
  intro w
  obtain ⟨C1, C2, C3, C4, C5⟩ := H
  have C1 := hide C1
  have C2 := hide C2
  have C3 := hide C3
  have C4 := hide C4
  have C5 := hide C5
  have C6 := hide td_ok
  go_enter Try.func5, Try.ntmps5
  go_wp2_with fail
  refine (unhide C1 _).mono ?_
  rintro e w1 ⟨rfl, rfl⟩
  go_wp2_with fail
  refine (unhide C2 _).mono ?_
  rintro e w1 ⟨rfl, rfl⟩
  go_wp2_with fail
  refine (unhide C3 _).mono ?_
  rintro e w1 ⟨rfl, rfl⟩
  go_wp2_with fail
  refine (unhide C4 _).mono ?_
  rintro e w1 ⟨rfl, rfl⟩
  go_wp2_with fail
  refine (unhide C5 _).mono ?_
  rintro e w1 ⟨rfl, rfl⟩
  go_wp2_with fail
  refine (unhide C6 _).mono ?_
  rintro e w1 ⟨rfl, rfl⟩
  go_wp2
  go_ret
  exact ⟨rfl, Below.refl _ _⟩

set_option maxHeartbeats 1000000 in
theorem fol_d_nb (sp : Int) (s : ByteArray) (n : Int) (h10 : (n == 10) = false) (g10 : ¬ n = 10) (H : Tell sp s n true true false true) : FolIs sp s := by
  intro w
  obtain ⟨C1, C2, C3, C4, C5⟩ := H
  have C1 := hide C1
  have C2 := hide C2
  have C3 := hide C3
  have C4 := hide C4
  have C5 := hide C5
  have C6 := hide td_ok
  go_enter Try.func5, Try.ntmps5
  go_wp2_with fail
  refine (unhide C1 _).mono ?_
  rintro e w1 ⟨rfl, rfl⟩
  go_wp2_with fail
  refine (unhide C2 _).mono ?_
  rintro e w1 ⟨rfl, rfl⟩
  go_wp2_with fail
  refine (unhide C3 _).mono ?_
  rintro e w1 ⟨rfl, rfl⟩
  go_wp2_with fail
  refine (unhide C4 _).mono ?_
  rintro e w1 ⟨rfl, rfl⟩
  go_wp2_with fail
  refine (unhide C6 _).mono ?_
  rintro e w1 ⟨rfl, rfl⟩
  go_wp2
  go_ret
  exact ⟨rfl, Below.refl _ _⟩

set_option maxHeartbeats 1000000 in
theorem fol_d_nn (sp : Int) (s : ByteArray) (n : Int) (h10 : (n == 10) = false) (g10 : ¬ n = 10) (H : Tell sp s n true true false false) : FolIs sp s := by
  intro w
  obtain ⟨C1, C2, C3, C4, C5⟩ := H
  have C1 := hide C1
  have C2 := hide C2
  have C3 := hide C3
  have C4 := hide C4
  have C5 := hide C5
  have C6 := hide td_ok
  go_enter Try.func5, Try.ntmps5
  go_wp2_with fail
  refine (unhide C1 _).mono ?_
  rintro e w1 ⟨rfl, rfl⟩
  go_wp2_with fail
  refine (unhide C2 _).mono ?_
  rintro e w1 ⟨rfl, rfl⟩
  go_wp2_with fail
  refine (unhide C3 _).mono ?_
  rintro e w1 ⟨rfl, rfl⟩
  go_wp2_with fail
  refine (unhide C4 _).mono ?_
  rintro e w1 ⟨rfl, rfl⟩
  go_wp2_with fail
  refine (unhide C6 _).mono ?_
  rintro e w1 ⟨rfl, rfl⟩
  go_wp2
  go_ret
  exact ⟨rfl, Below.refl _ _⟩

set_option maxHeartbeats 1000000 in
theorem fol_d_ten (sp : Int) (s : ByteArray) (H : Tell sp s 10 true true false false) : FolIs sp s := by
  intro w
  obtain ⟨C1, C2, C3, C4, C5⟩ := H
  have C1 := hide C1
  have C2 := hide C2
  have C3 := hide C3
  have C4 := hide C4
  have C5 := hide C5
  have C6 := hide td_ok
  go_enter Try.func5, Try.ntmps5
  go_wp2_with fail
  refine (unhide C1 _).mono ?_
  rintro e w1 ⟨rfl, rfl⟩
  go_wp2_with fail
  refine (unhide C2 _).mono ?_
  rintro e w1 ⟨rfl, rfl⟩
  go_wp2_with fail
  refine (unhide C3 _).mono ?_
  rintro e w1 ⟨rfl, rfl⟩
  go_wp2_with fail
  refine (unhide C4 _).mono ?_
  rintro e w1 ⟨rfl, rfl⟩
  go_wp2_with fail
  refine (unhide C5 _).mono ?_
  rintro e w1 ⟨rfl, rfl⟩
  go_wp2_with fail
  refine (unhide C6 _).mono ?_
  rintro e w1 ⟨rfl, rfl⟩
  go_wp2
  go_ret
  exact ⟨rfl, Below.refl _ _⟩

set_option maxHeartbeats 1000000 in
theorem fol_4_cb (sp : Int) (s : ByteArray) (H : Tell sp s 4 false true true true) : FolIs sp s := by
  intro w
  obtain ⟨C1, C2, C3, C4, C5⟩ := H
  have C1 := hide C1
  have C2 := hide C2
  have C3 := hide C3
  have C4 := hide C4
  have C5 := hide C5
  have C6 := hide td_ok
  go_enter Try.func5, Try.ntmps5
  go_wp2_with fail
  refine (unhide C1 _).mono ?_
  rintro e w1 ⟨rfl, rfl⟩
  go_wp2_with fail
  refine (unhide C2 _).mono ?_
  rintro e w1 ⟨rfl, rfl⟩
  go_wp2_with fail
  refine (unhide C3 _).mono ?_
  rintro e w1 ⟨rfl, rfl⟩
  go_wp2_with fail
  refine (unhide C4 _).mono ?_
  rintro e w1 ⟨rfl, rfl⟩
  go_wp2_with fail
  refine (unhide C5 _).mono ?_
  rintro e w1 ⟨rfl, rfl⟩
  go_wp2_with fail
  refine (unhide C6 _).mono ?_
  rintro e w1 ⟨rfl, rfl⟩
  go_wp2
  go_ret
  exact ⟨rfl, Below.refl _ _⟩

set_option maxHeartbeats 1000000 in
theorem fol_4_nb (sp : Int) (s : ByteArray) (H : Tell sp s 4 false true false true) : FolIs sp s := by
  intro w
  obtain ⟨C1, C2, C3, C4, C5⟩ := H
  have C1 := hide C1
  have C2 := hide C2
  have C3 := hide C3
  have C4 := hide C4
  have C5 := hide C5
  have C6 := hide td_ok
  go_enter Try.func5, Try.ntmps5
  go_wp2_with fail
  refine (unhide C1 _).mono ?_
  rintro e w1 ⟨rfl, rfl⟩
  go_wp2_with fail
  refine (unhide C2 _).mono ?_
  rintro e w1 ⟨rfl, rfl⟩
  go_wp2_with fail
  refine (unhide C3 _).mono ?_
  rintro e w1 ⟨rfl, rfl⟩
  go_wp2_with fail
  refine (unhide C4 _).mono ?_
  rintro e w1 ⟨rfl, rfl⟩
  go_wp2_with fail
  refine (unhide C6 _).mono ?_
  rintro e w1 ⟨rfl, rfl⟩
  go_wp2
  go_ret
  exact ⟨rfl, Below.refl _ _⟩

set_option maxHeartbeats 1000000 in
theorem fol_4_nn (sp : Int) (s : ByteArray) (H : Tell sp s 4 false true false false) : FolIs sp s := by
  intro w
  obtain ⟨C1, C2, C3, C4, C5⟩ := H
  have C1 := hide C1
  have C2 := hide C2
  have C3 := hide C3
  have C4 := hide C4
  have C5 := hide C5
  have C6 := hide td_ok
  go_enter Try.func5, Try.ntmps5
  go_wp2_with fail
  refine (unhide C1 _).mono ?_
  rintro e w1 ⟨rfl, rfl⟩
  go_wp2_with fail
  refine (unhide C2 _).mono ?_
  rintro e w1 ⟨rfl, rfl⟩
  go_wp2_with fail
  refine (unhide C3 _).mono ?_
  rintro e w1 ⟨rfl, rfl⟩
  go_wp2_with fail
  refine (unhide C4 _).mono ?_
  rintro e w1 ⟨rfl, rfl⟩
  go_wp2_with fail
  refine (unhide C6 _).mono ?_
  rintro e w1 ⟨rfl, rfl⟩
  go_wp2
  go_ret
  exact ⟨rfl, Below.refl _ _⟩

set_option maxHeartbeats 1000000 in
theorem fol_6_cb (sp : Int) (s : ByteArray) (H : Tell sp s 6 false true true true) : FolIs sp s := by
  intro w
  obtain ⟨C1, C2, C3, C4, C5⟩ := H
  have C1 := hide C1
  have C2 := hide C2
  have C3 := hide C3
  have C4 := hide C4
  have C5 := hide C5
  have C6 := hide td_ok
  go_enter Try.func5, Try.ntmps5
  go_wp2_with fail
  refine (unhide C1 _).mono ?_
  rintro e w1 ⟨rfl, rfl⟩
  go_wp2_with fail
  refine (unhide C2 _).mono ?_
  rintro e w1 ⟨rfl, rfl⟩
  go_wp2_with fail
  refine (unhide C3 _).mono ?_
  rintro e w1 ⟨rfl, rfl⟩
  go_wp2_with fail
  refine (unhide C4 _).mono ?_
  rintro e w1 ⟨rfl, rfl⟩
  go_wp2_with fail
  refine (unhide C5 _).mono ?_
  rintro e w1 ⟨rfl, rfl⟩
  go_wp2_with fail
  refine (unhide C6 _).mono ?_
  rintro e w1 ⟨rfl, rfl⟩
  go_wp2
  go_ret
  exact ⟨rfl, Below.refl _ _⟩

set_option maxHeartbeats 1000000 in
theorem fol_6_nb (sp : Int) (s : ByteArray) (H : Tell sp s 6 false true false true) : FolIs sp s := by
  intro w
  obtain ⟨C1, C2, C3, C4, C5⟩ := H
  have C1 := hide C1
  have C2 := hide C2
  have C3 := hide C3
  have C4 := hide C4
  have C5 := hide C5
  have C6 := hide td_ok
  go_enter Try.func5, Try.ntmps5
  go_wp2_with fail
  refine (unhide C1 _).mono ?_
  rintro e w1 ⟨rfl, rfl⟩
  go_wp2_with fail
  refine (unhide C2 _).mono ?_
  rintro e w1 ⟨rfl, rfl⟩
  go_wp2_with fail
  refine (unhide C3 _).mono ?_
  rintro e w1 ⟨rfl, rfl⟩
  go_wp2_with fail
  refine (unhide C4 _).mono ?_
  rintro e w1 ⟨rfl, rfl⟩
  go_wp2_with fail
  refine (unhide C6 _).mono ?_
  rintro e w1 ⟨rfl, rfl⟩
  go_wp2
  go_ret
  exact ⟨rfl, Below.refl _ _⟩

set_option maxHeartbeats 1000000 in
theorem fol_6_nn (sp : Int) (s : ByteArray) (H : Tell sp s 6 false true false false) : FolIs sp s := by
  intro w
  obtain ⟨C1, C2, C3, C4, C5⟩ := H
  have C1 := hide C1
  have C2 := hide C2
  have C3 := hide C3
  have C4 := hide C4
  have C5 := hide C5
  have C6 := hide td_ok
  go_enter Try.func5, Try.ntmps5
  go_wp2_with fail
  refine (unhide C1 _).mono ?_
  rintro e w1 ⟨rfl, rfl⟩
  go_wp2_with fail
  refine (unhide C2 _).mono ?_
  rintro e w1 ⟨rfl, rfl⟩
  go_wp2_with fail
  refine (unhide C3 _).mono ?_
  rintro e w1 ⟨rfl, rfl⟩
  go_wp2_with fail
  refine (unhide C4 _).mono ?_
  rintro e w1 ⟨rfl, rfl⟩
  go_wp2_with fail
  refine (unhide C6 _).mono ?_
  rintro e w1 ⟨rfl, rfl⟩
  go_wp2
  go_ret
  exact ⟨rfl, Below.refl _ _⟩

set_option maxHeartbeats 1000000 in
theorem fol_2_cb (sp : Int) (s : ByteArray) (H : Tell sp s 2 false true true true) : FolIs sp s := by
  intro w
  obtain ⟨C1, C2, C3, C4, C5⟩ := H
  have C1 := hide C1
  have C2 := hide C2
  have C3 := hide C3
  have C4 := hide C4
  have C5 := hide C5
  have C6 := hide td_ok
  go_enter Try.func5, Try.ntmps5
  go_wp2_with fail
  refine (unhide C1 _).mono ?_
  rintro e w1 ⟨rfl, rfl⟩
  go_wp2_with fail
  refine (unhide C2 _).mono ?_
  rintro e w1 ⟨rfl, rfl⟩
  go_wp2_with fail
  refine (unhide C3 _).mono ?_
  rintro e w1 ⟨rfl, rfl⟩
  go_wp2_with fail
  refine (unhide C4 _).mono ?_
  rintro e w1 ⟨rfl, rfl⟩
  go_wp2_with fail
  refine (unhide C5 _).mono ?_
  rintro e w1 ⟨rfl, rfl⟩
  go_wp2_with fail
  refine (unhide C6 _).mono ?_
  rintro e w1 ⟨rfl, rfl⟩
  go_wp2
  go_ret
  exact ⟨rfl, Below.refl _ _⟩

set_option maxHeartbeats 1000000 in
theorem fol_2_nb (sp : Int) (s : ByteArray) (H : Tell sp s 2 false true false true) : FolIs sp s := by
  intro w
  obtain ⟨C1, C2, C3, C4, C5⟩ := H
  have C1 := hide C1
  have C2 := hide C2
  have C3 := hide C3
  have C4 := hide C4
  have C5 := hide C5
  have C6 := hide td_ok
  go_enter Try.func5, Try.ntmps5
  go_wp2_with fail
  refine (unhide C1 _).mono ?_
  rintro e w1 ⟨rfl, rfl⟩
  go_wp2_with fail
  refine (unhide C2 _).mono ?_
  rintro e w1 ⟨rfl, rfl⟩
  go_wp2_with fail
  refine (unhide C3 _).mono ?_
  rintro e w1 ⟨rfl, rfl⟩
  go_wp2_with fail
  refine (unhide C4 _).mono ?_
  rintro e w1 ⟨rfl, rfl⟩
  go_wp2_with fail
  refine (unhide C6 _).mono ?_
  rintro e w1 ⟨rfl, rfl⟩
  go_wp2
  go_ret
  exact ⟨rfl, Below.refl _ _⟩

set_option maxHeartbeats 1000000 in
theorem fol_2_nn (sp : Int) (s : ByteArray) (H : Tell sp s 2 false true false false) : FolIs sp s := by
  intro w
  obtain ⟨C1, C2, C3, C4, C5⟩ := H
  have C1 := hide C1
  have C2 := hide C2
  have C3 := hide C3
  have C4 := hide C4
  have C5 := hide C5
  have C6 := hide td_ok
  go_enter Try.func5, Try.ntmps5
  go_wp2_with fail
  refine (unhide C1 _).mono ?_
  rintro e w1 ⟨rfl, rfl⟩
  go_wp2_with fail
  refine (unhide C2 _).mono ?_
  rintro e w1 ⟨rfl, rfl⟩
  go_wp2_with fail
  refine (unhide C3 _).mono ?_
  rintro e w1 ⟨rfl, rfl⟩
  go_wp2_with fail
  refine (unhide C4 _).mono ?_
  rintro e w1 ⟨rfl, rfl⟩
  go_wp2_with fail
  refine (unhide C6 _).mono ?_
  rintro e w1 ⟨rfl, rfl⟩
  go_wp2
  go_ret
  exact ⟨rfl, Below.refl _ _⟩

set_option maxHeartbeats 1000000 in
theorem fol_none_cb (sp : Int) (s : ByteArray) (n : Int) (a : Bool) (h4 : (n == 4) = false) (h6 : (n == 6) = false) (h2 : (n == 2) = false) (h10 : (n == 10) = false) (g10 : ¬ n = 10) (H : Tell sp s n false a true true) : FolIs sp s := by
  intro w
  obtain ⟨C1, C2, C3, C4, C5⟩ := H
  have C1 := hide C1
  have C2 := hide C2
  have C3 := hide C3
  have C4 := hide C4
  have C5 := hide C5
  have C6 := hide td_ok
  go_enter Try.func5, Try.ntmps5
  go_wp2_with fail
  refine (unhide C1 _).mono ?_
  rintro e w1 ⟨rfl, rfl⟩
  go_wp2_with fail
  refine (unhide C2 _).mono ?_
  rintro e w1 ⟨rfl, rfl⟩
  go_wp2_with fail
  refine (unhide C4 _).mono ?_
  rintro e w1 ⟨rfl, rfl⟩
  go_wp2_with fail
  refine (unhide C5 _).mono ?_
  rintro e w1 ⟨rfl, rfl⟩
  go_wp2_with fail
  refine (unhide C6 _).mono ?_
  rintro e w1 ⟨rfl, rfl⟩
  go_wp2
  go_ret
  exact ⟨rfl, Below.refl _ _⟩

set_option maxHeartbeats 1000000 in
theorem fol_none_nb (sp : Int) (s : ByteArray) (n : Int) (a : Bool) (h4 : (n == 4) = false) (h6 : (n == 6) = false) (h2 : (n == 2) = false) (h10 : (n == 10) = false) (g10 : ¬ n = 10) (H : Tell sp s n false a false true) : FolIs sp s := by
  intro w
  obtain ⟨C1, C2, C3, C4, C5⟩ := H
  have C1 := hide C1
  have C2 := hide C2
  have C3 := hide C3
  have C4 := hide C4
  have C5 := hide C5
  have C6 := hide td_ok
  go_enter Try.func5, Try.ntmps5
  go_wp2_with fail
  refine (unhide C1 _).mono ?_
  rintro e w1 ⟨rfl, rfl⟩
  go_wp2_with fail
  refine (unhide C2 _).mono ?_
  rintro e w1 ⟨rfl, rfl⟩
  go_wp2_with fail
  refine (unhide C4 _).mono ?_
  rintro e w1 ⟨rfl, rfl⟩
  go_wp2_with fail
  refine (unhide C6 _).mono ?_
  rintro e w1 ⟨rfl, rfl⟩
  go_wp2
  go_ret
  exact ⟨rfl, Below.refl _ _⟩

set_option maxHeartbeats 1000000 in
theorem fol_none_nn (sp : Int) (s : ByteArray) (n : Int) (a : Bool) (h4 : (n == 4) = false) (h6 : (n == 6) = false) (h2 : (n == 2) = false) (h10 : (n == 10) = false) (g10 : ¬ n = 10) (H : Tell sp s n false a false false) : FolIs sp s := by
  intro w
  obtain ⟨C1, C2, C3, C4, C5⟩ := H
  have C1 := hide C1
  have C2 := hide C2
  have C3 := hide C3
  have C4 := hide C4
  have C5 := hide C5
  have C6 := hide td_ok
  go_enter Try.func5, Try.ntmps5
  go_wp2_with fail
  refine (unhide C1 _).mono ?_
  rintro e w1 ⟨rfl, rfl⟩
  go_wp2_with fail
  refine (unhide C2 _).mono ?_
  rintro e w1 ⟨rfl, rfl⟩
  go_wp2_with fail
  refine (unhide C4 _).mono ?_
  rintro e w1 ⟨rfl, rfl⟩
  go_wp2_with fail
  refine (unhide C6 _).mono ?_
  rintro e w1 ⟨rfl, rfl⟩
  go_wp2
  go_ret
  exact ⟨rfl, Below.refl _ _⟩

set_option maxHeartbeats 1000000 in
theorem fol_none_ten (sp : Int) (s : ByteArray) (a : Bool) (H : Tell sp s 10 false a false false) : FolIs sp s := by
  intro w
  obtain ⟨C1, C2, C3, C4, C5⟩ := H
  have C1 := hide C1
  have C2 := hide C2
  have C3 := hide C3
  have C4 := hide C4
  have C5 := hide C5
  have C6 := hide td_ok
  go_enter Try.func5, Try.ntmps5
  go_wp2_with fail
  refine (unhide C1 _).mono ?_
  rintro e w1 ⟨rfl, rfl⟩
  go_wp2_with fail
  refine (unhide C2 _).mono ?_
  rintro e w1 ⟨rfl, rfl⟩
  go_wp2_with fail
  refine (unhide C4 _).mono ?_
  rintro e w1 ⟨rfl, rfl⟩
  go_wp2_with fail
  refine (unhide C5 _).mono ?_
  rintro e w1 ⟨rfl, rfl⟩
  go_wp2_with fail
  refine (unhide C6 _).mono ?_
  rintro e w1 ⟨rfl, rfl⟩
  go_wp2
  go_ret
  exact ⟨rfl, Below.refl _ _⟩

theorem follows_walk (sp : Int) (s : ByteArray) : FolIs sp s := by
  have H : Tell sp s (ofN s.toList : Nat) (inB s.toList voidNs) (spcB 0 s.toList) (endB sp s.toList) (spcB sp s.toList) := ⟨group_any s, void_any s, special_any 0 s, ends_any sp s, special_any sp s⟩
  have F1 := follows_spc s.toList
  have F2 := endB_spc sp s.toList
  have F3 := format_spc sp s.toList
  generalize spcB 0 s.toList = a at *
  generalize spcB sp s.toList = b at *
  generalize endB sp s.toList = c at *
  generalize inB s.toList voidNs = d at *
  generalize ofN s.toList = n at *
  by_cases h10 : n = 10
  · subst h10
    have hb : b = false := by cases b <;> simp_all
    subst hb
    have hc : c = false := by cases c <;> simp_all
    subst hc
    cases d with
    | true =>
      have ha : a = true := by simpa using F1
      subst ha
      exact fol_d_ten sp s H
    | false => exact fol_none_ten sp s a H
  have i10 : ((n : Int) == 10) = false := beq_eq_false_iff_ne.2 (by omega)
  have j10 : ¬ (n : Int) = 10 := by omega
  cases d with
  | true =>
    have ha : a = true := by simpa using F1
    subst ha
    cases c with
    | true =>
      have hb : b = true := by simpa using F2
      subst hb
      exact fol_d_cb sp s (n : Int) i10 j10 H
    | false =>
      cases b with
      | true => exact fol_d_nb sp s (n : Int) i10 j10 H
      | false => exact fol_d_nn sp s (n : Int) i10 j10 H
  | false =>
    by_cases h4 : n = 4
    · subst h4
      have ha : a = true := by simpa using F1
      subst ha
      cases c with
      | true =>
        have hb : b = true := by simpa using F2
        subst hb
        exact fol_4_cb sp s  H
      | false =>
        cases b with
        | true => exact fol_4_nb sp s  H
        | false => exact fol_4_nn sp s  H
    have i4 : ((n : Int) == 4) = false := beq_eq_false_iff_ne.2 (by omega)
    by_cases h6 : n = 6
    · subst h6
      have ha : a = true := by simpa using F1
      subst ha
      cases c with
      | true =>
        have hb : b = true := by simpa using F2
        subst hb
        exact fol_6_cb sp s  H
      | false =>
        cases b with
        | true => exact fol_6_nb sp s  H
        | false => exact fol_6_nn sp s  H
    have i6 : ((n : Int) == 6) = false := beq_eq_false_iff_ne.2 (by omega)
    by_cases h2 : n = 2
    · subst h2
      have ha : a = true := by simpa using F1
      subst ha
      cases c with
      | true =>
        have hb : b = true := by simpa using F2
        subst hb
        exact fol_2_cb sp s  H
      | false =>
        cases b with
        | true => exact fol_2_nb sp s  H
        | false => exact fol_2_nn sp s  H
    have i2 : ((n : Int) == 2) = false := beq_eq_false_iff_ne.2 (by omega)
    cases c with
    | true =>
      have hb : b = true := by simpa using F2
      subst hb
      exact fol_none_cb sp s (n : Int) a i4 i6 i2 i10 j10 H
    | false =>
      cases b with
      | true => exact fol_none_nb sp s (n : Int) a i4 i6 i2 i10 j10 H
      | false => exact fol_none_nn sp s (n : Int) a i4 i6 i2 i10 j10 H
end Go.Proofs.Ytheblofbglalfaa
