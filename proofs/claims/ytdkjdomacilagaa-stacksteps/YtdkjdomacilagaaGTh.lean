/-
  What tags.Void, Special and Ends do.
-/
import Derived.Test.YtdkjdomacilagaaGTg
namespace Go.Proofs.Ytdkjdomacilagaa
open Go.RowKit
set_option linter.unusedVariables false

theorem natI (n k : Nat) : ((n : Int) == (k : Int)) = (n == k) := by
  by_cases h : n = k
  · simp [h]
  · rw [beq_eq_false_iff_ne.2 h, beq_eq_false_iff_ne.2 (by omega)]

set_option maxHeartbeats 1000000 in
theorem special_any (sp : Int) (s : ByteArray) (w : World) :
    Calls Try.prog 105 #[.int .i64 sp, .string s] w fun e w' => e = .returned (.bool (spcB sp s.toList)) ∧ w' = w := by
  have C := hide (group_any s)
  have D := hide (again_any sp s)
  unfold spcB
  by_cases h0 : sp = 0
  · subst h0
    have ha : againN 0 s.toList = 0 := by simp [againN]
    rw [ha, ← special_of, ← natI _ 9, ← natI _ 10, ← natI _ 17, ← natI _ 0]
    clear D ha
    generalize ofN s.toList = n at *
    go_enter Try.func105, Try.ntmps105
    go_wp2_with fail
    refine (unhide C _).mono ?_
    rintro e w1 ⟨rfl, rfl⟩
    go_wp2_with (exact (no_both (by assumption) (by assumption)).elim)
    all_goals (go_ret; refine ⟨?_, rfl⟩; simp_all)
  · have h1 : (sp == 0) = false := beq_eq_false_iff_ne.2 h0
    rw [h1, Bool.false_and, Bool.or_false]
    generalize againN sp s.toList = n at *
    go_enter Try.func105, Try.ntmps105
    go_wp2_with fail
    refine (unhide D _).mono ?_
    rintro e w1 ⟨rfl, rfl⟩
    go_wp2
    go_ret
    exact ⟨rfl, rfl⟩

set_option maxHeartbeats 1000000 in
theorem ends_any (sp : Int) (s : ByteArray) (w : World) :
    Calls Try.prog 88 #[.int .i64 sp, .string s] w fun e w' => e = .returned (.bool (endB sp s.toList)) ∧ w' = w := by
  have D := hide (special_any sp s)
  unfold endB
  by_cases h0 : sp = 0
  · subst h0
    have ha : againN 0 s.toList = 0 := by simp [againN]
    rw [ha]
    clear D ha
    go_enter Try.func88, Try.ntmps88
    go_wp2_with (exact (no_both (by assumption) (by assumption)).elim)
    all_goals (go_ret; refine ⟨?_, rfl⟩; simp_all [inB, endNs])
  · have h1 : (sp == 0) = false := beq_eq_false_iff_ne.2 h0
    unfold spcB at D
    rw [h1, Bool.false_and, Bool.or_false] at D ⊢
    generalize againN sp s.toList = n at *
    go_enter Try.func88, Try.ntmps88
    go_wp2_with fail
    refine (unhide D _).mono ?_
    rintro e w1 ⟨rfl, rfl⟩
    go_wp2
    go_ret
    exact ⟨rfl, rfl⟩
end Go.Proofs.Ytdkjdomacilagaa
