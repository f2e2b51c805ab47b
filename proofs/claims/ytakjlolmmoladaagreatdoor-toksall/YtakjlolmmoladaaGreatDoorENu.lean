/-
  What 'refs.numberAt' does: the number of the reference with which a text begins, and how many bytes that has.
-/
import Derived.Test.YtakjlolmmoladaaGreatDoorENd
import Derived.Test.YtakjlolmmoladaaGreatDoorENt
import Derived.Test.YtakjlolmmoladaaGreatDoorENx
import Derived.Test.YtakjlolmmoladaaGreatDoorENy
namespace Go.Proofs.YtakjlolmmoladaaGreatDoor
open Go.RowKit
set_option linter.unusedVariables false

theorem numberAt_any (s : ByteArray) (w : World) (hs : s.size ≤ 9223372036854775000) :
    Calls Tryz.prog 70 #[.string s] w fun e w' => e = .returned (numV s.data.toList) ∧ w' = w := by
  unfold numV numAt
  cases hpre : [38, 35].isPrefixOf s.data.toList with
  | false =>
    rw [if_neg (by decide)]
    have C := hide (pre2 s)
    rw [hpre] at C
    clear hpre
    go_enter Tryz.func70, Tryz.ntmps70
    go_wp2_with fail
    refine (unhide C _).mono ?_
    rintro e w1 ⟨rfl, rfl⟩
    go_wp2
    go_ret2
    exact ⟨rfl, rfl⟩
  | true =>
    rw [if_pos rfl]
    have hl2 := pre2_len hpre
    rw [data_len] at hl2
    by_cases h2 : 2 < s.size
    · by_cases n1 : dgt s.data.toList 2 = 120
      · have hh : isHex s.data.toList = true := by simp only [isHex, decide_eq_true_eq]; rw [data_len]; exact ⟨h2, .inl n1⟩
        rw [hh, if_pos rfl]
        exact num_x s w hs hpre h2 n1
      · by_cases n2 : dgt s.data.toList 2 = 88
        · have hh : isHex s.data.toList = true := by simp only [isHex, decide_eq_true_eq]; rw [data_len]; exact ⟨h2, .inr n2⟩
          rw [hh, if_pos rfl]
          exact num_X s w hs hpre h2 n2
        · have hh : isHex s.data.toList = false := by simp only [isHex, decide_eq_false_iff_not]; rw [data_len]; omega
          rw [hh, if_neg (by decide)]
          exact num_ten s w hs hpre h2 n1 n2
    · have hh : isHex s.data.toList = false := by simp only [isHex, decide_eq_false_iff_not]; rw [data_len]; omega
      rw [hh, if_neg (by decide)]
      exact num_short s w hpre (by omega)
end Go.Proofs.YtakjlolmmoladaaGreatDoor
