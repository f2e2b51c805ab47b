/-
  What 'refs.Name' and 'refs.Number' do: of every name its character, of every number its character.
-/
import Derived.Test.YtakjlolmmoladaaGreatDoorEPl
namespace Go.Proofs.YtakjlolmmoladaaGreatDoor
open Go.RowKit
set_option linter.unusedVariables false

theorem numC_no {n : Int} (h : n ≤ 0 ∨ isC n = false) : numC n = 65533 := by rw [numC, if_pos h]
theorem numC_old {n : Int} (h0 : 128 ≤ n) (h1 : n < 160) (h2 : ¬ oldAt (n - 128).toNat = 0) : numC n = oldAt (n - 128).toNat := by
  rw [numC, if_neg (by rw [isC_mk (by omega)]; simp; omega), if_pos ⟨h0, h1, h2⟩]
theorem numC_self {n : Int} (h0 : 0 < n) (hc : isC n = true) (h2 : ¬ (128 ≤ n ∧ n < 160 ∧ oldAt (n - 128).toNat ≠ 0)) : numC n = n := by
  rw [numC, if_neg (by rw [hc]; simp; omega), if_neg h2]

set_option maxHeartbeats 400000 in
theorem number_any (n : Int) (w : World) (ht : OTab w) :
    Calls Tryz.prog 71 #[.int .i64 n] w fun e w' => e = .returned (.int .i64 (numC n)) ∧ Below w.heap.size w w' := by
  have HT := hide ht
  clear ht
  by_cases h0 : n ≤ 0
  · rw [numC_no (.inl h0)]
    go_enter Tryz.func71, Tryz.ntmps71
    go_wp2
    go_ret
    exact ⟨rfl, Below.refl _ _⟩
  have h0' : ¬ n ≤ 0 := h0
  by_cases h1 : 1114111 < n
  · rw [numC_no (.inr (isC_no (by omega)))]
    go_enter Tryz.func71, Tryz.ntmps71
    go_wp2
    go_ret
    exact ⟨rfl, Below.refl _ _⟩
  by_cases h2 : 55296 ≤ n
  · by_cases h3 : n ≤ 57343
    · rw [numC_no (.inr (isC_no (by omega)))]
      go_enter Tryz.func71, Tryz.ntmps71
      go_wp2
      go_ret
      exact ⟨rfl, Below.refl _ _⟩
    · rw [numC_self (by omega) (isC_mk (by omega)) (by omega)]
      have h4 : 128 ≤ n := by omega
      have h5 : ¬ n < 160 := by omega
      have h6 : decide (n ≤ 57343) = false := by simp; omega
      have h7 : decide (n < 160) = false := by simp; omega
      clear h3
      go_enter Tryz.func71, Tryz.ntmps71
      go_wp2
      go_ret
      exact ⟨rfl, Below.refl _ _⟩
  have h2' : decide (55296 ≤ n) = false := by simp; omega
  by_cases h4 : 128 ≤ n
  · by_cases h5 : n < 160
    · obtain ⟨j, hj⟩ : ∃ j : Nat, (n - 128).toNat = j := ⟨_, rfl⟩
      have hj32 : j < 32 := by omega
      have c1 := unhide HT j hj32
      have i0 : 0 ≤ n - 128 := by omega
      have i1 : n - 128 < 32 := by omega
      by_cases ho : oldAt j = 0
      · rw [numC_self (by omega) (isC_mk (by omega)) (by rw [hj]; simp [ho])]
        rw [ho] at c1
        clear h2 h1 h0
        go_enter Tryz.func71, Tryz.ntmps71
        go_wp2
        go_ret
        exact ⟨rfl, Below.refl _ _⟩
      · rw [numC_old h4 h5 (by rw [hj]; exact ho), hj]
        have hb : (oldAt j != 0) = true := by simpa using ho
        have hb2 : (oldAt j == 0) = false := by simpa using ho
        clear h2 h1 h0 ho
        go_enter Tryz.func71, Tryz.ntmps71
        go_wp2
        go_ret
        exact ⟨rfl, Below.refl _ _⟩
    · rw [numC_self (by omega) (isC_mk (by omega)) (by omega)]
      have h7 : decide (n < 160) = false := by simp; omega
      clear h2 h5
      go_enter Tryz.func71, Tryz.ntmps71
      go_wp2
      go_ret
      exact ⟨rfl, Below.refl _ _⟩
  · rw [numC_self (by omega) (isC_mk (by omega)) (by omega)]
    have h7 : decide (128 ≤ n) = false := by simp; omega
    clear h2 h4
    go_enter Tryz.func71, Tryz.ntmps71
    go_wp2
    go_ret
    exact ⟨rfl, Below.refl _ _⟩
end Go.Proofs.YtakjlolmmoladaaGreatDoor
