/-
  What 'chars.Space', 'Letter', 'Digit' and the reference's do: of every byte, whether it is one.
-/
import Derived.Test.YtcpebhecjlcioaaCPl
namespace Go.Proofs.Ytcpebhecjlcioaa
open Go.RowKit
set_option linter.unusedVariables false

theorem bneI {b : Nat} {k : Int} (h : ¬ (b : Int) = k) : ((b : Int) == k) = false := beq_eq_false_iff_ne.2 h

def ByteIs (f : Nat) (t : Nat → Bool) : Prop := ∀ (b : Nat) (w : World), Calls Try.prog f #[.int .u8 (b : Int)] w fun e w' => e = .returned (.bool (t b)) ∧ w' = w

theorem capital_any : ByteIs 32 upN := by
  intro b w
  by_cases h0 : 65 ≤ b
  · have i0 : (65 : Int) ≤ (b : Int) := by omega
    by_cases h1 : b ≤ 90
    · rw [upN_yes (by omega)]
      have i1 : (b : Int) ≤ 90 := by omega
      go_enter Try.func32, Try.ntmps32
      go_wp2
      go_ret
      exact ⟨rfl, rfl⟩
    · rw [upN_no (by omega)]
      have i1 : decide ((b : Int) ≤ 90) = false := by simp; omega
      clear h1
      go_enter Try.func32, Try.ntmps32
      go_wp2
      go_ret
      exact ⟨rfl, rfl⟩
  · rw [upN_no (by omega)]
    have i0 : decide ((65 : Int) ≤ (b : Int)) = false := by simp; omega
    clear h0
    go_enter Try.func32, Try.ntmps32
    go_wp2
    go_ret
    exact ⟨rfl, rfl⟩

theorem digit_any : ByteIs 50 dgN := by
  intro b w
  by_cases h0 : 48 ≤ b
  · have i0 : (48 : Int) ≤ (b : Int) := by omega
    by_cases h1 : b ≤ 57
    · rw [dgN_yes (by omega)]
      have i1 : (b : Int) ≤ 57 := by omega
      go_enter Try.func50, Try.ntmps50
      go_wp2
      go_ret
      exact ⟨rfl, rfl⟩
    · rw [dgN_no (by omega)]
      have i1 : decide ((b : Int) ≤ 57) = false := by simp; omega
      clear h1
      go_enter Try.func50, Try.ntmps50
      go_wp2
      go_ret
      exact ⟨rfl, rfl⟩
  · rw [dgN_no (by omega)]
    have i0 : decide ((48 : Int) ≤ (b : Int)) = false := by simp; omega
    clear h0
    go_enter Try.func50, Try.ntmps50
    go_wp2
    go_ret
    exact ⟨rfl, rfl⟩

theorem rdigit_any : ByteIs 39 dgN := by
  intro b w
  by_cases h0 : 48 ≤ b
  · have i0 : (48 : Int) ≤ (b : Int) := by omega
    by_cases h1 : b ≤ 57
    · rw [dgN_yes (by omega)]
      have i1 : (b : Int) ≤ 57 := by omega
      go_enter Try.func39, Try.ntmps39
      go_wp2
      go_ret
      exact ⟨rfl, rfl⟩
    · rw [dgN_no (by omega)]
      have i1 : decide ((b : Int) ≤ 57) = false := by simp; omega
      clear h1
      go_enter Try.func39, Try.ntmps39
      go_wp2
      go_ret
      exact ⟨rfl, rfl⟩
  · rw [dgN_no (by omega)]
    have i0 : decide ((48 : Int) ≤ (b : Int)) = false := by simp; omega
    clear h0
    go_enter Try.func39, Try.ntmps39
    go_wp2
    go_ret
    exact ⟨rfl, rfl⟩

theorem letter_any : ByteIs 41 ltN := by
  intro b w
  have C := hide (capital_any b)
  by_cases hu : 65 ≤ b ∧ b ≤ 90
  · rw [ltN_yes (.inl hu)]
    rw [upN_yes hu] at C
    clear hu
    go_enter Try.func41, Try.ntmps41
    go_wp2_with fail
    refine (unhide C _).mono ?_
    rintro e w1 ⟨rfl, rfl⟩
    go_wp2
    go_ret
    exact ⟨rfl, rfl⟩
  rw [upN_no hu] at C
  by_cases h0 : 97 ≤ b
  · have i0 : (97 : Int) ≤ (b : Int) := by omega
    by_cases h1 : b ≤ 122
    · rw [ltN_yes (by omega)]
      have i1 : (b : Int) ≤ 122 := by omega
      clear hu
      go_enter Try.func41, Try.ntmps41
      go_wp2_with fail
      refine (unhide C _).mono ?_
      rintro e w1 ⟨rfl, rfl⟩
      go_wp2
      go_ret
      exact ⟨rfl, rfl⟩
    · rw [ltN_no (by omega)]
      have i1 : decide ((b : Int) ≤ 122) = false := by simp; omega
      clear h1 hu
      go_enter Try.func41, Try.ntmps41
      go_wp2_with fail
      refine (unhide C _).mono ?_
      rintro e w1 ⟨rfl, rfl⟩
      go_wp2
      go_ret
      exact ⟨rfl, rfl⟩
  · rw [ltN_no (by omega)]
    have i0 : decide ((97 : Int) ≤ (b : Int)) = false := by simp; omega
    clear h0 hu
    go_enter Try.func41, Try.ntmps41
    go_wp2_with fail
    refine (unhide C _).mono ?_
    rintro e w1 ⟨rfl, rfl⟩
    go_wp2
    go_ret
    exact ⟨rfl, rfl⟩

theorem rletter_any : ByteIs 38 ltN := by
  intro b w
  by_cases h0 : 65 ≤ b
  · have i0 : (65 : Int) ≤ (b : Int) := by omega
    by_cases h1 : b ≤ 90
    · rw [ltN_yes (by omega)]
      have i1 : (b : Int) ≤ 90 := by omega
      go_enter Try.func38, Try.ntmps38
      go_wp2
      go_ret
      exact ⟨rfl, rfl⟩
    · have i1 : decide ((b : Int) ≤ 90) = false := by simp; omega
      by_cases h2 : 97 ≤ b
      · have i2 : (97 : Int) ≤ (b : Int) := by omega
        by_cases h3 : b ≤ 122
        · rw [ltN_yes (by omega)]
          have i3 : (b : Int) ≤ 122 := by omega
          clear h1
          go_enter Try.func38, Try.ntmps38
          go_wp2
          go_ret
          exact ⟨rfl, rfl⟩
        · rw [ltN_no (by omega)]
          have i3 : decide ((b : Int) ≤ 122) = false := by simp; omega
          clear h1 h3
          go_enter Try.func38, Try.ntmps38
          go_wp2
          go_ret
          exact ⟨rfl, rfl⟩
      · rw [ltN_no (by omega)]
        have i2 : decide ((97 : Int) ≤ (b : Int)) = false := by simp; omega
        clear h1 h2
        go_enter Try.func38, Try.ntmps38
        go_wp2
        go_ret
        exact ⟨rfl, rfl⟩
  · rw [ltN_no (by omega)]
    have i0 : decide ((65 : Int) ≤ (b : Int)) = false := by simp; omega
    have i2 : decide ((97 : Int) ≤ (b : Int)) = false := by simp; omega
    clear h0
    go_enter Try.func38, Try.ntmps38
    go_wp2
    go_ret
    exact ⟨rfl, rfl⟩
end Go.Proofs.Ytcpebhecjlcioaa

