/-
  What small functions of the reference of layer 4 do: 'at', 'value'; and 'refs.nameFor'.
-/
import Derived.Test.YtmiehnknnkcdlaaDoorESm
namespace Go.Proofs.YtmiehnknnkcdlaaDoor
open Go.RowKit
set_option linter.unusedVariables false

/-- The byte at a place; 0 where there is none. -/
def atB (l : List UInt8) (k : Nat) : Nat := if k < l.length then dgt l k else 0
theorem rat_at (s : ByteArray) (k : Nat) (w : World) (hk : k ≤ 9223372036854775807) (hs : s.size ≤ 9223372036854775807) :
    Calls Tryd.prog 28 #[.string s, .int .i64 (k : Int)] w fun e w' => e = .returned (.int .u8 (atB s.data.toList k : Int)) ∧ w' = w := by
  have i0 : ¬ (k : Int) < 0 := by omega
  unfold atB
  rw [data_len]
  by_cases h : k < s.size
  · rw [if_pos h]
    have i1 : (k : Int) < (s.size : Int) := by omega
    have i2 : ¬ (s.size : Int) ≤ (k : Int) := by omega
    have e := dgt_at s k h
    generalize dgt s.data.toList k = b at *
    go_enter Tryd.func28, Tryd.ntmps28
    go_wp2
    go_ret
    exact ⟨rfl, rfl⟩
  · rw [if_neg h]
    have i2 : (s.size : Int) ≤ (k : Int) := by omega
    go_enter Tryd.func28, Tryd.ntmps28
    go_wp2
    go_ret
    exact ⟨rfl, rfl⟩

def valN (b : Nat) : Int := if 48 ≤ b ∧ b ≤ 57 then (b : Int) - 48 else if 97 ≤ b ∧ b ≤ 102 then (b : Int) - 87 else if 65 ≤ b ∧ b ≤ 70 then (b : Int) - 55 else 99
theorem val_dig (b : Nat) : (0 ≤ digV b → valN b = digV b) ∧ (digV b < 0 → valN b = 99) := by
  unfold valN digV
  repeat' split
  all_goals omega
theorem value_any (b : Nat) (w : World) (hb : b < 256) :
    Calls Tryd.prog 48 #[.int .u8 (b : Int)] w fun e w' => e = .returned (.int .i64 (valN b)) ∧ w' = w := by
  unfold valN
  by_cases h1 : 48 ≤ b ∧ b ≤ 57
  · rw [if_pos h1]
    have i0 : (48 : Int) ≤ (b : Int) := by omega
    have i1 : (b : Int) ≤ 57 := by omega
    clear h1
    go_enter Tryd.func48, Tryd.ntmps48
    go_wp2
    go_ret
    exact ⟨rfl, rfl⟩
  rw [if_neg h1]
  by_cases h2 : 97 ≤ b ∧ b ≤ 102
  · rw [if_pos h2]
    have i0 : (48 : Int) ≤ (b : Int) := by omega
    have i1 : decide ((b : Int) ≤ 57) = false := decide_eq_false (by omega)
    have i2 : (97 : Int) ≤ (b : Int) := by omega
    have i3 : (b : Int) ≤ 102 := by omega
    clear h1 h2
    go_enter Tryd.func48, Tryd.ntmps48
    go_wp2
    go_ret
    exact ⟨rfl, rfl⟩
  rw [if_neg h2]
  by_cases h3 : 65 ≤ b ∧ b ≤ 70
  · rw [if_pos h3]
    have i0 : (48 : Int) ≤ (b : Int) := by omega
    have i1 : decide ((b : Int) ≤ 57) = false := decide_eq_false (by omega)
    have i2 : decide ((97 : Int) ≤ (b : Int)) = false := decide_eq_false (by omega)
    have i4 : (65 : Int) ≤ (b : Int) := by omega
    have i5 : (b : Int) ≤ 70 := by omega
    clear h1 h2 h3
    go_enter Tryd.func48, Tryd.ntmps48
    go_wp2
    go_ret
    exact ⟨rfl, rfl⟩
  rw [if_neg h3]
  by_cases a1 : 48 ≤ b
  · have i0 : (48 : Int) ≤ (b : Int) := by omega
    have i1 : decide ((b : Int) ≤ 57) = false := decide_eq_false (by omega)
    by_cases a2 : 97 ≤ b
    · have i2 : (97 : Int) ≤ (b : Int) := by omega
      have i3 : decide ((b : Int) ≤ 102) = false := decide_eq_false (by omega)
      have i4 : (65 : Int) ≤ (b : Int) := by omega
      have i5 : decide ((b : Int) ≤ 70) = false := decide_eq_false (by omega)
      clear h1 h2 h3
      go_enter Tryd.func48, Tryd.ntmps48
      go_wp2
      go_ret
      exact ⟨rfl, rfl⟩
    · have i2 : decide ((97 : Int) ≤ (b : Int)) = false := decide_eq_false (by omega)
      by_cases a3 : 65 ≤ b
      · have i4 : (65 : Int) ≤ (b : Int) := by omega
        have i5 : decide ((b : Int) ≤ 70) = false := decide_eq_false (by omega)
        clear h1 h2 h3 a2
        go_enter Tryd.func48, Tryd.ntmps48
        go_wp2
        go_ret
        exact ⟨rfl, rfl⟩
      · have i4 : decide ((65 : Int) ≤ (b : Int)) = false := decide_eq_false (by omega)
        clear h1 h2 h3 a2 a3
        go_enter Tryd.func48, Tryd.ntmps48
        go_wp2
        go_ret
        exact ⟨rfl, rfl⟩
  · have i0 : decide ((48 : Int) ≤ (b : Int)) = false := decide_eq_false (by omega)
    have i2 : decide ((97 : Int) ≤ (b : Int)) = false := decide_eq_false (by omega)
    have i4 : decide ((65 : Int) ≤ (b : Int)) = false := decide_eq_false (by omega)
    clear h1 h2 h3 a1
    go_enter Tryd.func48, Tryd.ntmps48
    go_wp2
    go_ret
    exact ⟨rfl, rfl⟩

/-- The name that is written for a character. -/
def forN (c : Int) (v : Bool) : List UInt8 :=
  if c = 38 then [97, 109, 112] else if c = 160 then [110, 98, 115, 112] else if c = 60 then [108, 116] else if c = 62 then [103, 116] else if c = 34 ∧ v = true then [113, 117, 111, 116] else []
theorem nameFor_any (c : Int) (v : Bool) (w : World) :
    Calls Tryd.prog 35 #[.int .i32 c, .bool v] w fun e w' => e = .returned (.string (bs (forN c v))) ∧ w' = w := by
  unfold forN
  by_cases h0 : c = 38
  · subst h0
    rw [if_pos rfl]
    go_enter Tryd.func35, Tryd.ntmps35
    go_wp2
    go_ret
    exact ⟨rfl, rfl⟩
  have n0 : (c == 38) = false := beq_eq_false_iff_ne.2 h0
  by_cases h1 : c = 160
  · subst h1
    rw [if_neg (by decide), if_pos rfl]
    go_enter Tryd.func35, Tryd.ntmps35
    go_wp2
    go_ret
    exact ⟨rfl, rfl⟩
  have n1 : (c == 160) = false := beq_eq_false_iff_ne.2 h1
  by_cases h2 : c = 60
  · subst h2
    rw [if_neg (by decide), if_neg (by decide), if_pos rfl]
    go_enter Tryd.func35, Tryd.ntmps35
    go_wp2
    go_ret
    exact ⟨rfl, rfl⟩
  have n2 : (c == 60) = false := beq_eq_false_iff_ne.2 h2
  by_cases h3 : c = 62
  · subst h3
    rw [if_neg (by decide), if_neg (by decide), if_neg (by decide), if_pos rfl]
    go_enter Tryd.func35, Tryd.ntmps35
    go_wp2
    go_ret
    exact ⟨rfl, rfl⟩
  have n3 : (c == 62) = false := beq_eq_false_iff_ne.2 h3
  rw [if_neg h0, if_neg h1, if_neg h2, if_neg h3]
  by_cases h4 : c = 34
  · subst h4
    cases v with
    | true =>
      rw [if_pos ⟨rfl, rfl⟩]
      go_enter Tryd.func35, Tryd.ntmps35
      go_wp2
      go_ret
      exact ⟨rfl, rfl⟩
    | false =>
      rw [if_neg (by simp)]
      go_enter Tryd.func35, Tryd.ntmps35
      go_wp2
      go_ret
      exact ⟨rfl, rfl⟩
  · have n4 : (c == 34) = false := beq_eq_false_iff_ne.2 h4
    rw [if_neg (fun h => h4 h.1)]
    clear h0 h1 h2 h3 h4
    go_enter Tryd.func35, Tryd.ntmps35
    go_wp2
    go_ret
    exact ⟨rfl, rfl⟩
end Go.Proofs.YtmiehnknnkcdlaaDoor
