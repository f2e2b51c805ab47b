/-
  What the small functions of refs do: 'semicolonAt', 'goesOn', 'digitOf', 'bytesOf'.
-/
import Derived.Test.YtakjlolmmoladaaGreatDoorENm
import Derived.Test.YtakjlolmmoladaaGreatDoorHp
namespace Go.Proofs.YtakjlolmmoladaaGreatDoor
open Go.RowKit
set_option linter.unusedVariables false

def semiN (l : List UInt8) : Nat := if [59].isPrefixOf l = true then 1 else 0
def onB (l : List UInt8) : Bool := decide (0 < l.length) && (ltN (dgt l 0) || dgN (dgt l 0) || decide (dgt l 0 = 61))
def candN (k : Nat) (m : List UInt8) (v : Bool) : Nat :=
  if (nmName k).isPrefixOf m = true then
    (if semiN (m.drop (nmName k).length) = 1 then (nmName k).length + 2
     else if nmBare k = false ∨ (v = true ∧ onB (m.drop (nmName k).length) = true) then 0 else (nmName k).length + 1)
  else 0
theorem semi_le (l : List UInt8) : semiN l ≤ 1 := by unfold semiN; split <;> omega

theorem semi_any (s : ByteArray) (w : World) :
    Calls Tryz.prog 90 #[.string s] w fun e w' => e = .returned (.int .i64 (semiN s.data.toList : Int)) ∧ w' = w := by
  have C : Hid (∀ w, Calls Tryz.prog 46 #[.string s, .string ⟨#[59]⟩] w fun e w' => e = .returned (.bool ([59].isPrefixOf s.data.toList)) ∧ w' = w) := fun w => hasPrefix_any s ⟨#[59]⟩ w
  unfold semiN
  cases h : [59].isPrefixOf s.data.toList with
  | true =>
    rw [h] at C
    rw [if_pos rfl]
    clear h
    go_enter Tryz.func90, Tryz.ntmps90
    go_wp2_with fail
    refine (unhide C _).mono ?_
    rintro e w1 ⟨rfl, rfl⟩
    go_wp2
    go_ret
    exact ⟨rfl, rfl⟩
  | false =>
    rw [h] at C
    rw [if_neg (by decide)]
    clear h
    go_enter Tryz.func90, Tryz.ntmps90
    go_wp2_with fail
    refine (unhide C _).mono ?_
    rintro e w1 ⟨rfl, rfl⟩
    go_wp2
    go_ret
    exact ⟨rfl, rfl⟩

theorem goesOn_any (s : ByteArray) (w : World) :
    Calls Tryz.prog 99 #[.string s] w fun e w' => e = .returned (.bool (onB s.data.toList)) ∧ w' = w := by
  unfold onB
  rw [data_len]
  by_cases h0 : s.size = 0
  · have he := is_empty s h0
    have hd : decide (0 < s.size) = false := decide_eq_false (by omega)
    rw [hd]
    go_enter Tryz.func99, Tryz.ntmps99
    go_wp2
    go_ret
    exact ⟨rfl, rfl⟩
  · have hp : 0 < s.size := by omega
    have hpi : (0 : Int) < (s.size : Int) := by omega
    have he := not_empty s hp
    have hd : decide (0 < s.size) = true := decide_eq_true hp
    rw [hd]
    have e := dgt_at s 0 hp
    have C1 := hide (letter_any (dgt s.data.toList 0))
    have C2 := hide (digit_any (dgt s.data.toList 0))
    generalize dgt s.data.toList 0 = b at *
    cases hl : ltN b with
    | true =>
      rw [hl] at C1
      clear hl hd
      go_enter Tryz.func99, Tryz.ntmps99
      go_wp2_with fail
      refine (unhide C1 _).mono ?_
      rintro e w1 ⟨rfl, rfl⟩
      go_wp2
      go_ret
      exact ⟨rfl, rfl⟩
    | false =>
      rw [hl] at C1
      cases hg : dgN b with
      | true =>
        rw [hg] at C2
        clear hl hg hd
        go_enter Tryz.func99, Tryz.ntmps99
        go_wp2_with fail
        refine (unhide C1 _).mono ?_
        rintro e w1 ⟨rfl, rfl⟩
        go_wp2_with fail
        refine (unhide C2 _).mono ?_
        rintro e w1 ⟨rfl, rfl⟩
        go_wp2
        go_ret
        exact ⟨rfl, rfl⟩
      | false =>
        rw [hg] at C2
        have hb : ((b : Int) == 61) = decide (b = 61) := by
          by_cases e : b = 61
          · subst e; rfl
          · rw [bneI (by omega)]; simp [e]
        have HB := hide hb
        clear hl hg hd hb
        go_enter Tryz.func99, Tryz.ntmps99
        go_wp2_with fail
        refine (unhide C1 _).mono ?_
        rintro e w1 ⟨rfl, rfl⟩
        go_wp2_with fail
        refine (unhide C2 _).mono ?_
        rintro e w1 ⟨rfl, rfl⟩
        go_wp2
        go_ret
        exact ⟨by rw [← unhide HB]; rfl, rfl⟩

def digV (b : Nat) : Int := if 48 ≤ b ∧ b ≤ 57 then (b : Int) - 48 else if 97 ≤ b ∧ b ≤ 102 then (b : Int) - 87 else if 65 ≤ b ∧ b ≤ 70 then (b : Int) - 55 else -1
theorem digV_le (b : Nat) : -1 ≤ digV b ∧ digV b ≤ 15 := by
  unfold digV
  repeat' split
  all_goals omega
theorem digitOf_any (b : Nat) (w : World) (hb : b < 256) :
    Calls Tryz.prog 89 #[.int .u8 (b : Int)] w fun e w' => e = .returned (.int .i64 (digV b)) ∧ w' = w := by
  have C := hide (digit_any b)
  unfold digV
  by_cases h1 : 48 ≤ b ∧ b ≤ 57
  · rw [if_pos h1]
    rw [dgN_yes h1] at C
    have i0 : (48 : Int) ≤ (b : Int) := by omega
    have i1 : (b : Int) ≤ 57 := by omega
    clear h1
    go_enter Tryz.func89, Tryz.ntmps89
    go_wp2_with fail
    refine (unhide C _).mono ?_
    rintro e w1 ⟨rfl, rfl⟩
    go_wp2
    go_ret
    exact ⟨rfl, rfl⟩
  rw [if_neg h1]
  rw [dgN_no h1] at C
  by_cases h2 : 97 ≤ b ∧ b ≤ 102
  · rw [if_pos h2]
    have i0 : (97 : Int) ≤ (b : Int) := by omega
    have i1 : (b : Int) ≤ 102 := by omega
    have hf : (b : Int) - 97 + 10 = (b : Int) - 87 := by omega
    have HF := hide hf
    clear h1 h2 hf
    go_enter Tryz.func89, Tryz.ntmps89
    go_wp2_with fail
    refine (unhide C _).mono ?_
    rintro e w1 ⟨rfl, rfl⟩
    go_wp2
    go_ret
    exact ⟨by rw [← unhide HF]; rfl, rfl⟩
  rw [if_neg h2]
  have hna : ¬ 97 ≤ b ∨ ¬ b ≤ 102 := by omega
  by_cases h3 : 65 ≤ b ∧ b ≤ 70
  · rw [if_pos h3]
    have i0 : (65 : Int) ≤ (b : Int) := by omega
    have i1 : (b : Int) ≤ 70 := by omega
    have i2 : decide ((97 : Int) ≤ (b : Int)) = false := by simp; omega
    have hf : (b : Int) - 65 + 10 = (b : Int) - 55 := by omega
    have HF := hide hf
    clear h1 h2 h3 hf hna
    go_enter Tryz.func89, Tryz.ntmps89
    go_wp2_with fail
    refine (unhide C _).mono ?_
    rintro e w1 ⟨rfl, rfl⟩
    go_wp2
    go_ret
    exact ⟨by rw [← unhide HF]; rfl, rfl⟩
  rw [if_neg h3]
  by_cases h4 : 97 ≤ b
  · have i0 : (97 : Int) ≤ (b : Int) := by omega
    have i1 : decide ((b : Int) ≤ 102) = false := by simp; omega
    have i2 : (65 : Int) ≤ (b : Int) := by omega
    have i3 : decide ((b : Int) ≤ 70) = false := by simp; omega
    clear h1 h2 h3 hna
    go_enter Tryz.func89, Tryz.ntmps89
    go_wp2_with fail
    refine (unhide C _).mono ?_
    rintro e w1 ⟨rfl, rfl⟩
    go_wp2
    go_ret
    exact ⟨rfl, rfl⟩
  · have i0 : decide ((97 : Int) ≤ (b : Int)) = false := by simp; omega
    by_cases h5 : 65 ≤ b
    · have i2 : (65 : Int) ≤ (b : Int) := by omega
      have i3 : decide ((b : Int) ≤ 70) = false := by simp; omega
      clear h1 h2 h3 hna h4
      go_enter Tryz.func89, Tryz.ntmps89
      go_wp2_with fail
      refine (unhide C _).mono ?_
      rintro e w1 ⟨rfl, rfl⟩
      go_wp2
      go_ret
      exact ⟨rfl, rfl⟩
    · have i2 : decide ((65 : Int) ≤ (b : Int)) = false := by simp; omega
      clear h1 h2 h3 hna h4 h5
      go_enter Tryz.func89, Tryz.ntmps89
      go_wp2_with fail
      refine (unhide C _).mono ?_
      rintro e w1 ⟨rfl, rfl⟩
      go_wp2
      go_ret
      exact ⟨rfl, rfl⟩
end Go.Proofs.YtakjlolmmoladaaGreatDoor
