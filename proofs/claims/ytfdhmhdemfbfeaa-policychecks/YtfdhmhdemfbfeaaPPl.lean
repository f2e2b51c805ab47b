/-
  What pen and its reference make of texts, as plain functions of lists of bytes.
-/
import Derived.Test.YtfdhmhdemfbfeaaMgB
import Derived.Test.YtfdhmhdemfbfeaaUPl
namespace Go.Proofs.Ytfdhmhdemfbfeaa
open Go.RowKit
set_option linter.unusedVariables false

def smN (b : Nat) : Bool := decide (97 ≤ b ∧ b ≤ 122)
def okN (b : Nat) : Bool := smN b || (dgN b || (decide (b = 45) || decide (b = 58)))
def moreN (b : Nat) : Bool := decide ((48 ≤ b ∧ b ≤ 58) ∨ b = 45)
theorem ok_more (b : Nat) : okN b = (smN b || moreN b) := by
  unfold okN dgN moreN
  cases smN b with
  | true => rfl
  | false =>
    simp only [Bool.false_or]
    by_cases h : (48 ≤ b ∧ b ≤ 58) ∨ b = 45
    · rw [decide_eq_true h]
      by_cases h1 : 48 ≤ b ∧ b ≤ 57
      · simp [h1]
      · by_cases h2 : b = 45
        · simp [h2]
        · have : b = 58 := by omega
          simp [this]
    · rw [decide_eq_false h, decide_eq_false (by omega), decide_eq_false (by omega), decide_eq_false (by omega)]; rfl
def gdN (b : Nat) : Bool := decide (b ≠ 0 ∧ b ≠ 13)
def allN (p : Nat → Bool) (l : List UInt8) : Bool := l.all fun c => p c.toNat
theorem allN_nil (p : Nat → Bool) : allN p [] = true := rfl
theorem allN_step (p : Nat → Bool) {l : List UInt8} {k : Nat} (h : k < l.length) : allN p (l.drop k) = (p (dgt l k) && allN p (l.drop (k + 1))) := by
  obtain ⟨c, hc, hn⟩ := drop_at l k h
  rw [hc, ← hn]; rfl
theorem allN_end (p : Nat → Bool) {l : List UInt8} {k : Nat} (h : l.length ≤ k) : allN p (l.drop k) = true := by
  rw [List.drop_eq_nil_of_le h]; rfl
def nameB (l : List UInt8) : Bool := decide (0 < l.length ∧ l.length ≤ 24) && (smN (dgt l 0) && allN okN l)
def goodB (l : List UInt8) : Bool := rightB l && allN gdN l
theorem smN_yes {b : Nat} (h : 97 ≤ b ∧ b ≤ 122) : smN b = true := decide_eq_true h
theorem smN_no {b : Nat} (h : ¬ (97 ≤ b ∧ b ≤ 122)) : smN b = false := decide_eq_false h

theorem small_any : ByteIs 79 smN := by
  intro b w
  by_cases h1 : 97 ≤ b
  · have i1 : (97 : Int) ≤ (b : Int) := by omega
    by_cases h2 : b ≤ 122
    · have i2 : (b : Int) ≤ 122 := by omega
      rw [smN_yes ⟨h1, h2⟩]
      go_enter Try.func79, Try.ntmps79
      go_wp2
      go_ret
      exact ⟨rfl, rfl⟩
    · have i2 : decide ((b : Int) ≤ 122) = false := decide_eq_false (by omega)
      rw [smN_no (by omega)]
      clear h2
      go_enter Try.func79, Try.ntmps79
      go_wp2
      go_ret
      exact ⟨rfl, rfl⟩
  · have i1 : decide ((97 : Int) ≤ (b : Int)) = false := decide_eq_false (by omega)
    rw [smN_no (by omega)]
    clear h1
    go_enter Try.func79, Try.ntmps79
    go_wp2
    go_ret
    exact ⟨rfl, rfl⟩
/-- The variable that the test of names captures. -/
def Cap (g : Nat) (w : World) : Prop := w.cell? ⟨g, 0, none⟩ = some (.func (.func 79) #[] #[])
theorem sign_any (b g : Nat) (w : World) (hg : Cap g w) :
    Calls Try.prog 81 #[.int .u8 (b : Int), .pointer (some ⟨g, 0, none⟩)] w fun e w' => e = .returned (.bool (okN b)) ∧ w' = w := by
  unfold Cap at hg
  unfold okN
  have CS := hide (small_any b)
  have CD := hide (digit_any b)
  generalize smN b = sb at *
  generalize dgN b = db at *
  cases sb with
  | true =>
    rw [Bool.true_or]
    go_enter Try.func81, Try.ntmps81
    go_wp2_with (first
      | (go_at_call 79; refine (unhide CS _).mono ?_; rintro e w1 ⟨rfl, rfl⟩)
      | (go_at_call 82; refine (unhide CD _).mono ?_; rintro e w1 ⟨rfl, rfl⟩))
    go_ret
    exact ⟨rfl, rfl⟩
  | false =>
    rw [Bool.false_or]
    cases db with
    | true =>
      rw [Bool.true_or]
      go_enter Try.func81, Try.ntmps81
      go_wp2_with (first
        | (go_at_call 79; refine (unhide CS _).mono ?_; rintro e w1 ⟨rfl, rfl⟩)
        | (go_at_call 82; refine (unhide CD _).mono ?_; rintro e w1 ⟨rfl, rfl⟩))
      go_ret
      exact ⟨rfl, rfl⟩
    | false =>
      rw [Bool.false_or]
      by_cases h1 : b = 45
      · subst h1
        rw [decide_eq_true rfl, Bool.true_or]
        go_enter Try.func81, Try.ntmps81
        go_wp2_with (first
          | (go_at_call 79; refine (unhide CS _).mono ?_; rintro e w1 ⟨rfl, rfl⟩)
          | (go_at_call 82; refine (unhide CD _).mono ?_; rintro e w1 ⟨rfl, rfl⟩))
        go_ret
        exact ⟨rfl, rfl⟩
      · have n1 : ((b : Int) == 45) = false := bneI (by omega)
        rw [decide_eq_false h1, Bool.false_or]
        by_cases h2 : b = 58
        · subst h2
          rw [decide_eq_true rfl]
          go_enter Try.func81, Try.ntmps81
          go_wp2_with (first
            | (go_at_call 79; refine (unhide CS _).mono ?_; rintro e w1 ⟨rfl, rfl⟩)
            | (go_at_call 82; refine (unhide CD _).mono ?_; rintro e w1 ⟨rfl, rfl⟩))
          go_ret
          exact ⟨rfl, rfl⟩
        · have n2 : ((b : Int) == 58) = false := bneI (by omega)
          rw [decide_eq_false h2]
          clear h1 h2
          go_enter Try.func81, Try.ntmps81
          go_wp2_with (first
            | (go_at_call 79; refine (unhide CS _).mono ?_; rintro e w1 ⟨rfl, rfl⟩)
            | (go_at_call 82; refine (unhide CD _).mono ?_; rintro e w1 ⟨rfl, rfl⟩))
          go_ret
          exact ⟨rfl, rfl⟩

set_option maxHeartbeats 1000000 in
theorem every_name (s : ByteArray) (g : Nat) (w : World) (hg : Cap g w) (hs : s.size ≤ 9223372036854775807) :
    Calls Try.prog 80 #[.string s, .func (.func 81) #[] #[.pointer (some ⟨g, 0, none⟩)]] w fun e w' => e = .returned (.bool (allN okN s.data.toList)) ∧ w' = w := by
  have HG := hide hg
  clear hg
  go_enter Try.func80, Try.ntmps80
  go_wp2
  go_loopw [8] (fun i wr => ∃ k : Nat, k ≤ s.size ∧ i = .int .i64 k ∧ allN okN s.data.toList = allN okN (s.data.toList.drop k) ∧ wr = w) (fun i _ => s.size - (intOf i).toNat)
  case atStart => exact ⟨0, Nat.zero_le _, rfl, rfl, rfl⟩
  case round =>
    obtain ⟨k, hk, rfl, hr, rfl⟩ := hrel
    have HR := hide hr
    clear hr
    by_cases hp : k < s.size
    · have hpi : (k : Int) < (s.size : Int) := by omega
      have e := dgt_at s k hp
      have hst := allN_step okN (l := s.data.toList) (k := k) (by rw [data_len]; exact hp)
      have C := hide (fun w h => sign_any (dgt s.data.toList k) g w h)
      have HST := hide hst
      clear hst
      generalize dgt s.data.toList k = b at *
      cases ho : okN b with
      | true =>
        rw [ho] at C HST
        clear ho
        go_wp2_with (go_at_call 81; refine (unhide C _ (unhide HG)).mono ?_; rintro e1 w1 ⟨rfl, rfl⟩)
        go_roundw
        case rel => exact ⟨k + 1, by omega, by go_num, by rw [unhide HR, unhide HST]; rfl, by first | exact rfl | trivial⟩
        case measure => simp [intOf]; omega
      | false =>
        rw [ho] at C HST
        clear ho
        go_wp2_with (go_at_call 81; refine (unhide C _ (unhide HG)).mono ?_; rintro e1 w1 ⟨rfl, rfl⟩)
        go_ret
        exact ⟨by rw [unhide HR, unhide HST]; rfl, rfl⟩
    · have he : allN okN s.data.toList = true := by rw [unhide HR]; exact allN_end _ (by rw [data_len]; omega)
      have HE := hide he
      clear he
      go_wp2
      go_ret
      exact ⟨by rw [unhide HE]; rfl, rfl⟩
end Go.Proofs.Ytfdhmhdemfbfeaa
