/-
  What 'toks.begins' does, and 'toks.seek' by it: where a < stands first that begins something.
-/
import Derived.Test.YtakjlolmmoladaaGreatDoorCKs
import Derived.Test.YtakjlolmmoladaaGreatDoorUPl
import Derived.Laws.EntriesVeiled
namespace Go.Proofs.YtakjlolmmoladaaGreatDoor
open Go.RowKit
set_option linter.unusedVariables false

def beginsB (l : List UInt8) : Bool := decide (2 ≤ l.length ∧ dgt l 0 = 60) && (decide (dgt l 1 = 33) || (decide (dgt l 1 = 63) || (decide (dgt l 1 = 47 ∧ 2 < l.length) || ltN (dgt l 1))))
theorem begins_no {l : List UInt8} (h : ¬ (2 ≤ l.length ∧ dgt l 0 = 60)) : beginsB l = false := by unfold beginsB; rw [decide_eq_false h]; rfl
theorem begins_is {l : List UInt8} (h : 2 ≤ l.length ∧ dgt l 0 = 60) : beginsB l = (decide (dgt l 1 = 33) || (decide (dgt l 1 = 63) || (decide (dgt l 1 = 47 ∧ 2 < l.length) || ltN (dgt l 1)))) := by unfold beginsB; rw [decide_eq_true h]; rfl

set_option maxHeartbeats 1000000 in
theorem begins_any (s : ByteArray) (w : World) (hs : s.size ≤ 9223372036854775807) :
    Calls Tryz.prog 26 #[.string s] w fun e w' => e = .returned (.bool (beginsB s.data.toList)) ∧ w' = w := by
  by_cases h2 : s.size < 2
  · have hi : (s.size : Int) < 2 := by omega
    rw [begins_no (by rw [data_len]; omega)]
    go_enter Tryz.func26, Tryz.ntmps26
    go_wp2
    go_ret
    exact ⟨rfl, rfl⟩
  have hi : ¬ (s.size : Int) < 2 := by omega
  have hp0 : 0 < s.size := by omega
  have hp1 : 1 < s.size := by omega
  have i0 : (0 : Int) < (s.size : Int) := by omega
  have i1 : (1 : Int) < (s.size : Int) := by omega
  have e0 := dgt_at s 0 hp0
  have e1 := dgt_at s 1 hp1
  have hl := data_len s
  by_cases h60 : dgt s.data.toList 0 = 60
  · rw [begins_is ⟨by omega, h60⟩, hl]
    rw [h60] at e0
    have CL := hide (letter_any (dgt s.data.toList 1))
    clear h60 hl
    generalize dgt s.data.toList 1 = b at *
    by_cases h33 : b = 33
    · subst h33
      rw [decide_eq_true rfl, Bool.true_or]
      go_enter Tryz.func26, Tryz.ntmps26
      go_wp2
      go_ret
      exact ⟨rfl, rfl⟩
    have n33 : ((b : Int) == 33) = false := bneI (by omega)
    rw [decide_eq_false h33, Bool.false_or]
    by_cases h63 : b = 63
    · subst h63
      rw [decide_eq_true rfl, Bool.true_or]
      go_enter Tryz.func26, Tryz.ntmps26
      go_wp2
      go_ret
      exact ⟨rfl, rfl⟩
    have n63 : ((b : Int) == 63) = false := bneI (by omega)
    rw [decide_eq_false h63, Bool.false_or]
    by_cases h47 : b = 47
    · subst h47
      by_cases h3 : 2 < s.size
      · have i2 : (2 : Int) < (s.size : Int) := by omega
        rw [decide_eq_true ⟨rfl, h3⟩, Bool.true_or]
        go_enter Tryz.func26, Tryz.ntmps26
        go_wp2
        go_ret
        exact ⟨rfl, rfl⟩
      · have i2 : decide ((2 : Int) < (s.size : Int)) = false := decide_eq_false (by omega)
        have hlt : ltN 47 = false := by decide
        rw [decide_eq_false (fun h => h3 h.2), Bool.false_or, hlt]
        clear h3
        go_enter Tryz.func26, Tryz.ntmps26
        go_wp2
        go_ret
        exact ⟨rfl, rfl⟩
    have n47 : ((b : Int) == 47) = false := bneI (by omega)
    rw [decide_eq_false (fun h => h47 h.1), Bool.false_or]
    generalize ltN b = lb at *
    clear h33 h63 h47
    go_enter Tryz.func26, Tryz.ntmps26
    go_wp2_with fail
    refine (unhide CL _).mono ?_
    rintro e w1 ⟨rfl, rfl⟩
    go_wp2
    go_ret
    exact ⟨rfl, rfl⟩
  · rw [begins_no (fun h => h60 h.2)]
    generalize dgt s.data.toList 0 = b at *
    have n60 : ((b : Int) == 60) = false := bneI (by omega)
    have m60 : ((b : Int) != 60) = true := by simp; omega
    clear h60 hl
    go_enter Tryz.func26, Tryz.ntmps26
    go_wp2
    go_ret
    exact ⟨rfl, rfl⟩

/-! ### seeking -/
def skF (p : Nat → Bool) : Nat → Nat → Nat
  | 0, k => k
  | f + 1, k => if p k = true then k else skF p f (k + 1)
def seekN (p : Nat → Bool) (n k : Nat) : Nat := skF p (n - k) k
theorem seek_end (p : Nat → Bool) {n k : Nat} (h : n ≤ k) : seekN p n k = k := by unfold seekN; rw [show n - k = 0 by omega]; rfl
theorem seek_hit (p : Nat → Bool) {n k : Nat} (h : p k = true) : seekN p n k = k := by
  unfold seekN
  cases n - k with
  | zero => rfl
  | succ f => rw [skF, if_pos h]
theorem seek_next (p : Nat → Bool) {n k : Nat} (hk : k < n) (h : p k = false) : seekN p n k = seekN p n (k + 1) := by
  unfold seekN
  rw [show n - k = (n - (k + 1)) + 1 by omega, skF, if_neg (by rw [h]; decide)]
theorem seek_to (p : Nat → Bool) (n e : Nat) (he : e ≤ n) (hp : e < n → p e = true) : ∀ (d k : Nat), k + d = e → (∀ j, k ≤ j → j < e → p j = false) → seekN p n k = e
  | 0, k, hk, hn => by
    have : k = e := by omega
    subst this
    by_cases h : k < n
    · exact seek_hit p (hp h)
    · exact seek_end p (by omega)
  | d + 1, k, hk, hn => by
    rw [seek_next p (by omega) (hn k (Nat.le_refl _) (by omega))]
    exact seek_to p n e he hp d (k + 1) (by omega) (fun j h1 h2 => hn j (by omega) h2)

def begP (s : ByteArray) (i : Nat) : Bool := beginsB (s.data.toList.drop i)
set_option maxHeartbeats 1000000 in
theorem data1_any (s : ByteArray) (i g : Nat) (w : World) (hg : w.cell? ⟨g, 0, none⟩ = some (.string s)) (hi : i ≤ s.size) (hs : s.size ≤ 9223372036854775807) :
    Calls Tryz.prog 27 #[.int .i64 (i : Int), .pointer (some ⟨g, 0, none⟩)] w fun e w' => e = .returned (.bool (begP s i)) ∧ w' = w := by
  have hii : (i : Int) ≤ (s.size : Int) := by omega
  have hx := rest_of s i
  have hxs : (s.extract i s.size).size = s.size - i := by simp
  have C := hide (fun w => begins_any (s.extract i s.size) w (by omega))
  have hxd : (s.extract i s.size).data.toList = s.data.toList.drop i := by rw [hx, bs_toList]
  rw [hxd] at C
  unfold begP
  generalize beginsB (s.data.toList.drop i) = b at *
  clear hx hxd
  go_enter Tryz.func27, Tryz.ntmps27
  go_wp2_with fail
  refine (unhide C _).mono ?_
  rintro e w1 ⟨rfl, rfl⟩
  go_wp2
  go_ret
  exact ⟨rfl, rfl⟩

set_option maxHeartbeats 1000000 in
theorem seek_data (s : ByteArray) (i g : Nat) (w : World) (hg : w.cell? ⟨g, 0, none⟩ = some (.string s)) (hi : i ≤ s.size) (hs : s.size ≤ 9223372036854775800) :
    Calls Tryz.prog 21 #[.string s, .int .i64 (i : Int), .func (.func 27) #[] #[.pointer (some ⟨g, 0, none⟩)]] w fun e w' => e = .returned (.int .i64 (seekN (begP s) s.size i : Int)) ∧ w' = w := by
  have HG := hide hg
  clear hg
  go_enter Tryz.func21, Tryz.ntmps21
  go_wp2
  go_loopw [1] (fun a wr => ∃ k : Nat, k ≤ s.size ∧ a = .int .i64 (k : Int) ∧ seekN (begP s) s.size i = seekN (begP s) s.size k ∧ wr = w) (fun a _ => s.size - (intOf a).toNat)
  case atStart => exact ⟨i, hi, rfl, rfl, rfl⟩
  case round =>
    obtain ⟨k, hk, rfl, hr, rfl⟩ := hrel
    have HR := hide hr
    clear hr
    by_cases hp : k < s.size
    · have hpi : (k : Int) < (s.size : Int) := by omega
      have C := hide (fun w h => data1_any s k g w h hk (by omega))
      have hh := @seek_hit (begP s) s.size k
      have hn := @seek_next (begP s) s.size k hp
      generalize begP s k = b at *
      cases b with
      | true =>
        have HV := hide (hh rfl)
        clear hh hn
        go_wp2_with (go_at_call 27; refine (unhide C _ (unhide HG)).mono ?_; rintro e1 w1 ⟨rfl, rfl⟩)
        go_ret
        exact ⟨by rw [unhide HR, unhide HV]; rfl, rfl⟩
      | false =>
        have HV := hide (hn rfl)
        clear hh hn
        go_wp2_with (go_at_call 27; refine (unhide C _ (unhide HG)).mono ?_; rintro e1 w1 ⟨rfl, rfl⟩)
        go_roundw
        case rel => exact ⟨k + 1, by omega, by go_num, by rw [unhide HR, unhide HV], by first | exact rfl | trivial⟩
        case measure => simp [intOf]; omega
    · have HV := hide (@seek_end (begP s) s.size k (by omega))
      go_wp2
      go_ret
      exact ⟨by rw [unhide HR, unhide HV]; rfl, rfl⟩
end Go.Proofs.YtakjlolmmoladaaGreatDoor
