/-
  How far the bytes of a scheme, or of anything else that is asked byte by byte, go: the program's and the reference's.
-/
import Derived.Test.YtfdhmhdemfbfeaaGreatDoorVPl
namespace Go.Proofs.YtfdhmhdemfbfeaaGreatDoor
open Go.RowKit
set_option linter.unusedVariables false

/-- How many bytes stand ahead of the first one that is not such. -/
def tkN (p : Nat → Bool) (l : List UInt8) : Nat := (l.takeWhile (fun c => p c.toNat)).length
theorem tkN_le (p : Nat → Bool) (l : List UInt8) : tkN p l ≤ l.length := (List.takeWhile_sublist _).length_le
theorem tkN_nil (p : Nat → Bool) : tkN p [] = 0 := rfl
theorem tkN_yes (p : Nat → Bool) (c : UInt8) (l : List UInt8) (h : p c.toNat = true) : tkN p (c :: l) = tkN p l + 1 := by
  simp [tkN, h]
theorem tkN_no (p : Nat → Bool) (c : UInt8) (l : List UInt8) (h : p c.toNat = false) : tkN p (c :: l) = 0 := by
  simp [tkN, h]
theorem dgt_consS (c : UInt8) (l : List UInt8) (j : Nat) : dgt (c :: l) (j + 1) = dgt l j := rfl
theorem dgt_cons0 (c : UInt8) (l : List UInt8) : dgt (c :: l) 0 = c.toNat := rfl
theorem tkN_is (p : Nat → Bool) : ∀ (l : List UInt8) (k : Nat), k ≤ l.length → (∀ j, j < k → p (dgt l j) = true) → (k = l.length ∨ p (dgt l k) = false) → tkN p l = k
  | [], k, hk, _, _ => by simp at hk; rw [hk]; rfl
  | c :: l, 0, hk, h, he => by
    have : p c.toNat = false := by
      rcases he with h | h
      · simp at h
      · exact h
    exact tkN_no p c l this
  | c :: l, k + 1, hk, h, he => by
    have h0 : p c.toNat = true := h 0 (by omega)
    rw [tkN_yes p c l h0, tkN_is p l k (by simp at hk; exact hk) (fun j hj => h (j + 1) (by omega)) (by
      rcases he with h | h
      · left; simp at h; exact h
      · right; exact h)]
theorem tkN_in (p : Nat → Bool) : ∀ (l : List UInt8) (j : Nat), j < tkN p l → p (dgt l j) = true
  | [], j, h => by simp [tkN] at h
  | c :: l, j, h => by
    cases hc : p c.toNat with
    | false => rw [tkN_no p c l hc] at h; omega
    | true =>
      rw [tkN_yes p c l hc] at h
      cases j with
      | zero => exact hc
      | succ j => exact tkN_in p l j (by omega)
theorem tkN_at (p : Nat → Bool) : ∀ (l : List UInt8), tkN p l < l.length → p (dgt l (tkN p l)) = false
  | [], h => by simp at h
  | c :: l, h => by
    cases hc : p c.toNat with
    | false => rw [tkN_no p c l hc]; exact hc
    | true =>
      rw [tkN_yes p c l hc] at h ⊢
      rw [dgt_consS]
      exact tkN_at p l (by simp at h; exact h)

def osN (b : Nat) : Bool := ltN b || (dgN b || decide (b = 43 ∨ b = 45 ∨ b = 46))
theorem os_lt {b : Nat} (h : ltN b = true) : osN b = true := by simp [osN, h]
theorem os_dg {b : Nat} (h : dgN b = true) : osN b = true := by simp [osN, h]
theorem os_sg {b : Nat} (h : b = 43 ∨ b = 45 ∨ b = 46) : osN b = true := by simp [osN, h]
theorem os_no {b : Nat} (h1 : ltN b = false) (h2 : dgN b = false) (h3 : ¬ (b = 43 ∨ b = 45 ∨ b = 46)) : osN b = false := by
  simp [osN, h1, h2]; omega
/-- How many bytes a scheme would have. -/
def szN (l : List UInt8) : Nat := if 0 < l.length ∧ ltN (dgt l 0) = true then tkN osN l else 0
/-- How many it has; 0: there is none. -/
def schN (l : List UInt8) : Nat := if 0 < szN l ∧ szN l < l.length ∧ dgt l (szN l) = 58 then szN l else 0
theorem szN_no {l : List UInt8} (h : ¬ (0 < l.length ∧ ltN (dgt l 0) = true)) : szN l = 0 := if_neg h
theorem szN_yes {l : List UInt8} (h : 0 < l.length) (h2 : ltN (dgt l 0) = true) : szN l = tkN osN l := if_pos ⟨h, h2⟩
theorem szN_le (l : List UInt8) : szN l ≤ l.length := by
  unfold szN; split
  · exact tkN_le _ _
  · omega
theorem schN_yes {l : List UInt8} (h : 0 < szN l) (h1 : szN l < l.length) (h2 : dgt l (szN l) = 58) : schN l = szN l := if_pos ⟨h, h1, h2⟩
theorem schN_no {l : List UInt8} (h : ¬ (0 < szN l ∧ szN l < l.length ∧ dgt l (szN l) = 58)) : schN l = 0 := if_neg h

set_option maxHeartbeats 1000000 in
theorem ofs_any : ByteIs 101 osN := by
  intro b w
  have C1 := hide (letter_any b)
  have C2 := hide (digit_any b)
  cases h1 : ltN b with
  | true =>
    rw [os_lt h1]
    rw [h1] at C1
    clear h1
    go_enter Tryz.func101, Tryz.ntmps101
    go_wp2_with fail
    refine (unhide C1 _).mono ?_
    rintro e1 w1 ⟨rfl, rfl⟩
    go_wp2
    go_ret
    exact ⟨rfl, rfl⟩
  | false =>
    rw [h1] at C1
    cases h2 : dgN b with
    | true =>
      rw [os_dg h2]
      rw [h2] at C2
      clear h1 h2
      go_enter Tryz.func101, Tryz.ntmps101
      go_wp2_with fail
      refine (unhide C1 _).mono ?_
      rintro e1 w1 ⟨rfl, rfl⟩
      go_wp2_with fail
      refine (unhide C2 _).mono ?_
      rintro e1 w1 ⟨rfl, rfl⟩
      go_wp2
      go_ret
      exact ⟨rfl, rfl⟩
    | false =>
      rw [h2] at C2
      by_cases h3 : b = 43 ∨ b = 45 ∨ b = 46
      · rw [os_sg h3]
        clear h1 h2
        rcases h3 with h | h | h
        all_goals subst h
        all_goals go_enter Tryz.func101, Tryz.ntmps101
        all_goals go_wp2_with fail
        all_goals refine (unhide C1 _).mono ?_
        all_goals rintro e1 w1 ⟨rfl, rfl⟩
        all_goals go_wp2_with fail
        all_goals refine (unhide C2 _).mono ?_
        all_goals rintro e1 w1 ⟨rfl, rfl⟩
        all_goals go_wp2
        all_goals go_ret
        all_goals exact ⟨rfl, rfl⟩
      · rw [os_no h1 h2 h3]
        have i1 : ((b : Int) == 43) = false := bneI (by omega)
        have i2 : ((b : Int) == 45) = false := bneI (by omega)
        have i3 : ((b : Int) == 46) = false := bneI (by omega)
        clear h1 h2 h3
        go_enter Tryz.func101, Tryz.ntmps101
        go_wp2_with fail
        refine (unhide C1 _).mono ?_
        rintro e1 w1 ⟨rfl, rfl⟩
        go_wp2_with fail
        refine (unhide C2 _).mono ?_
        rintro e1 w1 ⟨rfl, rfl⟩
        go_wp2
        go_ret
        exact ⟨rfl, rfl⟩

set_option maxHeartbeats 1000000 in
theorem vsize_any (s : ByteArray) (w : World) (hs : s.size ≤ 9223372036854775807) :
    Calls Tryz.prog 96 #[.string s] w fun e w' => e = .returned (.int .i64 (szN s.data.toList : Int)) ∧ w' = w := by
  by_cases h0 : s.size = 0
  · have he := is_empty s h0
    rw [szN_no (by rw [data_len]; omega)]
    go_enter Tryz.func96, Tryz.ntmps96
    go_wp2
    go_ret
    exact ⟨rfl, rfl⟩
  have hp : 0 < s.size := by omega
  have hpi : (0 : Int) < (s.size : Int) := by omega
  have he := not_empty s hp
  have e := dgt_at s 0 hp
  have C1 := hide (letter_any (dgt s.data.toList 0))
  cases h1 : ltN (dgt s.data.toList 0) with
  | false =>
    rw [szN_no (by rw [h1]; simp)]
    rw [h1] at C1
    clear h1
    generalize dgt s.data.toList 0 = b at *
    go_enter Tryz.func96, Tryz.ntmps96
    go_wp2_with fail
    refine (unhide C1 _).mono ?_
    rintro e1 w1 ⟨rfl, rfl⟩
    go_wp2
    go_ret
    exact ⟨rfl, rfl⟩
  | true =>
    have HZ := hide (tkN_is osN s.data.toList)
    have hz := szN_yes (l := s.data.toList) (by rw [data_len]; exact hp) h1
    rw [data_len] at HZ
    rw [hz]
    rw [h1] at C1
    have CO := hide ofs_any
    clear h1 hz
    generalize dgt s.data.toList 0 = b at *
    go_enter Tryz.func96, Tryz.ntmps96
    go_wp2_with fail
    refine (unhide C1 _).mono ?_
    rintro e1 w1 ⟨rfl, hw1⟩
    obtain rfl : w = w1 := hw1.symm
    clear hw1
    go_wp2
    go_loopw [14] (fun i wr => ∃ k : Nat, k ≤ s.size ∧ i = .int .i64 k ∧ (∀ j, j < k → osN (dgt s.data.toList j) = true) ∧ wr = w) (fun i _ => s.size - (intOf i).toNat)
    case atStart => exact ⟨0, Nat.zero_le _, rfl, fun j hj => absurd hj (Nat.not_lt_zero _), rfl⟩
    case round =>
      clear e
      obtain ⟨k, hk, rfl, hr, hw⟩ := hrel
      have hw' := hw.symm
      subst hw'
      have HR := hide hr
      clear hr hw
      by_cases hp : k < s.size
      · have hpi : (k : Int) < (s.size : Int) := by omega
        have e := dgt_at s k hp
        have CB := hide (unhide CO (dgt s.data.toList k))
        cases ho : osN (dgt s.data.toList k) with
        | true =>
          have HR2 : Hid (∀ j, j < k + 1 → osN (dgt s.data.toList j) = true) := hide (fun j hj => by
            by_cases ej : j = k
            · rw [ej]; exact ho
            · exact unhide HR j (by omega))
          rw [ho] at CB
          clear ho
          generalize dgt s.data.toList k = d at *
          go_wp2_with fail
          refine (unhide CB _).mono ?_
          rintro e1 w1 ⟨rfl, hw1⟩
          obtain rfl : w = w1 := hw1.symm
          go_wp2
          go_roundw
          case rel => exact ⟨k + 1, by omega, by go_num, unhide HR2, by first | rfl | trivial⟩
          case measure => simp [intOf]; omega
        | false =>
          have ht := unhide HZ k hk (unhide HR) (.inr ho)
          rw [ho] at CB
          have HT := hide ht
          clear ho ht
          generalize dgt s.data.toList k = d at *
          go_wp2_with fail
          refine (unhide CB _).mono ?_
          rintro e1 w1 ⟨rfl, hw1⟩
          obtain rfl : w = w1 := hw1.symm
          go_wp2
          go_ret
          exact ⟨by rw [unhide HT]; rfl, rfl⟩
      · have hkn : k = s.size := by omega
        have ht := unhide HZ k hk (unhide HR) (.inl hkn)
        rw [hkn] at ht
        have HT := hide ht
        clear ht
        go_wp2
        go_ret
        exact ⟨by rw [unhide HT]; rfl, rfl⟩
end Go.Proofs.YtfdhmhdemfbfeaaGreatDoor
