/-
  The reference's Plain, scheme and first of layer 15.
-/
import Derived.Test.YtfdhmhdemfbfeaaGreatDoorVSz
namespace Go.Proofs.YtfdhmhdemfbfeaaGreatDoor
open Go.RowKit
set_option linter.unusedVariables false

/-- Where what is left begins, and where it ends. -/
theorem trL_drop (l : List UInt8) (k : Nat) (hk : k ≤ l.length) (h : ∀ j, j < k → dgt l j ≤ 32) (he : k = l.length ∨ 32 < dgt l k) : trL l = l.drop k := by
  induction k generalizing l with
  | zero =>
    rw [List.drop_zero]
    exact trL_done l (by rcases he with h | h; exact .inl h.symm; exact .inr h)
  | succ k ih =>
    rw [trL_next l (by omega) (h 0 (by omega)), ih (l.drop 1) (by rw [List.length_drop]; omega) (fun j hj => by rw [dgt_drop]; exact h (1 + j) (by omega)) (by
      rw [dgt_drop, List.length_drop, Nat.add_comm 1 k]
      rcases he with h | h
      · left; omega
      · exact .inr h), List.drop_drop, Nat.add_comm 1 k]
theorem trR_take (l : List UInt8) : ∀ (n k : Nat), k + n = l.length → (∀ j, k ≤ j → j < l.length → dgt l j ≤ 32) → (k = 0 ∨ 32 < dgt l (k - 1)) → trR l = l.take k
  := by
  intro n
  induction n generalizing l with
  | zero =>
    intro k hk h he
    have hkl : k = l.length := by omega
    rw [hkl, List.take_length]
    refine trR_done l ?_
    rcases he with h | h
    · left; omega
    · right; rw [← hkl]; exact h
  | succ n ih =>
    intro k hk h he
    rw [trR_next l (by omega) (h _ (by omega) (by omega))]
    have hl : (l.take (l.length - 1)).length = l.length - 1 := by rw [List.length_take]; omega
    have hd : ∀ j, j < l.length - 1 → dgt (l.take (l.length - 1)) j = dgt l j := fun j hj => by
      unfold dgt; rw [List.getD, List.getD, List.getElem?_take_of_lt hj]
    rw [ih (l.take (l.length - 1)) k (by omega) (fun j h1 h2 => by rw [hl] at h2; rw [hd j h2]; exact h j h1 (by omega)) (by
      rcases he with h0 | h0
      · exact .inl h0
      · by_cases hk0 : k = 0
        · exact .inl hk0
        · right; rw [hd (k - 1) (by omega)]; exact h0), List.take_take, Nat.min_eq_left (by omega)]

/-- What the reference has put together, when it stands at place i. -/
def rpK (l : List UInt8) (a i : Nat) : List UInt8 := ((l.drop a).take (i - a)).filter kpB
theorem rpK_0 (l : List UInt8) (a : Nat) : rpK l a a = [] := by simp [rpK]
theorem rp_at (l : List UInt8) (a i : Nat) (h : i < l.length) (ha : a ≤ i) : (l.drop a).take (i + 1 - a) = (l.drop a).take (i - a) ++ [byt (dgt l i)] := by
  have := take_at (l.drop a) (i - a) (by rw [List.length_drop]; omega)
  rw [dgt_drop, show a + (i - a) = i by omega] at this
  rw [show i + 1 - a = i - a + 1 by omega, this]
theorem rpK_yes (l : List UInt8) (a i : Nat) (h : i < l.length) (ha : a ≤ i) (hb : ¬ (dgt l i = 9 ∨ dgt l i = 10 ∨ dgt l i = 13)) : rpK l a (i + 1) = rpK l a i ++ [byt (dgt l i)] := by
  rw [rpK, rp_at l a i h ha, List.filter_append]
  simp [rpK, kp_yes (dgt_lt l i) hb]
theorem rpK_no (l : List UInt8) (a i : Nat) (h : i < l.length) (ha : a ≤ i) (hb : dgt l i = 9 ∨ dgt l i = 10 ∨ dgt l i = 13) : rpK l a (i + 1) = rpK l a i := by
  rw [rpK, rp_at l a i h ha, List.filter_append]
  simp [rpK, kp_no (dgt_lt l i) hb]
theorem rpK_len (l : List UInt8) (a i : Nat) : (rpK l a i).length ≤ l.length := by
  have h1 : (rpK l a i).length ≤ ((l.drop a).take (i - a)).length := List.length_filter_le _ _
  rw [List.length_take, List.length_drop] at h1
  omega
theorem rpK_all (l : List UInt8) (a z : Nat) (haz : a ≤ z) (hz : z ≤ l.length) (h1 : ∀ j, j < a → dgt l j ≤ 32) (h2 : a = l.length ∨ 32 < dgt l a) (h3 : ∀ j, z ≤ j → j < l.length → dgt l j ≤ 32) (h4 : z = a ∨ 32 < dgt l (z - 1)) : plL l = rpK l a z := by
  rw [plL, rpK, cut2, trL_drop l a (by omega) h1 h2]
  rw [trR_take (l.drop a) (l.length - z) (z - a) (by rw [List.length_drop]; omega) (fun j hj hj2 => by rw [List.length_drop] at hj2; rw [dgt_drop]; exact h3 _ (by omega) (by omega)) (by
    rw [dgt_drop]
    rcases h4 with h | h
    · left; omega
    · by_cases e : z = a
      · left; omega
      · right; rw [show a + (z - a - 1) = z - 1 by omega]; exact h)]

set_option maxHeartbeats 2000000 in
theorem vrplain_any (s : ByteArray) (w : World) (hs : s.size ≤ 100000) :
    Calls Tryz.prog 76 #[.string s] w fun e w' => e = .returned (.string (bs (plL s.data.toList))) ∧ Below w.heap.size w w' := by
  have HF := hide (rpK_all s.data.toList)
  rw [data_len] at HF
  go_enter Tryz.func76, Tryz.ntmps76
  go_wp2
  go_loopw [3] (fun i wr => ∃ k : Nat, k ≤ s.size ∧ i = .int .i64 k ∧ (∀ j, j < k → dgt s.data.toList j ≤ 32) ∧ wr = w) (fun i _ => s.size - (intOf i).toNat)
  case atStart => exact ⟨0, Nat.zero_le _, rfl, fun j hj => absurd hj (Nat.not_lt_zero _), rfl⟩
  case round =>
    obtain ⟨a, hk, rfl, hr, hw⟩ := hrel
    have hw' := hw.symm
    subst hw'
    have HR := hide hr
    clear hr hw
    by_cases hgo : a < s.size ∧ dgt s.data.toList a ≤ 32
    · obtain ⟨hp, h32⟩ := hgo
      have hpi : (a : Int) < (s.size : Int) := by omega
      have e := dgt_at s a hp
      have HR2 : Hid (∀ j, j < a + 1 → dgt s.data.toList j ≤ 32) := hide (fun j hj => by
        by_cases ej : j = a
        · rw [ej]; exact h32
        · exact unhide HR j (by omega))
      have hi : ((dgt s.data.toList a : Nat) : Int) < 33 := by omega
      generalize dgt s.data.toList a = d at *
      go_wp2
      go_roundw
      case rel => exact ⟨a + 1, by omega, by go_num, unhide HR2, by first | rfl | trivial⟩
      case measure => simp [intOf]; omega
    · have hst : Hid (a = s.size ∨ 32 < dgt s.data.toList a) := hide (by
        by_cases h : a < s.size
        · right; have : ¬ dgt s.data.toList a ≤ 32 := fun x => hgo ⟨h, x⟩
          omega
        · left; omega)
      by_cases hp : a < s.size
      · have hpi : (a : Int) < (s.size : Int) := by omega
        have e := dgt_at s a hp
        have hi : decide (((dgt s.data.toList a : Nat) : Int) < 33) = false := by
          have : ¬ dgt s.data.toList a ≤ 32 := fun x => hgo ⟨hp, x⟩
          simp; omega
        clear hgo
        generalize hdd : dgt s.data.toList a = d at *
        have HDD := hide hdd
        clear hdd
        go_wp2
        clear e hi
        go_loopw [4] (fun i wr => ∃ z : Nat, a < z ∧ z ≤ s.size ∧ i = .int .i64 z ∧ (∀ j, z ≤ j → j < s.size → dgt s.data.toList j ≤ 32) ∧ wr = w) (fun i _ => (intOf i).toNat)
        case atStart => exact ⟨s.size, hp, Nat.le_refl _, rfl, fun j h1 h2 => by omega, rfl⟩
        case round =>
          obtain ⟨z, haz, hz, rfl, hr, hw⟩ := hrel
          have hw' := hw.symm
          subst hw'
          have HZ := hide hr
          clear hr hw
          have hzi : (a : Int) < (z : Int) := by omega
          have hz1 : (1 : Int) ≤ (z : Int) := by omega
          have hkz : z - 1 < s.size := by omega
          have e := dgt_at s (z - 1) hkz
          have hin : ((z : Int) - 1).toNat = z - 1 := by omega
          have hin2 : (z : Int) - 1 < (s.size : Int) := by omega
          have hin0 : (0 : Int) ≤ (z : Int) - 1 := by omega
          by_cases h32 : dgt s.data.toList (z - 1) ≤ 32
          · have hza : a < z - 1 := by
              by_cases ez : z - 1 = a
              · rw [ez] at h32
                have h9 := unhide hst
                rw [unhide HDD] at h32
                omega
              · omega
            have HZ2 : Hid (∀ j, z - 1 ≤ j → j < s.size → dgt s.data.toList j ≤ 32) := hide (fun j h1 h2 => by
              by_cases ej : j = z - 1
              · rw [ej]; exact h32
              · exact unhide HZ j (by omega) h2)
            have hi : ((dgt s.data.toList (z - 1) : Nat) : Int) < 33 := by omega
            generalize dgt s.data.toList (z - 1) = c at *
            go_wp2
            go_roundw
            case rel => exact ⟨z - 1, hza, by omega, by first | go_num | (congr 1; omega), unhide HZ2, by first | rfl | trivial⟩
            case measure => simp [intOf]; omega
          · have hi : decide (((dgt s.data.toList (z - 1) : Nat) : Int) < 33) = false := by simp; omega
            have HL : Hid (z = a ∨ 32 < dgt s.data.toList (z - 1)) := hide (.inr (by omega))
            clear h32
            generalize hcc : dgt s.data.toList (z - 1) = c at *
            have HCC := hide hcc
            clear hcc
            go_wp2
            clear e hi hin hin2 hin0
            go_loopw [5, 6] (fun o i wr => ∃ k : Nat, a ≤ k ∧ k ≤ z ∧ i = .int .i64 k ∧ o = .string (bs (rpK s.data.toList a k)) ∧ Below w.heap.size w wr) (fun _ i _ => z - (intOf i).toNat)
            case atStart => exact ⟨a, Nat.le_refl _, by omega, rfl, by rw [rpK_0]; rfl, Below.refl _ _⟩
            case round =>
              obtain ⟨k, hak, hk, rfl, rfl, hbw⟩ := hrel
              by_cases hp : k < z
              · have hpi : (k : Int) < (z : Int) := by omega
                have hps : k < s.size := by omega
                have hpsi : (k : Int) < (s.size : Int) := by omega
                have e := dgt_at s k hps
                have hkl : k < s.data.toList.length := by rw [data_len]; exact hps
                have hyes := rpK_yes s.data.toList a k hkl hak
                have hno := rpK_no s.data.toList a k hkl hak
                have hlen := rpK_len s.data.toList a k
                rw [data_len, ← bs_size] at hlen
                have hone := one_at s k hps
                have hone' := congrArg ByteArray.size hone
                rw [bs_size] at hone'
                have hblt := dgt_lt s.data.toList k
                generalize dgt s.data.toList k = d at *
                generalize hx : bs (rpK s.data.toList a k) = x at *
                have HX := hide hx
                have HO := hide hone
                clear hx hone
                by_cases h9 : d = 9 ∨ d = 10 ∨ d = 13
                · have HN := hide (hno h9)
                  clear hyes hno hkl
                  rcases h9 with h | h | h
                  all_goals subst h
                  all_goals go_wp2
                  all_goals go_roundw
                  case rel => exact ⟨k + 1, by omega, by omega, by go_num, by rw [unhide HN, unhide HX], hbw⟩
                  case measure => simp [intOf]; omega
                  case rel => exact ⟨k + 1, by omega, by omega, by go_num, by rw [unhide HN, unhide HX], hbw⟩
                  case measure => simp [intOf]; omega
                  case rel => exact ⟨k + 1, by omega, by omega, by go_num, by rw [unhide HN, unhide HX], hbw⟩
                  case measure => simp [intOf]; omega
                · have HY := hide (hyes h9)
                  have i1 : ((d : Int) == 9) = false := beqI _ _ (by omega)
                  have i2 : ((d : Int) == 10) = false := beqI _ _ (by omega)
                  have i3 : ((d : Int) == 13) = false := beqI _ _ (by omega)
                  have j1 : ((d : Int) != 9) = true := bneI' _ _ (by omega)
                  have j2 : ((d : Int) != 10) = true := bneI' _ _ (by omega)
                  have j3 : ((d : Int) != 13) = true := bneI' _ _ (by omega)
                  clear hyes hno hkl h9
                  go_wp2
                  go_roundw
                  case rel => exact ⟨k + 1, by omega, by omega, by go_num, by rw [unhide HY, ← bs_bs, unhide HX, ← unhide HO], by first | exact hbw | exact below_drewN hbw _⟩
                  case measure => simp [intOf]; omega
              · have hkn : k = z := by omega
                have hf := unhide HF a z (by omega) hz (unhide HR) (by rw [unhide HDD]; exact unhide hst) (unhide HZ) (by rw [unhide HCC]; exact unhide HL)
                rw [← hkn] at hf
                have HE := hide hf
                clear hf
                go_wp2
                go_ret
                exact ⟨by rw [unhide HE]; rfl, hbw⟩
      · have hpi : ¬ (a : Int) < (s.size : Int) := by omega
        have han : a = s.size := by omega
        have hf := unhide HF a a (Nat.le_refl _) hk (unhide HR) (unhide hst) (fun j h1 h2 => by omega) (.inl rfl)
        rw [rpK_0] at hf
        have HE := hide hf
        clear hf hgo
        subst han
        go_wp2
        refine wp_loop_rounds 1 ?_
        rw [rounds_succ]; go_wp2
        refine wp_loop_rounds 1 ?_
        rw [rounds_succ]; go_wp2
        go_ret
        exact ⟨by rw [unhide HE]; rfl, Below.refl _ _⟩

def nfN (a b : Nat) (x : Nat) : Bool := decide (¬ x = a) && decide (¬ x = b)
theorem nf_yes {a b x : Nat} (h1 : ¬ x = a) (h2 : ¬ x = b) : nfN a b x = true := by simp [nfN, h1, h2]
theorem nf_no {a b x : Nat} (h : x = a ∨ x = b) : nfN a b x = false := by
  rcases h with h | h <;> simp [nfN, h]

set_option maxHeartbeats 1000000 in
theorem vfirst_any (s : ByteArray) (a b : Nat) (w : World) (hs : s.size ≤ 9223372036854775807) :
    Calls Tryz.prog 78 #[.string s, .int .u8 (a : Int), .int .u8 (b : Int)] w fun e w' => e = .returned (.int .i64 (tkN (nfN a b) s.data.toList : Int)) ∧ w' = w := by
  have HZ := hide (tkN_is (nfN a b) s.data.toList)
  rw [data_len] at HZ
  go_enter Tryz.func78, Tryz.ntmps78
  go_wp2
  go_loopw [7] (fun i wr => ∃ k : Nat, k ≤ s.size ∧ i = .int .i64 k ∧ (∀ j, j < k → nfN a b (dgt s.data.toList j) = true) ∧ wr = w) (fun i _ => s.size - (intOf i).toNat)
  case atStart => exact ⟨0, Nat.zero_le _, rfl, fun j hj => absurd hj (Nat.not_lt_zero _), rfl⟩
  case round =>
    obtain ⟨k, hk, rfl, hr, hw⟩ := hrel
    have hw' := hw.symm
    subst hw'
    have HR := hide hr
    clear hr hw
    by_cases hp : k < s.size
    · have hpi : (k : Int) < (s.size : Int) := by omega
      have e := dgt_at s k hp
      cases ho : nfN a b (dgt s.data.toList k) with
      | true =>
        have HR2 : Hid (∀ j, j < k + 1 → nfN a b (dgt s.data.toList j) = true) := hide (fun j hj => by
          by_cases ej : j = k
          · rw [ej]; exact ho
          · exact unhide HR j (by omega))
        have h12 : ¬ dgt s.data.toList k = a ∧ ¬ dgt s.data.toList k = b := by simpa [nfN] using ho
        have i1 : (((dgt s.data.toList k : Nat) : Int) == (a : Int)) = false := bneI (by omega)
        have i2 : (((dgt s.data.toList k : Nat) : Int) == (b : Int)) = false := bneI (by omega)
        have j1 : (((dgt s.data.toList k : Nat) : Int) != (a : Int)) = true := bneI' _ _ (by omega)
        have j2 : (((dgt s.data.toList k : Nat) : Int) != (b : Int)) = true := bneI' _ _ (by omega)
        clear ho h12
        generalize dgt s.data.toList k = d at *
        go_wp2
        go_roundw
        case rel => exact ⟨k + 1, by omega, by go_num, unhide HR2, by first | rfl | trivial⟩
        case measure => simp [intOf]; omega
      | false =>
        have ht := unhide HZ k hk (unhide HR) (.inr ho)
        have HT := hide ht
        have h12 : dgt s.data.toList k = a ∨ dgt s.data.toList k = b := by
          by_cases h1 : dgt s.data.toList k = a
          · exact .inl h1
          · by_cases h2 : dgt s.data.toList k = b
            · exact .inr h2
            · rw [nf_yes h1 h2] at ho; cases ho
        clear ho ht
        by_cases h1 : dgt s.data.toList k = a
        · have i1 : (((dgt s.data.toList k : Nat) : Int) == (a : Int)) = true := by rw [h1]; simp
          have j1 : (((dgt s.data.toList k : Nat) : Int) != (a : Int)) = false := by simp [bne, h1]
          clear h12 h1
          generalize dgt s.data.toList k = d at *
          go_wp2
          go_ret
          exact ⟨by rw [unhide HT]; rfl, rfl⟩
        · have h2 : dgt s.data.toList k = b := by rcases h12 with h | h; exact absurd h h1; exact h
          have i1 : (((dgt s.data.toList k : Nat) : Int) == (a : Int)) = false := bneI (by omega)
          have j1 : (((dgt s.data.toList k : Nat) : Int) != (a : Int)) = true := bneI' _ _ (by omega)
          have i2 : (((dgt s.data.toList k : Nat) : Int) == (b : Int)) = true := by rw [h2]; simp
          have j2 : (((dgt s.data.toList k : Nat) : Int) != (b : Int)) = false := by simp [bne, h2]
          clear h12 h1 h2
          generalize dgt s.data.toList k = d at *
          go_wp2
          go_ret
          exact ⟨by rw [unhide HT]; rfl, rfl⟩
    · have hkn : k = s.size := by omega
      have ht := unhide HZ k hk (unhide HR) (.inl hkn)
      have HT := hide ht
      clear ht
      go_wp2
      go_ret
      exact ⟨by rw [unhide HT]; rfl, rfl⟩

theorem dg_not {d : Nat} (h : ltN d = true) : dgN d = false ∧ ¬ d = 43 ∧ ¬ d = 45 ∧ ¬ d = 46 ∧ ¬ d = 58 := by
  have := ltN_true h
  refine ⟨?_, by omega, by omega, by omega, by omega⟩
  cases hd : dgN d with
  | false => rfl
  | true => simp [dgN] at hd; omega

set_option maxHeartbeats 2000000 in
theorem rscheme_any (s : ByteArray) (w : World) (hs : s.size ≤ 9223372036854775807) :
    Calls Tryz.prog 77 #[.string s] w fun e w' => e = .returned (.int .i64 (schN s.data.toList : Int)) ∧ w' = w := by
  have hl := data_len s
  have CL := hide rletter_any
  have CD := hide rdigit_any
  -- how it ends
  have hstop : ∀ k, k ≤ s.size → (∀ j, j < k → osN (dgt s.data.toList j) = true) → (0 < k → ltN (dgt s.data.toList 0) = true) → (k = s.size ∨ osN (dgt s.data.toList k) = false) →
      schN s.data.toList = if k < s.size ∧ dgt s.data.toList k = 58 then k else 0 := by
    intro k hk h1 h2 h3
    by_cases hk0 : k = 0
    · have hz : szN s.data.toList = 0 := by
        refine szN_no ?_
        rintro ⟨p1, p2⟩
        rw [hk0] at h3
        rcases h3 with h3 | h3
        · omega
        · rw [os_lt p2] at h3; cases h3
      rw [schN_no (by rw [hz]; omega), hk0]
      split <;> rfl
    · have hz : szN s.data.toList = k := by
        rw [szN_yes (by omega) (h2 (by omega))]
        exact tkN_is osN s.data.toList k (by omega) h1 (by rw [hl]; exact h3)
      by_cases hy : k < s.size ∧ dgt s.data.toList k = 58
      · rw [if_pos hy, schN_yes (by omega) (by omega) (by rw [hz]; exact hy.2), hz]
      · rw [if_neg hy, schN_no (by rw [hz, hl]; exact fun h => hy h.2)]
  have HS := hide hstop
  clear hstop hl
  go_enter Tryz.func77, Tryz.ntmps77
  go_wp2
  go_loopw [3] (fun i wr => ∃ k : Nat, k ≤ s.size ∧ i = .int .i64 k ∧ (∀ j, j < k → osN (dgt s.data.toList j) = true) ∧ (0 < k → ltN (dgt s.data.toList 0) = true) ∧ wr = w) (fun i _ => s.size - (intOf i).toNat)
  case atStart => exact ⟨0, Nat.zero_le _, rfl, fun j hj => absurd hj (Nat.not_lt_zero _), fun h => absurd h (Nat.lt_irrefl _), rfl⟩
  case round =>
    obtain ⟨k, hk, rfl, hr, hf, hw⟩ := hrel
    have hw' := hw.symm
    subst hw'
    have HR := hide hr
    have HF := hide hf
    clear hr hw hf
    by_cases hp : k < s.size
    · have hpi : (k : Int) < (s.size : Int) := by omega
      have e := dgt_at s k hp
      have hst := unhide HS k hk (unhide HR) (unhide HF)
      by_cases h58 : dgt s.data.toList k = 58
      · have ht := hst (.inr (by rw [h58]; rfl))
        rw [if_pos ⟨hp, h58⟩] at ht
        have HT := hide ht
        have i1 : (((dgt s.data.toList k : Nat) : Int) == 58) = true := by rw [h58]; rfl
        clear hst ht h58
        generalize dgt s.data.toList k = d at *
        go_wp2
        go_ret
        exact ⟨by rw [unhide HT]; rfl, rfl⟩
      have i58 : (((dgt s.data.toList k : Nat) : Int) == 58) = false := bneI (by omega)
      have HR2 : Hid (osN (dgt s.data.toList k) = true → ∀ j, j < k + 1 → osN (dgt s.data.toList j) = true) := hide (fun ho j hj => by
        by_cases ej : j = k
        · rw [ej]; exact ho
        · exact unhide HR j (by omega))
      have HT : Hid (osN (dgt s.data.toList k) = false → schN s.data.toList = 0) := hide (fun ho => by
        rw [hst (.inr ho), if_neg (fun h => h58 h.2)])
      have HK : Hid (k = 0 → ltN (dgt s.data.toList k) = false → schN s.data.toList = 0) := hide (fun h0 hlt => by
        refine schN_no ?_
        rw [szN_no (by rw [← h0, hlt]; simp)]; omega)
      have HF2 : Hid (k = 0 → ltN (dgt s.data.toList k) = true → ltN (dgt s.data.toList 0) = true) := hide (fun h0 hlt => by rw [h0] at hlt; exact hlt)
      have C1 := hide (unhide CL (dgt s.data.toList k))
      have C2 := hide (unhide CD (dgt s.data.toList k))
      clear hst h58
      generalize dgt s.data.toList k = d at *
      cases h1 : ltN d with
      | true =>
        obtain ⟨g1, g2, g3, g4, g5⟩ := dg_not h1
        have i1 : ((d : Int) == 43) = false := bneI (by omega)
        have i2 : ((d : Int) == 45) = false := bneI (by omega)
        have i3 : ((d : Int) == 46) = false := bneI (by omega)
        have HF3 : Hid (ltN (dgt s.data.toList 0) = true) := hide (by
          by_cases h0 : k = 0
          · exact unhide HF2 h0 h1
          · exact unhide HF (by omega))
        have HR3 := hide (unhide HR2 (os_lt h1))
        rw [h1] at C1
        rw [g1] at C2
        clear h1 g1 g2 g3 g4 g5 HT HK HR2 HF2
        go_wp2_with fail
        refine (unhide C1 _).mono ?_
        rintro e1 w1 ⟨rfl, hw1⟩
        obtain rfl : w = w1 := hw1.symm
        clear hw1
        go_wp2_with fail
        refine (unhide C2 _).mono ?_
        rintro e1 w1 ⟨rfl, hw1⟩
        obtain rfl : w = w1 := hw1.symm
        go_wp2
        go_roundw
        case rel => exact ⟨k + 1, by omega, by go_num, unhide HR3, fun _ => unhide HF3, by first | rfl | trivial⟩
        case measure => simp [intOf]; omega
      | false =>
        rw [h1] at C1
        cases h2 : dgN d with
        | true =>
          rw [h2] at C2
          by_cases h0 : k = 0
          · have HE := hide (unhide HK h0 h1)
            clear HK HT HR2 HF2 h1 h2
            subst h0
            go_wp2_with fail
            refine (unhide C1 _).mono ?_
            rintro e1 w1 ⟨rfl, hw1⟩
            obtain rfl : w = w1 := hw1.symm
            clear hw1
            go_wp2_with fail
            refine (unhide C2 _).mono ?_
            rintro e1 w1 ⟨rfl, hw1⟩
            obtain rfl : w = w1 := hw1.symm
            go_wp2
            go_ret
            exact ⟨by rw [unhide HE]; rfl, rfl⟩
          · have HR3 := hide (unhide HR2 (os_dg h2))
            have HF3 := hide (unhide HF (by omega))
            have i0 : ((k : Int) == 0) = false := bneI (by omega)
            clear HK HT HR2 HF2 h1 h2 h0
            go_wp2_with fail
            refine (unhide C1 _).mono ?_
            rintro e1 w1 ⟨rfl, hw1⟩
            obtain rfl : w = w1 := hw1.symm
            clear hw1
            go_wp2_with fail
            refine (unhide C2 _).mono ?_
            rintro e1 w1 ⟨rfl, hw1⟩
            obtain rfl : w = w1 := hw1.symm
            go_wp2
            go_roundw
            case rel => exact ⟨k + 1, by omega, by go_num, unhide HR3, fun _ => unhide HF3, by first | rfl | trivial⟩
            case measure => simp [intOf]; omega
        | false =>
          rw [h2] at C2
          by_cases h3 : d = 43 ∨ d = 45 ∨ d = 46
          · by_cases h0 : k = 0
            · have HE := hide (unhide HK h0 h1)
              clear HK HT HR2 HF2 h1 h2
              subst h0
              rcases h3 with h | h | h
              all_goals subst h
              all_goals go_wp2_with fail
              all_goals refine (unhide C1 _).mono ?_
              all_goals rintro e1 w1 ⟨rfl, hw1⟩
              all_goals obtain rfl : w = w1 := hw1.symm
              all_goals clear hw1
              all_goals go_wp2_with fail
              all_goals refine (unhide C2 _).mono ?_
              all_goals rintro e1 w1 ⟨rfl, hw1⟩
              all_goals obtain rfl : w = w1 := hw1.symm
              all_goals go_wp2
              all_goals go_ret
              all_goals exact ⟨by rw [unhide HE]; rfl, rfl⟩
            · have HR3 := hide (unhide HR2 (os_sg h3))
              have HF3 := hide (unhide HF (by omega))
              have i0 : ((k : Int) == 0) = false := bneI (by omega)
              clear HK HT HR2 HF2 h1 h2 h0
              rcases h3 with h | h | h
              all_goals subst h
              all_goals go_wp2_with fail
              all_goals refine (unhide C1 _).mono ?_
              all_goals rintro e1 w1 ⟨rfl, hw1⟩
              all_goals obtain rfl : w = w1 := hw1.symm
              all_goals clear hw1
              all_goals go_wp2_with fail
              all_goals refine (unhide C2 _).mono ?_
              all_goals rintro e1 w1 ⟨rfl, hw1⟩
              all_goals obtain rfl : w = w1 := hw1.symm
              all_goals go_wp2
              all_goals go_roundw
              case rel => exact ⟨k + 1, by omega, by go_num, unhide HR3, fun _ => unhide HF3, by first | rfl | trivial⟩
              case measure => simp [intOf]; omega
              case rel => exact ⟨k + 1, by omega, by go_num, unhide HR3, fun _ => unhide HF3, by first | rfl | trivial⟩
              case measure => simp [intOf]; omega
              case rel => exact ⟨k + 1, by omega, by go_num, unhide HR3, fun _ => unhide HF3, by first | rfl | trivial⟩
              case measure => simp [intOf]; omega
          · have HE := hide (unhide HT (os_no h1 h2 h3))
            have i1 : ((d : Int) == 43) = false := bneI (by omega)
            have i2 : ((d : Int) == 45) = false := bneI (by omega)
            have i3 : ((d : Int) == 46) = false := bneI (by omega)
            clear HK HT HR2 HF2 h1 h2 h3
            by_cases h0 : k = 0
            · subst h0
              go_wp2_with fail
              refine (unhide C1 _).mono ?_
              rintro e1 w1 ⟨rfl, hw1⟩
              obtain rfl : w = w1 := hw1.symm
              clear hw1
              go_wp2_with fail
              refine (unhide C2 _).mono ?_
              rintro e1 w1 ⟨rfl, hw1⟩
              obtain rfl : w = w1 := hw1.symm
              go_wp2
              go_ret
              exact ⟨by rw [unhide HE]; rfl, rfl⟩
            · have i0 : ((k : Int) == 0) = false := bneI (by omega)
              clear h0
              go_wp2_with fail
              refine (unhide C1 _).mono ?_
              rintro e1 w1 ⟨rfl, hw1⟩
              obtain rfl : w = w1 := hw1.symm
              clear hw1
              go_wp2_with fail
              refine (unhide C2 _).mono ?_
              rintro e1 w1 ⟨rfl, hw1⟩
              obtain rfl : w = w1 := hw1.symm
              go_wp2
              go_ret
              exact ⟨by rw [unhide HE]; rfl, rfl⟩
    · have hkn : k = s.size := by omega
      have ht := unhide HS k hk (unhide HR) (unhide HF) (.inl hkn)
      rw [if_neg (by omega)] at ht
      have HT := hide ht
      clear ht
      go_wp2
      go_ret
      exact ⟨by rw [unhide HT]; rfl, rfl⟩
end Go.Proofs.YtfdhmhdemfbfeaaGreatDoor
