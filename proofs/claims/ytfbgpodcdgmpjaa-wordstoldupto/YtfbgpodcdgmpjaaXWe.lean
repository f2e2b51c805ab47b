/-
  What 'words.wordEnd' and 'words.isLong' do.
-/
import Derived.Test.YtfbgpodcdgmpjaaCKs
import Derived.Test.YtfbgpodcdgmpjaaXPm
namespace Go.Proofs.Ytfbgpodcdgmpjaa
open Go.RowKit
set_option linter.unusedVariables false
set_option linter.unusedSimpArgs false

theorem weL_run (l : List UInt8) (h : 0 < l.length) : weL l = runL (spN (dgt l 0)) (l.drop 0) := by
  obtain ⟨c, hc, hn⟩ := drop_at l 0 h
  have e : spN (dgt l 0) = sp c := by rw [sp, hn]
  rw [List.drop_zero] at hc ⊢
  rw [e]
  generalize l.drop (0 + 1) = r at hc
  subst hc
  rw [weL_cons, runL, if_pos rfl]
theorem run_in (p : Bool) (l : List UInt8) (k : Nat) (h : k < l.length) (hs : spN (dgt l k) = p) : runL p (l.drop k) = 1 + runL p (l.drop (k + 1)) := by
  obtain ⟨c, hc, hn⟩ := drop_at l k h
  rw [hc, runL, if_pos (by rw [sp, hn, hs])]
theorem run_out (p : Bool) (l : List UInt8) (k : Nat) (h : k < l.length) (hs : ¬ spN (dgt l k) = p) : runL p (l.drop k) = 0 := by
  obtain ⟨c, hc, hn⟩ := drop_at l k h
  rw [hc, runL, if_neg (by rw [sp, hn]; exact hs)]
set_option maxHeartbeats 1000000 in
theorem wordEnd_any (s : ByteArray) (w : World) (hs : s.size ≤ 9223372036854775807) :
    Calls Try.prog 24 #[.string s] w fun e w' => e = .returned (.int .i64 (weL s.data.toList : Int)) ∧ Below w.heap.size w w' := by
  have C := hide space_any
  by_cases h0 : s.size = 0
  · have he : (weL s.data.toList : Int) = 0 := by
      have : s.data.toList = [] := List.eq_nil_of_length_eq_zero (by rw [data_len]; exact h0)
      rw [this]; rfl
    rw [he]
    have hg : decide ((0 : Int) < (s.size : Int)) = false := decide_eq_false (by omega)
    clear he
    go_enter Try.func24, Try.ntmps24
    go_wp2
    refine wp_loop_rounds 1 ?_
    rw [rounds_succ]; go_wp2
    go_quiet (fail)
    go_wp2
    go_ret
    exact ⟨rfl, below_draws _ _⟩
  · have hp : 0 < s.data.toList.length := by rw [data_len]; omega
    have hw := hide (weL_run s.data.toList hp)
    have hpi : (0 : Int) < (s.size : Int) := by omega
    have e0 := dgt_at s 0 (by omega)
    obtain ⟨b0, hb0⟩ : ∃ b0, dgt s.data.toList 0 = b0 := ⟨_, rfl⟩
    rw [hb0] at e0 hw
    obtain ⟨p, hpp⟩ : ∃ p, spN b0 = p := ⟨_, rfl⟩
    rw [hpp] at hw
    have HB0 := hide hb0
    clear hb0 h0
    go_enter Try.func24, Try.ntmps24
    go_wp2
    go_loopw [3] (fun i wr => ∃ k : Nat, k ≤ s.size ∧ i = .int .i64 (k : Int) ∧ weL s.data.toList = k + runL p (s.data.toList.drop k) ∧ Below w.heap.size w wr) (fun i _ => s.size - (intOf i).toNat)
    case atStart => exact ⟨0, Nat.zero_le _, rfl, by rw [unhide hw, Nat.zero_add], Below.refl _ _⟩
    case round =>
      obtain ⟨k, hk, rfl, hr, hbw⟩ := hrel
      have HR := hide hr
      clear hr
      by_cases hlt : k < s.size
      · have hki : (k : Int) < (s.size : Int) := by omega
        have hgi : decide ((k : Int) < (s.size : Int)) = true := decide_eq_true hki
        have hkl : k < s.data.toList.length := by rw [data_len]; exact hlt
        have e1 := dgt_at s k hlt
        have R1 := run_in p s.data.toList k hkl
        have R2 := run_out p s.data.toList k hkl
        generalize dgt s.data.toList k = b at *
        by_cases hb : spN b = p
        · have HS := hide (R1 hb)
          have hbb : (p == p) = true := beq_self_eq_true p
          clear R1 R2 hkl
          go_wp2
          go_quiet ((go_at_call 35; exact Calls.quiet_of_same (unhide C _ _)))
          go_wp2
          go_roundw
          case rel => exact ⟨k + 1, by omega, by go_num, by rw [unhide HR, unhide HS]; omega, below_drewN hbw _⟩
          case measure => simp [intOf]; omega
        · have HS := hide (R2 hb)
          obtain ⟨q, hq⟩ : ∃ q, spN b = q := ⟨_, rfl⟩
          rw [hq] at hb
          have hbb : (q == p) = false := beq_eq_false_iff_ne.2 hb
          have hz : weL s.data.toList = k := by rw [unhide HR, unhide HS]; rfl
          have HZ := hide hz
          clear R1 R2 hb hkl hz
          go_wp2
          go_quiet ((go_at_call 35; exact Calls.quiet_of_same (unhide C _ _)))
          go_wp2
          go_ret
          exact ⟨by rw [unhide HZ]; rfl, below_drewN hbw _⟩
      · have hz : weL s.data.toList = k := by
          rw [unhide HR, List.drop_eq_nil_of_le (by rw [data_len]; omega)]; rfl
        have HZ := hide hz
        have hg : decide ((k : Int) < (s.size : Int)) = false := decide_eq_false (by omega)
        clear hz
        go_wp2
        go_quiet (fail)
        go_wp2
        go_ret
        exact ⟨by rw [unhide HZ]; rfl, below_drewN hbw _⟩
/-- What is left of a text behind so many words. -/
def restW : Nat → List UInt8 → List UInt8
  | 0, l => l
  | n + 1, l => restW n (l.drop (weL l))
theorem restW_grp : ∀ (n : Nat) (l : List UInt8), grp (restW n l) = (grp l).drop n
  | 0, l => rfl
  | n + 1, l => by
    rw [restW, restW_grp n]
    by_cases e : l = []
    · subst e; simp [grp]
    · rw [grp_step l e, List.drop_succ_cons]
theorem restW_nil (n : Nat) (l : List UInt8) : restW n l = [] ↔ (grp l).length ≤ n := by
  have h := restW_grp n l
  constructor
  · intro e
    rw [e] at h
    have := congrArg List.length h
    rw [List.length_drop] at this
    simp [grp] at this; omega
  · intro e
    rw [List.drop_eq_nil_of_le e] at h
    rcases hr : restW n l with _ | ⟨b, r⟩
    · rfl
    · rw [hr, grp_step _ (by simp)] at h; cases h
def longB (l : List UInt8) : Bool := decide (400 < (grp l).length)
set_option maxHeartbeats 1000000 in
theorem isLong_any (s : ByteArray) (w : World) (hs : s.size ≤ 9223372036854775807) :
    Calls Try.prog 26 #[.string s] w fun e w' => e = .returned (.bool (longB s.data.toList)) ∧ Below w.heap.size w w' := by
  have C := hide wordEnd_any
  go_enter Try.func26, Try.ntmps26
  go_wp2
  go_loopw [3, 0] (fun i t wr => ∃ (k : Nat) (x : ByteArray), k ≤ 400 ∧ i = .int .i64 (k : Int) ∧ t = .string x ∧ x.size ≤ s.size ∧ restW 400 s.data.toList = restW (400 - k) x.data.toList ∧ Below w.heap.size w wr) (fun i _ _ => 400 - (intOf i).toNat)
  case atStart => exact ⟨0, s, Nat.zero_le _, rfl, rfl, Nat.le_refl _, rfl, Below.refl _ _⟩
  case round =>
    obtain ⟨k, x, hk, rfl, rfl, hx, hr, hbw⟩ := hrel
    have HR := hide hr
    have HB := hide hbw
    clear hr
    by_cases hlt : k < 400
    · have hki : (k : Int) < 400 := by omega
      have CX := hide (unhide C x wr (by omega))
      have hle := weL_le x.data.toList
      rw [data_len] at hle
      have HX := hide (rest_of x (weL x.data.toList))
      have HN : Hid (restW (400 - k) x.data.toList = restW (400 - (k + 1)) (x.data.toList.drop (weL x.data.toList))) := hide (by
        obtain ⟨n, hn⟩ : ∃ n, 400 - k = n + 1 := ⟨400 - k - 1, by omega⟩
        rw [hn, show 400 - (k + 1) = n by omega]; rfl)
      generalize weL x.data.toList = n at *
      have hni : (n : Int) ≤ (x.size : Int) := by omega
      go_wp2_with fail
      refine (unhide CX).mono ?_
      rintro e1 w1 ⟨rfl, hb1⟩
      have HB1 := hide (tr2 (unhide HB) hb1)
      clear hb1 hbw
      go_wp2
      go_roundw
      case rel => exact ⟨k + 1, x.extract n x.size, by omega, by go_num, rfl, by simp; omega, by rw [unhide HR, unhide HN, unhide HX, bs_toList], unhide HB1⟩
      case measure => simp [intOf]; omega
    · have hk4 : k = 400 := by omega
      subst hk4
      have hz : restW 400 s.data.toList = x.data.toList := by rw [unhide HR]; rfl
      have hn := restW_nil 400 s.data.toList
      rw [hz] at hn
      by_cases h0 : x.size = 0
      · have he := is_empty x h0
        have hb : longB s.data.toList = false := decide_eq_false (by have := hn.1 (List.eq_nil_of_length_eq_zero (by rw [data_len]; exact h0)); omega)
        have HLB := hide hb
        clear hn hz hb
        go_wp2
        go_ret
        exact ⟨by rw [unhide HLB]; rfl, unhide HB⟩
      · have he := not_empty x (by omega)
        have hb : longB s.data.toList = true := decide_eq_true (by
          rcases Nat.lt_or_ge 400 (grp s.data.toList).length with h | h
          · exact h
          · exact absurd (by rw [← data_len, hn.2 h]; rfl) h0)
        have HLB := hide hb
        clear hn hz hb
        go_wp2
        go_ret
        exact ⟨by rw [unhide HLB]; rfl, unhide HB⟩
end Go.Proofs.Ytfbgpodcdgmpjaa
