/-
  What 'utf.isWrong' and 'utf.Right' do.
-/
import Derived.Test.YtpfnjgkfombmpaaDoorUFst
namespace Go.Proofs.YtpfnjgkfombmpaaDoor
open Go.RowKit
set_option linter.unusedVariables false

theorem wrong_yes (w : World) : Calls Tryd.prog 140 #[.int .i64 65533, .int .i64 1] w fun e w' => e = .returned (.bool true) ∧ w' = w := by
  go_enter Tryd.func140, Tryd.ntmps140
  go_wp2
  go_ret
  exact ⟨rfl, rfl⟩
theorem wrong_no (c : Int) (n : Nat) (w : World) (h : sz c = n) : Calls Tryd.prog 140 #[.int .i64 c, .int .i64 n] w fun e w' => e = .returned (.bool false) ∧ w' = w := by
  by_cases hc : c = 65533
  · subst hc
    have hn : n = 3 := by rw [← h]; rfl
    subst hn
    clear h
    go_enter Tryd.func140, Tryd.ntmps140
    go_wp2
    go_ret
    exact ⟨rfl, rfl⟩
  · have hb : (c == 65533) = false := beq_eq_false_iff_ne.2 hc
    clear hc h
    go_enter Tryd.func140, Tryd.ntmps140
    go_wp2
    go_ret
    exact ⟨rfl, rfl⟩

def WrongIs (c : Int) (n : Nat) (b : Bool) : Prop := ∀ w, Calls Tryd.prog 140 #[.int .i64 c, .int .i64 n] w fun e w' => e = .returned (.bool b) ∧ w' = w
theorem wrongIs {l : List UInt8} (hl : l ≠ []) : WrongIs (step l).1 (step l).2.1 (!(step l).2.2) := by
  intro w
  cases h : (step l).2.2 with
  | false =>
    have := step_no h
    rw [this.1, this.2]; exact wrong_yes w
  | true => exact wrong_no _ _ w (step_take hl h).2

set_option maxHeartbeats 400000 in
theorem right_any (s : ByteArray) (w : World) (ht : Tabs w) (hs : s.size ≤ 9223372036854775807) :
    Calls Tryd.prog 133 #[.string s] w fun e w' => e = .returned (.bool (rightB s.data.toList)) ∧ Below w.heap.size w w' := by
  have HT := hide ht
  clear ht
  go_enter Tryd.func133, Tryd.ntmps133
  go_wp2
  go_loopw [0] (fun t wr => ∃ x : ByteArray, t = .string x ∧ x.size ≤ 9223372036854775807 ∧ rightB s.data.toList = rightB x.data.toList ∧ Below w.heap.size w wr) (fun t _ => match t with | .string x => x.size | _ => 0)
  case atStart => exact ⟨s, rfl, hs, rfl, Below.refl _ _⟩
  case round =>
    obtain ⟨x, rfl, hx, hr, hbw⟩ := hrel
    have HR := hide hr
    clear hr
    by_cases h0 : x.size = 0
    · have he := is_empty x h0
      have hf : rightB s.data.toList = true := by
        have : x.data.toList = [] := List.eq_nil_of_length_eq_zero (by rw [data_len]; exact h0)
        rw [unhide HR, this]; rfl
      have HF := hide hf
      clear hf
      go_wp2
      go_ret
      exact ⟨by rw [unhide HF]; rfl, hbw⟩
    · have hp : 0 < x.size := by omega
      have hne := ne_of_size hp
      have he := not_empty x hp
      have hok := step_ok hne
      rw [data_len] at hok
      have C1 := hide (firstIs x hx hp)
      have C2 := hide (wrongIs hne)
      have hcons := rightB_cons hne
      have HX := hide (rest_of x)
      generalize hstep : step x.data.toList = st at *
      obtain ⟨c, n, ok⟩ := st
      simp only at hok C1 C2 hcons
      have hn1 : (1 : Int) ≤ (n : Int) := by omega
      have hn2 : (n : Int) ≤ (x.size : Int) := by omega
      have hn0 : 1 ≤ n := by omega
      have hn3 : n ≤ x.size := by omega
      have HC := hide hcons
      clear hcons hstep hok hne
      cases ok with
      | false =>
        go_wp2_with fail
        refine (unhide C1 _ ((unhide HT).below hbw)).mono ?_
        rintro e w1 ⟨rfl, hb1⟩
        go_wp2_with fail
        refine (unhide C2 _).mono ?_
        rintro e w2 ⟨rfl, rfl⟩
        go_wp2
        go_ret
        exact ⟨by rw [unhide HR, unhide HC]; rfl, tr2 hbw hb1⟩
      | true =>
        go_wp2_with fail
        refine (unhide C1 _ ((unhide HT).below hbw)).mono ?_
        rintro e w1 ⟨rfl, hb1⟩
        go_wp2_with fail
        refine (unhide C2 _).mono ?_
        rintro e w2 ⟨rfl, rfl⟩
        go_wp2
        go_roundw
        case rel => exact ⟨x.extract n x.size, rfl, by simp; omega, by rw [unhide HR, unhide HC, unhide HX, bs_toList, Bool.true_and], tr2 hbw hb1⟩
        case measure => simp; omega
end Go.Proofs.YtpfnjgkfombmpaaDoor
