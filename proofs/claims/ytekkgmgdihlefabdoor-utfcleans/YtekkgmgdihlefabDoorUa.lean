/-
  Plain laws on the characters of a text, one behind the other; and what 'utf.Right' and 'utf.Count' do.
-/
import Derived.Test.YtekkgmgdihlefabDoorUg
namespace Go.Proofs.YtekkgmgdihlefabDoor
open Go.RowKit
set_option linter.unusedVariables false

theorem step_ok {l : List UInt8} (hl : l ≠ []) : 1 ≤ (step l).2.1 ∧ (step l).2.1 ≤ l.length ∧ (step l).2.1 ≤ 4 ∧ isC (step l).1 = true := by
  have hpos : 0 < l.length := List.length_pos_iff.2 hl
  cases hd : dec l with
  | none => simp only [step, hd]; exact ⟨by omega, by omega, by omega, by decide⟩
  | some x =>
    obtain ⟨c, n⟩ := x
    have := dec_some hl hd
    have h2 := sz_le c
    simp only [step, hd]
    exact ⟨by omega, by omega, by omega, this.1⟩
theorem step_take {l : List UInt8} (hl : l ≠ []) (h : (step l).2.2 = true) : l.take (step l).2.1 = ub (step l).1 ∧ sz (step l).1 = (step l).2.1 := by
  cases hd : dec l with
  | none => simp only [step, hd] at h; cases h
  | some x =>
    obtain ⟨c, n⟩ := x
    have := dec_some hl hd
    simp only [step, hd]
    exact ⟨this.2.2.2, this.2.1⟩
theorem step_no {l : List UInt8} (h : (step l).2.2 = false) : (step l).1 = 65533 ∧ (step l).2.1 = 1 := by
  cases hd : dec l with
  | none => simp only [step, hd]; exact ⟨trivial, trivial⟩
  | some x => simp only [step, hd] at h; cases h
theorem step_ub (c : Int) (b : List UInt8) (h : isC c = true) : step (ub c ++ b) = (c, sz c, true) := by
  simp only [step, dec_ub c b h]

def chF : Nat → List UInt8 → List (Int × Bool)
  | 0, _ => []
  | f + 1, l => if l = [] then [] else ((step l).1, (step l).2.2) :: chF f (l.drop (step l).2.1)
def ch (l : List UInt8) : List (Int × Bool) := chF l.length l
theorem chF_fuel : ∀ (f g : Nat) (l : List UInt8), l.length ≤ f → l.length ≤ g → chF f l = chF g l
  | 0, 0, l, _, _ => rfl
  | 0, g + 1, l, h, _ => by
    have : l = [] := List.eq_nil_of_length_eq_zero (by omega)
    subst this; simp [chF]
  | f + 1, 0, l, _, h => by
    have : l = [] := List.eq_nil_of_length_eq_zero (by omega)
    subst this; simp [chF]
  | f + 1, g + 1, l, h1, h2 => by
    by_cases hl : l = []
    · simp [chF, hl]
    · have hs := step_ok hl
      simp only [chF, hl, if_false]
      rw [chF_fuel f g _ (by simp; omega) (by simp; omega)]
theorem ch_nil : ch [] = [] := rfl
theorem ch_cons {l : List UInt8} (hl : l ≠ []) : ch l = ((step l).1, (step l).2.2) :: ch (l.drop (step l).2.1) := by
  have hs := step_ok hl
  unfold ch
  have hpos : 0 < l.length := List.length_pos_iff.2 hl
  obtain ⟨f, hf⟩ : ∃ f, l.length = f + 1 := ⟨l.length - 1, by omega⟩
  rw [hf, chF, if_neg hl, chF_fuel f (l.drop (step l).2.1).length _ (by simp; omega) (Nat.le_refl _)]
theorem ch_len : ∀ (f : Nat) (l : List UInt8), l.length ≤ f → (ch l).length ≤ l.length
  | 0, l, h => by
    have : l = [] := List.eq_nil_of_length_eq_zero (by omega)
    subst this; simp [ch_nil]
  | f + 1, l, h => by
    by_cases hl : l = []
    · subst hl; simp [ch_nil]
    · have hs := step_ok hl
      have ih := ch_len f (l.drop (step l).2.1) (by simp; omega)
      rw [ch_cons hl, List.length_cons]
      simp at ih; omega

def rightB (l : List UInt8) : Bool := (ch l).all (·.2)
def cleanL (l : List UInt8) : List UInt8 := ((ch l).map fun p => ub p.1).flatten
theorem rightB_nil : rightB [] = true := rfl
theorem rightB_cons {l : List UInt8} (hl : l ≠ []) : rightB l = ((step l).2.2 && rightB (l.drop (step l).2.1)) := by rw [rightB, ch_cons hl]; rfl
theorem cleanL_nil : cleanL [] = [] := rfl
theorem cleanL_cons {l : List UInt8} (hl : l ≠ []) : cleanL l = ub (step l).1 ++ cleanL (l.drop (step l).2.1) := by rw [cleanL, ch_cons hl]; rfl

theorem ne_of_size {s : ByteArray} (h : 0 < s.size) : s.data.toList ≠ [] := by
  intro e
  have := data_len s
  rw [e] at this; simp at this; omega
theorem rest_of (s : ByteArray) (n : Nat) : s.extract n s.size = bs (s.data.toList.drop n) := Lib.Pa.extract_from s n

/-! ### isWrong -/

theorem wrong_yes (w : World) : Calls Tryd.prog 25 #[.int .i64 65533, .int .i64 1] w fun e w' => e = .returned (.bool true) ∧ w' = w := by
  go_enter Tryd.func25, Tryd.ntmps25
  go_wp2
  go_ret
  exact ⟨rfl, rfl⟩
theorem wrong_no (c : Int) (n : Nat) (w : World) (h : sz c = n) : Calls Tryd.prog 25 #[.int .i64 c, .int .i64 n] w fun e w' => e = .returned (.bool false) ∧ w' = w := by
  by_cases hc : c = 65533
  · subst hc
    have hn : n = 3 := by rw [← h]; rfl
    subst hn
    clear h
    go_enter Tryd.func25, Tryd.ntmps25
    go_wp2
    go_ret
    exact ⟨rfl, rfl⟩
  · have hb : (c == 65533) = false := beq_eq_false_iff_ne.2 hc
    clear hc h
    go_enter Tryd.func25, Tryd.ntmps25
    go_wp2
    go_ret
    exact ⟨rfl, rfl⟩

/-! ### First and isWrong at once, by the plain step -/

def FirstIs (s : ByteArray) (c : Int) (n : Nat) : Prop := ∀ w, Tabs w → Calls Tryd.prog 11 #[.string s] w fun e w' => e = .returned (.tuple #[.int .i64 c, .int .i64 n]) ∧ Below w.heap.size w w'
def WrongIs (c : Int) (n : Nat) (b : Bool) : Prop := ∀ w, Calls Tryd.prog 25 #[.int .i64 c, .int .i64 n] w fun e w' => e = .returned (.bool b) ∧ w' = w
theorem firstIs (s : ByteArray) (hs : s.size ≤ 9223372036854775807) (h0 : 0 < s.size) : FirstIs s (step s.data.toList).1 (step s.data.toList).2.1 := fun w ht => first_any s w ht hs h0
theorem wrongIs {l : List UInt8} (hl : l ≠ []) : WrongIs (step l).1 (step l).2.1 (!(step l).2.2) := by
  intro w
  cases h : (step l).2.2 with
  | false =>
    have := step_no h
    rw [this.1, this.2]; exact wrong_yes w
  | true => exact wrong_no _ _ w (step_take hl h).2

set_option maxHeartbeats 400000 in
theorem right_any (s : ByteArray) (w : World) (ht : Tabs w) (hs : s.size ≤ 9223372036854775807) :
    Calls Tryd.prog 18 #[.string s] w fun e w' => e = .returned (.bool (rightB s.data.toList)) ∧ Below w.heap.size w w' := by
  have HT := hide ht
  clear ht
  go_enter Tryd.func18, Tryd.ntmps18
  go_wp2
  go_loopw [0] (fun t wr => ∃ x : ByteArray, t = .string x ∧ x.size ≤ 9223372036854775807 ∧ rightB s.data.toList = rightB x.data.toList ∧ Below w.heap.size w wr) (fun t _ => match t with | .string x => x.size | _ => 0)
  case atStart => exact ⟨s, rfl, hs, rfl, Below.refl _ _⟩
  case round =>
    obtain ⟨x, rfl, hx, hr, hbw⟩ := hrel
    have HR := hide hr
    clear hr
    by_cases h0 : x.size = 0
    · have he := is_empty x h0
      have hf : rightB s.data.toList = true := by
        have : x.data.toList = [] := List.eq_nil_of_length_eq_zero (by rw [data_len]; exact h0)
        rw [unhide HR, this]; rfl
      have HF := hide hf
      clear hf
      go_wp2
      go_ret
      exact ⟨by rw [unhide HF]; rfl, hbw⟩
    · have hp : 0 < x.size := by omega
      have hne := ne_of_size hp
      have he := not_empty x hp
      have hok := step_ok hne
      rw [data_len] at hok
      have C1 := hide (firstIs x hx hp)
      have C2 := hide (wrongIs hne)
      have hcons := rightB_cons hne
      have HX := hide (rest_of x)
      generalize hstep : step x.data.toList = st at *
      obtain ⟨c, n, ok⟩ := st
      simp only at hok C1 C2 hcons
      have hn1 : (1 : Int) ≤ (n : Int) := by omega
      have hn2 : (n : Int) ≤ (x.size : Int) := by omega
      have hn0 : 1 ≤ n := by omega
      have hn3 : n ≤ x.size := by omega
      have HC := hide hcons
      clear hcons hstep hok hne
      cases ok with
      | false =>
        go_wp2_with fail
        refine (unhide C1 _ ((unhide HT).below hbw)).mono ?_
        rintro e w1 ⟨rfl, hb1⟩
        go_wp2_with fail
        refine (unhide C2 _).mono ?_
        rintro e w2 ⟨rfl, rfl⟩
        go_wp2
        go_ret
        exact ⟨by rw [unhide HR, unhide HC]; rfl, tr2 hbw hb1⟩
      | true =>
        go_wp2_with fail
        refine (unhide C1 _ ((unhide HT).below hbw)).mono ?_
        rintro e w1 ⟨rfl, hb1⟩
        go_wp2_with fail
        refine (unhide C2 _).mono ?_
        rintro e w2 ⟨rfl, rfl⟩
        go_wp2
        go_roundw
        case rel => exact ⟨x.extract n x.size, rfl, by simp; omega, by rw [unhide HR, unhide HC, unhide HX, bs_toList, Bool.true_and], tr2 hbw hb1⟩
        case measure => simp; omega
end Go.Proofs.YtekkgmgdihlefabDoor
