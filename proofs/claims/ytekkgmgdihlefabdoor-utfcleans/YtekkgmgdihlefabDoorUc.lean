/-
  Plain laws on what is cleaned; and what 'utf.Count', 'utf.At' and 'utf.Clean' do.
-/
import Derived.Test.YtekkgmgdihlefabDoorUe
import Derived.Test.YtekkgmgdihlefabDoorBd
namespace Go.Proofs.YtekkgmgdihlefabDoor
open Go.RowKit
set_option linter.unusedVariables false

/-! ### plain -/

theorem ub_ne (c : Int) (r : List UInt8) : ub c ++ r ≠ [] := by
  intro e
  have h1 := ub_len c
  have h2 := sz_le c
  have := congrArg List.length e
  simp at this
  rw [this.1] at h1; simp at h1; omega
theorem ch_ub (c : Int) (r : List UInt8) (h : isC c = true) : ch (ub c ++ r) = (c, true) :: ch r := by
  rw [ch_cons (ub_ne c r), step_ub c r h]
  simp only
  rw [← ub_len c, List.drop_left]
theorem ch_flat : ∀ (cs : List Int) (r : List UInt8), (∀ c ∈ cs, isC c = true) → ch ((cs.map ub).flatten ++ r) = cs.map (fun c => (c, true)) ++ ch r
  | [], r, _ => by simp
  | c :: cs, r, h => by
    have ih := ch_flat cs r (fun x hx => h x (by simp [hx]))
    simp only [List.map_cons, List.flatten_cons, List.append_assoc, List.cons_append]
    rw [ch_ub c _ (h c (by simp)), ih]
theorem ch_isC : ∀ (f : Nat) (l : List UInt8), l.length ≤ f → ∀ p ∈ ch l, isC p.1 = true
  | 0, l, h => by
    have : l = [] := List.eq_nil_of_length_eq_zero (by omega)
    subst this; intro p hp; simp [ch_nil] at hp
  | f + 1, l, h => by
    by_cases hl : l = []
    · subst hl; intro p hp; simp [ch_nil] at hp
    · have hs := step_ok hl
      have ih := ch_isC f (l.drop (step l).2.1) (by simp; omega)
      intro p hp
      rw [ch_cons hl] at hp
      rcases List.mem_cons.1 hp with rfl | hp
      · exact hs.2.2.2
      · exact ih p hp
theorem cleanL_eq (l : List UInt8) : cleanL l = (((ch l).map (·.1)).map ub).flatten := by
  rw [cleanL, List.map_map]; rfl
theorem ch_clean (l r : List UInt8) : ch (cleanL l ++ r) = ((ch l).map (·.1)).map (fun c => (c, true)) ++ ch r := by
  rw [cleanL_eq]
  refine ch_flat _ r ?_
  intro c hc
  obtain ⟨p, hp, rfl⟩ := List.mem_map.1 hc
  exact ch_isC l.length l (Nat.le_refl _) p hp
theorem ch_clean0 (l : List UInt8) : ch (cleanL l) = ((ch l).map (·.1)).map (fun c => (c, true)) := by
  have := ch_clean l []
  rwa [List.append_nil, ch_nil, List.append_nil] at this
theorem all_true (cs : List Int) : (cs.map (fun c => ((c, true) : Int × Bool))).all (·.2) = true := by simp
theorem right_clean (l : List UInt8) : rightB (cleanL l) = true := by rw [rightB, ch_clean0]; exact all_true _
theorem right_two (l m : List UInt8) : rightB (cleanL l ++ cleanL m) = true := by
  rw [rightB, ch_clean, ch_clean0, List.all_append, all_true, all_true]; rfl
theorem clean_clean (l : List UInt8) : cleanL (cleanL l) = cleanL l := by
  rw [cleanL_eq (cleanL l), ch_clean0]
  simp only [List.map_map]
  rw [cleanL_eq, List.map_map]; rfl
theorem count_clean (l : List UInt8) : (ch (cleanL l)).length = (ch l).length := by rw [ch_clean0]; simp
theorem count_two (l m : List UInt8) : (ch (cleanL l ++ cleanL m)).length = (ch (cleanL l)).length + (ch (cleanL m)).length := by
  rw [ch_clean, List.length_append, ch_clean0 l]
theorem clean_right : ∀ (f : Nat) (l : List UInt8), l.length ≤ f → rightB l = true → cleanL l = l
  | 0, l, h, _ => by
    have : l = [] := List.eq_nil_of_length_eq_zero (by omega)
    subst this; rfl
  | f + 1, l, h, hr => by
    by_cases hl : l = []
    · subst hl; rfl
    · have hs := step_ok hl
      rw [rightB_cons hl, Bool.and_eq_true] at hr
      have ht := step_take hl hr.1
      rw [cleanL_cons hl, clean_right f _ (by simp; omega) hr.2, ← ht.1, List.take_append_drop]
theorem clean_iff (l : List UInt8) : cleanL l = l ↔ rightB l = true := by
  constructor
  · intro h; rw [← h]; exact right_clean l
  · exact clean_right l.length l (Nat.le_refl _)
theorem cleanL_len : ∀ (f : Nat) (l : List UInt8), l.length ≤ f → (cleanL l).length ≤ 3 * l.length
  | 0, l, h => by
    have : l = [] := List.eq_nil_of_length_eq_zero (by omega)
    subst this; simp [cleanL_nil]
  | f + 1, l, h => by
    by_cases hl : l = []
    · subst hl; simp [cleanL_nil]
    · have hs := step_ok hl
      have ih := cleanL_len f (l.drop (step l).2.1) (by simp; omega)
      rw [cleanL_cons hl, List.length_append, ub_len]
      rw [List.length_drop] at ih
      have : sz (step l).1 ≤ 3 * (step l).2.1 := by
        cases h2 : (step l).2.2 with
        | true => have := (step_take hl h2).2; omega
        | false =>
          have := step_no h2
          rw [this.1, this.2]; decide
      omega

/-! ### Count -/

set_option maxHeartbeats 400000 in
theorem count_any (s : ByteArray) (w : World) (ht : Tabs w) (hs : s.size ≤ 9223372036854775807) :
    Calls Tryd.prog 19 #[.string s] w fun e w' => e = .returned (.int .i64 ((ch s.data.toList).length : Int)) ∧ Below w.heap.size w w' := by
  have HT := hide ht
  clear ht
  have hmax := ch_len s.size s.data.toList (by rw [data_len]; exact Nat.le_refl _)
  rw [data_len] at hmax
  have HM := hide hmax
  clear hmax
  go_enter Tryd.func19, Tryd.ntmps19
  go_wp2
  go_loopw [0, 3] (fun t i wr => ∃ (x : ByteArray) (k : Nat), t = .string x ∧ i = .int .i64 k ∧ x.size ≤ 9223372036854775807 ∧ (ch s.data.toList).length = k + (ch x.data.toList).length ∧ Below w.heap.size w wr) (fun t _ _ => match t with | .string x => x.size | _ => 0)
  case atStart => exact ⟨s, 0, rfl, rfl, hs, by omega, Below.refl _ _⟩
  case round =>
    obtain ⟨x, k, rfl, rfl, hx, hr, hbw⟩ := hrel
    have HR := hide hr
    clear hr
    by_cases h0 : x.size = 0
    · have he := is_empty x h0
      have hf : (ch s.data.toList).length = k := by
        have : x.data.toList = [] := List.eq_nil_of_length_eq_zero (by rw [data_len]; exact h0)
        rw [unhide HR, this]; simp [ch_nil]
      have HF := hide hf
      clear hf
      go_wp2
      go_ret
      exact ⟨by rw [unhide HF]; rfl, hbw⟩
    · have hp : 0 < x.size := by omega
      have hne := ne_of_size hp
      have he := not_empty x hp
      have hok := step_ok hne
      rw [data_len] at hok
      have C1 := hide (firstIs x hx hp)
      have hcons := congrArg List.length (ch_cons hne)
      rw [List.length_cons] at hcons
      have HX := hide (rest_of x)
      generalize hstep : step x.data.toList = st at *
      obtain ⟨c, n, ok⟩ := st
      simp only at hok C1 hcons
      have hn1 : (1 : Int) ≤ (n : Int) := by omega
      have hn2 : (n : Int) ≤ (x.size : Int) := by omega
      have hn0 : 1 ≤ n := by omega
      have hn3 : n ≤ x.size := by omega
      have hk : k < 9223372036854775807 := by have := unhide HR; have := unhide HM; omega
      have HC := hide hcons
      clear hcons hstep hok hne
      go_wp2_with fail
      refine (unhide C1 _ ((unhide HT).below hbw)).mono ?_
      rintro e w1 ⟨rfl, hb1⟩
      go_wp2
      go_roundw
      case rel => exact ⟨x.extract n x.size, k + 1, rfl, by go_num, by simp; omega, by rw [unhide HR, unhide HC, unhide HX, bs_toList]; omega, tr2 hbw hb1⟩
      case measure => simp; omega

/-! ### At -/

def atV (o : Option (Int × Bool)) : Value :=
  match o with
  | none => .tuple #[.int .i64 0, .int .i64 6]
  | some p => .tuple #[.int .i64 p.1, .int .i64 0]

theorem at_below (s : ByteArray) (n : Int) (w : World) (h : n < 0) :
    Calls Tryd.prog 13 #[.string s, .int .i64 n] w fun e w' => e = .returned (.tuple #[.int .i64 0, .int .i64 1]) ∧ Below w.heap.size w w' := by
  go_enter Tryd.func13, Tryd.ntmps13
  go_wp2
  go_ret2
  exact ⟨rfl, Below.refl _ _⟩

set_option maxHeartbeats 400000 in
theorem at_any (s : ByteArray) (n : Nat) (w : World) (ht : Tabs w) (hs : s.size ≤ 9223372036854775807) (hn : n ≤ 9223372036854775807) :
    Calls Tryd.prog 13 #[.string s, .int .i64 n] w fun e w' => e = .returned (atV (ch s.data.toList)[n]?) ∧ Below w.heap.size w w' := by
  have HT := hide ht
  clear ht
  have hni : (0 : Int) ≤ (n : Int) := by omega
  go_enter Tryd.func13, Tryd.ntmps13
  go_wp2
  go_loopw [0, 1] (fun t i wr => ∃ (x : ByteArray) (k : Nat), t = .string x ∧ i = .int .i64 k ∧ k ≤ 9223372036854775807 ∧ x.size ≤ 9223372036854775807 ∧ (ch s.data.toList)[n]? = (ch x.data.toList)[k]? ∧ Below w.heap.size w wr) (fun t _ _ => match t with | .string x => x.size | _ => 0)
  case atStart => exact ⟨s, n, rfl, rfl, hn, hs, rfl, Below.refl _ _⟩
  case round =>
    obtain ⟨x, k, rfl, rfl, hk, hx, hr, hbw⟩ := hrel
    have HR := hide hr
    clear hr
    by_cases h0 : x.size = 0
    · have he := is_empty x h0
      have hf : (ch s.data.toList)[n]? = none := by
        have : x.data.toList = [] := List.eq_nil_of_length_eq_zero (by rw [data_len]; exact h0)
        rw [unhide HR, this]; simp [ch_nil]
      have HF := hide hf
      clear hf
      go_wp2
      go_ret2
      exact ⟨by rw [unhide HF]; rfl, hbw⟩
    · have hp : 0 < x.size := by omega
      have hne := ne_of_size hp
      have he := not_empty x hp
      have hok := step_ok hne
      rw [data_len] at hok
      have C1 := hide (firstIs x hx hp)
      have hcons := ch_cons hne
      have HX := hide (rest_of x)
      generalize hstep : step x.data.toList = st at *
      obtain ⟨c, m, ok⟩ := st
      simp only at hok C1 hcons
      have hn1 : (1 : Int) ≤ (m : Int) := by omega
      have hn2 : (m : Int) ≤ (x.size : Int) := by omega
      have hn0 : 1 ≤ m := by omega
      have hn3 : m ≤ x.size := by omega
      have HC := hide hcons
      clear hcons hstep hok hne
      by_cases hk0 : k = 0
      · have hf : (ch s.data.toList)[n]? = some (c, ok) := by rw [unhide HR, unhide HC, hk0]; rfl
        have HF := hide hf
        clear hf
        subst hk0
        go_wp2_with fail
        refine (unhide C1 _ ((unhide HT).below hbw)).mono ?_
        rintro e w1 ⟨rfl, hb1⟩
        go_wp2
        go_ret2
        exact ⟨by rw [unhide HF]; rfl, tr2 hbw hb1⟩
      · have hkb : ((k : Int) == 0) = false := by simp; omega
        have hk1 : 1 ≤ k := by omega
        have hk1i : (1 : Int) ≤ (k : Int) := by omega
        clear hk0
        go_wp2_with fail
        refine (unhide C1 _ ((unhide HT).below hbw)).mono ?_
        rintro e w1 ⟨rfl, hb1⟩
        go_wp2
        go_roundw
        case rel => exact ⟨x.extract m x.size, k - 1, rfl, by go_num, by omega, by simp; omega, by
          rw [unhide HR, unhide HC, unhide HX, bs_toList, show k = (k - 1) + 1 by omega, List.getElem?_cons_succ]; rfl, tr2 hbw hb1⟩
        case measure => simp; omega
end Go.Proofs.YtekkgmgdihlefabDoor
