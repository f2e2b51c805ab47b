/-
  The law CharsStays walked: what is ready stays so.
-/
import Derived.Test.YtgdhnpjblnhjmaaDoorLEn
import Derived.Test.YtgdhnpjblnhjmaaDoorURgt
namespace Go.Proofs.YtgdhnpjblnhjmaaDoor
open Go.RowKit
set_option linter.unusedVariables false

theorem clean_mem : ∀ (f : Nat) (l : List UInt8), l.length ≤ f → ∀ b ∈ cleanL l, b.toNat < 128 → b ∈ l
  | 0, l, h, b, hb, _ => by
    have : l = [] := List.eq_nil_of_length_eq_zero (by omega)
    subst this; rw [cleanL_nil] at hb; cases hb
  | f + 1, l, h, b, hb, hlt => by
    by_cases hl : l = []
    · subst hl; rw [cleanL_nil] at hb; cases hb
    · have hok := step_ok hl
      rw [cleanL_cons hl] at hb
      rcases List.mem_append.1 hb with hb | hb
      · cases hst : (step l).2.2 with
        | true =>
          rw [← (step_take hl hst).1] at hb
          exact List.mem_of_mem_take hb
        | false =>
          rw [(step_no hst).1] at hb
          have hub : ub 65533 = [239, 191, 189] := rfl
          rw [hub] at hb
          simp at hb
          rcases hb with rfl | rfl | rfl <;> simp at hlt
      · exact List.mem_of_mem_drop (clean_mem f _ (by simp; omega) b hb hlt)
theorem rd_mem : ∀ (l : List UInt8), ∀ b ∈ rdR l, ¬ b.toNat = 0 ∧ ¬ b.toNat = 13
  | [], b, hb => by cases hb
  | c :: l, b, hb => by
    have ih := rd_mem l b
    rw [rdR] at hb
    by_cases h0 : c.toNat = 0
    · rw [if_pos h0] at hb
      rcases List.mem_append.1 hb with hb | hb
      · have hub : ub 65533 = [239, 191, 189] := rfl
        rw [hub] at hb
        simp at hb
        rcases hb with rfl | rfl | rfl <;> decide
      · exact ih hb
    · rw [if_neg h0] at hb
      by_cases h13 : c.toNat = 13
      · rw [if_neg (by omega)] at hb
        cases hh : hd10 l with
        | true => rw [hh, if_pos rfl] at hb; exact ih hb
        | false =>
          rw [hh, if_neg (by decide)] at hb
          rcases List.mem_cons.1 hb with rfl | hb
          · decide
          · exact ih hb
      · rw [if_pos h13] at hb
        rcases List.mem_cons.1 hb with rfl | hb
        · exact ⟨h0, h13⟩
        · exact ih hb
theorem ready_mem (l : List UInt8) (b : UInt8) (hb : b ∈ readyL l) : ¬ b.toNat = 0 ∧ ¬ b.toNat = 13 := by
  by_cases h : b.toNat < 128
  · exact rd_mem l b (clean_mem _ _ (Nat.le_refl _) b hb h)
  · omega
theorem dgt_mem (l : List UInt8) (k : Nat) (h : k < l.length) : ∃ b ∈ l, b.toNat = dgt l k := by
  refine ⟨l[k], List.getElem_mem h, ?_⟩
  unfold dgt; rw [List.getD, List.getElem?_eq_getElem h]; rfl
theorem ready_dgt (l : List UInt8) (k : Nat) (h : k < (readyL l).length) : ¬ dgt (readyL l) k = 0 ∧ ¬ dgt (readyL l) k = 13 := by
  obtain ⟨b, hb, hn⟩ := dgt_mem _ k h
  rw [← hn]; exact ready_mem l b hb
theorem rd_stays : ∀ (l : List UInt8), (∀ b ∈ l, ¬ b.toNat = 0 ∧ ¬ b.toNat = 13) → rdR l = l
  | [], _ => rfl
  | c :: l, h => by
    have hc := h c (by simp)
    rw [rdR, if_neg hc.1, if_pos hc.2, rd_stays l (fun b hb => h b (by simp [hb]))]
theorem ready_ready (l : List UInt8) : readyL (readyL l) = readyL l := by
  have : rdR (readyL l) = readyL l := rd_stays _ (fun b hb => ready_mem l b hb)
  rw [readyL, this, readyL, clean_clean]
theorem rd_len : ∀ (l : List UInt8), (rdR l).length ≤ 3 * l.length
  | [] => by simp [rdR]
  | c :: l => by
    have ih := rd_len l
    have hub : (ub 65533).length = 3 := rfl
    rw [rdR]
    repeat' split
    all_goals simp [hub]
    all_goals omega
theorem ready_len (l : List UInt8) : (readyL l).length ≤ 9 * l.length := by
  have h1 := rd_len l
  have h2 := cleanL_len _ (rdR l) (Nat.le_refl _)
  rw [readyL]; omega
theorem ready_right (l : List UInt8) : rightB (readyL l) = true := right_clean _

set_option maxHeartbeats 2000000 in
theorem stays_main (s a b : ByteArray) (f : Int) (w : World) (ht : Tabs w) (hs : s.size ≤ 4000) (ha : a.size ≤ 36000)
    (hno : ∀ k, k < a.size → ¬ dgt a.data.toList k = 0 ∧ ¬ dgt a.data.toList k = 13)
    (hcase : (f = 0 ∧ b = a) ∨ (f = 2 ∧ 4000 < a.size))
    (C1 : Hid (∀ w, Tabs w → Calls Tryd.prog 9 #[.string s] w fun e w' => e = .returned (.tuple #[.string a, .int .i64 0]) ∧ Below w.heap.size w w'))
    (C2 : Hid (∀ w, Tabs w → Calls Tryd.prog 9 #[.string a] w fun e w' => e = .returned (.tuple #[.string b, .int .i64 f]) ∧ Below w.heap.size w w'))
    (C3 : Hid (∀ w, Tabs w → Calls Tryd.prog 27 #[.string a] w fun e w' => e = .returned (.bool true) ∧ Below w.heap.size w w')) :
    Calls Tryd.prog 6 #[.string s] w fun e w' => e = .returned (.bool true) ∧ Below w.heap.size w w' := by
  have HT := hide ht
  have E := hide ends_any
  have HN := hide hno
  have HC := hide hcase
  clear ht hno hcase
  go_enter Tryd.func6, Tryd.ntmps6
  go_wp2_with fail
  refine (unhide C1 _ (unhide HT)).mono ?_
  rintro e w1 ⟨rfl, hb1⟩
  go_wp2
  go_loopw [5] (fun i wr => ∃ k : Nat, k ≤ a.size ∧ i = .int .i64 k ∧ wr = w1) (fun i _ => a.size - (intOf i).toNat)
  case atStart => exact ⟨0, Nat.zero_le _, rfl, rfl⟩
  case round =>
    obtain ⟨k, hk, rfl, rfl⟩ := hrel
    by_cases hp : k < a.size
    · have hpi : (k : Int) < (a.size : Int) := by omega
      have e := dgt_at a k hp
      have hn := unhide HN k hp
      generalize dgt a.data.toList k = b at *
      have n0 : ((b : Int) == 0) = false := bneI (by omega)
      have n13 : ((b : Int) == 13) = false := bneI (by omega)
      clear hn
      go_wp2
      go_roundw
      case rel => exact ⟨k + 1, by omega, by go_num, by first | exact rfl | trivial⟩
      case measure => simp [intOf]; omega
    · rcases unhide HC with ⟨rfl, rfl⟩ | ⟨rfl, h4⟩
      · have hy := ssame b
        go_wp2_with fail
        refine (unhide C2 _ ((unhide HT).below hb1)).mono ?_
        rintro e w2 ⟨rfl, hb2⟩
        go_wp2_with fail
        refine (unhide C3 _ (((unhide HT).below hb1).below hb2)).mono ?_
        rintro e w3 ⟨rfl, hb3⟩
        have hb13 := tr3 hb1 hb2 hb3
        go_wp2_with fail
        refine (unhide E _ ((unhide HT).below hb13)).mono ?_
        rintro e w4 ⟨rfl, hb4⟩
        go_wp2
        go_ret
        exact ⟨rfl, tr2 hb13 hb4⟩
      · have h4i : (4000 : Int) < (a.size : Int) := by omega
        go_wp2_with fail
        refine (unhide C2 _ ((unhide HT).below hb1)).mono ?_
        rintro e w2 ⟨rfl, hb2⟩
        go_wp2_with fail
        refine (unhide C3 _ (((unhide HT).below hb1).below hb2)).mono ?_
        rintro e w3 ⟨rfl, hb3⟩
        have hb13 := tr3 hb1 hb2 hb3
        go_wp2_with fail
        refine (unhide E _ ((unhide HT).below hb13)).mono ?_
        rintro e w4 ⟨rfl, hb4⟩
        go_wp2
        go_ret
        exact ⟨rfl, tr2 hb13 hb4⟩

theorem charsStays_walk (s : ByteArray) (w : World) (ht : Tabs w) (hs : s.size ≤ 9223372036854775807) :
    Calls Tryd.prog 6 #[.string s] w fun e w' => e = .returned (.bool true) ∧ Below w.heap.size w w' := by
  by_cases h : 4000 < s.size
  · have E := hide ends_any
    have C1 := hide (fun w => ready_long s w h hs)
    have HT := hide ht
    clear ht
    go_enter Tryd.func6, Tryd.ntmps6
    go_wp2_with fail
    refine (unhide C1 _).mono ?_
    rintro e w1 ⟨rfl, hb1⟩
    go_wp2_with fail
    refine (unhide E _ ((unhide HT).below hb1)).mono ?_
    rintro e w2 ⟨rfl, hb2⟩
    go_wp2
    go_ret
    exact ⟨rfl, tr2 hb1 hb2⟩
  · have hl := ready_len s.data.toList
    rw [data_len, ← bs_size] at hl
    have hno : ∀ k, k < (bs (readyL s.data.toList)).size → ¬ dgt (bs (readyL s.data.toList)).data.toList k = 0 ∧ ¬ dgt (bs (readyL s.data.toList)).data.toList k = 13 := by
      intro k hk
      rw [bs_toList]
      exact ready_dgt _ k (by rw [bs_size] at hk; exact hk)
    have C3 := fun w ht => right_any (bs (readyL s.data.toList)) w ht (by omega)
    rw [bs_toList, ready_right] at C3
    by_cases h4 : 4000 < (bs (readyL s.data.toList)).size
    · exact stays_main s _ ⟨#[]⟩ 2 w ht (by omega) (by omega) hno (.inr ⟨rfl, h4⟩) (hide fun w ht => ready_any s w ht (by omega)) (hide fun w _ => ready_long _ w h4 (by omega)) (hide C3)
    · have C2 := fun w ht => ready_any (bs (readyL s.data.toList)) w ht (by omega)
      rw [bs_toList, ready_ready] at C2
      exact stays_main s _ _ 0 w ht (by omega) (by omega) hno (.inl ⟨rfl, rfl⟩) (hide fun w ht => ready_any s w ht (by omega)) (hide C2) (hide C3)
end Go.Proofs.YtgdhnpjblnhjmaaDoor
