/-
  The law RefsPlain walked: a text without & is itself, cleaned; and what stands ahead of a text stays ahead of it.
-/
import Derived.Test.YtmiehnknnkcdlaaDoorEAl
import Derived.Test.YtmiehnknnkcdlaaDoorUCln
namespace Go.Proofs.YtmiehnknnkcdlaaDoor
open Go.RowKit
set_option linter.unusedVariables false

theorem ssame (x : ByteArray) : (x.toList == x.toList) = true := by simp
theorem at_plain {l : List UInt8} (v : Bool) (h : ¬ dgt l 0 = 38) : atL l v = (ub (step l).1, ((step l).2.1 : Int)) := by
  rw [atL]; unfold atWith; rw [if_pos h]
def noAmp (l : List UInt8) : Prop := ∀ k, k < l.length → ¬ dgt l k = 38
theorem noAmp_drop {l : List UInt8} (h : noAmp l) (n : Nat) : noAmp (l.drop n) := by
  intro k hk
  rw [List.length_drop] at hk
  rw [dgt_drop]; exact h (n + k) (by omega)
theorem all_plain (v : Bool) : ∀ (f : Nat) (l : List UInt8), l.length ≤ f → noAmp l → allL v l = cleanL l
  | 0, l, h, _ => by
    have : l = [] := List.eq_nil_of_length_eq_zero (by omega)
    subst this; rfl
  | f + 1, l, h, hn => by
    by_cases e : l = []
    · subst e; rfl
    · have hl : 0 < l.length := List.length_pos_iff.2 e
      have hok := step_ok e
      rw [allL_cons v e, cleanL_cons e, at_plain v (hn 0 hl)]
      simp only [Int.toNat_natCast]
      rw [all_plain v f _ (by rw [List.length_drop]; omega) (noAmp_drop hn _)]
theorem dgt_app (a b : List UInt8) (k : Nat) (h : k < a.length) : dgt (a ++ b) k = dgt a k := by
  unfold dgt; rw [List.getD, List.getD, List.getElem?_append_left h]
theorem all_ahead (v : Bool) (t : List UInt8) : ∀ (f : Nat) (l : List UInt8), l.length ≤ f → noAmp l → rightB l = true → allL v (l ++ t) = l ++ allL v t
  | 0, l, h, _, _ => by
    have : l = [] := List.eq_nil_of_length_eq_zero (by omega)
    subst this; rfl
  | f + 1, l, h, hn, hr => by
    by_cases e : l = []
    · subst e; rfl
    · have hl : 0 < l.length := List.length_pos_iff.2 e
      have hok := step_ok e
      rw [rightB_cons e, Bool.and_eq_true] at hr
      have htk := step_take e hr.1
      have hst : step (l ++ t) = ((step l).1, (step l).2.1, true) := by
        have : l ++ t = ub (step l).1 ++ (l.drop (step l).2.1 ++ t) := by
          rw [← htk.1, ← List.append_assoc, List.take_append_drop]
        rw [this, step_ub _ _ hok.2.2.2, htk.2]
      have hne : l ++ t ≠ [] := by simp [e]
      have hdrop : (l ++ t).drop (step l).2.1 = l.drop (step l).2.1 ++ t := by
        rw [List.drop_append_of_le_length (by omega)]
      rw [allL_cons v hne, at_plain v (by rw [dgt_app _ _ _ hl]; exact hn 0 hl), hst]
      simp only [Int.toNat_natCast]
      rw [hdrop, all_ahead v t f _ (by rw [List.length_drop]; omega) (noAmp_drop hn _) hr.2, ← List.append_assoc, ← htk.1, List.take_append_drop]
theorem allL_len (v : Bool) : ∀ (f : Nat) (l : List UInt8), l.length ≤ f → (allL v l).length ≤ 4 * l.length
  | 0, l, h => by
    have : l = [] := List.eq_nil_of_length_eq_zero (by omega)
    subst this; simp [allL_nil]
  | f + 1, l, h => by
    by_cases e : l = []
    · subst e; simp [allL_nil]
    · have hb := at_bd v e
      have hl : 0 < l.length := List.length_pos_iff.2 e
      have ih := allL_len v f (l.drop (atL l v).2.toNat) (by rw [List.length_drop]; omega)
      rw [allL_cons v e, List.length_append]
      rw [List.length_drop] at ih
      omega
theorem amp_cases (l : List UInt8) : (∃ k, k < l.length ∧ dgt l k = 38 ∧ ∀ j, j < k → ¬ dgt l j = 38) ∨ noAmp l := by
  have : ∀ n, n ≤ l.length → (∃ k, k < n ∧ dgt l k = 38 ∧ ∀ j, j < k → ¬ dgt l j = 38) ∨ ∀ k, k < n → ¬ dgt l k = 38 := by
    intro n
    induction n with
    | zero => intro _; exact .inr (fun k hk => by omega)
    | succ n ih =>
      intro hn
      rcases ih (by omega) with ⟨k, h1, h2⟩ | h
      · exact .inl ⟨k, by omega, h2⟩
      · by_cases e : dgt l n = 38
        · exact .inl ⟨n, by omega, e, h⟩
        · refine .inr (fun k hk => ?_)
          by_cases hkn : k = n
          · rw [hkn]; exact e
          · exact h k (by omega)
  exact this l.length (Nat.le_refl _)

set_option maxHeartbeats 2000000 in
theorem refsPlain_walk (s t : ByteArray) (v : Bool) (w : World) (ht : Tab4 w) (hs : s.size ≤ 9223372036854775807) (hs2 : t.size ≤ 9223372036854775807) :
    Calls Tryd.prog 8 #[.string s, .string t, .bool v] w fun e w' => e = .returned (.bool true) ∧ Below w.heap.size w w' := by
  have HT := hide ht
  have E := hide notin_any
  clear ht
  by_cases h1 : 1000 < s.size
  · have hi : (1000 : Int) < (s.size : Int) := by omega
    go_enter Tryd.func8, Tryd.ntmps8
    go_wp2_with fail
    refine (unhide E _ (unhide HT)).mono ?_
    rintro e w2 ⟨rfl, hb2⟩
    go_wp2
    go_ret
    exact ⟨rfl, hb2⟩
  have hi : ¬ (1000 : Int) < (s.size : Int) := by omega
  by_cases h2 : 1000 < t.size
  · have hi2 : (1000 : Int) < (t.size : Int) := by omega
    go_enter Tryd.func8, Tryd.ntmps8
    go_wp2_with fail
    refine (unhide E _ (unhide HT)).mono ?_
    rintro e w2 ⟨rfl, hb2⟩
    go_wp2
    go_ret
    exact ⟨rfl, hb2⟩
  have hi2 : ¬ (1000 : Int) < (t.size : Int) := by omega
  have C1 := hide (fun w h => all_any s v w h (by omega))
  have C2 := hide (fun w h => clean_any s w h (by omega))
  have C3 := hide (fun w h => right_any s w h hs)
  have hcat : (s ++ t).size ≤ 2000 := by rw [ByteArray.size_append]; omega
  have C4 := hide (fun w h => all_any (s ++ t) v w h (by omega))
  have C5 := hide (fun w h => all_any t v w h (by omega))
  have hal := allL_len v _ t.data.toList (Nat.le_refl _)
  rw [data_len, ← bs_size] at hal
  have hpl : noAmp s.data.toList → bs (allL v s.data.toList) = bs (cleanL s.data.toList) := fun h => by rw [all_plain v _ _ (Nat.le_refl _) h]
  have hah : noAmp s.data.toList → rightB s.data.toList = true → bs (allL v (s ++ t).data.toList) = s ++ bs (allL v t.data.toList) := fun h hr => by
    have e : (s ++ t).data.toList = s.data.toList ++ t.data.toList := by simp
    rw [e, all_ahead v _ _ _ (Nat.le_refl _) h hr, add_bs, bs_toList]
  have HPL := hide hpl
  have HAH := hide hah
  have hcs := amp_cases s.data.toList
  rw [data_len] at hcs
  have HCS := hide hcs
  generalize bs (allL v s.data.toList) = x1 at *
  generalize bs (cleanL s.data.toList) = x2 at *
  generalize bs (allL v (s ++ t).data.toList) = x3 at *
  generalize bs (allL v t.data.toList) = x4 at *
  generalize rightB s.data.toList = rb at *
  clear hpl hah hcs
  go_enter Tryd.func8, Tryd.ntmps8
  go_wp2
  go_loopw [7] (fun i wr => ∃ k : Nat, k ≤ s.size ∧ i = .int .i64 k ∧ wr = w ∧ ∀ j, j < k → ¬ dgt s.data.toList j = 38) (fun i _ => s.size - (intOf i).toNat)
  case atStart => exact ⟨0, Nat.zero_le _, rfl, rfl, fun j hj => by omega⟩
  case round =>
    obtain ⟨k, hk, rfl, rfl, hno⟩ := hrel
    have HNO := hide hno
    clear hno
    by_cases hp : k < s.size
    · have hpi : (k : Int) < (s.size : Int) := by omega
      have e := dgt_at s k hp
      generalize hdk : dgt s.data.toList k = b at *
      have HDK := hide hdk
      clear hdk
      by_cases h38 : b = 38
      · subst h38
        go_wp2_with fail
        refine (unhide E _ (unhide HT)).mono ?_
        rintro e w2 ⟨rfl, hb2⟩
        go_wp2
        go_ret
        exact ⟨rfl, hb2⟩
      · have n38 : ((b : Int) == 38) = false := bneI (by omega)
        have H38 := hide h38
        clear h38
        go_wp2
        go_roundw
        case rel => exact ⟨k + 1, by omega, by go_num, by first | exact rfl | trivial, fun j hj => by
          by_cases hjk : j = k
          · rw [hjk, unhide HDK]; exact unhide H38
          · exact unhide HNO j (by omega)⟩
        case measure => simp [intOf]; omega
    · have hna : noAmp s.data.toList := fun j hj => unhide HNO j (by rw [data_len] at hj; omega)
      have e12 := unhide HPL hna
      subst e12
      have hah := unhide HAH hna
      have hyy := ssame x1
      cases rb with
      | false =>
        clear hah
        go_wp2_with fail
        refine (unhide C1 _ (unhide HT)).mono ?_
        rintro e w2 ⟨rfl, hb2⟩
        go_wp2_with fail
        refine (unhide C2 _ ((unhide HT).below hb2).1).mono ?_
        rintro e w3 ⟨rfl, hb3⟩
        have hb13 := tr2 hb2 hb3
        go_wp2_with fail
        refine (unhide C3 _ ((unhide HT).below hb13).1).mono ?_
        rintro e w4 ⟨rfl, hb4⟩
        have hb14 := tr2 hb13 hb4
        go_wp2_with fail
        refine (unhide E _ ((unhide HT).below hb14)).mono ?_
        rintro e w5 ⟨rfl, hb5⟩
        go_wp2
        go_ret
        exact ⟨rfl, tr2 hb14 hb5⟩
      | true =>
        have e3 := hah rfl
        have hyz := ssame x3
        have H3 := hide e3
        clear hah e3
        go_wp2_with fail
        refine (unhide C1 _ (unhide HT)).mono ?_
        rintro e w2 ⟨rfl, hb2⟩
        go_wp2_with fail
        refine (unhide C2 _ ((unhide HT).below hb2).1).mono ?_
        rintro e w3 ⟨rfl, hb3⟩
        have hb13 := tr2 hb2 hb3
        go_wp2_with fail
        refine (unhide C3 _ ((unhide HT).below hb13).1).mono ?_
        rintro e w4 ⟨rfl, hb4⟩
        have hb14 := tr2 hb13 hb4
        go_wp2_with fail
        refine (unhide C4 _ ((unhide HT).below hb14)).mono ?_
        rintro e w5 ⟨rfl, hb5⟩
        have hb15 := tr2 hb14 hb5
        go_wp2_with fail
        refine (unhide C5 _ ((unhide HT).below hb15)).mono ?_
        rintro e w6 ⟨rfl, hb6⟩
        have hb16 := tr2 hb15 hb6
        have e3 := unhide H3
        have e4 : s ++ x4 = x3 := e3.symm
        clear e3
        go_wp2_with fail
        refine (unhide E _ ((unhide HT).below hb16)).mono ?_
        rintro e w7 ⟨rfl, hb7⟩
        go_wp2
        go_ret
        exact ⟨rfl, tr2 hb16 hb7⟩
end Go.Proofs.YtmiehnknnkcdlaaDoor
