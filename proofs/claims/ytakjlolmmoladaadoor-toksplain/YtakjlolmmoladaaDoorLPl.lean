/-
  The law RefsPlain walked: a text without & is itself, cleaned; and what stands ahead of a text stays ahead of it.
-/
import Derived.Test.YtakjlolmmoladaaDoorEAl
import Derived.Test.YtakjlolmmoladaaDoorUCln
namespace Go.Proofs.YtakjlolmmoladaaDoor
open Go.RowKit
set_option linter.unusedVariables false

theorem ssame (x : ByteArray) : (x.toList == x.toList) = true := by simp
theorem at_plain {l : List UInt8} (v : Bool) (h : ¬ dgt l 0 = 38) : atL l v = (ub (step l).1, ((step l).2.1 : Int)) := by
  rw [atL]; unfold atWith; rw [if_pos h]
def noAmp (l : List UInt8) : Prop := ∀ k, k < l.length → ¬ dgt l k = 38
theorem noAmp_drop {l : List UInt8} (h : noAmp l) (n : Nat) : noAmp (l.drop n) := by
  intro k hk
  rw [List.length_drop] at hk
  rw [dgt_drop]; exact h (n + k) (by omega)
theorem all_plain (v : Bool) : ∀ (f : Nat) (l : List UInt8), l.length ≤ f → noAmp l → allL v l = cleanL l
  | 0, l, h, _ => by
    have : l = [] := List.eq_nil_of_length_eq_zero (by omega)
    subst this; rfl
  | f + 1, l, h, hn => by
    by_cases e : l = []
    · subst e; rfl
    · have hl : 0 < l.length := List.length_pos_iff.2 e
      have hok := step_ok e
      rw [allL_cons v e, cleanL_cons e, at_plain v (hn 0 hl)]
      simp only [Int.toNat_natCast]
      rw [all_plain v f _ (by rw [List.length_drop]; omega) (noAmp_drop hn _)]
theorem dgt_app (a b : List UInt8) (k : Nat) (h : k < a.length) : dgt (a ++ b) k = dgt a k := by
  unfold dgt; rw [List.getD, List.getD, List.getElem?_append_left h]
theorem all_ahead (v : Bool) (t : List UInt8) : ∀ (f : Nat) (l : List UInt8), l.length ≤ f → noAmp l → rightB l = true → allL v (l ++ t) = l ++ allL v t
  | 0, l, h, _, _ => by
    have : l = [] := List.eq_nil_of_length_eq_zero (by omega)
    subst this; rfl
  | f + 1, l, h, hn, hr => by
    by_cases e : l = []
    · subst e; rfl
    · have hl : 0 < l.length := List.length_pos_iff.2 e
      have hok := step_ok e
      rw [rightB_cons e, Bool.and_eq_true] at hr
      have htk := step_take e hr.1
      have hst : step (l ++ t) = ((step l).1, (step l).2.1, true) := by
        have : l ++ t = ub (step l).1 ++ (l.drop (step l).2.1 ++ t) := by
          rw [← htk.1, ← List.append_assoc, List.take_append_drop]
        rw [this, step_ub _ _ hok.2.2.2, htk.2]
      have hne : l ++ t ≠ [] := by simp [e]
      have hdrop : (l ++ t).drop (step l).2.1 = l.drop (step l).2.1 ++ t := by
        rw [List.drop_append_of_le_length (by omega)]
      rw [allL_cons v hne, at_plain v (by rw [dgt_app _ _ _ hl]; exact hn 0 hl), hst]
      simp only [Int.toNat_natCast]
      rw [hdrop, all_ahead v t f _ (by rw [List.length_drop]; omega) (noAmp_drop hn _) hr.2, ← List.append_assoc, ← htk.1, List.take_append_drop]
theorem allL_len (v : Bool) : ∀ (f : Nat) (l : List UInt8), l.length ≤ f → (allL v l).length ≤ 4 * l.length
  | 0, l, h => by
    have : l = [] := List.eq_nil_of_length_eq_zero (by omega)
    subst this; simp [allL_nil]
  | f + 1, l, h => by
    by_cases e : l = []
    · subst e; simp [allL_nil]
    · have hb := at_bd v e
      have hl : 0 < l.length := List.length_pos_iff.2 e
      have ih := allL_len v f (l.drop (atL l v).2.toNat) (by rw [List.length_drop]; omega)
      rw [allL_cons v e, List.length_append]
      rw [List.length_drop] at ih
      omega
theorem amp_cases (l : List UInt8) : (∃ k, k < l.length ∧ dgt l k = 38 ∧ ∀ j, j < k → ¬ dgt l j = 38) ∨ noAmp l := by
  have : ∀ n, n ≤ l.length → (∃ k, k < n ∧ dgt l k = 38 ∧ ∀ j, j < k → ¬ dgt l j = 38) ∨ ∀ k, k < n → ¬ dgt l k = 38 := by
    intro n
    induction n with
    | zero => intro _; exact .inr (fun k hk => by omega)
    | succ n ih =>
      intro hn
      rcases ih (by omega) with ⟨k, h1, h2⟩ | h
      · exact .inl ⟨k, by omega, h2⟩
      · by_cases e : dgt l n = 38
        · exact .inl ⟨n, by omega, e, h⟩
        · refine .inr (fun k hk => ?_)
          by_cases hkn : k = n
          · rw [hkn]; exact e
          · exact h k (by omega)
  exact this l.length (Nat.le_refl _)

end Go.Proofs.YtakjlolmmoladaaDoor
