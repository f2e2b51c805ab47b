/-
  Lining up, told plainly: how many pairs can be had from two places on (lcB), the pairs (lnP), and what follows.
-/
import Derived.Test.YtbabmkilbbbmoaaDoorMgAA
namespace Go.Proofs.YtbabmkilbbbmoaaDoor
set_option linter.unusedVariables false
set_option linter.unusedSimpArgs false

/-- How many pairs can be had from two places on; f: how far it goes at most. -/
def lcF (E : Nat → Nat → Bool) (n m : Nat) : Nat → Nat → Nat → Nat
  | 0, _, _ => 0
  | f + 1, i, j => if i < n ∧ j < m then (if E i j = true then lcF E n m f (i + 1) (j + 1) + 1 else max (lcF E n m f (i + 1) j) (lcF E n m f i (j + 1))) else 0
def lcB (E : Nat → Nat → Bool) (n m i j : Nat) : Nat := lcF E n m ((n - i) + (m - j)) i j
theorem lcF_out (E : Nat → Nat → Bool) (n m f i j : Nat) (h : ¬ (i < n ∧ j < m)) : lcF E n m f i j = 0 := by
  cases f with
  | zero => rfl
  | succ f => rw [lcF, if_neg h]
theorem lcF_fuel (E : Nat → Nat → Bool) (n m : Nat) : ∀ (f i j : Nat), (n - i) + (m - j) ≤ f → lcF E n m f i j = lcB E n m i j := by
  intro f
  induction f using Nat.strongRecOn with
  | ind f ih =>
    intro i j h
    unfold lcB
    by_cases hin : i < n ∧ j < m
    · obtain ⟨g, hg⟩ : ∃ g, (n - i) + (m - j) = g + 1 := ⟨(n - i) + (m - j) - 1, by omega⟩
      obtain ⟨f', rfl⟩ : ∃ f', f = f' + 1 := ⟨f - 1, by omega⟩
      rw [hg, lcF, lcF, if_pos hin, if_pos hin]
      have a1 := ih f' (by omega) (i + 1) (j + 1) (by omega)
      have a2 := ih f' (by omega) (i + 1) j (by omega)
      have a3 := ih f' (by omega) i (j + 1) (by omega)
      rw [a1, a2, a3]
      by_cases hf : g = f'
      · subst hf
        rw [a1, a2, a3]
      · have b1 := ih g (by omega) (i + 1) (j + 1) (by omega)
        have b2 := ih g (by omega) (i + 1) j (by omega)
        have b3 := ih g (by omega) i (j + 1) (by omega)
        rw [b1, b2, b3]
    · rw [lcF_out _ _ _ _ _ _ hin, lcF_out _ _ _ _ _ _ hin]
theorem lcB_out (E : Nat → Nat → Bool) (n m i j : Nat) (h : ¬ (i < n ∧ j < m)) : lcB E n m i j = 0 := lcF_out _ _ _ _ _ _ h
theorem lcB_in (E : Nat → Nat → Bool) (n m i j : Nat) (hi : i < n) (hj : j < m) : lcB E n m i j = if E i j = true then lcB E n m (i + 1) (j + 1) + 1 else max (lcB E n m (i + 1) j) (lcB E n m i (j + 1)) := by
  obtain ⟨g, hg⟩ : ∃ g, (n - i) + (m - j) = g + 1 := ⟨(n - i) + (m - j) - 1, by omega⟩
  rw [← lcF_fuel E n m (g + 1) i j (by omega), lcF, if_pos ⟨hi, hj⟩, lcF_fuel _ _ _ _ _ _ (by omega), lcF_fuel _ _ _ _ _ _ (by omega), lcF_fuel _ _ _ _ _ _ (by omega)]
theorem lcB_yes (E : Nat → Nat → Bool) (n m i j : Nat) (hi : i < n) (hj : j < m) (h : E i j = true) : lcB E n m i j = lcB E n m (i + 1) (j + 1) + 1 := by rw [lcB_in _ _ _ _ _ hi hj, if_pos h]
theorem lcB_no (E : Nat → Nat → Bool) (n m i j : Nat) (hi : i < n) (hj : j < m) (h : E i j = false) : lcB E n m i j = max (lcB E n m (i + 1) j) (lcB E n m i (j + 1)) := by rw [lcB_in _ _ _ _ _ hi hj, if_neg (by rw [h]; decide)]
theorem lcB_le (E : Nat → Nat → Bool) (n m : Nat) : ∀ (f i j : Nat), (n - i) + (m - j) ≤ f → lcB E n m i j ≤ n - i ∧ lcB E n m i j ≤ m - j := by
  intro f
  induction f with
  | zero =>
    intro i j h
    rw [lcB_out _ _ _ _ _ (by omega)]
    omega
  | succ f ih =>
    intro i j h
    by_cases hin : i < n ∧ j < m
    · rw [lcB_in _ _ _ _ _ hin.1 hin.2]
      have a1 := ih (i + 1) (j + 1) (by omega)
      have a2 := ih (i + 1) j (by omega)
      have a3 := ih i (j + 1) (by omega)
      split <;> omega
    · rw [lcB_out _ _ _ _ _ hin]; omega
/-- One place further loses one pair at most, and gains none. -/
theorem lcB_steps (E : Nat → Nat → Bool) (n m : Nat) : ∀ (f i j : Nat), (n - i) + (m - j) ≤ f →
    lcB E n m (i + 1) j ≤ lcB E n m i j ∧ lcB E n m i (j + 1) ≤ lcB E n m i j ∧ lcB E n m i j ≤ lcB E n m (i + 1) j + 1 ∧ lcB E n m i j ≤ lcB E n m i (j + 1) + 1 := by
  intro f
  induction f with
  | zero =>
    intro i j h
    rw [lcB_out _ _ _ i j (by omega), lcB_out _ _ _ (i + 1) j (by omega), lcB_out _ _ _ i (j + 1) (by omega)]
    omega
  | succ f ih =>
    intro i j h
    by_cases hin : i < n ∧ j < m
    · have a2 := ih (i + 1) j (by omega)
      have a3 := ih i (j + 1) (by omega)
      cases hE : E i j with
      | true =>
        rw [lcB_yes _ _ _ i j hin.1 hin.2 hE]
        omega
      | false =>
        rw [lcB_no _ _ _ i j hin.1 hin.2 hE]
        omega
    · rw [lcB_out _ _ _ i j hin, lcB_out _ _ _ (i + 1) j (by omega), lcB_out _ _ _ i (j + 1) (by omega)]
      omega
theorem lcB_st (E : Nat → Nat → Bool) (n m i j : Nat) : lcB E n m (i + 1) j ≤ lcB E n m i j ∧ lcB E n m i (j + 1) ≤ lcB E n m i j ∧ lcB E n m i j ≤ lcB E n m (i + 1) j + 1 ∧ lcB E n m i j ≤ lcB E n m i (j + 1) + 1 := lcB_steps E n m _ i j (Nat.le_refl _)
/-- The greatest of three, as the document's answer reckons it. -/
theorem lcB_three (E : Nat → Nat → Bool) (n m i j : Nat) (hi : i < n) (hj : j < m) : lcB E n m i j = (if E i j = true ∧ max (lcB E n m i (j + 1)) (lcB E n m (i + 1) j) < lcB E n m (i + 1) (j + 1) + 1 then lcB E n m (i + 1) (j + 1) + 1 else max (lcB E n m i (j + 1)) (lcB E n m (i + 1) j)) := by
  have s1 := lcB_st E n m i j
  have s2 := lcB_st E n m (i + 1) j
  have s3 := lcB_st E n m i (j + 1)
  cases hE : E i j with
  | true =>
    rw [lcB_yes _ _ _ i j hi hj hE] at s1 ⊢
    by_cases h : max (lcB E n m i (j + 1)) (lcB E n m (i + 1) j) < lcB E n m (i + 1) (j + 1) + 1
    · rw [if_pos ⟨rfl, h⟩]
    · rw [if_neg (fun x => h x.2)]; omega
  | false =>
    rw [lcB_no _ _ _ i j hi hj hE, if_neg (fun x => by cases x.1)]; omega
theorem lcB_monoI (E : Nat → Nat → Bool) (n m i j k : Nat) : lcB E n m (i + k) j ≤ lcB E n m i j := by
  induction k with
  | zero => exact Nat.le_refl _
  | succ k ih => exact Nat.le_trans (lcB_st E n m (i + k) j).1 ih
theorem lcB_monoJ (E : Nat → Nat → Bool) (n m i j k : Nat) : lcB E n m i (j + k) ≤ lcB E n m i j := by
  induction k with
  | zero => exact Nat.le_refl _
  | succ k ih => exact Nat.le_trans (lcB_st E n m i (j + k)).2.1 ih
/-- Turned about it is as many. -/
theorem lcF_flip (E : Nat → Nat → Bool) (n m : Nat) : ∀ (f i j : Nat), lcF (fun a b => E b a) m n f j i = lcF E n m f i j := by
  intro f
  induction f with
  | zero => intro i j; rfl
  | succ f ih =>
    intro i j
    rw [lcF, lcF, ih, ih, ih]
    by_cases hin : i < n ∧ j < m
    · rw [if_pos hin, if_pos ⟨hin.2, hin.1⟩, Nat.max_comm]
    · rw [if_neg hin, if_neg (fun h => hin ⟨h.2, h.1⟩)]
theorem lcB_flip (E : Nat → Nat → Bool) (n m i j : Nat) : lcB (fun a b => E b a) m n j i = lcB E n m i j := by
  unfold lcB
  rw [Nat.add_comm (m - j), lcF_flip]
/-- From some places on. -/
theorem lcF_from (E : Nat → Nat → Bool) (n m s : Nat) : ∀ (f i j : Nat), lcF (fun a b => E (s + a) (s + b)) (n - s) (m - s) f i j = lcF E n m f (s + i) (s + j) := by
  intro f
  induction f with
  | zero => intro i j; rfl
  | succ f ih =>
    intro i j
    rw [lcF, lcF, ih, ih, ih]
    by_cases hin : s + i < n ∧ s + j < m
    · rw [if_pos hin, if_pos (by omega)]; rfl
    · rw [if_neg hin, if_neg (by omega)]
theorem lcB_from (E : Nat → Nat → Bool) (n m s i j : Nat) : lcB (fun a b => E (s + a) (s + b)) (n - s) (m - s) i j = lcB E n m (s + i) (s + j) := by
  unfold lcB
  rw [lcF_from]
  congr 1
  omega
/-- What is asked of E only within the lists. -/
theorem lcF_same (E F : Nat → Nat → Bool) (n m : Nat) (h : ∀ a b, a < n → b < m → E a b = F a b) : ∀ (f i j : Nat), lcF E n m f i j = lcF F n m f i j := by
  intro f
  induction f with
  | zero => intro i j; rfl
  | succ f ih =>
    intro i j
    rw [lcF, lcF, ih, ih, ih]
    by_cases hin : i < n ∧ j < m
    · rw [if_pos hin, if_pos hin, h i j hin.1 hin.2]
    · rw [if_neg hin, if_neg hin]
theorem lcB_same (E F : Nat → Nat → Bool) (n m i j : Nat) (h : ∀ a b, a < n → b < m → E a b = F a b) : lcB E n m i j = lcB F n m i j := lcF_same E F n m h _ i j

/-- The pairs from two places on. -/
def lnF (E : Nat → Nat → Bool) (n m : Nat) : Nat → Nat → Nat → List (Nat × Nat)
  | 0, _, _ => []
  | f + 1, i, j => if i < n ∧ j < m then (if E i j = true then (i, j) :: lnF E n m f (i + 1) (j + 1) else if lcB E n m i (j + 1) ≤ lcB E n m (i + 1) j then lnF E n m f (i + 1) j else lnF E n m f i (j + 1)) else []
def lnP (E : Nat → Nat → Bool) (n m i j : Nat) : List (Nat × Nat) := lnF E n m ((n - i) + (m - j)) i j
theorem lnF_out (E : Nat → Nat → Bool) (n m f i j : Nat) (h : ¬ (i < n ∧ j < m)) : lnF E n m f i j = [] := by
  cases f with
  | zero => rfl
  | succ f => rw [lnF, if_neg h]
theorem lnF_fuel (E : Nat → Nat → Bool) (n m : Nat) : ∀ (f i j : Nat), (n - i) + (m - j) ≤ f → lnF E n m f i j = lnP E n m i j := by
  intro f
  induction f using Nat.strongRecOn with
  | ind f ih =>
    intro i j h
    unfold lnP
    by_cases hin : i < n ∧ j < m
    · obtain ⟨g, hg⟩ : ∃ g, (n - i) + (m - j) = g + 1 := ⟨(n - i) + (m - j) - 1, by omega⟩
      obtain ⟨f', rfl⟩ : ∃ f', f = f' + 1 := ⟨f - 1, by omega⟩
      rw [hg, lnF, lnF, if_pos hin, if_pos hin]
      have a1 := ih f' (by omega) (i + 1) (j + 1) (by omega)
      have a2 := ih f' (by omega) (i + 1) j (by omega)
      have a3 := ih f' (by omega) i (j + 1) (by omega)
      rw [a1, a2, a3]
      by_cases hf : g = f'
      · subst hf
        rw [a1, a2, a3]
      · have b1 := ih g (by omega) (i + 1) (j + 1) (by omega)
        have b2 := ih g (by omega) (i + 1) j (by omega)
        have b3 := ih g (by omega) i (j + 1) (by omega)
        rw [b1, b2, b3]
    · rw [lnF_out _ _ _ _ _ _ hin, lnF_out _ _ _ _ _ _ hin]
theorem lnP_out (E : Nat → Nat → Bool) (n m i j : Nat) (h : ¬ (i < n ∧ j < m)) : lnP E n m i j = [] := lnF_out _ _ _ _ _ _ h
theorem lnP_in (E : Nat → Nat → Bool) (n m i j : Nat) (hi : i < n) (hj : j < m) : lnP E n m i j = if E i j = true then (i, j) :: lnP E n m (i + 1) (j + 1) else if lcB E n m i (j + 1) ≤ lcB E n m (i + 1) j then lnP E n m (i + 1) j else lnP E n m i (j + 1) := by
  obtain ⟨g, hg⟩ : ∃ g, (n - i) + (m - j) = g + 1 := ⟨(n - i) + (m - j) - 1, by omega⟩
  rw [← lnF_fuel E n m (g + 1) i j (by omega), lnF, if_pos ⟨hi, hj⟩, lnF_fuel _ _ _ _ _ _ (by omega), lnF_fuel _ _ _ _ _ _ (by omega), lnF_fuel _ _ _ _ _ _ (by omega)]
theorem lnP_yes (E : Nat → Nat → Bool) (n m i j : Nat) (hi : i < n) (hj : j < m) (h : E i j = true) : lnP E n m i j = (i, j) :: lnP E n m (i + 1) (j + 1) := by rw [lnP_in _ _ _ _ _ hi hj, if_pos h]
theorem lnP_a (E : Nat → Nat → Bool) (n m i j : Nat) (hi : i < n) (hj : j < m) (h : E i j = false) (hg : lcB E n m i (j + 1) ≤ lcB E n m (i + 1) j) : lnP E n m i j = lnP E n m (i + 1) j := by rw [lnP_in _ _ _ _ _ hi hj, if_neg (by rw [h]; decide), if_pos hg]
theorem lnP_b (E : Nat → Nat → Bool) (n m i j : Nat) (hi : i < n) (hj : j < m) (h : E i j = false) (hg : ¬ lcB E n m i (j + 1) ≤ lcB E n m (i + 1) j) : lnP E n m i j = lnP E n m i (j + 1) := by rw [lnP_in _ _ _ _ _ hi hj, if_neg (by rw [h]; decide), if_neg hg]
theorem lnP_same (E F : Nat → Nat → Bool) (n m : Nat) (h : ∀ a b, a < n → b < m → E a b = F a b) : ∀ (f i j : Nat), lnF E n m f i j = lnF F n m f i j := by
  intro f
  induction f with
  | zero => intro i j; rfl
  | succ f ih =>
    intro i j
    rw [lnF, lnF, ih, ih, ih, lcB_same E F n m _ _ h, lcB_same E F n m _ _ h]
    by_cases hin : i < n ∧ j < m
    · rw [if_pos hin, if_pos hin, h i j hin.1 hin.2]
    · rw [if_neg hin, if_neg hin]
theorem lnP_len (E : Nat → Nat → Bool) (n m : Nat) : ∀ (f i j : Nat), (n - i) + (m - j) ≤ f → (lnP E n m i j).length = lcB E n m i j := by
  intro f
  induction f with
  | zero =>
    intro i j h
    rw [lcB_out _ _ _ _ _ (by omega), lnP_out _ _ _ _ _ (by omega)]; rfl
  | succ f ih =>
    intro i j h
    by_cases hin : i < n ∧ j < m
    · cases hE : E i j with
      | true => rw [lnP_yes _ _ _ _ _ hin.1 hin.2 hE, lcB_yes _ _ _ _ _ hin.1 hin.2 hE, List.length_cons, ih _ _ (by omega)]
      | false =>
        by_cases hg : lcB E n m i (j + 1) ≤ lcB E n m (i + 1) j
        · rw [lnP_a _ _ _ _ _ hin.1 hin.2 hE hg, lcB_no _ _ _ _ _ hin.1 hin.2 hE, ih _ _ (by omega)]; omega
        · rw [lnP_b _ _ _ _ _ hin.1 hin.2 hE hg, lcB_no _ _ _ _ _ hin.1 hin.2 hE, ih _ _ (by omega)]; omega
    · rw [lcB_out _ _ _ _ _ hin, lnP_out _ _ _ _ _ hin]; rfl
theorem lnP_length (E : Nat → Nat → Bool) (n m i j : Nat) : (lnP E n m i j).length = lcB E n m i j := lnP_len E n m _ i j (Nat.le_refl _)
theorem lnP_small (E : Nat → Nat → Bool) (n m i j : Nat) : (lnP E n m i j).length ≤ n - i := by
  rw [lnP_length]; exact (lcB_le E n m _ i j (Nat.le_refl _)).1
/-- A rising row of pairs from two places on. -/
def RiseFrom (E : Nat → Nat → Bool) (n m : Nat) : Nat → Nat → List (Nat × Nat) → Prop
  | _, _, [] => True
  | i, j, p :: r => i ≤ p.1 ∧ j ≤ p.2 ∧ p.1 < n ∧ p.2 < m ∧ E p.1 p.2 = true ∧ RiseFrom E n m (p.1 + 1) (p.2 + 1) r
theorem rise_le (E : Nat → Nat → Bool) (n m : Nat) : ∀ (r : List (Nat × Nat)) (i j : Nat), RiseFrom E n m i j r → r.length ≤ lcB E n m i j
  | [], i, j, _ => Nat.zero_le _
  | p :: r, i, j, h => by
    obtain ⟨h1, h2, h3, h4, h5, h6⟩ := h
    have ih := rise_le E n m r _ _ h6
    have e1 := lcB_yes E n m p.1 p.2 h3 h4 h5
    have m1 := lcB_monoI E n m i p.2 (p.1 - i)
    have m2 := lcB_monoJ E n m i j (p.2 - j)
    rw [show i + (p.1 - i) = p.1 by omega] at m1
    rw [show j + (p.2 - j) = p.2 by omega] at m2
    rw [List.length_cons]
    omega
end Go.Proofs.YtbabmkilbbbmoaaDoor
