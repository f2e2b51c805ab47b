/-
  Several texts in one: what the functions of the program and of the document's answer do.
-/
import Derived.Test.YtbabmkilbbbmoaaDoorMgAA

/-
  Lining up, told plainly: how many pairs can be had from two places on (lcB), the pairs (lnP), and what follows.
-/
namespace Go.Proofs.YtbabmkilbbbmoaaDoor
set_option linter.unusedVariables false
set_option linter.unusedSimpArgs false

/-- How many pairs can be had from two places on; f: how far it goes at most. -/
def lcF (E : Nat → Nat → Bool) (n m : Nat) : Nat → Nat → Nat → Nat
  | 0, _, _ => 0
  | f + 1, i, j => if i < n ∧ j < m then (if E i j = true then lcF E n m f (i + 1) (j + 1) + 1 else max (lcF E n m f (i + 1) j) (lcF E n m f i (j + 1))) else 0
def lcB (E : Nat → Nat → Bool) (n m i j : Nat) : Nat := lcF E n m ((n - i) + (m - j)) i j
theorem lcF_out (E : Nat → Nat → Bool) (n m f i j : Nat) (h : ¬ (i < n ∧ j < m)) : lcF E n m f i j = 0 := by
  cases f with
  | zero => rfl
  | succ f => rw [lcF, if_neg h]
theorem lcF_fuel (E : Nat → Nat → Bool) (n m : Nat) : ∀ (f i j : Nat), (n - i) + (m - j) ≤ f → lcF E n m f i j = lcB E n m i j := by
  intro f
  induction f using Nat.strongRecOn with
  | ind f ih =>
    intro i j h
    unfold lcB
    by_cases hin : i < n ∧ j < m
    · obtain ⟨g, hg⟩ : ∃ g, (n - i) + (m - j) = g + 1 := ⟨(n - i) + (m - j) - 1, by omega⟩
      obtain ⟨f', rfl⟩ : ∃ f', f = f' + 1 := ⟨f - 1, by omega⟩
      rw [hg, lcF, lcF, if_pos hin, if_pos hin]
      have a1 := ih f' (by omega) (i + 1) (j + 1) (by omega)
      have a2 := ih f' (by omega) (i + 1) j (by omega)
      have a3 := ih f' (by omega) i (j + 1) (by omega)
      rw [a1, a2, a3]
      by_cases hf : g = f'
      · subst hf
        rw [a1, a2, a3]
      · have b1 := ih g (by omega) (i + 1) (j + 1) (by omega)
        have b2 := ih g (by omega) (i + 1) j (by omega)
        have b3 := ih g (by omega) i (j + 1) (by omega)
        rw [b1, b2, b3]
    · rw [lcF_out _ _ _ _ _ _ hin, lcF_out _ _ _ _ _ _ hin]
theorem lcB_out (E : Nat → Nat → Bool) (n m i j : Nat) (h : ¬ (i < n ∧ j < m)) : lcB E n m i j = 0 := lcF_out _ _ _ _ _ _ h
theorem lcB_in (E : Nat → Nat → Bool) (n m i j : Nat) (hi : i < n) (hj : j < m) : lcB E n m i j = if E i j = true then lcB E n m (i + 1) (j + 1) + 1 else max (lcB E n m (i + 1) j) (lcB E n m i (j + 1)) := by
  obtain ⟨g, hg⟩ : ∃ g, (n - i) + (m - j) = g + 1 := ⟨(n - i) + (m - j) - 1, by omega⟩
  rw [← lcF_fuel E n m (g + 1) i j (by omega), lcF, if_pos ⟨hi, hj⟩, lcF_fuel _ _ _ _ _ _ (by omega), lcF_fuel _ _ _ _ _ _ (by omega), lcF_fuel _ _ _ _ _ _ (by omega)]
theorem lcB_yes (E : Nat → Nat → Bool) (n m i j : Nat) (hi : i < n) (hj : j < m) (h : E i j = true) : lcB E n m i j = lcB E n m (i + 1) (j + 1) + 1 := by rw [lcB_in _ _ _ _ _ hi hj, if_pos h]
theorem lcB_no (E : Nat → Nat → Bool) (n m i j : Nat) (hi : i < n) (hj : j < m) (h : E i j = false) : lcB E n m i j = max (lcB E n m (i + 1) j) (lcB E n m i (j + 1)) := by rw [lcB_in _ _ _ _ _ hi hj, if_neg (by rw [h]; decide)]
theorem lcB_le (E : Nat → Nat → Bool) (n m : Nat) : ∀ (f i j : Nat), (n - i) + (m - j) ≤ f → lcB E n m i j ≤ n - i ∧ lcB E n m i j ≤ m - j := by
  intro f
  induction f with
  | zero =>
    intro i j h
    rw [lcB_out _ _ _ _ _ (by omega)]
    omega
  | succ f ih =>
    intro i j h
    by_cases hin : i < n ∧ j < m
    · rw [lcB_in _ _ _ _ _ hin.1 hin.2]
      have a1 := ih (i + 1) (j + 1) (by omega)
      have a2 := ih (i + 1) j (by omega)
      have a3 := ih i (j + 1) (by omega)
      split <;> omega
    · rw [lcB_out _ _ _ _ _ hin]; omega
/-- One place further loses one pair at most, and gains none. -/
theorem lcB_steps (E : Nat → Nat → Bool) (n m : Nat) : ∀ (f i j : Nat), (n - i) + (m - j) ≤ f →
    lcB E n m (i + 1) j ≤ lcB E n m i j ∧ lcB E n m i (j + 1) ≤ lcB E n m i j ∧ lcB E n m i j ≤ lcB E n m (i + 1) j + 1 ∧ lcB E n m i j ≤ lcB E n m i (j + 1) + 1 := by
  intro f
  induction f with
  | zero =>
    intro i j h
    rw [lcB_out _ _ _ i j (by omega), lcB_out _ _ _ (i + 1) j (by omega), lcB_out _ _ _ i (j + 1) (by omega)]
    omega
  | succ f ih =>
    intro i j h
    by_cases hin : i < n ∧ j < m
    · have a2 := ih (i + 1) j (by omega)
      have a3 := ih i (j + 1) (by omega)
      cases hE : E i j with
      | true =>
        rw [lcB_yes _ _ _ i j hin.1 hin.2 hE]
        omega
      | false =>
        rw [lcB_no _ _ _ i j hin.1 hin.2 hE]
        omega
    · rw [lcB_out _ _ _ i j hin, lcB_out _ _ _ (i + 1) j (by omega), lcB_out _ _ _ i (j + 1) (by omega)]
      omega
theorem lcB_st (E : Nat → Nat → Bool) (n m i j : Nat) : lcB E n m (i + 1) j ≤ lcB E n m i j ∧ lcB E n m i (j + 1) ≤ lcB E n m i j ∧ lcB E n m i j ≤ lcB E n m (i + 1) j + 1 ∧ lcB E n m i j ≤ lcB E n m i (j + 1) + 1 := lcB_steps E n m _ i j (Nat.le_refl _)
/-- The greatest of three, as the document's answer reckons it. -/
theorem lcB_three (E : Nat → Nat → Bool) (n m i j : Nat) (hi : i < n) (hj : j < m) : lcB E n m i j = (if E i j = true ∧ max (lcB E n m i (j + 1)) (lcB E n m (i + 1) j) < lcB E n m (i + 1) (j + 1) + 1 then lcB E n m (i + 1) (j + 1) + 1 else max (lcB E n m i (j + 1)) (lcB E n m (i + 1) j)) := by
  have s1 := lcB_st E n m i j
  have s2 := lcB_st E n m (i + 1) j
  have s3 := lcB_st E n m i (j + 1)
  cases hE : E i j with
  | true =>
    rw [lcB_yes _ _ _ i j hi hj hE] at s1 ⊢
    by_cases h : max (lcB E n m i (j + 1)) (lcB E n m (i + 1) j) < lcB E n m (i + 1) (j + 1) + 1
    · rw [if_pos ⟨rfl, h⟩]
    · rw [if_neg (fun x => h x.2)]; omega
  | false =>
    rw [lcB_no _ _ _ i j hi hj hE, if_neg (fun x => by cases x.1)]; omega
theorem lcB_monoI (E : Nat → Nat → Bool) (n m i j k : Nat) : lcB E n m (i + k) j ≤ lcB E n m i j := by
  induction k with
  | zero => exact Nat.le_refl _
  | succ k ih => exact Nat.le_trans (lcB_st E n m (i + k) j).1 ih
theorem lcB_monoJ (E : Nat → Nat → Bool) (n m i j k : Nat) : lcB E n m i (j + k) ≤ lcB E n m i j := by
  induction k with
  | zero => exact Nat.le_refl _
  | succ k ih => exact Nat.le_trans (lcB_st E n m i (j + k)).2.1 ih
/-- Turned about it is as many. -/
theorem lcF_flip (E : Nat → Nat → Bool) (n m : Nat) : ∀ (f i j : Nat), lcF (fun a b => E b a) m n f j i = lcF E n m f i j := by
  intro f
  induction f with
  | zero => intro i j; rfl
  | succ f ih =>
    intro i j
    rw [lcF, lcF, ih, ih, ih]
    by_cases hin : i < n ∧ j < m
    · rw [if_pos hin, if_pos ⟨hin.2, hin.1⟩, Nat.max_comm]
    · rw [if_neg hin, if_neg (fun h => hin ⟨h.2, h.1⟩)]
theorem lcB_flip (E : Nat → Nat → Bool) (n m i j : Nat) : lcB (fun a b => E b a) m n j i = lcB E n m i j := by
  unfold lcB
  rw [Nat.add_comm (m - j), lcF_flip]
/-- From some places on. -/
theorem lcF_from (E : Nat → Nat → Bool) (n m s : Nat) : ∀ (f i j : Nat), lcF (fun a b => E (s + a) (s + b)) (n - s) (m - s) f i j = lcF E n m f (s + i) (s + j) := by
  intro f
  induction f with
  | zero => intro i j; rfl
  | succ f ih =>
    intro i j
    rw [lcF, lcF, ih, ih, ih]
    by_cases hin : s + i < n ∧ s + j < m
    · rw [if_pos hin, if_pos (by omega)]; rfl
    · rw [if_neg hin, if_neg (by omega)]
theorem lcB_from (E : Nat → Nat → Bool) (n m s i j : Nat) : lcB (fun a b => E (s + a) (s + b)) (n - s) (m - s) i j = lcB E n m (s + i) (s + j) := by
  unfold lcB
  rw [lcF_from]
  congr 1
  omega
/-- What is asked of E only within the lists. -/
theorem lcF_same (E F : Nat → Nat → Bool) (n m : Nat) (h : ∀ a b, a < n → b < m → E a b = F a b) : ∀ (f i j : Nat), lcF E n m f i j = lcF F n m f i j := by
  intro f
  induction f with
  | zero => intro i j; rfl
  | succ f ih =>
    intro i j
    rw [lcF, lcF, ih, ih, ih]
    by_cases hin : i < n ∧ j < m
    · rw [if_pos hin, if_pos hin, h i j hin.1 hin.2]
    · rw [if_neg hin, if_neg hin]
theorem lcB_same (E F : Nat → Nat → Bool) (n m i j : Nat) (h : ∀ a b, a < n → b < m → E a b = F a b) : lcB E n m i j = lcB F n m i j := lcF_same E F n m h _ i j

/-- The pairs from two places on. -/
def lnF (E : Nat → Nat → Bool) (n m : Nat) : Nat → Nat → Nat → List (Nat × Nat)
  | 0, _, _ => []
  | f + 1, i, j => if i < n ∧ j < m then (if E i j = true then (i, j) :: lnF E n m f (i + 1) (j + 1) else if lcB E n m i (j + 1) ≤ lcB E n m (i + 1) j then lnF E n m f (i + 1) j else lnF E n m f i (j + 1)) else []
def lnP (E : Nat → Nat → Bool) (n m i j : Nat) : List (Nat × Nat) := lnF E n m ((n - i) + (m - j)) i j
theorem lnF_out (E : Nat → Nat → Bool) (n m f i j : Nat) (h : ¬ (i < n ∧ j < m)) : lnF E n m f i j = [] := by
  cases f with
  | zero => rfl
  | succ f => rw [lnF, if_neg h]
theorem lnF_fuel (E : Nat → Nat → Bool) (n m : Nat) : ∀ (f i j : Nat), (n - i) + (m - j) ≤ f → lnF E n m f i j = lnP E n m i j := by
  intro f
  induction f using Nat.strongRecOn with
  | ind f ih =>
    intro i j h
    unfold lnP
    by_cases hin : i < n ∧ j < m
    · obtain ⟨g, hg⟩ : ∃ g, (n - i) + (m - j) = g + 1 := ⟨(n - i) + (m - j) - 1, by omega⟩
      obtain ⟨f', rfl⟩ : ∃ f', f = f' + 1 := ⟨f - 1, by omega⟩
      rw [hg, lnF, lnF, if_pos hin, if_pos hin]
      have a1 := ih f' (by omega) (i + 1) (j + 1) (by omega)
      have a2 := ih f' (by omega) (i + 1) j (by omega)
      have a3 := ih f' (by omega) i (j + 1) (by omega)
      rw [a1, a2, a3]
      by_cases hf : g = f'
      · subst hf
        rw [a1, a2, a3]
      · have b1 := ih g (by omega) (i + 1) (j + 1) (by omega)
        have b2 := ih g (by omega) (i + 1) j (by omega)
        have b3 := ih g (by omega) i (j + 1) (by omega)
        rw [b1, b2, b3]
    · rw [lnF_out _ _ _ _ _ _ hin, lnF_out _ _ _ _ _ _ hin]
theorem lnP_out (E : Nat → Nat → Bool) (n m i j : Nat) (h : ¬ (i < n ∧ j < m)) : lnP E n m i j = [] := lnF_out _ _ _ _ _ _ h
theorem lnP_in (E : Nat → Nat → Bool) (n m i j : Nat) (hi : i < n) (hj : j < m) : lnP E n m i j = if E i j = true then (i, j) :: lnP E n m (i + 1) (j + 1) else if lcB E n m i (j + 1) ≤ lcB E n m (i + 1) j then lnP E n m (i + 1) j else lnP E n m i (j + 1) := by
  obtain ⟨g, hg⟩ : ∃ g, (n - i) + (m - j) = g + 1 := ⟨(n - i) + (m - j) - 1, by omega⟩
  rw [← lnF_fuel E n m (g + 1) i j (by omega), lnF, if_pos ⟨hi, hj⟩, lnF_fuel _ _ _ _ _ _ (by omega), lnF_fuel _ _ _ _ _ _ (by omega), lnF_fuel _ _ _ _ _ _ (by omega)]
theorem lnP_yes (E : Nat → Nat → Bool) (n m i j : Nat) (hi : i < n) (hj : j < m) (h : E i j = true) : lnP E n m i j = (i, j) :: lnP E n m (i + 1) (j + 1) := by rw [lnP_in _ _ _ _ _ hi hj, if_pos h]
theorem lnP_a (E : Nat → Nat → Bool) (n m i j : Nat) (hi : i < n) (hj : j < m) (h : E i j = false) (hg : lcB E n m i (j + 1) ≤ lcB E n m (i + 1) j) : lnP E n m i j = lnP E n m (i + 1) j := by rw [lnP_in _ _ _ _ _ hi hj, if_neg (by rw [h]; decide), if_pos hg]
theorem lnP_b (E : Nat → Nat → Bool) (n m i j : Nat) (hi : i < n) (hj : j < m) (h : E i j = false) (hg : ¬ lcB E n m i (j + 1) ≤ lcB E n m (i + 1) j) : lnP E n m i j = lnP E n m i (j + 1) := by rw [lnP_in _ _ _ _ _ hi hj, if_neg (by rw [h]; decide), if_neg hg]
theorem lnP_same (E F : Nat → Nat → Bool) (n m : Nat) (h : ∀ a b, a < n → b < m → E a b = F a b) : ∀ (f i j : Nat), lnF E n m f i j = lnF F n m f i j := by
  intro f
  induction f with
  | zero => intro i j; rfl
  | succ f ih =>
    intro i j
    rw [lnF, lnF, ih, ih, ih, lcB_same E F n m _ _ h, lcB_same E F n m _ _ h]
    by_cases hin : i < n ∧ j < m
    · rw [if_pos hin, if_pos hin, h i j hin.1 hin.2]
    · rw [if_neg hin, if_neg hin]
theorem lnP_len (E : Nat → Nat → Bool) (n m : Nat) : ∀ (f i j : Nat), (n - i) + (m - j) ≤ f → (lnP E n m i j).length = lcB E n m i j := by
  intro f
  induction f with
  | zero =>
    intro i j h
    rw [lcB_out _ _ _ _ _ (by omega), lnP_out _ _ _ _ _ (by omega)]; rfl
  | succ f ih =>
    intro i j h
    by_cases hin : i < n ∧ j < m
    · cases hE : E i j with
      | true => rw [lnP_yes _ _ _ _ _ hin.1 hin.2 hE, lcB_yes _ _ _ _ _ hin.1 hin.2 hE, List.length_cons, ih _ _ (by omega)]
      | false =>
        by_cases hg : lcB E n m i (j + 1) ≤ lcB E n m (i + 1) j
        · rw [lnP_a _ _ _ _ _ hin.1 hin.2 hE hg, lcB_no _ _ _ _ _ hin.1 hin.2 hE, ih _ _ (by omega)]; omega
        · rw [lnP_b _ _ _ _ _ hin.1 hin.2 hE hg, lcB_no _ _ _ _ _ hin.1 hin.2 hE, ih _ _ (by omega)]; omega
    · rw [lcB_out _ _ _ _ _ hin, lnP_out _ _ _ _ _ hin]; rfl
theorem lnP_length (E : Nat → Nat → Bool) (n m i j : Nat) : (lnP E n m i j).length = lcB E n m i j := lnP_len E n m _ i j (Nat.le_refl _)
theorem lnP_small (E : Nat → Nat → Bool) (n m i j : Nat) : (lnP E n m i j).length ≤ n - i := by
  rw [lnP_length]; exact (lcB_le E n m _ i j (Nat.le_refl _)).1
/-- A rising row of pairs from two places on. -/
def RiseFrom (E : Nat → Nat → Bool) (n m : Nat) : Nat → Nat → List (Nat × Nat) → Prop
  | _, _, [] => True
  | i, j, p :: r => i ≤ p.1 ∧ j ≤ p.2 ∧ p.1 < n ∧ p.2 < m ∧ E p.1 p.2 = true ∧ RiseFrom E n m (p.1 + 1) (p.2 + 1) r
theorem rise_le (E : Nat → Nat → Bool) (n m : Nat) : ∀ (r : List (Nat × Nat)) (i j : Nat), RiseFrom E n m i j r → r.length ≤ lcB E n m i j
  | [], i, j, _ => Nat.zero_le _
  | p :: r, i, j, h => by
    obtain ⟨h1, h2, h3, h4, h5, h6⟩ := h
    have ih := rise_le E n m r _ _ h6
    have e1 := lcB_yes E n m p.1 p.2 h3 h4 h5
    have m1 := lcB_monoI E n m i p.2 (p.1 - i)
    have m2 := lcB_monoJ E n m i j (p.2 - j)
    rw [show i + (p.1 - i) = p.1 by omega] at m1
    rw [show j + (p.2 - j) = p.2 by omega] at m2
    rw [List.length_cons]
    omega
end Go.Proofs.YtbabmkilbbbmoaaDoor

/-
  Lining up three lists, told plainly: triples, stretches, parts.
-/
namespace Go.Proofs.YtbabmkilbbbmoaaDoor
set_option linter.unusedVariables false
set_option linter.unusedSimpArgs false

theorem rise_weak (E : Nat → Nat → Bool) (n m : Nat) : ∀ (r : List (Nat × Nat)) (i j i' j' : Nat), i' ≤ i → j' ≤ j → RiseFrom E n m i j r → RiseFrom E n m i' j' r
  | [], _, _, _, _, _, _, _ => trivial
  | p :: r, i, j, i', j', h1, h2, h => ⟨Nat.le_trans h1 h.1, Nat.le_trans h2 h.2.1, h.2.2⟩
theorem lnP_riseF (E : Nat → Nat → Bool) (n m : Nat) : ∀ (f i j : Nat), (n - i) + (m - j) ≤ f → RiseFrom E n m i j (lnP E n m i j) := by
  intro f
  induction f with
  | zero => intro i j h; rw [lnP_out _ _ _ _ _ (by omega)]; trivial
  | succ f ih =>
    intro i j h
    by_cases hin : i < n ∧ j < m
    · cases hE : E i j with
      | true => rw [lnP_yes _ _ _ _ _ hin.1 hin.2 hE]; exact ⟨Nat.le_refl _, Nat.le_refl _, hin.1, hin.2, hE, ih _ _ (by omega)⟩
      | false =>
        by_cases hg : lcB E n m i (j + 1) ≤ lcB E n m (i + 1) j
        · rw [lnP_a _ _ _ _ _ hin.1 hin.2 hE hg]; exact rise_weak _ _ _ _ _ _ _ _ (by omega) (by omega) (ih _ _ (by omega))
        · rw [lnP_b _ _ _ _ _ hin.1 hin.2 hE hg]; exact rise_weak _ _ _ _ _ _ _ _ (by omega) (by omega) (ih _ _ (by omega))
    · rw [lnP_out _ _ _ _ _ hin]; trivial
theorem lnP_rise0 (E : Nat → Nat → Bool) (n m i j : Nat) : RiseFrom E n m i j (lnP E n m i j) := lnP_riseF E n m _ i j (Nat.le_refl _)

/-- Rising pairs, whatever they are. -/
def RiseP (n m : Nat) : Nat → Nat → List (Nat × Nat) → Prop := RiseFrom (fun _ _ => true) n m
theorem rise_p {E : Nat → Nat → Bool} {n m : Nat} : ∀ (r : List (Nat × Nat)) (i j : Nat), RiseFrom E n m i j r → RiseP n m i j r
  | [], _, _, _ => trivial
  | p :: r, i, j, h => ⟨h.1, h.2.1, h.2.2.1, h.2.2.2.1, rfl, rise_p r _ _ h.2.2.2.2.2⟩
theorem risep_weak {n m : Nat} {r : List (Nat × Nat)} {i j i' j' : Nat} (h1 : i' ≤ i) (h2 : j' ≤ j) (h : RiseP n m i j r) : RiseP n m i' j' r := rise_weak _ _ _ _ _ _ _ _ h1 h2 h
theorem risep_cons {n m i j : Nat} {p : Nat × Nat} {r : List (Nat × Nat)} (h : RiseP n m i j (p :: r)) : i ≤ p.1 ∧ j ≤ p.2 ∧ p.1 < n ∧ p.2 < m ∧ RiseP n m (p.1 + 1) (p.2 + 1) r := ⟨h.1, h.2.1, h.2.2.1, h.2.2.2.1, h.2.2.2.2.2⟩
theorem risep_mk {n m i j : Nat} {p : Nat × Nat} {r : List (Nat × Nat)} (h1 : i ≤ p.1) (h2 : j ≤ p.2) (h3 : p.1 < n) (h4 : p.2 < m) (h : RiseP n m (p.1 + 1) (p.2 + 1) r) : RiseP n m i j (p :: r) := ⟨h1, h2, h3, h4, rfl, h⟩

/-- The places that two rising rows of pairs have in common, with both fellows. -/
def trF : List (Nat × Nat) → List (Nat × Nat) → List (Nat × Nat × Nat)
  | [], _ => []
  | _ :: _, [] => []
  | p :: r, q :: s => if p.1 < q.1 then trF r (q :: s) else if q.1 < p.1 then trF (p :: r) s else (p.1, p.2, q.2) :: trF r s
  termination_by a b => a.length + b.length
theorem trF_none (l : List (Nat × Nat)) : trF l [] = [] := by cases l <;> simp [trF]
theorem trF_nil (l : List (Nat × Nat)) : trF [] l = [] := by simp [trF]
theorem trF_lt (p q : Nat × Nat) (r s : List (Nat × Nat)) (h : p.1 < q.1) : trF (p :: r) (q :: s) = trF r (q :: s) := by rw [trF, if_pos h]
theorem trF_gt (p q : Nat × Nat) (r s : List (Nat × Nat)) (h : q.1 < p.1) : trF (p :: r) (q :: s) = trF (p :: r) s := by rw [trF, if_neg (by omega), if_pos h]
theorem trF_eq (p q : Nat × Nat) (r s : List (Nat × Nat)) (h : p.1 = q.1) : trF (p :: r) (q :: s) = (p.1, p.2, q.2) :: trF r s := by rw [trF, if_neg (by omega), if_neg (by omega)]
/-- Triples rise in all three. -/
def UpT (n a b : Nat) : Nat → Nat → Nat → List (Nat × Nat × Nat) → Prop
  | _, _, _, [] => True
  | i, j, k, t :: r => i ≤ t.1 ∧ j ≤ t.2.1 ∧ k ≤ t.2.2 ∧ t.1 < n ∧ t.2.1 < a ∧ t.2.2 < b ∧ UpT n a b (t.1 + 1) (t.2.1 + 1) (t.2.2 + 1) r
theorem upT_weak (n a b : Nat) : ∀ (r : List (Nat × Nat × Nat)) (i j k i' j' k' : Nat), i' ≤ i → j' ≤ j → k' ≤ k → UpT n a b i j k r → UpT n a b i' j' k' r
  | [], _, _, _, _, _, _, _, _, _, _ => trivial
  | t :: r, _, _, _, _, _, _, h1, h2, h3, h => ⟨Nat.le_trans h1 h.1, Nat.le_trans h2 h.2.1, Nat.le_trans h3 h.2.2.1, h.2.2.2⟩
theorem trF_upN (n a b : Nat) : ∀ (f : Nat) (l m : List (Nat × Nat)) (i j k : Nat), l.length + m.length ≤ f → RiseP n a i j l → RiseP n b i k m → UpT n a b i j k (trF l m) := by
  intro f
  induction f with
  | zero =>
    intro l m i j k h h1 h2
    have : l = [] := List.eq_nil_of_length_eq_zero (by omega)
    subst this
    rw [trF_nil]; trivial
  | succ f ih =>
    intro l m i j k h h1 h2
    cases l with
    | nil => rw [trF_nil]; trivial
    | cons p r =>
      cases m with
      | nil => rw [trF_none]; trivial
      | cons q s =>
        simp only [List.length_cons] at h
        obtain ⟨a1, a2, a3, a4, a5⟩ := risep_cons h1
        obtain ⟨b1, b2, b3, b4, b5⟩ := risep_cons h2
        by_cases e1 : p.1 < q.1
        · rw [trF_lt _ _ _ _ e1]
          exact upT_weak _ _ _ _ (p.1 + 1) (p.2 + 1) k _ _ _ (by omega) (by omega) (Nat.le_refl _) (ih r (q :: s) _ _ _ (by simp only [List.length_cons]; omega) a5 (risep_mk (by omega) b2 b3 b4 b5))
        · by_cases e2 : q.1 < p.1
          · rw [trF_gt _ _ _ _ e2]
            exact upT_weak _ _ _ _ (q.1 + 1) j (q.2 + 1) _ _ _ (by omega) (Nat.le_refl _) (by omega) (ih (p :: r) s _ _ _ (by simp only [List.length_cons]; omega) (risep_mk (by omega) a2 a3 a4 a5) b5)
          · have e3 : p.1 = q.1 := by omega
            rw [trF_eq _ _ _ _ e3]
            exact ⟨a1, a2, b2, a3, a4, b4, ih r s _ _ _ (by omega) a5 (by rw [e3]; exact b5)⟩
theorem trF_up {n a b i j k : Nat} {l m : List (Nat × Nat)} (h1 : RiseP n a i j l) (h2 : RiseP n b i k m) : UpT n a b i j k (trF l m) := trF_upN n a b _ l m i j k (Nat.le_refl _) h1 h2
theorem upT_len (n a b : Nat) : ∀ (r : List (Nat × Nat × Nat)) (i j k : Nat), UpT n a b i j k r → r.length ≤ n - i
  | [], _, _, _, _ => Nat.zero_le _
  | t :: r, i, j, k, h => by
    have := upT_len n a b r _ _ _ h.2.2.2.2.2.2
    have h1 := h.1
    have h2 := h.2.2.2.1
    rw [List.length_cons]; omega
/-- The fellow of a place. -/
def felF (l : List (Nat × Nat)) (o : Nat) : Option Nat := (l.find? (fun p => p.1 == o)).map (·.2)
theorem felF_cons_eq (p : Nat × Nat) (r : List (Nat × Nat)) : felF (p :: r) p.1 = some p.2 := by simp [felF]
theorem felF_cons_ne {p : Nat × Nat} {o : Nat} (r : List (Nat × Nat)) (h : p.1 ≠ o) : felF (p :: r) o = felF r o := by simp [felF, h]
theorem felF_low {n m : Nat} : ∀ (l : List (Nat × Nat)) (i j o : Nat), RiseP n m i j l → o < i → felF l o = none
  | [], _, _, _, _, _ => rfl
  | p :: r, i, j, o, h, ho => by
    obtain ⟨a1, a2, a3, a4, a5⟩ := risep_cons h
    rw [felF_cons_ne _ (by omega), felF_low r _ _ _ a5 (by omega)]
def triR (l m : List (Nat × Nat)) (o : Nat) : Option (Nat × Nat × Nat) := (felF l o).bind (fun a => (felF m o).map (fun b => (o, a, b)))
theorem triR_none1 {l m : List (Nat × Nat)} {o : Nat} (h : felF l o = none) : triR l m o = none := by simp [triR, h]
theorem triR_none2 {l m : List (Nat × Nat)} {o : Nat} (h : felF m o = none) : triR l m o = none := by unfold triR; rw [h]; cases felF l o <;> rfl
theorem head_cut {n a i j : Nat} {l : List (Nat × Nat)} (h : RiseP n a i j l) : ∃ l', RiseP n a (i + 1) 0 l' ∧ (∀ o, i < o → felF l o = felF l' o) ∧ ((l = l' ∧ felF l i = none) ∨ ∃ y, l = (i, y) :: l' ∧ felF l i = some y) := by
  cases l with
  | nil => exact ⟨[], trivial, fun _ _ => rfl, .inl ⟨rfl, rfl⟩⟩
  | cons p r =>
    obtain ⟨a1, a2, a3, a4, a5⟩ := risep_cons h
    by_cases e : p.1 = i
    · refine ⟨r, risep_weak (by omega) (Nat.zero_le _) a5, fun o ho => felF_cons_ne _ (by omega), .inr ⟨p.2, ?_, ?_⟩⟩
      · rw [← e]
      · rw [← e]; exact felF_cons_eq p r
    · have h' : RiseP n a (i + 1) 0 (p :: r) := risep_mk (by omega) (Nat.zero_le _) a3 a4 a5
      exact ⟨p :: r, h', fun _ _ => rfl, .inl ⟨rfl, felF_low _ _ _ _ h' (by omega)⟩⟩
theorem filterMap_same {α β : Type} (f g : α → Option β) : ∀ l : List α, (∀ x ∈ l, f x = g x) → l.filterMap f = l.filterMap g
  | [], _ => rfl
  | x :: r, h => by rw [List.filterMap_cons, List.filterMap_cons, h x (List.mem_cons_self ..), filterMap_same f g r (fun y hy => h y (List.mem_cons_of_mem _ hy))]
theorem tri_range (n a b : Nat) : ∀ (d i j k : Nat) (l m : List (Nat × Nat)), n - i = d → RiseP n a i j l → RiseP n b i k m → (List.range' i d).filterMap (triR l m) = trF l m := by
  intro d
  induction d with
  | zero =>
    intro i j k l m hd h1 h2
    cases l with
    | nil => rw [trF_nil]; rfl
    | cons p r => have := risep_cons h1; omega
  | succ d ih =>
    intro i j k l m hd h1 h2
    obtain ⟨l', r1, f1, c1⟩ := head_cut h1
    obtain ⟨m', r2, f2, c2⟩ := head_cut h2
    have hrest : (List.range' (i + 1) d).filterMap (triR l m) = trF l' m' := by
      rw [← ih (i + 1) 0 0 l' m' (by omega) r1 r2]
      refine filterMap_same _ _ _ fun o ho => ?_
      have hio : i < o := by rw [List.mem_range'_1] at ho; omega
      unfold triR
      rw [f1 o hio, f2 o hio]
    rw [List.range'_succ, List.filterMap_cons]
    rcases c1 with ⟨e1, x1⟩ | ⟨y, e1, x1⟩
    · rw [triR_none1 x1, hrest]
      rcases c2 with ⟨e2, x2⟩ | ⟨z, e2, x2⟩
      · rw [e1, e2]
      · rw [e1, e2]
        cases l' with
        | nil => rw [trF_nil, trF_nil]
        | cons p r => have := (risep_cons r1).1; rw [trF_gt _ _ _ _ (show i < p.1 by omega)]
    · rcases c2 with ⟨e2, x2⟩ | ⟨z, e2, x2⟩
      · rw [triR_none2 x2, hrest, e1, e2]
        cases m' with
        | nil => rw [trF_none, trF_none]
        | cons q s => have := (risep_cons r2).1; rw [trF_lt _ _ _ _ (show i < q.1 by omega)]
      · have : triR l m i = some (i, y, z) := by unfold triR; rw [x1, x2]; rfl
        rw [this, hrest, e1, e2]; exact (trF_eq (i, y) (i, z) l' m' rfl).symm

/-! ### parts -/

/-- A part: its kind, and a range of each list. -/
abbrev PT := Nat × (Nat × Nat) × (Nat × Nat) × (Nat × Nat)
/-- What tells stretches: is ours as there was; is theirs; are both the same? -/
structure Sms where
  oa : Nat → Nat → Nat → Nat → Bool
  ob : Nat → Nat → Nat → Nat → Bool
  ab : Nat → Nat → Nat → Nat → Bool
def kd3 (x y z : Bool) : Nat := if x = true then 2 else if y = true then 3 else if z = true then 4 else 5
def kdF (S : Sms) (i i' j j' k k' : Nat) : Nat := kd3 (S.oa i i' j j') (S.ob i i' k k') (S.ab j j' k k')
def stP (S : Sms) (i i' j j' k k' : Nat) : List PT := if i = i' ∧ j = j' ∧ k = k' then [] else [(kdF S i i' j j' k k', (i, i'), (j, j'), (k, k'))]
def keptT (t : Nat × Nat × Nat) : PT := (1, (t.1, t.1 + 1), (t.2.1, t.2.1 + 1), (t.2.2, t.2.2 + 1))
def ptF (S : Sms) (n a b : Nat) : Nat → Nat → Nat → List (Nat × Nat × Nat) → List PT
  | i, j, k, [] => stP S i n j a k b
  | i, j, k, t :: r => stP S i t.1 j t.2.1 k t.2.2 ++ keptT t :: ptF S n a b (t.1 + 1) (t.2.1 + 1) (t.2.2 + 1) r
theorem stP_len (S : Sms) (i i' j j' k k' : Nat) : (stP S i i' j j' k k').length ≤ 1 := by unfold stP; split <;> simp
theorem ptF_len (S : Sms) (n a b : Nat) : ∀ (r : List (Nat × Nat × Nat)) (i j k : Nat), (ptF S n a b i j k r).length ≤ 2 * r.length + 1
  | [], _, _, _ => by have := stP_len S; unfold ptF; exact this ..
  | t :: r, i, j, k => by
    have h1 := stP_len S i t.1 j t.2.1 k t.2.2
    have h2 := ptF_len S n a b r (t.1 + 1) (t.2.1 + 1) (t.2.2 + 1)
    rw [ptF, List.length_append, List.length_cons, List.length_cons]
    omega
/-- Parts go from places to places. -/
def GoP (n a b : Nat) : Nat → Nat → Nat → List PT → Prop
  | i, j, k, [] => i = n ∧ j = a ∧ k = b
  | i, j, k, p :: r => 1 ≤ p.1 ∧ p.1 ≤ 5 ∧ p.2.1.1 = i ∧ p.2.2.1.1 = j ∧ p.2.2.2.1 = k ∧ i ≤ p.2.1.2 ∧ j ≤ p.2.2.1.2 ∧ k ≤ p.2.2.2.2 ∧ ¬ (p.2.1.2 = i ∧ p.2.2.1.2 = j ∧ p.2.2.2.2 = k) ∧ p.2.1.2 ≤ n ∧ p.2.2.1.2 ≤ a ∧ p.2.2.2.2 ≤ b ∧ GoP n a b p.2.1.2 p.2.2.1.2 p.2.2.2.2 r
theorem kd3_ge (x y z : Bool) : 1 ≤ kd3 x y z ∧ kd3 x y z ≤ 5 := by cases x <;> cases y <;> cases z <;> decide
theorem goP_st (S : Sms) (n a b i i' j j' k k' : Nat) (r : List PT) (h1 : i ≤ i') (h2 : j ≤ j') (h3 : k ≤ k') (l1 : i' ≤ n) (l2 : j' ≤ a) (l3 : k' ≤ b) (h : GoP n a b i' j' k' r) : GoP n a b i j k (stP S i i' j j' k k' ++ r) := by
  unfold stP
  split
  · rename_i e
    obtain ⟨rfl, rfl, rfl⟩ := e
    exact h
  · rename_i e
    have := kd3_ge (S.oa i i' j j') (S.ob i i' k k') (S.ab j j' k k')
    exact ⟨this.1, this.2, rfl, rfl, rfl, h1, h2, h3, fun x => e ⟨x.1.symm, x.2.1.symm, x.2.2.symm⟩, l1, l2, l3, h⟩
theorem ptF_go (S : Sms) (n a b : Nat) : ∀ (r : List (Nat × Nat × Nat)) (i j k : Nat), i ≤ n → j ≤ a → k ≤ b → UpT n a b i j k r → GoP n a b i j k (ptF S n a b i j k r)
  | [], i, j, k, h1, h2, h3, _ => by
    have := goP_st S n a b i n j a k b [] h1 h2 h3 (Nat.le_refl _) (Nat.le_refl _) (Nat.le_refl _) ⟨rfl, rfl, rfl⟩
    rw [List.append_nil] at this
    exact this
  | t :: r, i, j, k, h1, h2, h3, h => by
    obtain ⟨a1, a2, a3, a4, a5, a6, a7⟩ := h
    rw [ptF]
    refine goP_st S n a b i t.1 j t.2.1 k t.2.2 _ a1 a2 a3 (by omega) (by omega) (by omega) ?_
    refine ⟨Nat.le_refl 1, by show (1 : Nat) ≤ 5; decide, rfl, rfl, rfl, by show t.1 ≤ t.1 + 1; omega, by show t.2.1 ≤ t.2.1 + 1; omega, by show t.2.2 ≤ t.2.2 + 1; omega, fun x => ?_, a4, a5, a6, ptF_go S n a b r _ _ _ a4 a5 a6 a7⟩
    have : t.1 + 1 = t.1 := x.1
    omega
end Go.Proofs.YtbabmkilbbbmoaaDoor

/-
  A block of cells as it lies in memory; a world made a letter.
-/
namespace Go.Proofs.YtbabmkilbbbmoaaDoor
open Go.RowKit
set_option linter.unusedVariables false

/-- A block of cells, as it lies. -/
def Blk (w : World) (b : Nat) (vs : Array Value) (t : TypeId) : Prop := w.heap[b]? = some (.cells vs t (0, 0))
theorem Blk.lt {w : World} {b : Nat} {vs : Array Value} {t : TypeId} (h : Blk w b vs t) : b < w.heap.size := by
  rcases Nat.lt_or_ge b w.heap.size with h' | h'
  · exact h'
  · unfold Blk at h; rw [Array.getElem?_eq_none h'] at h; cases h
theorem Blk.cell {w : World} {b : Nat} {vs : Array Value} {t : TypeId} (h : Blk w b vs t) (o : Nat) : w.cell? ⟨b, o, none⟩ = vs[o]? := Joins.cell_of_block h o
theorem Blk.frozen {w : World} {b : Nat} {vs : Array Value} {t : TypeId} (h : Blk w b vs t) (o : Nat) : w.frozen? ⟨b, o, none⟩ = false := by
  have h' : w.heap[b]? = some (.cells vs t (0, 0)) := h
  simp [World.frozen?, h']
theorem Blk.below {w w' : World} {b B : Nat} {vs : Array Value} {t : TypeId} (h : Blk w b vs t) (hb : Below B w w') (hB : b < B) : Blk w' b vs t := (hb.block b hB).trans h
theorem Blk.later {w w' : World} {b : Nat} {vs : Array Value} {t : TypeId} (h : Blk w b vs t) (hb : Below w.heap.size w w') : Blk w' b vs t := h.below hb h.lt
theorem Blk.alloc {w : World} {b : Nat} {vs : Array Value} {t : TypeId} (h : Blk w b vs t) (o : Obj) : Blk (w.alloc o) b vs t := h.later ((Below.refl _ _).alloc (Nat.le_refl _) _)
theorem Blk.new (w : World) (vs : Array Value) (t : TypeId) : Blk (w.alloc (.cells vs t)) w.heap.size vs t := by show (w.heap.push _)[w.heap.size]? = _; simp
theorem Blk.away {w : World} {b : Nat} {vs : Array Value} {t : TypeId} (h : Blk w b vs t) {b' o : Nat} (hb : b ≠ b') (u : Value) : Blk (w.setCell ⟨b', o, none⟩ u) b vs t := (Below.heap_setCell w ⟨b', o, none⟩ u b hb).trans h
theorem Blk.set {w : World} {b : Nat} {vs : Array Value} {t : TypeId} (h : Blk w b vs t) (o : Nat) (ho : o < vs.size) (u : Value) : Blk (w.setCell ⟨b, o, none⟩ u) b (vs.set o u) t := by
  have h' : w.heap[b]? = some (.cells vs t (0, 0)) := h
  simp [Blk, World.setCell, Array.getElem?_modify, h', Array.setIfInBounds, ho]

/-- From here on no more is asked of the world than this. -/
theorem calls_from {P : Program} {f : FuncId} {args : Array Value} {W : World} {R : Ending → World → Prop} (S : World → Prop) (h : S W) (k : ∀ W', S W' → Calls P f args W' R) : Calls P f args W R := k W h
end Go.Proofs.YtbabmkilbbbmoaaDoor
