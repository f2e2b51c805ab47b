/-
  Several texts in one: what the functions of the program and of the document's answer do.
-/
import Derived.Test.YtbabmkilbbbmoaaDoorMgAA
import Derived.Test.YtbabmkilbbbmoaaDoorMgAC
import Derived.Maps.OwnSet
import Derived.Maps.OwnOps
import Derived.Maps.Views
import Derived.Maps.AppendAt

/-
  Lining up, told plainly: how many pairs can be had from two places on (lcB), the pairs (lnP), and what follows.
-/
namespace Go.Proofs.YtbabmkilbbbmoaaDoor
set_option linter.unusedVariables false
set_option linter.unusedSimpArgs false

/-- How many pairs can be had from two places on; f: how far it goes at most. -/
def lcF (E : Nat → Nat → Bool) (n m : Nat) : Nat → Nat → Nat → Nat
  | 0, _, _ => 0
  | f + 1, i, j => if i < n ∧ j < m then (if E i j = true then lcF E n m f (i + 1) (j + 1) + 1 else max (lcF E n m f (i + 1) j) (lcF E n m f i (j + 1))) else 0
def lcB (E : Nat → Nat → Bool) (n m i j : Nat) : Nat := lcF E n m ((n - i) + (m - j)) i j
theorem lcF_out (E : Nat → Nat → Bool) (n m f i j : Nat) (h : ¬ (i < n ∧ j < m)) : lcF E n m f i j = 0 := by
  cases f with
  | zero => rfl
  | succ f => rw [lcF, if_neg h]
theorem lcF_fuel (E : Nat → Nat → Bool) (n m : Nat) : ∀ (f i j : Nat), (n - i) + (m - j) ≤ f → lcF E n m f i j = lcB E n m i j := by
  intro f
  induction f using Nat.strongRecOn with
  | ind f ih =>
    intro i j h
    unfold lcB
    by_cases hin : i < n ∧ j < m
    · obtain ⟨g, hg⟩ : ∃ g, (n - i) + (m - j) = g + 1 := ⟨(n - i) + (m - j) - 1, by omega⟩
      obtain ⟨f', rfl⟩ : ∃ f', f = f' + 1 := ⟨f - 1, by omega⟩
      rw [hg, lcF, lcF, if_pos hin, if_pos hin]
      have a1 := ih f' (by omega) (i + 1) (j + 1) (by omega)
      have a2 := ih f' (by omega) (i + 1) j (by omega)
      have a3 := ih f' (by omega) i (j + 1) (by omega)
      rw [a1, a2, a3]
      by_cases hf : g = f'
      · subst hf
        rw [a1, a2, a3]
      · have b1 := ih g (by omega) (i + 1) (j + 1) (by omega)
        have b2 := ih g (by omega) (i + 1) j (by omega)
        have b3 := ih g (by omega) i (j + 1) (by omega)
        rw [b1, b2, b3]
    · rw [lcF_out _ _ _ _ _ _ hin, lcF_out _ _ _ _ _ _ hin]
theorem lcB_out (E : Nat → Nat → Bool) (n m i j : Nat) (h : ¬ (i < n ∧ j < m)) : lcB E n m i j = 0 := lcF_out _ _ _ _ _ _ h
theorem lcB_in (E : Nat → Nat → Bool) (n m i j : Nat) (hi : i < n) (hj : j < m) : lcB E n m i j = if E i j = true then lcB E n m (i + 1) (j + 1) + 1 else max (lcB E n m (i + 1) j) (lcB E n m i (j + 1)) := by
  obtain ⟨g, hg⟩ : ∃ g, (n - i) + (m - j) = g + 1 := ⟨(n - i) + (m - j) - 1, by omega⟩
  rw [← lcF_fuel E n m (g + 1) i j (by omega), lcF, if_pos ⟨hi, hj⟩, lcF_fuel _ _ _ _ _ _ (by omega), lcF_fuel _ _ _ _ _ _ (by omega), lcF_fuel _ _ _ _ _ _ (by omega)]
theorem lcB_yes (E : Nat → Nat → Bool) (n m i j : Nat) (hi : i < n) (hj : j < m) (h : E i j = true) : lcB E n m i j = lcB E n m (i + 1) (j + 1) + 1 := by rw [lcB_in _ _ _ _ _ hi hj, if_pos h]
theorem lcB_no (E : Nat → Nat → Bool) (n m i j : Nat) (hi : i < n) (hj : j < m) (h : E i j = false) : lcB E n m i j = max (lcB E n m (i + 1) j) (lcB E n m i (j + 1)) := by rw [lcB_in _ _ _ _ _ hi hj, if_neg (by rw [h]; decide)]
theorem lcB_le (E : Nat → Nat → Bool) (n m : Nat) : ∀ (f i j : Nat), (n - i) + (m - j) ≤ f → lcB E n m i j ≤ n - i ∧ lcB E n m i j ≤ m - j := by
  intro f
  induction f with
  | zero =>
    intro i j h
    rw [lcB_out _ _ _ _ _ (by omega)]
    omega
  | succ f ih =>
    intro i j h
    by_cases hin : i < n ∧ j < m
    · rw [lcB_in _ _ _ _ _ hin.1 hin.2]
      have a1 := ih (i + 1) (j + 1) (by omega)
      have a2 := ih (i + 1) j (by omega)
      have a3 := ih i (j + 1) (by omega)
      split <;> omega
    · rw [lcB_out _ _ _ _ _ hin]; omega
/-- One place further loses one pair at most, and gains none. -/
theorem lcB_steps (E : Nat → Nat → Bool) (n m : Nat) : ∀ (f i j : Nat), (n - i) + (m - j) ≤ f →
    lcB E n m (i + 1) j ≤ lcB E n m i j ∧ lcB E n m i (j + 1) ≤ lcB E n m i j ∧ lcB E n m i j ≤ lcB E n m (i + 1) j + 1 ∧ lcB E n m i j ≤ lcB E n m i (j + 1) + 1 := by
  intro f
  induction f with
  | zero =>
    intro i j h
    rw [lcB_out _ _ _ i j (by omega), lcB_out _ _ _ (i + 1) j (by omega), lcB_out _ _ _ i (j + 1) (by omega)]
    omega
  | succ f ih =>
    intro i j h
    by_cases hin : i < n ∧ j < m
    · have a2 := ih (i + 1) j (by omega)
      have a3 := ih i (j + 1) (by omega)
      cases hE : E i j with
      | true =>
        rw [lcB_yes _ _ _ i j hin.1 hin.2 hE]
        omega
      | false =>
        rw [lcB_no _ _ _ i j hin.1 hin.2 hE]
        omega
    · rw [lcB_out _ _ _ i j hin, lcB_out _ _ _ (i + 1) j (by omega), lcB_out _ _ _ i (j + 1) (by omega)]
      omega
theorem lcB_st (E : Nat → Nat → Bool) (n m i j : Nat) : lcB E n m (i + 1) j ≤ lcB E n m i j ∧ lcB E n m i (j + 1) ≤ lcB E n m i j ∧ lcB E n m i j ≤ lcB E n m (i + 1) j + 1 ∧ lcB E n m i j ≤ lcB E n m i (j + 1) + 1 := lcB_steps E n m _ i j (Nat.le_refl _)
/-- The greatest of three, as the document's answer reckons it. -/
theorem lcB_three (E : Nat → Nat → Bool) (n m i j : Nat) (hi : i < n) (hj : j < m) : lcB E n m i j = (if E i j = true ∧ max (lcB E n m i (j + 1)) (lcB E n m (i + 1) j) < lcB E n m (i + 1) (j + 1) + 1 then lcB E n m (i + 1) (j + 1) + 1 else max (lcB E n m i (j + 1)) (lcB E n m (i + 1) j)) := by
  have s1 := lcB_st E n m i j
  have s2 := lcB_st E n m (i + 1) j
  have s3 := lcB_st E n m i (j + 1)
  cases hE : E i j with
  | true =>
    rw [lcB_yes _ _ _ i j hi hj hE] at s1 ⊢
    by_cases h : max (lcB E n m i (j + 1)) (lcB E n m (i + 1) j) < lcB E n m (i + 1) (j + 1) + 1
    · rw [if_pos ⟨rfl, h⟩]
    · rw [if_neg (fun x => h x.2)]; omega
  | false =>
    rw [lcB_no _ _ _ i j hi hj hE, if_neg (fun x => by cases x.1)]; omega
theorem lcB_monoI (E : Nat → Nat → Bool) (n m i j k : Nat) : lcB E n m (i + k) j ≤ lcB E n m i j := by
  induction k with
  | zero => exact Nat.le_refl _
  | succ k ih => exact Nat.le_trans (lcB_st E n m (i + k) j).1 ih
theorem lcB_monoJ (E : Nat → Nat → Bool) (n m i j k : Nat) : lcB E n m i (j + k) ≤ lcB E n m i j := by
  induction k with
  | zero => exact Nat.le_refl _
  | succ k ih => exact Nat.le_trans (lcB_st E n m i (j + k)).2.1 ih
/-- Turned about it is as many. -/
theorem lcF_flip (E : Nat → Nat → Bool) (n m : Nat) : ∀ (f i j : Nat), lcF (fun a b => E b a) m n f j i = lcF E n m f i j := by
  intro f
  induction f with
  | zero => intro i j; rfl
  | succ f ih =>
    intro i j
    rw [lcF, lcF, ih, ih, ih]
    by_cases hin : i < n ∧ j < m
    · rw [if_pos hin, if_pos ⟨hin.2, hin.1⟩, Nat.max_comm]
    · rw [if_neg hin, if_neg (fun h => hin ⟨h.2, h.1⟩)]
theorem lcB_flip (E : Nat → Nat → Bool) (n m i j : Nat) : lcB (fun a b => E b a) m n j i = lcB E n m i j := by
  unfold lcB
  rw [Nat.add_comm (m - j), lcF_flip]
/-- From some places on. -/
theorem lcF_from (E : Nat → Nat → Bool) (n m s : Nat) : ∀ (f i j : Nat), lcF (fun a b => E (s + a) (s + b)) (n - s) (m - s) f i j = lcF E n m f (s + i) (s + j) := by
  intro f
  induction f with
  | zero => intro i j; rfl
  | succ f ih =>
    intro i j
    rw [lcF, lcF, ih, ih, ih]
    by_cases hin : s + i < n ∧ s + j < m
    · rw [if_pos hin, if_pos (by omega)]; rfl
    · rw [if_neg hin, if_neg (by omega)]
theorem lcB_from (E : Nat → Nat → Bool) (n m s i j : Nat) : lcB (fun a b => E (s + a) (s + b)) (n - s) (m - s) i j = lcB E n m (s + i) (s + j) := by
  unfold lcB
  rw [lcF_from]
  congr 1
  omega
/-- What is asked of E only within the lists. -/
theorem lcF_same (E F : Nat → Nat → Bool) (n m : Nat) (h : ∀ a b, a < n → b < m → E a b = F a b) : ∀ (f i j : Nat), lcF E n m f i j = lcF F n m f i j := by
  intro f
  induction f with
  | zero => intro i j; rfl
  | succ f ih =>
    intro i j
    rw [lcF, lcF, ih, ih, ih]
    by_cases hin : i < n ∧ j < m
    · rw [if_pos hin, if_pos hin, h i j hin.1 hin.2]
    · rw [if_neg hin, if_neg hin]
theorem lcB_same (E F : Nat → Nat → Bool) (n m i j : Nat) (h : ∀ a b, a < n → b < m → E a b = F a b) : lcB E n m i j = lcB F n m i j := lcF_same E F n m h _ i j

/-- The pairs from two places on. -/
def lnF (E : Nat → Nat → Bool) (n m : Nat) : Nat → Nat → Nat → List (Nat × Nat)
  | 0, _, _ => []
  | f + 1, i, j => if i < n ∧ j < m then (if E i j = true then (i, j) :: lnF E n m f (i + 1) (j + 1) else if lcB E n m i (j + 1) ≤ lcB E n m (i + 1) j then lnF E n m f (i + 1) j else lnF E n m f i (j + 1)) else []
def lnP (E : Nat → Nat → Bool) (n m i j : Nat) : List (Nat × Nat) := lnF E n m ((n - i) + (m - j)) i j
theorem lnF_out (E : Nat → Nat → Bool) (n m f i j : Nat) (h : ¬ (i < n ∧ j < m)) : lnF E n m f i j = [] := by
  cases f with
  | zero => rfl
  | succ f => rw [lnF, if_neg h]
theorem lnF_fuel (E : Nat → Nat → Bool) (n m : Nat) : ∀ (f i j : Nat), (n - i) + (m - j) ≤ f → lnF E n m f i j = lnP E n m i j := by
  intro f
  induction f using Nat.strongRecOn with
  | ind f ih =>
    intro i j h
    unfold lnP
    by_cases hin : i < n ∧ j < m
    · obtain ⟨g, hg⟩ : ∃ g, (n - i) + (m - j) = g + 1 := ⟨(n - i) + (m - j) - 1, by omega⟩
      obtain ⟨f', rfl⟩ : ∃ f', f = f' + 1 := ⟨f - 1, by omega⟩
      rw [hg, lnF, lnF, if_pos hin, if_pos hin]
      have a1 := ih f' (by omega) (i + 1) (j + 1) (by omega)
      have a2 := ih f' (by omega) (i + 1) j (by omega)
      have a3 := ih f' (by omega) i (j + 1) (by omega)
      rw [a1, a2, a3]
      by_cases hf : g = f'
      · subst hf
        rw [a1, a2, a3]
      · have b1 := ih g (by omega) (i + 1) (j + 1) (by omega)
        have b2 := ih g (by omega) (i + 1) j (by omega)
        have b3 := ih g (by omega) i (j + 1) (by omega)
        rw [b1, b2, b3]
    · rw [lnF_out _ _ _ _ _ _ hin, lnF_out _ _ _ _ _ _ hin]
theorem lnP_out (E : Nat → Nat → Bool) (n m i j : Nat) (h : ¬ (i < n ∧ j < m)) : lnP E n m i j = [] := lnF_out _ _ _ _ _ _ h
theorem lnP_in (E : Nat → Nat → Bool) (n m i j : Nat) (hi : i < n) (hj : j < m) : lnP E n m i j = if E i j = true then (i, j) :: lnP E n m (i + 1) (j + 1) else if lcB E n m i (j + 1) ≤ lcB E n m (i + 1) j then lnP E n m (i + 1) j else lnP E n m i (j + 1) := by
  obtain ⟨g, hg⟩ : ∃ g, (n - i) + (m - j) = g + 1 := ⟨(n - i) + (m - j) - 1, by omega⟩
  rw [← lnF_fuel E n m (g + 1) i j (by omega), lnF, if_pos ⟨hi, hj⟩, lnF_fuel _ _ _ _ _ _ (by omega), lnF_fuel _ _ _ _ _ _ (by omega), lnF_fuel _ _ _ _ _ _ (by omega)]
theorem lnP_yes (E : Nat → Nat → Bool) (n m i j : Nat) (hi : i < n) (hj : j < m) (h : E i j = true) : lnP E n m i j = (i, j) :: lnP E n m (i + 1) (j + 1) := by rw [lnP_in _ _ _ _ _ hi hj, if_pos h]
theorem lnP_a (E : Nat → Nat → Bool) (n m i j : Nat) (hi : i < n) (hj : j < m) (h : E i j = false) (hg : lcB E n m i (j + 1) ≤ lcB E n m (i + 1) j) : lnP E n m i j = lnP E n m (i + 1) j := by rw [lnP_in _ _ _ _ _ hi hj, if_neg (by rw [h]; decide), if_pos hg]
theorem lnP_b (E : Nat → Nat → Bool) (n m i j : Nat) (hi : i < n) (hj : j < m) (h : E i j = false) (hg : ¬ lcB E n m i (j + 1) ≤ lcB E n m (i + 1) j) : lnP E n m i j = lnP E n m i (j + 1) := by rw [lnP_in _ _ _ _ _ hi hj, if_neg (by rw [h]; decide), if_neg hg]
theorem lnP_same (E F : Nat → Nat → Bool) (n m : Nat) (h : ∀ a b, a < n → b < m → E a b = F a b) : ∀ (f i j : Nat), lnF E n m f i j = lnF F n m f i j := by
  intro f
  induction f with
  | zero => intro i j; rfl
  | succ f ih =>
    intro i j
    rw [lnF, lnF, ih, ih, ih, lcB_same E F n m _ _ h, lcB_same E F n m _ _ h]
    by_cases hin : i < n ∧ j < m
    · rw [if_pos hin, if_pos hin, h i j hin.1 hin.2]
    · rw [if_neg hin, if_neg hin]
theorem lnP_len (E : Nat → Nat → Bool) (n m : Nat) : ∀ (f i j : Nat), (n - i) + (m - j) ≤ f → (lnP E n m i j).length = lcB E n m i j := by
  intro f
  induction f with
  | zero =>
    intro i j h
    rw [lcB_out _ _ _ _ _ (by omega), lnP_out _ _ _ _ _ (by omega)]; rfl
  | succ f ih =>
    intro i j h
    by_cases hin : i < n ∧ j < m
    · cases hE : E i j with
      | true => rw [lnP_yes _ _ _ _ _ hin.1 hin.2 hE, lcB_yes _ _ _ _ _ hin.1 hin.2 hE, List.length_cons, ih _ _ (by omega)]
      | false =>
        by_cases hg : lcB E n m i (j + 1) ≤ lcB E n m (i + 1) j
        · rw [lnP_a _ _ _ _ _ hin.1 hin.2 hE hg, lcB_no _ _ _ _ _ hin.1 hin.2 hE, ih _ _ (by omega)]; omega
        · rw [lnP_b _ _ _ _ _ hin.1 hin.2 hE hg, lcB_no _ _ _ _ _ hin.1 hin.2 hE, ih _ _ (by omega)]; omega
    · rw [lcB_out _ _ _ _ _ hin, lnP_out _ _ _ _ _ hin]; rfl
theorem lnP_length (E : Nat → Nat → Bool) (n m i j : Nat) : (lnP E n m i j).length = lcB E n m i j := lnP_len E n m _ i j (Nat.le_refl _)
theorem lnP_small (E : Nat → Nat → Bool) (n m i j : Nat) : (lnP E n m i j).length ≤ n - i := by
  rw [lnP_length]; exact (lcB_le E n m _ i j (Nat.le_refl _)).1
/-- A rising row of pairs from two places on. -/
def RiseFrom (E : Nat → Nat → Bool) (n m : Nat) : Nat → Nat → List (Nat × Nat) → Prop
  | _, _, [] => True
  | i, j, p :: r => i ≤ p.1 ∧ j ≤ p.2 ∧ p.1 < n ∧ p.2 < m ∧ E p.1 p.2 = true ∧ RiseFrom E n m (p.1 + 1) (p.2 + 1) r
theorem rise_le (E : Nat → Nat → Bool) (n m : Nat) : ∀ (r : List (Nat × Nat)) (i j : Nat), RiseFrom E n m i j r → r.length ≤ lcB E n m i j
  | [], i, j, _ => Nat.zero_le _
  | p :: r, i, j, h => by
    obtain ⟨h1, h2, h3, h4, h5, h6⟩ := h
    have ih := rise_le E n m r _ _ h6
    have e1 := lcB_yes E n m p.1 p.2 h3 h4 h5
    have m1 := lcB_monoI E n m i p.2 (p.1 - i)
    have m2 := lcB_monoJ E n m i j (p.2 - j)
    rw [show i + (p.1 - i) = p.1 by omega] at m1
    rw [show j + (p.2 - j) = p.2 by omega] at m2
    rw [List.length_cons]
    omega
end Go.Proofs.YtbabmkilbbbmoaaDoor

/-
  match's numbers: a map in memory that numbers texts, and what of and ofTexts do.
-/
namespace Go.Proofs.YtbabmkilbbbmoaaDoor
open Go.RowKit Go.Maps Go.WideMaps
set_option linter.unusedVariables false
set_option linter.unusedSimpArgs false

theorem skey_ok {s : ByteArray} (h : s.size ≤ 9223372036854775807) : keyOf Tryd.prog 9 (.string s) = some (.string s.data.toList) :=
  keyOf_string_mk Tryd.underlying9 h
theorem zeroI (w : World) : (zeroValue 3).run Tryd.prog w = .ok (.int .i64 0) w := by kernel_rfl
theorem lawS : Keyed Tryd.prog 9 := string_keyed Tryd.underlying9

/-- Texts with their numbers. -/
def addT (D : List (List UInt8)) (s : List UInt8) : List (List UInt8) := if s ∈ D then D else D ++ [s]
def addAll (D : List (List UInt8)) : List (List UInt8) → List (List UInt8)
  | [] => D
  | s :: r => addAll (addT D s) r
def numT (D : List (List UInt8)) (s : List UInt8) : Int := (D.idxOf s : Int)
theorem addT_len (D : List (List UInt8)) (s : List UInt8) : (addT D s).length ≤ D.length + 1 := by unfold addT; split <;> simp
theorem addT_mem (D : List (List UInt8)) (s : List UInt8) : s ∈ addT D s := by unfold addT; split <;> simp [*]
theorem addT_pre (D : List (List UInt8)) (s : List UInt8) : D <+: addT D s := by
  unfold addT; split
  · exact List.prefix_refl _
  · exact List.prefix_append _ _
theorem addAll_pre : ∀ (l D : List (List UInt8)), D <+: addAll D l
  | [], D => List.prefix_refl _
  | s :: r, D => (addT_pre D s).trans (addAll_pre r _)
theorem addAll_len : ∀ (l D : List (List UInt8)), (addAll D l).length ≤ D.length + l.length
  | [], D => by simp [addAll]
  | s :: r, D => by
    have := addAll_len r (addT D s)
    have := addT_len D s
    simp only [addAll, List.length_cons]; omega
theorem addAll_app : ∀ (l k D : List (List UInt8)), addAll D (l ++ k) = addAll (addAll D l) k
  | [], k, D => rfl
  | s :: r, k, D => addAll_app r k _
theorem numT_pre {D D' : List (List UInt8)} (h : D <+: D') {s : List UInt8} (hs : s ∈ D) : numT D' s = numT D s := by
  obtain ⟨t, rfl⟩ := h
  unfold numT
  rw [List.idxOf_append, if_pos hs]
theorem addAll_mem : ∀ (l D : List (List UInt8)) (s : List UInt8), s ∈ l → s ∈ addAll D l
  | [], D, s, h => by cases h
  | x :: r, D, s, h => by
    rcases List.mem_cons.1 h with rfl | h
    · exact (addAll_pre r _).subset (addT_mem D s)
    · exact addAll_mem r _ s h
theorem numT_inj {D : List (List UInt8)} {s t : List UInt8} (hs : s ∈ D) (ht : t ∈ D) : numT D s = numT D t ↔ s = t := by
  constructor
  · intro h
    unfold numT at h
    have h' : D.idxOf s = D.idxOf t := by omega
    have e1 := List.getElem_idxOf (List.idxOf_lt_length_of_mem hs)
    have e2 := List.getElem_idxOf (List.idxOf_lt_length_of_mem ht)
    rw [← e1, ← e2]
    congr 1
  · rintro rfl; rfl
theorem numT_new {D : List (List UInt8)} {s : List UInt8} (h : ¬ s ∈ D) : numT (D ++ [s]) s = (D.length : Int) := by
  unfold numT
  rw [List.idxOf_append, if_neg h]
  simp

/-- A map that numbers these texts. -/
def NumM (w : World) (b : Nat) (D : List (List UInt8)) : Prop :=
  ∃ d : DataW Unit, w.ownsMap Tryd.prog 9 (plainElem Tryd.prog 3) b D.length d ∧ Maps.size d = D.length ∧ ∀ s : List UInt8, Maps.has d (.string s) = decide (s ∈ D) ∧ (s ∈ D → d.atKey (.string s) (.lit (.int .i64 0)) = .lit (.int .i64 (numT D s)))
theorem NumM.lt {w : World} {b : Nat} {D : List (List UInt8)} (h : NumM w b D) : b < w.heap.size := by
  obtain ⟨d, h1, _⟩ := h; exact h1.lt
theorem NumM.kept {w w' : World} {b : Nat} {D : List (List UInt8)} {row : Option Nat} (h : NumM w b D) (hg : w.grownBy w' row) (hne : some b ≠ row) : NumM w' b D := by
  obtain ⟨d, h1, h2⟩ := h; exact ⟨d, h1.kept hg hne, h2⟩
theorem NumM.alloc {w : World} {b : Nat} {D : List (List UInt8)} (h : NumM w b D) (o : Obj) : NumM (w.alloc o) b D := by
  obtain ⟨d, h1, h2⟩ := h; exact ⟨d, h1.alloc o, h2⟩
theorem NumM.later {w w' : World} {b : Nat} {D : List (List UInt8)} (h : NumM w b D) (hb : Below w.heap.size w w') : NumM w' b D := by
  have hl := h.lt
  obtain ⟨d, ⟨es, clock, h1, r⟩, h2⟩ := h
  exact ⟨d, ⟨es, clock, (hb.block b hl).trans h1, r⟩, h2⟩
theorem NumM.ne {w : World} {b : Nat} {D : List (List UInt8)} (h : NumM w b D) {bb o : Nat} {v : Value} (hc : w.cell? ⟨bb, o, none⟩ = some v) : bb ≠ b := by
  rintro rfl
  obtain ⟨d, ⟨es, clock, h1, r⟩, h2⟩ := h
  simp [World.cell?, h1] at hc
theorem grown_cell {w w1 : World} {b : Nat} (h1 : w.grownBy w1 (some b)) {bb o : Nat} {v : Value} (hc : w.cell? ⟨bb, o, none⟩ = some v) (hne : bb ≠ b) : w1.cell? ⟨bb, o, none⟩ = some v :=
  (World.cell?_of_block (a := ⟨bb, o, none⟩) (h1.block bb (World.block_lt_of_cell? w ⟨bb, o, none⟩ hc) (by simpa using hne))).trans hc
theorem numM_new (w : World) : NumM (w.alloc (.map #[] 0)) w.heap.size [] :=
  ⟨.map [], World.ownsMap_made _ _ _ _, rfl, fun s => ⟨by simp [Maps.has], fun h => by cases h⟩⟩

/-- What a call may change: the map's block, and what is new. -/
theorem grown_trans {w w1 w2 : World} {b : Nat} (h1 : w.grownBy w1 (some b)) (h2 : w1.grownBy w2 (some b)) : w.grownBy w2 (some b) :=
  ⟨h2.os.trans h1.os, h2.tape.trans h1.tape, h2.output.trans h1.output, Nat.le_trans h1.size h2.size, fun k hk hne => (h2.block k (Nat.lt_of_lt_of_le hk h1.size) hne).trans (h1.block k hk hne)⟩
theorem grown_below {w w1 w2 : World} {b : Nat} (h1 : w.grownBy w1 (some b)) (h2 : Below w.heap.size w1 w2) : w.grownBy w2 (some b) :=
  ⟨h2.os.trans h1.os, h2.tape.trans h1.tape, h2.output.trans h1.output, Nat.le_trans h1.size h2.size, fun k hk hne => (h2.block k hk).trans (h1.block k hk hne)⟩

theorem owns_grown {w w' : World} {base : Nat} {e : TypeId} {size : Nat} {v : Value} {n : Nat} {xs : List Value} (h : w.ownsRow base e size v n xs) {M : Nat} (hg : w.grownBy w' (some M)) (hM : M < base) : w'.ownsRow base e size v n xs := by
  obtain ⟨hl, h⟩ := h
  refine ⟨hl, ?_⟩
  rcases h with h | ⟨g, cap, cur, h1, h2, h3, h4, h5, h6, h7⟩
  · exact .inl h
  · refine .inr ⟨g, cap, cur, h1, h2, ?_, h4, h5, h6, h7⟩
    have hlt : g < w.heap.size := by
      rcases Nat.lt_or_ge g w.heap.size with h | h
      · exact h
      · rw [Array.getElem?_eq_none h] at h3; cases h3
    rw [hg.block g hlt (by intro e; cases e; omega)]; exact h3
set_option maxHeartbeats 1000000 in
set_option maxRecDepth 100000 in
theorem nof_old (b : Nat) (D : List (List UInt8)) (s : ByteArray) (w : World) (h : NumM w b D) (hs : s.size ≤ 9223372036854775807) (hin : s.data.toList ∈ D) :
    Calls Tryd.prog 62 #[.map (some b), .string s] w fun e w' => e = .returned (.int .i64 (numT D s.data.toList)) ∧ w' = w := by
  obtain ⟨d, hown, hsz, hall⟩ := h
  obtain ⟨hhas, hat0⟩ := hall s.data.toList
  have hat1 := hat0 hin
  rw [decide_eq_true hin] at hhas
  have HAT := hide hat1
  have hkey := skey_ok hs
  have HO := hide hown
  clear hat0 hat1 hall hown hin hsz
  go_enter Tryd.func62, Tryd.ntmps62
  go_wp2_with (at_lookup; refine wpList_lookup_own_ok_int _ rfl _ _ 65 rfl 9 3 .i64 lawS Tryd.underlying65 Tryd.underlying3 (zeroI _) b D.length d rfl (unhide HO) _ _ rfl hkey ?_; intro c hat hwc; rw [hhas]; have hc : c = numT D s.data.toList := by (have := (unhide HAT).symm.trans hat; injection this with this; injection this with _ this; exact this.symm))
  go_ret
  exact ⟨rfl, rfl⟩
theorem NumM.put {w1 : World} {b : Nat} {D : List (List UInt8)} {s : List UInt8} {d : DataW Unit} (hnin : ¬ s ∈ D) (hm : Maps.IsMap d) (ht : Maps.Tidy d) (hsz : Maps.size d = D.length) (hall : ∀ s : List UInt8, Maps.has d (.string s) = decide (s ∈ D) ∧ (s ∈ D → d.atKey (.string s) (.lit (.int .i64 0)) = .lit (.int .i64 (numT D s))))
    (h : w1.ownsMap Tryd.prog 9 (plainElem Tryd.prog 3) b (D.length + 1) (d.put (.string s) (.lit (.int .i64 (D.length : Int))))) : NumM w1 b (D ++ [s]) := by
  refine ⟨_, by rw [List.length_append]; exact h, ?_, fun t => ?_⟩
  · rw [Maps.size_put ht, (hall s).1, decide_eq_false hnin, List.length_append, hsz]; rfl
  · by_cases e : t = s
    · subst e
      refine ⟨?_, fun _ => ?_⟩
      · rw [Maps.has_put_same hm (by trivial)]; simp
      · rw [Maps.atKey_put_same hm (by trivial), numT_new hnin]
    · have hne : (Lit.string t) ≠ (Lit.string s) := fun x => e (by injection x)
      refine ⟨?_, fun ht' => ?_⟩
      · rw [Maps.has_put_other hne, (hall t).1]
        by_cases hd : t ∈ D <;> simp [hd, e]
      · have hd : t ∈ D := by
          rcases List.mem_append.1 ht' with h | h
          · exact h
          · simp at h; exact absurd h e
        rw [Maps.atKey_put_other hne, (hall t).2 hd, numT_pre (List.prefix_append _ _) hd]

set_option maxHeartbeats 1000000 in
set_option maxRecDepth 100000 in
theorem nof_new (b : Nat) (D : List (List UInt8)) (s : ByteArray) (w : World) (h : NumM w b D) (hs : s.size ≤ 9223372036854775807) (hl : D.length ≤ 1000000) (hin : ¬ s.data.toList ∈ D) :
    Calls Tryd.prog 62 #[.map (some b), .string s] w fun e w' => e = .returned (.int .i64 (D.length : Int)) ∧ NumM w' b (D ++ [s.data.toList]) ∧ w.grownBy w' (some b) := by
  obtain ⟨d, hown, hsz, hall⟩ := h
  obtain ⟨hhas, _⟩ := hall s.data.toList
  rw [decide_eq_false hin] at hhas
  have HP := hide (fun w1 h1 => NumM.put (w1 := w1) (b := b) hin hown.isMap (hown.tidy lawS) hsz hall h1)
  have hkey := skey_ok hs
  have HO := hide hown
  have hw1 : (Lit.int .i64 (D.length : Int)).wf = true := WalkArith.wf_i64 (by omega)
  clear hall hown hin
  go_enter Tryd.func62, Tryd.ntmps62
  go_wp2_with (first
    | (at_lookup; refine wpList_lookup_own_ok_int _ rfl _ _ 65 rfl 9 3 .i64 lawS Tryd.underlying65 Tryd.underlying3 (zeroI _) b D.length d rfl (unhide HO) _ _ rfl hkey ?_; intro c hat hwc; rw [hhas])
    | (at_len; refine wpList_len_own _ rfl _ 65 rfl 9 3 Tryd.underlying65 _ b D.length d rfl (unhide HO) ?_; rw [hsz])
    | (at_mapUpdate; refine wpList_mapUpdate_own _ rfl _ _ _ 65 rfl 9 3 lawS Tryd.underlying65 (plainElem (H := Unit) Tryd.prog 3) b D.length d rfl (unhide HO) (by unfold maxLen; omega) _ _ _ rfl rfl hkey _ [] (plainElem_int Tryd.underlying3 hw1) ?_; intro w1 hown1 hgrow1)
    | go_in)
  go_ret
  exact ⟨rfl, unhide HP _ hown1, hgrow1⟩
set_option maxRecDepth 100000 in
theorem nof_any (b : Nat) (D : List (List UInt8)) (s : ByteArray) (w : World) (h : NumM w b D) (hs : s.size ≤ 9223372036854775807) (hl : D.length ≤ 1000000) :
    Calls Tryd.prog 62 #[.map (some b), .string s] w fun e w' => e = .returned (.int .i64 (numT (addT D s.data.toList) s.data.toList)) ∧ NumM w' b (addT D s.data.toList) ∧ w.grownBy w' (some b) := by
  by_cases hin : s.data.toList ∈ D
  · refine (nof_old b D s w h hs hin).mono ?_
    rintro e w' ⟨rfl, rfl⟩
    unfold addT
    rw [if_pos hin]
    exact ⟨rfl, h, ⟨rfl, rfl, rfl, Nat.le_refl _, fun _ _ _ => rfl⟩⟩
  · refine (nof_new b D s w h hs hl hin).mono ?_
    rintro e w' ⟨rfl, h2, h3⟩
    unfold addT
    rw [if_neg hin, numT_new hin]
    exact ⟨rfl, h2, h3⟩

/-! ### a list's numbers -/
def intV (z : Int) : Value := .int .i64 z
theorem mfoInt0 : (Tryd.prog.info? 3).map (fun i => (i.zero, i.size, i.bytes)) = some (some (.int .i64 0), 1, 8) := by kernel_rfl
theorem mfoInt : ∃ i, Tryd.prog.info? 3 = some i ∧ i.zero = some (.int .i64 0) ∧ i.size = 1 ∧ i.bytes = 8 := by
  have h := mfoInt0
  cases hi : Tryd.prog.info? 3 with
  | none => rw [hi] at h; cases h
  | some i =>
    rw [hi] at h
    simp only [Option.map_some, Option.some.injEq, Prod.mk.injEq] at h
    exact ⟨i, rfl, h.1, h.2.1, h.2.2⟩
theorem cell_one_new (w : World) (x : Value) (t : TypeId) : ∀ j u, [x][j]? = some u → (w.alloc (Obj.cells #[x] t)).cell? ((⟨w.heap.size, 0, none⟩ : Addr).add j) = some u := by
  intro j u h
  cases j with
  | zero => simp at h; subst h; exact World.cell?_alloc_at _ _ _ _ rfl
  | succ j => simp at h
def tx (ss : List ByteArray) (k : Nat) : ByteArray := ss.getD k ByteArray.empty
def txs (ss : List ByteArray) : List (List UInt8) := ss.map (fun s => s.data.toList)
theorem txs_take (ss : List ByteArray) (k : Nat) (h : k < ss.length) : (txs ss).take (k + 1) = (txs ss).take k ++ [(tx ss k).data.toList] := by
  unfold txs tx
  rw [List.take_add_one, List.getElem?_map, List.getElem?_eq_getElem h, List.getD, List.getElem?_eq_getElem h]
  rfl
/-- The numbers of the first k of some texts. -/
def numsK (D : List (List UInt8)) (l : List (List UInt8)) : List Int := l.map (numT (addAll D l))
theorem numsK_snoc (D l : List (List UInt8)) (s : List UInt8) : numsK D (l ++ [s]) = numsK D l ++ [numT (addAll D (l ++ [s])) s] := by
  unfold numsK
  rw [List.map_append]
  congr 1
  apply List.map_congr_left
  intro x hx
  rw [addAll_app]
  exact numT_pre (addAll_pre _ _) (addAll_mem l D x hx)
set_option maxHeartbeats 1000000 in
theorem ofTexts_any (b : Nat) (D : List (List UInt8)) (v : Value) (ss : List ByteArray) (w : World) (h : NumM w b D) (hv : View w v ss) (hs : ∀ k, k < ss.length → (tx ss k).size ≤ 9223372036854775807) (hl : D.length + ss.length ≤ 100000) :
    Calls Tryd.prog 60 #[.map (some b), v] w fun e w' => ∃ u, e = .returned u ∧ w'.ownsRow w.heap.size 3 1 u ss.length ((numsK D (txs ss)).map intV) ∧ NumM w' b (addAll D (txs ss)) ∧ w.grownBy w' (some b) := by
  obtain ⟨hvl, a, cap, rfl, hc⟩ := hv
  obtain ⟨i0, hi0, hi1, hi2, hi3⟩ := mfoInt
  have HC := hide hc
  have HS := hide hs
  have hb0 := h.lt
  have H := hide h
  have HT : Hid ((txs ss).take ss.length = txs ss) := hide (List.take_of_length_le (by unfold txs; rw [List.length_map]; exact Nat.le_refl _))
  have HTK := hide (txs_take ss)
  have HLK : Hid (∀ k, ((txs ss).take k).length ≤ k) := hide (fun k => by rw [List.length_take]; omega)
  generalize hT : txs ss = T at *
  clear hc hs h hT
  go_enter Tryd.func60, Tryd.ntmps60
  go_wp2
  go_loopw [10, 5] (fun i u wr => ∃ k : Nat, k ≤ ss.length ∧ i = .int .i64 k ∧ wr.ownsRow w.heap.size 3 1 u k ((numsK D (T.take k)).map intV) ∧ NumM wr b (addAll D (T.take k)) ∧ w.grownBy wr (some b)) (fun i _ _ => ss.length - (intOf i).toNat)
  case atStart => exact ⟨0, Nat.zero_le _, rfl, by simpa [numsK] using World.ownsRow_nil w w.heap.size 3 1, by simpa [addAll] using unhide H, ⟨rfl, rfl, rfl, Nat.le_refl _, fun _ _ _ => rfl⟩⟩
  case round =>
    obtain ⟨k, hk, rfl, hrow, hnum, hgr⟩ := hrel
    have HR := hide hrow
    have HN := hide hnum
    have HG := hide hgr
    have hz := hgr.size
    clear hrow hnum hgr
    by_cases hp : k < ss.length
    · have hpi : (k : Int) < (ss.length : Int) := by omega
      obtain ⟨bb, off, rfl, hcell⟩ := unhide HC (by omega)
      have c0 := grown_cell (unhide HG) (hcell k hp) ((unhide H).ne (hcell k hp))
      have hsk := unhide HS k hp
      have htk := unhide HTK k hp
      have hlk := unhide HLK k
      have hlk2 := addAll_len (T.take k) D
      have CN := hide (fun W hW => nof_any b (addAll D (T.take k)) (tx ss k) W hW hsk (by omega))
      have HS1 : Hid (addT (addAll D (T.take k)) (tx ss k).data.toList = addAll D (T.take (k + 1))) := hide (by rw [htk, addAll_app]; rfl)
      have HS2 : Hid (numsK D (T.take (k + 1)) = numsK D (T.take k) ++ [numT (addAll D (T.take (k + 1))) (tx ss k).data.toList]) := hide (by rw [htk]; exact numsK_snoc _ _ _)
      have c1 : wr.cell? ⟨bb, off + k, none⟩ = some (.string (tx ss k)) := c0
      rw [unhide HS1] at CN
      obtain ⟨ra, rn, rc, hu⟩ := slice_of (unhide HR)
      subst hu
      generalize numT (addAll D (T.take (k + 1))) (tx ss k).data.toList = z at *
      generalize tx ss k = t at *
      clear htk c0 hsk hcell HS1 hlk hlk2
      go_wp2_with fail
      refine (unhide CN wr (unhide HN)).mono ?_
      rintro e w2 ⟨rfl, hn2, hg2⟩
      have hb2 := hn2.lt
      have R2 := hide (owns_grown (unhide HR) hg2 hb0)
      have N2 := hide hn2
      have G2 := hide (grown_trans (unhide HG) hg2)
      have hz2 := (unhide G2).size
      clear hn2 hg2 CN HN HR HG
      go_wp2_with (at_builtin; refine wpList_append_own_at _ rfl _ _ 38 rfl w.heap.size 3 i0 (.int .i64 0) 1 8 Tryd.underlying38 hi0 hi1 hi2 hi3 rfl (by decide) (.slice ra rn rc) _ _ rfl ((unhide R2).alloc _) ⟨w2.heap.size, 0, none⟩ 1 1 [.int .i64 z] rfl rfl ?c1 ?c2 ?c3 ?c4 ?c5 ?_)
      case c1 => exact cell_one_new _ _ _
      case c2 => simp [Value.oneCell']
      case c3 => simp only [maxLen]; omega
      case c4 => omega
      case c5 => simp; omega
      intro u' w3 hown hgr _ hat
      have hrb : ∀ j, some j = (Value.slice ra rn rc).ownBlock → w.heap.size ≤ j := fun j hj => ((unhide R2).lt j hj.symm).1
      go_wp2
      go_roundw
      case rel =>
        refine ⟨k + 1, by omega, by go_num, ?_, ?_, ?_⟩
        · rw [unhide HS2, List.map_append]; exact hown
        · exact ((unhide N2).alloc _).kept hgr (fun e => by have := hrb _ e; omega)
        · exact grown_below (unhide G2) (((Below.refl w.heap.size w2).alloc (by omega) _).grown hgr (by simp; omega) (fun j hj => hrb j hj.symm))
      case measure => simp [intOf]; omega
    · have hke : k = ss.length := by omega
      have hpi : ¬ (k : Int) < (ss.length : Int) := by omega
      subst hke
      rw [unhide HT] at HR HN
      go_wp2
      go_ret
      exact ⟨_, rfl, unhide HR, unhide HN, unhide HG⟩
end Go.Proofs.YtbabmkilbbbmoaaDoor
