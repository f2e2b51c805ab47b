/-
  The reference's Lists of layer 20, plainly: what 'at' tells and how far a gap goes, of whole pairs that rise.
-/
import Derived.Test.YtbabmkilbbbmoaaDoorMgBP
namespace Go.Proofs.YtbabmkilbbbmoaaDoor
open Go.RowKit
set_option linter.unusedVariables false
set_option linter.unusedSimpArgs false

theorem patF_pre : ∀ (P : List (Nat × Nat)) (i k : Nat), (∀ x, x < k → x < P.length → (P.getD x (0, 0)).1 < i) → patF (whP P) (i : Int) = patF (whP (P.drop k)) (i : Int)
  | [], i, k, _ => by rw [List.drop_nil]
  | p :: r, i, 0, _ => rfl
  | p :: r, i, k + 1, h => by
    have h0 : p.1 < i := h 0 (by omega) (by simp)
    have : whP (p :: r) = ((p.1 : Int), (p.2 : Int), true) :: whP r := rfl
    rw [this, patF, if_neg (by show ¬ (p.1 : Int) = (i : Int); omega), patF_pre r i k (fun x hx hl => by
      have := h (x + 1) (by omega) (by simp; omega)
      simpa using this)]
    rfl
theorem patF_none : ∀ (R : List (Nat × Nat)) (n m i i' j : Nat), i < i' → RiseFrom (fun _ _ => true) n m i' j R → patF (whP R) (i : Int) = ((i : Int), -1, false)
  | [], _, _, i, _, _, _, _ => rfl
  | p :: r, n, m, i, i', j, hi, h => by
    have h1 := h.1
    have : whP (p :: r) = ((p.1 : Int), (p.2 : Int), true) :: whP r := rfl
    rw [this, patF, if_neg (by show ¬ (p.1 : Int) = (i : Int); omega)]
    exact patF_none r n m i (p.1 + 1) (p.2 + 1) (by omega) h.2.2.2.2.2
theorem patF_head (p : Nat × Nat) (r : List (Nat × Nat)) (i : Nat) (h : p.1 = i) : patF (whP (p :: r)) (i : Int) = ((i : Int), (p.2 : Int), true) := by
  have : whP (p :: r) = ((p.1 : Int), (p.2 : Int), true) :: whP r := rfl
  rw [this, patF, if_pos (by show (p.1 : Int) = (i : Int); omega), h]
/-- Up to where a gap goes. -/
def toF (m : Nat) : List (Nat × Nat) → Nat
  | [] => m
  | p :: _ => p.2
/-- A list of whole pairs, seen from place k on. -/
theorem rise_at {n m : Nat} : ∀ (R : List (Nat × Nat)) (i j : Nat), RiseFrom (fun _ _ => true) n m i j R → ∀ x, x < R.length → i ≤ (R.getD x (0, 0)).1 ∧ toF m R ≤ (R.getD x (0, 0)).2 ∧ (R.getD x (0, 0)).2 < m
  | [], _, _, _, x, hx => by simp at hx
  | p :: r, i, j, h, 0, _ => ⟨h.1, Nat.le_refl _, h.2.2.2.1⟩
  | p :: r, i, j, h, x + 1, hx => by
    have h2 := rise_at r (p.1 + 1) (p.2 + 1) h.2.2.2.2.2 x (by simp at hx; omega)
    have h1 := h.1
    have hl : p.2 + 1 ≤ toF m r := by
      cases r with
      | nil => simp at hx
      | cons q s => exact h.2.2.2.2.2.2.1
    simp only [List.getD_cons_succ]
    exact ⟨by omega, by show p.2 ≤ _; omega, h2.2.2⟩
/-- rlF's step, all in one. -/
theorem rlF_whole (A : Nat → Nat → Bool) (m f i j : Nat) (p : Nat × Nat) (r : List (Nat × Nat)) (h : p.1 = i) : rlF A m (f + 1) i j (p :: r) = ((i : Int), (p.2 : Int), true) :: rlF A m f (i + 1) (p.2 + 1) r := by rw [rlF, if_pos h]
theorem rlF_some (A : Nat → Nat → Bool) (m f i j x : Nat) (R : List (Nat × Nat)) (h : ∀ p r, R = p :: r → p.1 ≠ i) (hx : fdF (A i) (toF m R - j) j = some x) : rlF A m (f + 1) i j R = ((i : Int), (x : Int), false) :: rlF A m f (i + 1) (x + 1) R := by
  cases R with
  | nil => rw [rlF]; rw [show m = toF m [] from rfl, hx]
  | cons p r => rw [rlF, if_neg (h p r rfl)]; rw [show p.2 = toF m (p :: r) from rfl, hx]
theorem rlF_no (A : Nat → Nat → Bool) (m f i j : Nat) (R : List (Nat × Nat)) (h : ∀ p r, R = p :: r → p.1 ≠ i) (hx : fdF (A i) (toF m R - j) j = none) : rlF A m (f + 1) i j R = rlF A m f (i + 1) j R := by
  cases R with
  | nil => rw [rlF]; rw [show m = toF m [] from rfl, hx]
  | cons p r => rw [rlF, if_neg (h p r rfl)]; rw [show p.2 = toF m (p :: r) from rfl, hx]
end Go.Proofs.YtbabmkilbbbmoaaDoor
