/-
  Two attributes have one name just where the map of names has fewer entries than there are attributes.
-/
import Derived.Test.YtmiehnknnkcdlacDoorPOp
namespace Go.Proofs.YtmiehnknnkcdlacDoor
open Go.RowKit Go.Maps Go.WideMaps
set_option linter.unusedVariables false

/-- Is the name at a place one of the first k ones? -/
def seenF (ats : List (ByteArray × ByteArray)) (i : Nat) : Nat → Bool
  | 0 => false
  | k + 1 => seenF ats i k || decide (an ats k = an ats i)
/-- Of the first n names, are two the same? -/
def dupF (ats : List (ByteArray × ByteArray)) : Nat → Bool
  | 0 => false
  | n + 1 => dupF ats n || seenF ats n n
theorem isKey (b : ByteArray) : WideAt.IsKeyLit (.string b.data.toList) := by simp [WideAt.IsKeyLit]
theorem keyA_lit (ats : List (ByteArray × ByteArray)) (k : Nat) : WideAt.IsKeyLit (keyA ats k) := isKey _
theorem keyA_eq {ats : List (ByteArray × ByteArray)} {k i : Nat} : keyA ats k = keyA ats i ↔ an ats k = an ats i := by
  unfold keyA
  constructor
  · intro h
    have : (an ats k).data.toList = (an ats i).data.toList := by simpa using h
    rw [← bs_self (an ats k), this, bs_self]
  · intro h; rw [h]
theorem put_tidy {H : Type} (ats : List (ByteArray × ByteArray)) : ∀ k, Tidy (putA (H := H) ats k)
  | 0 => tidy_empty
  | k + 1 => (put_tidy ats k).put (isKey _) _
theorem put_has {H : Type} (ats : List (ByteArray × ByteArray)) (i : Nat) : ∀ k, has (putA (H := H) ats k) (keyA ats i) = seenF ats i k
  | 0 => rfl
  | k + 1 => by
    rw [putA, seenF]
    by_cases e : an ats k = an ats i
    · rw [← keyA_eq.2 e, has_put_same (put_tidy ats k).isMap (keyA_lit ats k), decide_eq_true e]; simp
    · rw [has_put_other (fun h => e (keyA_eq.1 h.symm)), put_has ats i k, decide_eq_false e]; simp
theorem put_size (ats : List (ByteArray × ByteArray)) : ∀ k, Maps.size (putA (H := Unit) ats k) ≤ k ∧ (dupF ats k = true ↔ Maps.size (putA (H := Unit) ats k) < k)
  | 0 => ⟨Nat.le_refl _, by constructor
                            · intro h; cases h
                            · intro h; omega⟩
  | k + 1 => by
    have ih := put_size ats k
    rw [putA, size_put (put_tidy ats k), put_has, dupF]
    cases hs : seenF ats k k with
    | true => simp; omega
    | false =>
      simp only [Bool.or_false]
      refine ⟨by simp; omega, ?_⟩
      rw [ih.2]; simp
theorem diff_dup (ats : List (ByteArray × ByteArray)) : dupF ats ats.length = decide (diffN ats < ats.length) := by
  have := (put_size ats ats.length).2
  unfold diffN
  rw [Bool.eq_iff_iff, this, decide_eq_true_eq]
theorem dup_more {ats : List (ByteArray × ByteArray)} {i : Nat} (h : seenF ats i i = true) : ∀ n, i < n → dupF ats n = true
  | 0, hn => by omega
  | n + 1, hn => by
    rw [dupF]
    by_cases e : i = n
    · subst e; rw [h]; simp
    · rw [dup_more h n (by omega)]; rfl
theorem seen_more {ats : List (ByteArray × ByteArray)} {i k : Nat} (h : an ats k = an ats i) : ∀ n, k < n → seenF ats i n = true
  | 0, hn => by omega
  | n + 1, hn => by
    rw [seenF]
    by_cases e : k = n
    · subst e; rw [decide_eq_true h]; simp
    · rw [seen_more h n (by omega)]; rfl
end Go.Proofs.YtmiehnknnkcdlacDoor
