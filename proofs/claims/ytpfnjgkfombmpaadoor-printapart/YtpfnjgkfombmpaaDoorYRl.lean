/-
  How deep nodes lie: the program's and the reference's answer are one; 'tree.apart'.
-/
import Derived.Test.YtpfnjgkfombmpaaDoorYRd
namespace Go.Proofs.YtpfnjgkfombmpaaDoor
open Go.RowKit
set_option linter.unusedVariables false

theorem tell_dep_append : ∀ (a b : List Item) (m : Nat), tell depStep m (a ++ b) = tell depStep (tell depStep m a) b
  | [], b, m => rfl
  | it :: a, b, m => by
    show (if (depStep m it).2 = true then tell depStep (depStep m it).1 (a ++ b) else _) = tell depStep (if (depStep m it).2 = true then tell depStep (depStep m it).1 a else _) b
    rw [if_pos (show (depStep m it).2 = true from rfl), if_pos (show (depStep m it).2 = true from rfl)]
    exact tell_dep_append a b _
theorem counts_leaf (k : Int) : countsB k = !leafB k := by
  unfold countsB leafB
  rw [Bool.not_or]; rfl
theorem tell_depth : ∀ (f : Forest) (d m : Nat), tell depStep m (items f (d + 1)) = max m (if f.depth = 0 then 0 else f.depth + d)
  | .nil, d, m => by show m = max m 0; omega
  | .cons k sp n ats tx kids r, d, m => by
    show (if (depStep m ⟨k, sp, n, ats, tx, kids, d + 1⟩).2 = true then tell depStep (depStep m ⟨k, sp, n, ats, tx, kids, d + 1⟩).1 (items kids (d + 1 + 1) ++ items r (d + 1)) else _) = _
    rw [if_pos (show (depStep m ⟨k, sp, n, ats, tx, kids, d + 1⟩).2 = true from rfl), tell_dep_append, tell_depth kids, tell_depth r]
    show max (max (if countsB k = true then max m (d + 1) else m) (if kids.depth = 0 then 0 else kids.depth + (d + 1))) (if r.depth = 0 then 0 else r.depth + d) = max m (if max (if 0 < kids.depth ∨ leafB k = false then kids.depth + 1 else kids.depth) r.depth = 0 then 0 else max (if 0 < kids.depth ∨ leafB k = false then kids.depth + 1 else kids.depth) r.depth + d)
    rw [counts_leaf]
    generalize kids.depth = x
    generalize r.depth = y
    cases leafB k with
    | false =>
      rw [if_pos (show (!false) = true from rfl), if_pos (show 0 < x ∨ false = false from Or.inr rfl)]
      split <;> split <;> split <;> omega
    | true =>
      rw [if_neg (show ¬ (!true) = true by simp)]
      by_cases hx : 0 < x
      · rw [if_pos (Or.inl hx)]
        split <;> split <;> split <;> omega
      · rw [if_neg (show ¬ (0 < x ∨ true = false) by simp; omega)]
        split <;> split <;> split <;> omega
theorem depth_is (f : Forest) : tell depStep 0 (items f 1) = f.depth := by
  rw [tell_depth f 0 0]
  split <;> omega
theorem greatB_is (f : Forest) : greatB f = (decide (300 < f.count) || decide (40 < f.depth)) := by
  unfold greatB; rw [depth_is]
end Go.Proofs.YtpfnjgkfombmpaaDoor
