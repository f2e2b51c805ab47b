/-
  Several texts in one: what the functions of the program and of the document's answer do.
-/
import Derived.Test.YtemccomnhjhjeaaDoorMgAG

/-
  'tree.tooGreat': 'tree.walk' under its closure (made by mk_ywd.py).
-/
namespace Go.Proofs.YtemccomnhjhjeaaDoor
open Go.RowKit
set_option linter.unusedVariables false

/-! ### tree.tooGreat -/
def grB (x : Int) (k : Int) (d : Nat) : Bool := decide (300 < wrap64 (x + 1)) || (countsB k && decide (40 < (d : Int)))
def grStep (s : Int × Bool) (it : Item) : (Int × Bool) × Bool := ((wrap64 (s.1 + 1), grB s.1 it.k it.d), !(grB s.1 it.k it.d))
def GrAt (G : Nat) (s : Int × Bool) (w : World) : Prop := Blk w G #[.int .i64 s.1] 3 ∧ Blk w (G + 1) #[.bool s.2] 4
def deepIn (l : List Item) : Prop := ∃ it, it ∈ l ∧ countsB it.k = true ∧ 40 < it.d
theorem deepIn_nil : ¬ deepIn [] := fun ⟨_, h, _⟩ => by cases h
theorem deepIn_cons (it : Item) (l : List Item) : deepIn (it :: l) ↔ (countsB it.k = true ∧ 40 < it.d) ∨ deepIn l := by
  constructor
  · rintro ⟨x, hx, h⟩
    rcases List.mem_cons.1 hx with rfl | hx
    · exact Or.inl h
    · exact Or.inr ⟨x, hx, h⟩
  · rintro (h | ⟨x, hx, h⟩)
    · exact ⟨it, List.mem_cons_self .., h⟩
    · exact ⟨x, List.mem_cons_of_mem _ hx, h⟩
theorem tell_dep : ∀ (l : List Item) (m : Nat), 40 < tell depStep m l ↔ 40 < m ∨ deepIn l
  | [], m => by
    show 40 < m ↔ _
    have := deepIn_nil
    exact ⟨Or.inl, fun h => h.resolve_right this⟩
  | it :: l, m => by
    rw [tell, if_pos (show (depStep m it).2 = true from rfl), tell_dep l, deepIn_cons]
    show 40 < (if countsB it.k = true then max m it.d else m) ∨ _ ↔ _
    cases hk : countsB it.k with
    | false => rw [if_neg (by simp)]; simp
    | true =>
      rw [if_pos rfl]
      constructor
      · rintro (h | h)
        · rcases Nat.lt_or_ge 40 m with h' | h'
          · exact Or.inl h'
          · exact Or.inr (Or.inl ⟨rfl, by omega⟩)
        · exact Or.inr (Or.inr h)
      · rintro (h | ⟨_, h⟩ | h)
        · exact Or.inl (by omega)
        · exact Or.inl (by omega)
        · exact Or.inr h
theorem tell_gr : ∀ (l : List Item) (c : Nat), c ≤ 300 → ((tell grStep ((c : Int), false) l).2 = true ↔ 300 < c + l.length ∨ deepIn l)
  | [], c, hc => by
    show false = true ↔ _
    have := deepIn_nil
    constructor
    · intro h; cases h
    · rintro (h | h)
      · simp at h; omega
      · exact absurd h this
  | it :: l, c, hc => by
    have hw : wrap64 ((c : Int) + 1) = ((c + 1 : Nat) : Int) := by unfold wrap64; omega
    have hg : grB (c : Int) it.k it.d = (decide (300 < c + 1) || (countsB it.k && decide (40 < it.d))) := by
      unfold grB; rw [hw]
      congr 1
      · exact decide_eq_decide.2 (by omega)
      · congr 1; exact decide_eq_decide.2 (by omega)
    rw [tell, deepIn_cons, List.length_cons]
    show (if (!(grB (c : Int) it.k it.d)) = true then tell grStep (wrap64 ((c : Int) + 1), grB (c : Int) it.k it.d) l else (wrap64 ((c : Int) + 1), grB (c : Int) it.k it.d)).2 = true ↔ _
    cases hb : grB (c : Int) it.k it.d with
    | false =>
      rw [hb] at hg
      have h0 := hg.symm
      rw [Bool.or_eq_false_iff, Bool.and_eq_false_iff] at h0
      obtain ⟨h1, h2⟩ := h0
      have h1' : ¬ 300 < c + 1 := of_decide_eq_false h1
      rw [if_pos (by simp), hw, tell_gr l (c + 1) (by omega)]
      have hn : ¬ (countsB it.k = true ∧ 40 < it.d) := by
        rintro ⟨h3, h4⟩
        rcases h2 with h2 | h2
        · rw [h3] at h2; cases h2
        · exact of_decide_eq_false h2 h4
      rw [show c + 1 + l.length = c + (l.length + 1) by omega]
      constructor
      · rintro (h | h)
        · exact Or.inl h
        · exact Or.inr (Or.inr h)
      · rintro (h | h | h)
        · exact Or.inl h
        · exact absurd h hn
        · exact Or.inr h
    | true =>
      rw [hb] at hg
      rw [if_neg (by simp)]
      have h0 := hg.symm
      rw [Bool.or_eq_true, Bool.and_eq_true] at h0
      refine ⟨fun _ => ?_, fun _ => rfl⟩
      rcases h0 with h | ⟨h1, h2⟩
      · left; have := of_decide_eq_true h; omega
      · right; left; exact ⟨h1, of_decide_eq_true h2⟩
def greatB (f : Forest) : Bool := decide (300 < f.count) || decide (40 < tell depStep 0 (items f 1))
theorem tell_great (f : Forest) : (tell grStep (0, false) (items f 1)).2 = greatB f := by
  have h := tell_gr (items f 1) 0 (by omega)
  have h2 := tell_dep (items f 1) 0
  rw [items_len, Nat.zero_add] at h
  have h3 : (tell grStep (0, false) (items f 1)).2 = true ↔ greatB f = true := by
    unfold greatB
    rw [Bool.or_eq_true, decide_eq_true_iff, decide_eq_true_iff, h2]
    refine Iff.trans h ?_
    constructor
    · exact fun h => h.imp id Or.inr
    · exact fun h => h.imp id fun h => h.resolve_left (by omega)
  exact Bool.eq_iff_iff.2 h3
end Go.Proofs.YtemccomnhjhjeaaDoor

/-
  The reference's Depth.
-/
namespace Go.Proofs.YtemccomnhjhjeaaDoor
open Go.RowKit
set_option linter.unusedVariables false

def leafB (k : Int) : Bool := k == 2 || k == 3
def Forest.depth : Forest → Nat
  | .nil => 0
  | .cons k _ _ _ _ kids r => max (if 0 < kids.depth ∨ leafB k = false then kids.depth + 1 else kids.depth) r.depth
theorem Forest.depth_count : ∀ f : Forest, f.depth ≤ f.count
  | .nil => Nat.le_refl _
  | .cons k _ _ _ _ kids r => by
    have h1 := Forest.depth_count kids
    have h2 := Forest.depth_count r
    show max (if 0 < kids.depth ∨ leafB k = false then kids.depth + 1 else kids.depth) r.depth ≤ 1 + kids.count + r.count
    split <;> omega
end Go.Proofs.YtemccomnhjhjeaaDoor

/-
  How deep nodes lie: the program's and the reference's answer are one; 'tree.apart'.
-/
namespace Go.Proofs.YtemccomnhjhjeaaDoor
open Go.RowKit
set_option linter.unusedVariables false

theorem tell_dep_append : ∀ (a b : List Item) (m : Nat), tell depStep m (a ++ b) = tell depStep (tell depStep m a) b
  | [], b, m => rfl
  | it :: a, b, m => by
    show (if (depStep m it).2 = true then tell depStep (depStep m it).1 (a ++ b) else _) = tell depStep (if (depStep m it).2 = true then tell depStep (depStep m it).1 a else _) b
    rw [if_pos (show (depStep m it).2 = true from rfl), if_pos (show (depStep m it).2 = true from rfl)]
    exact tell_dep_append a b _
theorem counts_leaf (k : Int) : countsB k = !leafB k := by
  unfold countsB leafB
  rw [Bool.not_or]; rfl
theorem tell_depth : ∀ (f : Forest) (d m : Nat), tell depStep m (items f (d + 1)) = max m (if f.depth = 0 then 0 else f.depth + d)
  | .nil, d, m => by show m = max m 0; omega
  | .cons k sp n ats tx kids r, d, m => by
    show (if (depStep m ⟨k, sp, n, ats, tx, kids, d + 1⟩).2 = true then tell depStep (depStep m ⟨k, sp, n, ats, tx, kids, d + 1⟩).1 (items kids (d + 1 + 1) ++ items r (d + 1)) else _) = _
    rw [if_pos (show (depStep m ⟨k, sp, n, ats, tx, kids, d + 1⟩).2 = true from rfl), tell_dep_append, tell_depth kids, tell_depth r]
    show max (max (if countsB k = true then max m (d + 1) else m) (if kids.depth = 0 then 0 else kids.depth + (d + 1))) (if r.depth = 0 then 0 else r.depth + d) = max m (if max (if 0 < kids.depth ∨ leafB k = false then kids.depth + 1 else kids.depth) r.depth = 0 then 0 else max (if 0 < kids.depth ∨ leafB k = false then kids.depth + 1 else kids.depth) r.depth + d)
    rw [counts_leaf]
    generalize kids.depth = x
    generalize r.depth = y
    cases leafB k with
    | false =>
      rw [if_pos (show (!false) = true from rfl), if_pos (show 0 < x ∨ false = false from Or.inr rfl)]
      split <;> split <;> split <;> omega
    | true =>
      rw [if_neg (show ¬ (!true) = true by simp)]
      by_cases hx : 0 < x
      · rw [if_pos (Or.inl hx)]
        split <;> split <;> split <;> omega
      · rw [if_neg (show ¬ (0 < x ∨ true = false) by simp; omega)]
        split <;> split <;> split <;> omega
theorem depth_is (f : Forest) : tell depStep 0 (items f 1) = f.depth := by
  rw [tell_depth f 0 0]
  split <;> omega
theorem greatB_is (f : Forest) : greatB f = (decide (300 < f.count) || decide (40 < f.depth)) := by
  unfold greatB; rw [depth_is]
end Go.Proofs.YtemccomnhjhjeaaDoor

/-
  'tree.apart'.
-/
namespace Go.Proofs.YtemccomnhjhjeaaDoor
open Go.RowKit
set_option linter.unusedVariables false

def Forest.kind0 : Forest → Int
  | .nil => 0
  | .cons k _ _ _ _ _ _ => k
def apartB : Forest → Bool
  | .nil => true
  | .cons k _ _ _ _ _ r => !(k == 2 && r.kind0 == 2) && apartB r
theorem apart_short (f : Forest) (h : f.len ≤ 1) : apartB f = true := by
  cases f with
  | nil => rfl
  | cons k sp n ats tx kids r =>
    cases r with
    | nil => show (!(k == 2 && (0 : Int) == 2) && true) = true; simp
    | cons _ _ _ _ _ _ r => simp [Forest.len] at h
end Go.Proofs.YtemccomnhjhjeaaDoor
