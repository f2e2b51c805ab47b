/-
  'tree.Words': 'tree.walk' under its closure (made by mk_yww.py): the closure and the walk keep apart because their rows are of other types.
-/
import Derived.Test.YtbabmkilbbbmoaaDoorMgAR
import Derived.Test.YtbabmkilbbbmoaaDoorMgAK
namespace Go.Proofs.YtbabmkilbbbmoaaDoor
open Go.RowKit
set_option linter.unusedVariables false
set_option linter.unusedSimpArgs false

/-- Rows of lists of nodes stand as they stood. -/
def KeepN (w w' : World) : Prop := w.heap.size ≤ w'.heap.size ∧ ∀ (b : Nat) (c : Array Value), w.heap[b]? = some (Obj.cells c 22 (0, 0)) → w'.heap[b]? = some (Obj.cells c 22 (0, 0))
theorem ownsRow_keep {w w' : World} {base : Nat} {size : Nat} {v : Value} {n : Nat} {xs : List Value} (h : w.ownsRow base 22 size v n xs) (hs : KeepN w w') : w'.ownsRow base 22 size v n xs := by
  obtain ⟨hl, h⟩ := h
  refine ⟨hl, ?_⟩
  rcases h with h | ⟨g, cap, cur, h1, h2, h3, h4, h5, h6, h7⟩
  · exact .inl h
  · exact .inr ⟨g, cap, cur, h1, h2, hs.2 _ _ h3, h4, h5, h6, h7⟩
theorem row_ty {w : World} {base : Nat} {e : TypeId} {size : Nat} {b cap0 n : Nat} {xs : List Value} (h : w.ownsRow base e size (.slice (some ⟨b, 0, none⟩) n cap0) n xs) : ∃ c, w.heap[b]? = some (.cells c e (0, 0)) := by
  rcases h.2 with ⟨h, h0⟩ | ⟨g, cap, cur, h1, h2, h3, _⟩
  · cases h
  · injection h1 with h1
    injection h1 with h1
    injection h1 with h1
    subst h1
    exact ⟨cur, h3⟩
theorem kept_set {w : World} {b o : Nat} {e : TypeId} (h : ∃ c, w.heap[b]? = some (.cells c e (0, 0))) (v : Value) : Lib.OthersKept e none w (w.setCell ⟨b, o, none⟩ v) := by
  intro k x hk _ hx
  by_cases hkb : k = b
  · subst hkb
    obtain ⟨c, hc⟩ := h
    rw [hc] at hk
    injection hk with hk
    exact absurd hk.symm (hx _ _)
  · exact (Below.heap_setCell w ⟨b, o, none⟩ v k hkb).trans hk

/-! ### tree.Words -/
theorem bldF_kept {B b : Nat} {l : List UInt8} {w w1 : World} (h : BldF B b l w) (hk : Lib.OthersKept 22 none w w1) : BldF B b l w1 := by
  have one : ∀ p, Lib.BuilderAtF 122 5 B b p (Lib.byteCells l) w → Lib.BuilderAtF 122 5 B b p (Lib.byteCells l) w1 := by
    intro p h
    obtain ⟨hB, v, hbk, hown, hne⟩ := h
    refine ⟨hB, v, hk _ _ hbk (by simp) (fun c fz e => by injection e with _ e; revert e; decide), ?_, hne⟩
    obtain ⟨hl, h⟩ := hown
    refine ⟨hl, ?_⟩
    rcases h with h | ⟨g, cap, cur, fz, h1, h2, h3, h4⟩
    · exact .inl h
    · exact .inr ⟨g, cap, cur, fz, h1, h2, hk _ _ h3 (by simp) (fun c fz e => by injection e with _ e; revert e; decide), h4⟩
  rcases h with h | h
  · exact .inl (one _ h)
  · exact .inr (one _ h)
theorem bldF_blk {B b : Nat} {l : List UInt8} {w : World} (h : BldF B b l w) : ∃ c, w.heap[b]? = some (.cells c 122 (0, 0)) := by
  rcases h with ⟨_, v, hbk, _⟩ | ⟨_, v, hbk, _⟩
  · exact ⟨_, hbk⟩
  · exact ⟨_, hbk⟩
theorem keepN_of {B b : Nat} {l : List UInt8} {w w' : World} (h : BldF B b l w) (hb : Below B w w') (ho : Oth b w w') : KeepN w w' := by
  refine ⟨hb.size, fun k c hk => ho k _ hk ?_ ?_⟩
  · intro e
    obtain ⟨c', hc'⟩ := bldF_blk h
    injection e with e
    rw [e, hc'] at hk
    injection hk with hk
    injection hk with _ hk
    revert hk; decide
  · intro c' fz e
    injection e with _ e
    revert e; decide
def woStep (l : List UInt8) (it : Item) : List UInt8 × Bool := (if it.k = 2 then l ++ it.tx.data.toList else l, true)
def woF : Forest → List UInt8
  | .nil => []
  | .cons k sp n ats tx kids rest => (if k = 2 then tx.data.toList else []) ++ (woF kids ++ woF rest)
theorem tell_wo_app : ∀ (l1 l2 : List Item) (s : List UInt8), tell woStep s (l1 ++ l2) = tell woStep (tell woStep s l1) l2
  | [], l2, s => rfl
  | it :: l1, l2, s => by
    show tell woStep (woStep s it).1 (l1 ++ l2) = tell woStep (tell woStep (woStep s it).1 l1) l2
    exact tell_wo_app l1 l2 _
theorem tell_wo : ∀ (f : Forest) (d : Nat) (s : List UInt8), tell woStep s (items f d) = s ++ woF f
  | .nil, d, s => by show s = s ++ []; simp
  | .cons k sp n ats tx kids rest, d, s => by
    show tell woStep (if k = 2 then s ++ tx.data.toList else s) (items kids (d + 1) ++ items rest d) = _
    rw [tell_wo_app, tell_wo kids, tell_wo rest, woF]
    show (if k = 2 then s ++ tx.data.toList else s) ++ woF kids ++ woF rest = _
    by_cases h : k = 2
    · rw [if_pos h, if_pos h]; simp [List.append_assoc]
    · rw [if_neg h, if_neg h]; simp [List.append_assoc]
theorem tell_wo_len : ∀ (l : List Item) (s : List UInt8), s.length ≤ (tell woStep s l).length
  | [], s => Nat.le_refl _
  | it :: l, s => by
    show s.length ≤ (tell woStep (woStep s it).1 l).length
    refine Nat.le_trans ?_ (tell_wo_len l _)
    show s.length ≤ (if it.k = 2 then s ++ it.tx.data.toList else s).length
    split <;> simp
theorem wo_len : ∀ (f : Forest), SmF f → (woF f).length ≤ 5000 * f.count
  | .nil, _ => by simp [woF]
  | .cons k sp n ats tx kids rest, h => by
    have h1 := wo_len kids h.2.1
    have h2 := wo_len rest h.2.2
    have h3 := h.1.1
    have h4 : tx.data.toList.length = tx.size := by rw [Array.length_toList]; rfl
    rw [woF, List.length_append, List.length_append]
    simp only [Forest.count]
    split
    · omega
    · rw [List.length_nil]; omega
end Go.Proofs.YtbabmkilbbbmoaaDoor
