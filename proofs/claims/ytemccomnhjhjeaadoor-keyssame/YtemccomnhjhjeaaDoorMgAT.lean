/-
  Several texts in one: what the functions of the program and of the document's answer do.
-/
import Derived.Test.YtemccomnhjhjeaaDoorMgAS
import Derived.Test.YtemccomnhjhjeaaDoorMgAQ
import Derived.Laws.EntriesVeiled
import Derived.Maps.AppendAt

/-
  'slices.EqualFunc' of two lists of nodes under 'tree.alike'.
-/
namespace Go.Proofs.YtemccomnhjhjeaaDoor
open Go.RowKit
set_option linter.unusedVariables false
set_option linter.unusedSimpArgs false

def alikeL : Forest → Forest → Bool
  | .nil, .nil => true
  | .cons k sp n ats tx _ r, .cons k' sp' n' ats' tx' _ r' => alikeN k sp n ats tx k' sp' n' ats' tx' && alikeL r r'
  | _, _ => false
theorem alikeL_len : ∀ (f g : Forest), ¬ f.len = g.len → alikeL f g = false
  | .nil, .nil, h => absurd rfl h
  | .nil, .cons _ _ _ _ _ _ _, _ => rfl
  | .cons _ _ _ _ _ _ _, .nil, _ => rfl
  | .cons k sp n ats tx _ r, .cons k' sp' n' ats' tx' _ r', h => by
    show (_ && alikeL r r') = false
    rw [alikeL_len r r' (by simp [Forest.len] at h; exact h), Bool.and_false]
theorem SmF.head {k sp : Int} {n : ByteArray} {ats : List (ByteArray × ByteArray)} {tx : ByteArray} {kids rest : Forest} (h : SmF (.cons k sp n ats tx kids rest)) : ats.length ≤ 1000000000 := by
  have := h.1.2.2.1.1
  omega
theorem sm_drop : ∀ (j : Nat) (f : Forest), SmF f → SmF (f.drop j)
  | 0, f, h => by rw [Forest.drop_zero]; exact h
  | j + 1, .nil, h => by rw [Forest.drop_nil]; trivial
  | j + 1, .cons _ _ _ _ _ _ r, h => sm_drop j r h.2.2
end Go.Proofs.YtemccomnhjhjeaaDoor

/-
  'tree.Same': whether two lists of nodes are the same.
-/
namespace Go.Proofs.YtemccomnhjhjeaaDoor
open Go.RowKit
set_option linter.unusedVariables false
set_option linter.unusedSimpArgs false

def sameF : Forest → Forest → Bool
  | .nil, .nil => true
  | .cons k sp n ats tx kids r, .cons k' sp' n' ats' tx' kids' r' => alikeN k sp n ats tx k' sp' n' ats' tx' && (sameF kids kids' && sameF r r')
  | _, _ => false
def kidsB : Forest → Forest → Bool
  | .cons _ _ _ _ _ kids r, .cons _ _ _ _ _ kids' r' => sameF kids kids' && kidsB r r'
  | _, _ => true
theorem sameF_split : ∀ (f g : Forest), sameF f g = (alikeL f g && kidsB f g)
  | .nil, .nil => rfl
  | .nil, .cons _ _ _ _ _ _ _ => rfl
  | .cons _ _ _ _ _ _ _, .nil => rfl
  | .cons k sp n ats tx kids r, .cons k' sp' n' ats' tx' kids' r' => by
    show (_ && (sameF kids kids' && sameF r r')) = ((_ && alikeL r r') && (sameF kids kids' && kidsB r r'))
    rw [sameF_split r r']
    cases alikeN k sp n ats tx k' sp' n' ats' tx' <;> cases sameF kids kids' <;> cases alikeL r r' <;> rfl
abbrev PEnt := (Forest × Option Addr × Nat) × (Forest × Option Addr × Nat)
def PEnt.vals (e : PEnt) : List Value := [.slice e.1.2.1 e.1.1.len e.1.2.2, .slice e.2.2.1 e.2.1.len e.2.2.2]
def rowP : List PEnt → List Value
  | [] => []
  | e :: st => rowP st ++ PEnt.vals e
theorem rowP_len : ∀ (st : List PEnt), (rowP st).length = st.length * 2
  | [] => rfl
  | e :: st => by rw [rowP, List.length_append, rowP_len st, List.length_cons]; show st.length * 2 + 2 = _; omega
def wgt : List PEnt → Nat
  | [] => 0
  | e :: st => 1 + e.1.1.count + e.2.1.count + wgt st
theorem wgt_len : ∀ (st : List PEnt), st.length ≤ wgt st
  | [] => Nat.le_refl _
  | e :: st => by have := wgt_len st; rw [List.length_cons, wgt]; omega
def okP (w0 : World) (st : List PEnt) : Prop := ∀ e ∈ st, Fo e.1.2.1 e.1.1 w0 ∧ Fo e.2.2.1 e.2.1 w0 ∧ SmF e.1.1
def allP (st : List PEnt) : Bool := st.all fun e => sameF e.1.1 e.2.1
theorem row_last2 {w : World} {base : Nat} {e : TypeId} {v x y : Value} {n : Nat} {xs : List Value} (h : w.ownsRow base e 2 v (n + 1) (xs ++ [x, y])) (hl : xs.length = n * 2) :
    ∃ b cap, v = .slice (some ⟨b, 0, none⟩) (n + 1) cap ∧ base ≤ b ∧ n + 1 ≤ cap ∧ w.cell? ⟨b, n * 2, none⟩ = some x ∧ w.cell? ⟨b, n * 2 + 1, none⟩ = some y ∧ b < w.heap.size ∧
      w.ownsRow base e 2 (.slice (some ⟨b, 0, none⟩) n cap) n xs := by
  obtain ⟨hlen, h⟩ := h
  rcases h with ⟨_, h0⟩ | ⟨b, cap, cur, rfl, h1, h2, h3, h4, h5, h6⟩
  · omega
  have hx : cur[n * 2]? = some x := by
    have := congrArg (fun l => l[n * 2]?) h6
    rw [List.getElem?_take, if_pos (by omega), List.getElem?_append_right (by omega), hl, Nat.sub_self] at this
    simpa using this
  have hy : cur[n * 2 + 1]? = some y := by
    have := congrArg (fun l => l[n * 2 + 1]?) h6
    rw [List.getElem?_take, if_pos (by omega), List.getElem?_append_right (by omega), hl, show n * 2 + 1 - n * 2 = 1 by omega] at this
    simpa using this
  have hc : w.cell? ⟨b, n * 2, none⟩ = some x := (Joins.cell_of_block h2 (n * 2)).trans hx
  have hd : w.cell? ⟨b, n * 2 + 1, none⟩ = some y := (Joins.cell_of_block h2 (n * 2 + 1)).trans hy
  refine ⟨b, cap, rfl, h1, h3, hc, hd, World.block_lt_of_cell? w _ hc, ⟨by omega, Or.inr ⟨b, cap, cur, rfl, h1, h2, by omega, h4, h5, ?_⟩⟩⟩
  have := congrArg (fun l => l.take (n * 2)) h6
  rw [List.take_take, Nat.min_eq_left (by omega), List.take_left' hl] at this
  exact this
theorem lit2 {X : World} {N : Nat} (hN : N = X.heap.size) {vs : Array Value} {t : TypeId} {j : Nat} {u : Value} (h : vs.toList[j]? = some u) : (X.alloc (.cells vs t)).cell? ((⟨N, 0, none⟩ : Addr).add j) = some u := by
  subst hN
  rw [show (⟨X.heap.size, 0, none⟩ : Addr).add j = ⟨X.heap.size, j, none⟩ by unfold Addr.add; split <;> simp_all]
  exact ((Blk.new X vs t).cell j).trans (by simpa using h)
theorem alikeL_true {f g : Forest} (h : alikeL f g = true) : g.len = f.len := by
  by_cases e : f.len = g.len
  · exact e.symm
  · rw [alikeL_len f g e] at h; cases h
theorem len_nil {f : Forest} (h : f.len = 0) : f = .nil := by
  cases f with
  | nil => rfl
  | cons _ _ _ _ _ _ r => simp [Forest.len] at h
end Go.Proofs.YtemccomnhjhjeaaDoor
