/-
  What 'tree.walk' does, whatever it hands each node to.
-/
import Derived.Test.YtfdhmhdemfbfeaaYFo
import Derived.Deep.LoopGhost
import Derived.Laws.EntriesVeiled
import Derived.Laws.AppendOwn
namespace Go.Proofs.Ytfdhmhdemfbfeaa
open Go.RowKit
set_option linter.unusedVariables false

/-- A node, and how deep it lies. -/
structure Item where
  k : Int
  sp : Int
  n : ByteArray
  ats : List (ByteArray × ByteArray)
  tx : ByteArray
  kids : Forest
  d : Nat
/-- All nodes in their order, each ahead of its kids. -/
def items : Forest → Nat → List Item
  | .nil, _ => []
  | .cons k sp n ats tx kids rest, d => ⟨k, sp, n, ats, tx, kids, d⟩ :: (items kids (d + 1) ++ items rest d)
theorem items_len : ∀ (f : Forest) (d : Nat), (items f d).length = f.count
  | .nil, d => rfl
  | .cons k sp n ats tx kids rest, d => by
    show (items kids (d + 1) ++ items rest d).length + 1 = 1 + kids.count + rest.count
    rw [List.length_append, items_len kids, items_len rest]; omega
def todo : List Forest → List Item
  | [] => []
  | f :: st => items f (st.length + 1) ++ todo st
/-- What is told of nodes, one behind the other, until it is enough. -/
def tell {σ : Type} (stp : σ → Item → σ × Bool) : σ → List Item → σ
  | s, [] => s
  | s, it :: r => if (stp s it).2 = true then tell stp (stp s it).1 r else (stp s it).1

abbrev Entry := Forest × Option Addr × Nat
def Entry.val (e : Entry) : Value := .slice e.2.1 e.1.len e.2.2
def rowOf (st : List Entry) : List Value := (st.map Entry.val).reverse
theorem rowOf_cons (e : Entry) (st : List Entry) : rowOf (e :: st) = rowOf st ++ [e.val] := by simp [rowOf]
theorem rowOf_len (st : List Entry) : (rowOf st).length = st.length := by simp [rowOf]
/-- The row's last value, where it lies, and the row without it, or with another one in its place. -/
theorem row_last {w : World} {base : Nat} {e : TypeId} {v x : Value} {n : Nat} {xs : List Value} (h : w.ownsRow base e 1 v (n + 1) (xs ++ [x])) (hl : xs.length = n) :
    ∃ b cap, v = .slice (some ⟨b, 0, none⟩) (n + 1) cap ∧ base ≤ b ∧ n + 1 ≤ cap ∧ w.cell? ⟨b, n, none⟩ = some x ∧ w.frozen? ⟨b, n, none⟩ = false ∧ b < w.heap.size ∧
      w.ownsRow base e 1 (.slice (some ⟨b, 0, none⟩) n cap) n xs ∧ ∀ y, (w.setCell ⟨b, n, none⟩ y).ownsRow base e 1 (.slice (some ⟨b, 0, none⟩) (n + 1) cap) (n + 1) (xs ++ [y]) := by
  obtain ⟨hlen, h⟩ := h
  rcases h with ⟨_, h0⟩ | ⟨b, cap, cur, rfl, h1, h2, h3, h4, h5, h6⟩
  · omega
  have hsz : n < cur.size := by omega
  have hx : cur[n]? = some x := by
    have := congrArg (fun l => l[n]?) h6
    simp only [Nat.mul_one] at this
    rw [List.getElem?_take, if_pos (by omega), List.getElem?_append_right (by omega), hl, Nat.sub_self] at this
    simpa using this
  have hc : w.cell? ⟨b, n, none⟩ = some x := (Joins.cell_of_block h2 n).trans hx
  have hblt : b < w.heap.size := World.block_lt_of_cell? w _ hc
  refine ⟨b, cap, rfl, h1, h3, hc, ?_, hblt, ⟨by omega, Or.inr ⟨b, cap, cur, rfl, h1, h2, by omega, h4, h5, ?_⟩⟩, fun y => ⟨by simp; omega, Or.inr ⟨b, cap, cur.set n y hsz, rfl, h1, ?_, h3, h4, by rw [Array.size_set]; exact h5, ?_⟩⟩⟩
  · have : Blk w b cur e := h2
    exact this.frozen n
  · have := congrArg (fun l => l.take n) h6
    simp only [Nat.mul_one] at this ⊢
    rw [List.take_take, Nat.min_eq_left (by omega), List.take_left' hl] at this
    exact this
  · have : Blk w b cur e := h2
    exact this.set n hsz y
  · simp only [Nat.mul_one] at h6 ⊢
    rw [Array.toList_set, List.take_set, h6, List.set_append_right _ _ (by omega), hl, Nat.sub_self]
    rfl
end Go.Proofs.Ytfdhmhdemfbfeaa
