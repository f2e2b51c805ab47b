/-
  A block of cells as it lies in memory; a world made a letter.
-/
import Derived.Test.YtbaoomkdlbjhlaaBase
namespace Go.Proofs.Ytbaoomkdlbjhlaa
open Go.RowKit
set_option linter.unusedVariables false

/-- A block of cells, as it lies. -/
def Blk (w : World) (b : Nat) (vs : Array Value) (t : TypeId) : Prop := w.heap[b]? = some (.cells vs t (0, 0))
theorem Blk.lt {w : World} {b : Nat} {vs : Array Value} {t : TypeId} (h : Blk w b vs t) : b < w.heap.size := by
  rcases Nat.lt_or_ge b w.heap.size with h' | h'
  · exact h'
  · unfold Blk at h; rw [Array.getElem?_eq_none h'] at h; cases h
theorem Blk.cell {w : World} {b : Nat} {vs : Array Value} {t : TypeId} (h : Blk w b vs t) (o : Nat) : w.cell? ⟨b, o, none⟩ = vs[o]? := Joins.cell_of_block h o
theorem Blk.frozen {w : World} {b : Nat} {vs : Array Value} {t : TypeId} (h : Blk w b vs t) (o : Nat) : w.frozen? ⟨b, o, none⟩ = false := by
  have h' : w.heap[b]? = some (.cells vs t (0, 0)) := h
  simp [World.frozen?, h']
theorem Blk.below {w w' : World} {b B : Nat} {vs : Array Value} {t : TypeId} (h : Blk w b vs t) (hb : Below B w w') (hB : b < B) : Blk w' b vs t := (hb.block b hB).trans h
theorem Blk.later {w w' : World} {b : Nat} {vs : Array Value} {t : TypeId} (h : Blk w b vs t) (hb : Below w.heap.size w w') : Blk w' b vs t := h.below hb h.lt
theorem Blk.alloc {w : World} {b : Nat} {vs : Array Value} {t : TypeId} (h : Blk w b vs t) (o : Obj) : Blk (w.alloc o) b vs t := h.later ((Below.refl _ _).alloc (Nat.le_refl _) _)
theorem Blk.new (w : World) (vs : Array Value) (t : TypeId) : Blk (w.alloc (.cells vs t)) w.heap.size vs t := by show (w.heap.push _)[w.heap.size]? = _; simp
theorem Blk.away {w : World} {b : Nat} {vs : Array Value} {t : TypeId} (h : Blk w b vs t) {b' o : Nat} (hb : b ≠ b') (u : Value) : Blk (w.setCell ⟨b', o, none⟩ u) b vs t := (Below.heap_setCell w ⟨b', o, none⟩ u b hb).trans h
theorem Blk.set {w : World} {b : Nat} {vs : Array Value} {t : TypeId} (h : Blk w b vs t) (o : Nat) (ho : o < vs.size) (u : Value) : Blk (w.setCell ⟨b, o, none⟩ u) b (vs.set o u) t := by
  have h' : w.heap[b]? = some (.cells vs t (0, 0)) := h
  simp [Blk, World.setCell, Array.getElem?_modify, h', Array.setIfInBounds, ho]

/-- From here on no more is asked of the world than this. -/
theorem calls_from {P : Program} {f : FuncId} {args : Array Value} {W : World} {R : Ending → World → Prop} (S : World → Prop) (h : S W) (k : ∀ W', S W' → Calls P f args W' R) : Calls P f args W R := k W h
end Go.Proofs.Ytbaoomkdlbjhlaa
