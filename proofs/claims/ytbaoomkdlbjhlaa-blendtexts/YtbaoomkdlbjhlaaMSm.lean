/-
  The law's own 'same' of rectolaw20: the same pairs?
-/
import Derived.Test.YtbaoomkdlbjhlaaMLl
namespace Go.Proofs.Ytbaoomkdlbjhlaa
open Go.RowKit Go.Maps
set_option linter.unusedVariables false
set_option linter.unusedSimpArgs false

/-- Pairs in memory of the one type or the other one, cell by cell. -/
def PrCells (w : World) (u : Value) (L : List (Int × Int × Bool)) : Prop := ∃ q c, u = .slice q L.length c ∧ (0 < L.length → ∃ g, q = some ⟨g, 0, none⟩ ∧ ∀ k, k < L.length → w.cell? ⟨g, k * 3, none⟩ = some (.int .i64 (L.getD k p0).1) ∧ w.cell? ⟨g, k * 3 + 1, none⟩ = some (.int .i64 (L.getD k p0).2.1) ∧ w.cell? ⟨g, k * 3 + 2, none⟩ = some (.bool (L.getD k p0).2.2))
theorem owns_pr {w : World} {base : Nat} {t : TypeId} {u : Value} {L : List (Int × Int × Bool)} (h : w.ownsRow base t 3 u L.length (flatP L)) : PrCells w u L := by
  obtain ⟨_, h⟩ := h
  rcases h with ⟨h1, h0⟩ | ⟨g, cap, cur, h0, h1, h2, h3, h4, h5, h6⟩
  · exact ⟨none, 0, by rw [h0]; exact h1, fun x => by omega⟩
  · refine ⟨_, cap, h0, fun hp => ⟨g, rfl, fun k hk => ?_⟩⟩
    have hc : ∀ j, j < 3 → w.cell? ⟨g, k * 3 + j, none⟩ = (pairL (L.getD k p0))[j]? := by
      intro j hj
      rw [Joins.cell_of_block h2, ← flatP_split L k hk j hj, ← h6, List.getElem?_take, if_pos (by omega)]
      simp
    exact ⟨hc 0 (by decide), hc 1 (by decide), hc 2 (by decide)⟩
theorem PrCells.below {w w' : World} {u : Value} {L : List (Int × Int × Bool)} (h : PrCells w u L) (hb : Below w.heap.size w w') : PrCells w' u L := by
  obtain ⟨q, c, h1, h2⟩ := h
  refine ⟨q, c, h1, fun h0 => ?_⟩
  obtain ⟨g, h3, h4⟩ := h2 h0
  have hc : ∀ p v, w.cell? ⟨g, p, none⟩ = some v → w'.cell? ⟨g, p, none⟩ = some v := fun p v hv => (hb.cell (p := ⟨g, p, none⟩) (World.block_lt_of_cell? w _ hv)).trans hv
  exact ⟨g, h3, fun k hk => ⟨hc _ _ (h4 k hk).1, hc _ _ (h4 k hk).2.1, hc _ _ (h4 k hk).2.2⟩⟩

end Go.Proofs.Ytbaoomkdlbjhlaa
