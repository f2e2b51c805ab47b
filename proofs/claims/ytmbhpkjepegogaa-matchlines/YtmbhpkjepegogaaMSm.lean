/-
  The law's own 'same' of rectolaw20: the same pairs?
-/
import Derived.Test.YtmbhpkjepegogaaMLl
namespace Go.Proofs.Ytmbhpkjepegogaa
open Go.RowKit Go.Maps
set_option linter.unusedVariables false
set_option linter.unusedSimpArgs false

/-- Pairs in memory of the one type or the other one, cell by cell. -/
def PrCells (w : World) (u : Value) (L : List (Int × Int × Bool)) : Prop := ∃ q c, u = .slice q L.length c ∧ (0 < L.length → ∃ g, q = some ⟨g, 0, none⟩ ∧ ∀ k, k < L.length → w.cell? ⟨g, k * 3, none⟩ = some (.int .i64 (L.getD k p0).1) ∧ w.cell? ⟨g, k * 3 + 1, none⟩ = some (.int .i64 (L.getD k p0).2.1) ∧ w.cell? ⟨g, k * 3 + 2, none⟩ = some (.bool (L.getD k p0).2.2))
theorem owns_pr {w : World} {base : Nat} {t : TypeId} {u : Value} {L : List (Int × Int × Bool)} (h : w.ownsRow base t 3 u L.length (flatP L)) : PrCells w u L := by
  obtain ⟨_, h⟩ := h
  rcases h with ⟨h1, h0⟩ | ⟨g, cap, cur, h0, h1, h2, h3, h4, h5, h6⟩
  · exact ⟨none, 0, by rw [h0]; exact h1, fun x => by omega⟩
  · refine ⟨_, cap, h0, fun hp => ⟨g, rfl, fun k hk => ?_⟩⟩
    have hc : ∀ j, j < 3 → w.cell? ⟨g, k * 3 + j, none⟩ = (pairL (L.getD k p0))[j]? := by
      intro j hj
      rw [Joins.cell_of_block h2, ← flatP_split L k hk j hj, ← h6, List.getElem?_take, if_pos (by omega)]
      simp
    exact ⟨hc 0 (by decide), hc 1 (by decide), hc 2 (by decide)⟩
theorem PrCells.below {w w' : World} {u : Value} {L : List (Int × Int × Bool)} (h : PrCells w u L) (hb : Below w.heap.size w w') : PrCells w' u L := by
  obtain ⟨q, c, h1, h2⟩ := h
  refine ⟨q, c, h1, fun h0 => ?_⟩
  obtain ⟨g, h3, h4⟩ := h2 h0
  have hc : ∀ p v, w.cell? ⟨g, p, none⟩ = some v → w'.cell? ⟨g, p, none⟩ = some v := fun p v hv => (hb.cell (p := ⟨g, p, none⟩) (World.block_lt_of_cell? w _ hv)).trans hv
  exact ⟨g, h3, fun k hk => ⟨hc _ _ (h4 k hk).1, hc _ _ (h4 k hk).2.1, hc _ _ (h4 k hk).2.2⟩⟩

set_option maxHeartbeats 2000000 in
set_option maxRecDepth 100000 in
theorem same20_yes (u v : Value) (L : List (Int × Int × Bool)) (w : World) (hu : PrCells w u L) (hv : PrCells w v L) (hl : L.length ≤ 1000000) :
    Calls Try.prog 6 #[u, v] w fun e w' => e = .returned (.bool true) ∧ Below w.heap.size w w' := by
  obtain ⟨q1, c1, rfl, h1⟩ := hu
  obtain ⟨q2, c2, rfl, h2⟩ := hv
  have H1 := hide h1
  have H2 := hide h2
  generalize hn : L.length = n at *
  clear h1 h2 hn
  go_enter Try.func6, Try.ntmps6
  go_wp2
  go_loopw [8] (fun i wr => ∃ k : Nat, k ≤ n ∧ i = .int .i64 (k : Int) ∧ Below w.heap.size w wr) (fun i _ => n - (intOf i).toNat)
  case atStart => exact ⟨0, Nat.zero_le _, rfl, Below.refl _ _⟩
  case round =>
    obtain ⟨k, hk, rfl, hbl⟩ := hrel
    by_cases hp : k < n
    · have hpi : (k : Int) < (n : Int) := by omega
      have hpn : ¬ (n : Int) ≤ (k : Int) := by omega
      have hpd : decide (n ≤ k) = false := decide_eq_false (by omega)
      obtain ⟨g1, hq1, f1⟩ := unhide H1 (by omega)
      obtain ⟨g2, hq2, f2⟩ := unhide H2 (by omega)
      subst hq1
      subst hq2
      have hc : ∀ g p v, w.cell? ⟨g, p, none⟩ = some v → wr.cell? ⟨g, p, none⟩ = some v := fun g p v hv => (hbl.cell (p := ⟨g, p, none⟩) (World.block_lt_of_cell? w _ hv)).trans hv
      have a0 := hc _ _ _ (f1 k hp).1
      have a1 := hc _ _ _ (f1 k hp).2.1
      have a2 := hc _ _ _ (f1 k hp).2.2
      have b0 := hc _ _ _ (f2 k hp).1
      have b1 := hc _ _ _ (f2 k hp).2.1
      have b2 := hc _ _ _ (f2 k hp).2.2
      generalize (L.getD k p0).1 = x at *
      generalize (L.getD k p0).2.1 = y at *
      generalize (L.getD k p0).2.2 = z at *
      have HBL := hide hbl
      clear hc f1 f2 hbl
      go_wp2
      go_region
      go_wp2
      go_roundw
      case rel => exact ⟨k + 1, by omega, by go_num, (unhide HBL).drew⟩
      case measure => simp [intOf]; omega
    · have hpi : ¬ (k : Int) < (n : Int) := by omega
      go_wp2
      go_ret
      exact ⟨by simp, hbl⟩
end Go.Proofs.Ytmbhpkjepegogaa
