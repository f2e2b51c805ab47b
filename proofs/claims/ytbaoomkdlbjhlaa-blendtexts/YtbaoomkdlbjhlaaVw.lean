/-
  Lists of texts as slice values: what a slice shows in a world, and that it stays.
-/
import Derived.Test.YtbaoomkdlbjhlaaBase
import Derived.SliceStrings
namespace Go.Proofs.Ytbaoomkdlbjhlaa
open Go.RowKit
set_option linter.unusedVariables false

/-- A slice value that shows these texts in a world. -/
def View (w : World) (v : Value) (ss : List ByteArray) : Prop :=
  ss.length ≤ 9223372036854775807 ∧ ∃ a cap, v = .slice a ss.length cap ∧
    (0 < ss.length → ∃ b off, a = some ⟨b, off, none⟩ ∧ ∀ i, i < ss.length → w.cell? ⟨b, off + i, none⟩ = some (.string (ss.getD i ByteArray.empty)))

def sameT (a b : List ByteArray) : Bool := decide (a = b)
theorem sameT_refl (a : List ByteArray) : sameT a a = true := by simp [sameT]
theorem sameT_true {a b : List ByteArray} (h : a = b) : sameT a b = true := by simp [sameT, h]
theorem sameT_false {a b : List ByteArray} (h : ¬ a = b) : sameT a b = false := by simp [sameT, h]
theorem same_of (a b : List ByteArray) (hl : a.length = b.length) (h : ∀ i, i < a.length → a.getD i ByteArray.empty = b.getD i ByteArray.empty) : a = b := by
  apply List.ext_getElem hl
  intro i h1 h2
  have := h i h1
  rw [List.getD, List.getD, List.getElem?_eq_getElem h1, List.getElem?_eq_getElem h2] at this
  simpa using this
theorem view_of_owns {w : World} {base : Nat} {v : Value} {ts : List ByteArray} (h : w.ownsRow base 9 1 v ts.length (ts.map Value.string)) : View w v ts := by
  obtain ⟨_, h⟩ := h
  rcases h with ⟨rfl, h0⟩ | ⟨g, cap, cur, rfl, h1, h2, h3, h4, h5, h6⟩
  · exact ⟨by rw [h0]; decide, none, 0, by rw [h0], fun h => by omega⟩
  · refine ⟨Nat.le_trans h3 h4, some ⟨g, 0, none⟩, cap, rfl, fun _ => ⟨g, 0, rfl, fun i hi => ?_⟩⟩
    rw [Joins.cell_of_block h2]
    have e : cur.toList[i]? = some (.string (ts.getD i ByteArray.empty)) := by
      have : (cur.toList.take (ts.length * 1))[i]? = some (.string (ts.getD i ByteArray.empty)) := by
        rw [h6, List.getElem?_map, List.getD, List.getElem?_eq_getElem hi]; rfl
      rw [List.getElem?_take] at this
      rw [if_pos (by omega)] at this
      exact this
    simpa using e

theorem view_below {w w1 : World} {v : Value} {ss : List ByteArray} (h : View w v ss) (hb : Below w.heap.size w w1) : View w1 v ss := by
  obtain ⟨la, a, cap, rfl, hx⟩ := h
  refine ⟨la, a, cap, rfl, fun h0 => ?_⟩
  obtain ⟨b, off, rfl, hc⟩ := hx h0
  exact ⟨b, off, rfl, fun i hi => (hb.cell (p := ⟨b, off + i, none⟩) (World.block_lt_of_cell? w ⟨b, off + i, none⟩ (hc i hi))).trans (hc i hi)⟩
theorem view_alloc {w : World} {v : Value} {ss : List ByteArray} (h : View w v ss) (o : Obj) : View (w.alloc o) v ss := view_below h ((Below.refl _ _).alloc (Nat.le_refl _) _)
theorem getD_mem (ss : List ByteArray) (k : Nat) (h : k < ss.length) : ss.getD k ByteArray.empty ∈ ss := by
  have e : ss.getD k ByteArray.empty = ss[k] := by rw [List.getD, List.getElem?_eq_getElem h]; rfl
  rw [e]; exact List.getElem_mem h

/-- A slice of texts that came in, as a view. -/
theorem view_in {w : World} {a : Addr} {len cap : Nat} {ss : List ByteArray} (hl : len ≤ cap) (hm : cap ≤ maxLen) (hz : ss.length = cap)
    (hcell : ∀ i, i < ss.length → w.cell? (a.add i) = some (.string (ss.getD i ByteArray.empty))) : View w (.slice (some a) len cap) (ss.take len) := by
  have hlen : (ss.take len).length = len := by simp; omega
  refine ⟨by rw [hlen]; exact Nat.le_trans hl hm, some a, cap, by rw [hlen], fun h0 => ?_⟩
  rw [hlen] at h0 ⊢
  obtain ⟨b, off, spot⟩ := a
  have hc := hcell 0 (by omega)
  have hspot : spot = none := by simpa [Addr.add] using World.cell?_spot hc
  subst hspot
  refine ⟨b, off, rfl, fun i hi => ?_⟩
  have := hcell i (by omega)
  have e : (ss.take len).getD i ByteArray.empty = ss.getD i ByteArray.empty := by
    rw [List.getD, List.getD, List.getElem?_take, if_pos hi]
  rw [e]
  have hplain : (⟨b, off, none⟩ : Addr).add i = ⟨b, off + i, none⟩ := by unfold Addr.add; split <;> simp_all
  rw [hplain] at this
  exact this
theorem view_none (w : World) : View w (.slice none 0 0) [] := ⟨by decide, none, 0, rfl, fun h => by cases h⟩


theorem Try.infoStr : (Try.prog.info? 9).map (fun i => (i.zero, i.size, i.bytes)) = some (some (.string ⟨#[]⟩), 1, 16) := by kernel_rfl
end Go.Proofs.Ytbaoomkdlbjhlaa
