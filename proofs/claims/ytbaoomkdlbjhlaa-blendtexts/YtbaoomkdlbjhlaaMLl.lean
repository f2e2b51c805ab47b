/-
  The small case of rectolaw20: lines.
-/
import Derived.Test.YtbaoomkdlbjhlaaMLi
namespace Go.Proofs.Ytbaoomkdlbjhlaa
open Go.RowKit Go.Maps
set_option linter.unusedVariables false
set_option linter.unusedSimpArgs false

def p0 : Int × Int × Bool := (0, 0, false)
theorem flatP_split (L : List (Int × Int × Bool)) (k : Nat) (h : k < L.length) (j : Nat) (hj : j < 3) : (flatP L)[k * 3 + j]? = (pairL (L.getD k p0))[j]? := by
  induction L generalizing k with
  | nil => simp at h
  | cons e r ih =>
    cases k with
    | zero =>
      simp only [flatP, Nat.zero_mul, Nat.zero_add]
      rw [List.getElem?_append_left (by simp [pairL]; omega)]
      rfl
    | succ k =>
      simp only [flatP]
      rw [List.getElem?_append_right (by simp [pairL]; omega)]
      have : (k + 1) * 3 + j - (pairL e).length = k * 3 + j := by simp [pairL]; omega
      rw [this, ih k (by simpa using h)]
      rfl
/-- Pairs in memory, cell by cell. -/
theorem PairsV.cells {w : World} {base : Nat} {u : Value} {L : List (Int × Int × Bool)} (h : PairsV w base u L) : ∃ q c, u = .slice q L.length c ∧ (0 < L.length → ∃ g, q = some ⟨g, 0, none⟩ ∧ g < w.heap.size ∧ ∀ k, k < L.length → w.cell? ⟨g, k * 3, none⟩ = some (.int .i64 (L.getD k p0).1) ∧ w.cell? ⟨g, k * 3 + 1, none⟩ = some (.int .i64 (L.getD k p0).2.1) ∧ w.cell? ⟨g, k * 3 + 2, none⟩ = some (.bool (L.getD k p0).2.2)) := by
  obtain ⟨_, h⟩ := h
  rcases h with ⟨h1, h0⟩ | ⟨g, cap, cur, h0, h1, h2, h3, h4, h5, h6⟩
  · exact ⟨none, 0, by rw [h0]; exact h1, fun x => by omega⟩
  · refine ⟨_, cap, h0, fun hp => ⟨g, rfl, ?_, fun k hk => ?_⟩⟩
    · rcases Nat.lt_or_ge g w.heap.size with h' | h'
      · exact h'
      · rw [Array.getElem?_eq_none h'] at h2; cases h2
    · have hc : ∀ j, j < 3 → w.cell? ⟨g, k * 3 + j, none⟩ = (pairL (L.getD k p0))[j]? := by
        intro j hj
        rw [Joins.cell_of_block h2, ← flatP_split L k hk j hj, ← h6, List.getElem?_take, if_pos (by omega)]
        simp
      exact ⟨hc 0 (by decide), hc 1 (by decide), hc 2 (by decide)⟩
def lit3 (a b c : UInt8) : List ByteArray := [⟨#[a]⟩, ⟨#[b]⟩, ⟨#[c]⟩]
theorem view_lit (W W' : World) (a b c : UInt8) (h : Below (W.alloc (Obj.cells #[.string ⟨#[a]⟩, .string ⟨#[b]⟩, .string ⟨#[c]⟩] 9)).heap.size (W.alloc (Obj.cells #[.string ⟨#[a]⟩, .string ⟨#[b]⟩, .string ⟨#[c]⟩] 9)) W') : View W' (.slice (some ⟨W.heap.size, 0, none⟩) 3 3) (lit3 a b c) := by
  refine view_below ?_ h
  refine ⟨by show 3 ≤ _; decide, _, 3, rfl, fun _ => ⟨W.heap.size, 0, rfl, fun i hi => ?_⟩⟩
  have k := Blk.new W #[.string ⟨#[a]⟩, .string ⟨#[b]⟩, .string ⟨#[c]⟩] 9
  rw [Nat.zero_add, k.cell i]
  have hi' : i < 3 := hi
  rcases i with _ | _ | _ | i
  · rfl
  · rfl
  · rfl
  · omega
theorem lines_plain : whP (lnP (eqT (lit3 97 98 99) (lit3 98 120 99)) 3 3 0 0) = [((1 : Int), (0 : Int), true), ((2 : Int), (2 : Int), true)] := by kernel_rfl

end Go.Proofs.Ytbaoomkdlbjhlaa
