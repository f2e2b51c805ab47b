/-
  The small case that every law of layer 5 asks.
-/
import Derived.Test.YtakjlolmmoladaaGreatDoorTAl
namespace Go.Proofs.YtakjlolmmoladaaGreatDoor
open Go.RowKit
set_option linter.unusedVariables false

/-- The token at a place of a row: its cells. -/
def TokAt (g k : Nat) (t : PTok) (q : Option Addr) (cap : Nat) (w : World) : Prop :=
  w.cell? ⟨g, k * 5, none⟩ = some (.int .i64 t.1) ∧ w.cell? ⟨g, k * 5 + 1, none⟩ = some (.string t.2.1) ∧ w.cell? ⟨g, k * 5 + 2, none⟩ = some (.slice q t.2.2.1.length cap) ∧
  w.cell? ⟨g, k * 5 + 3, none⟩ = some (.bool t.2.2.2.1) ∧ w.cell? ⟨g, k * 5 + 4, none⟩ = some (.string t.2.2.2.2)
theorem flatE_get (es : List ETok) : ∀ k e, es[k]? = some e → ∀ j, j < 5 → (flatE es)[k * 5 + j]? = (cellsE e)[j]? := by
  induction es with
  | nil => intro k e h; simp at h
  | cons a l ih =>
    intro k e h j hj
    cases k with
    | zero =>
      simp at h; subst h
      rw [flatE, List.flatMap_cons, Nat.zero_mul, Nat.zero_add, List.getElem?_append_left (by simp [cellsE]; omega)]
    | succ k =>
      simp at h
      have := ih k e h j hj
      rw [flatE, List.flatMap_cons, List.getElem?_append_right (by simp [cellsE]; omega)]
      unfold flatE at this
      rw [← this]
      congr 1
      simp [cellsE]; omega
theorem TokRow.open {base : Nat} {SL : Value} {ts : List PTok} {w : World} (h : TokRow base SL ts w) :
    ∃ q cap, SL = .slice q ts.length cap ∧ (ts = [] ∨ ∃ g, q = some ⟨g, 0, none⟩ ∧ base ≤ g ∧ ∀ k t, ts[k]? = some t → ∃ qa ca, TokAt g k t qa ca w ∧ SlN (cap := ca) base qa t.2.2.1 w) := by
  obtain ⟨es, rfl, hown, hap⟩ := h
  obtain ⟨hl, h⟩ := hown
  rcases h with ⟨rfl, h0⟩ | ⟨g, cap, cur, rfl, h1, h2, h3, h4, h5, h6⟩
  · have : es = [] := List.eq_nil_of_length_eq_zero h0
    subst this
    exact ⟨none, 0, rfl, Or.inl rfl⟩
  · refine ⟨_, cap, by simp, Or.inr ⟨g, rfl, h1, fun k t ht => ?_⟩⟩
    rw [List.getElem?_map] at ht
    cases he : es[k]? with
    | none => rw [he] at ht; cases ht
    | some e =>
      rw [he] at ht
      simp at ht
      subst ht
      have key : ∀ j x, (flatE es)[j]? = some x → w.cell? ⟨g, j, none⟩ = some x := fun j x hj => by
        rw [Joins.cell_of_block h2]
        rw [← h6, List.getElem?_take] at hj
        split at hj
        · simpa using hj
        · cases hj
      have fl := flatE_get es k e he
      have hmem : e ∈ es := List.mem_of_getElem? he
      refine ⟨e.2.1, e.2.2, ⟨key _ _ ((fl 0 (by omega)).trans rfl), key _ _ ((fl 1 (by omega)).trans rfl), key _ _ ((fl 2 (by omega)).trans rfl), key _ _ ((fl 3 (by omega)).trans rfl), key _ _ ((fl 4 (by omega)).trans rfl)⟩, ?_⟩
      rcases hap e hmem with h | ⟨g', a, b, c, d⟩
      · exact Or.inl h
      · exact Or.inr ⟨g', a, b, d⟩

def tagsS : ByteArray := ⟨#[60, 65, 32, 98, 61, 49, 32, 66, 61, 39, 50, 39, 32, 99, 47, 62, 120, 60, 33, 45, 45, 62]⟩
def tagsL : List PTok := [(1, ⟨#[97]⟩, [(⟨#[98]⟩, ⟨#[49]⟩), (⟨#[99]⟩, ⟨#[]⟩)], true, ⟨#[]⟩), (3, ⟨#[]⟩, [], false, ⟨#[120]⟩), (4, ⟨#[]⟩, [], false, ⟨#[]⟩)]
set_option maxRecDepth 100000 in
theorem tags_all : allT tagsS = tagsL := by kernel_rfl

set_option maxHeartbeats 4000000 in
set_option maxRecDepth 100000 in
theorem tags_ok (w : World) (ht : Tab4 w) (hm : Mx w) : Calls Tryz.prog 5 #[] w fun e w' => e = .returned (.bool true) ∧ Below w.heap.size w w' := by
  have C := hide (all5_any tagsS w ht hm (by decide))
  unfold AllPost at C
  rw [tags_all] at C
  unfold tagsS at C
  clear ht hm
  go_enter Tryz.func5, Tryz.ntmps5
  go_wp2_with fail
  refine (unhide C).mono ?_
  rintro e w1 ⟨SL, rfl, hrow, hb⟩
  obtain ⟨q, cap, rfl, hcs⟩ := hrow.open
  rcases hcs with h | ⟨g, rfl, hg, hcs⟩
  · cases h
  obtain ⟨q0, ca0, ⟨a0, a1, a2, a3, a4⟩, _⟩ := hcs 0 _ rfl
  obtain ⟨q1, ca1, ⟨b0, b1, b2, b3, b4⟩, _⟩ := hcs 1 _ rfl
  obtain ⟨q2, ca2, ⟨c0, c1, c2, c3, c4⟩, _⟩ := hcs 2 _ rfl
  simp only [tagsL, List.length_cons, List.length_nil, Nat.zero_add, Nat.reduceAdd, Nat.zero_mul, Nat.one_mul, Nat.reduceMul] at a0 a1 a2 a3 a4 b0 b1 b2 b3 b4 c0 c1 c2 c3 c4 ⊢
  clear hcs hrow hg C
  go_wp2
  go_ret
  exact ⟨rfl, hb⟩
end Go.Proofs.YtakjlolmmoladaaGreatDoor
