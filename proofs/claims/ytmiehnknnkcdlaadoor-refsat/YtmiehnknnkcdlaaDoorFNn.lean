/-
  What the reference's Name does: of every name its character.
-/
import Derived.Test.YtmiehnknnkcdlaaDoorFRf
namespace Go.Proofs.YtmiehnknnkcdlaaDoor
open Go.RowKit
set_option linter.unusedVariables false

theorem rf_at (k : Nat) (h : k < 28) : rfCells.toArray[k * 2]? = some (.string (bs (nmName k))) ∧ rfCells.toArray[k * 2 + 1]? = some (.int .i64 (nmChar k)) := by
  have : k = 0 ∨ k = 1 ∨ k = 2 ∨ k = 3 ∨ k = 4 ∨ k = 5 ∨ k = 6 ∨ k = 7 ∨ k = 8 ∨ k = 9 ∨ k = 10 ∨ k = 11 ∨ k = 12 ∨ k = 13 ∨ k = 14 ∨ k = 15 ∨ k = 16 ∨ k = 17 ∨ k = 18 ∨ k = 19 ∨ k = 20 ∨ k = 21 ∨ k = 22 ∨ k = 23 ∨ k = 24 ∨ k = 25 ∨ k = 26 ∨ k = 27 := by omega
  rcases this with rfl | rfl | rfl | rfl | rfl | rfl | rfl | rfl | rfl | rfl | rfl | rfl | rfl | rfl | rfl | rfl | rfl | rfl | rfl | rfl | rfl | rfl | rfl | rfl | rfl | rfl | rfl | rfl
  all_goals exact ⟨rfl, rfl⟩
def RTab (g : Nat) (w : World) : Prop := ∀ k, k < 28 → w.cell? ⟨g, k * 2, none⟩ = some (.string (bs (nmName k))) ∧ w.cell? ⟨g, k * 2 + 1, none⟩ = some (.int .i64 (nmChar k))
theorem rTab_new (w : World) : RTab w.heap.size (w.alloc (.cells rfCells.toArray 63)) := by
  intro k hk
  have := rf_at k hk
  have hb := heap_alloc_new w (.cells rfCells.toArray 63)
  exact ⟨(Joins.cell_of_block hb _).trans this.1, (Joins.cell_of_block hb _).trans this.2⟩
theorem RTab.below {g : Nat} {w w' : World} (h : RTab g w) (hb : Below w.heap.size w w') : RTab g w' := fun k hk => ⟨cell_later hb (h k hk).1, cell_later hb (h k hk).2⟩

set_option maxHeartbeats 1000000 in
theorem rname_any (s : ByteArray) (w : World) : Calls Tryd.prog 15 #[.string s] w fun e w' => e = .returned (.int .i64 (nameC s.data.toList)) ∧ Below w.heap.size w w' := by
  have C := hide rrefs_any
  have HI : Hid (∀ k, k < 28 → nmName k = s.data.toList → nameC s.data.toList = nmChar k) := fun k hk h => by rw [← h, nameC_some (nameI_is hk)]
  have HZ : Hid ((∀ k, k < 28 → ¬ nmName k = s.data.toList) → nameC s.data.toList = 0) := fun h => by
    cases e : nameI s.data.toList with
    | none => exact nameC_none e
    | some k => exact absurd (nameI_some e).2 (h k (nameI_some e).1)
  go_enter Tryd.func15, Tryd.ntmps15
  go_wp2_with fail
  refine (unhide C _).mono ?_
  rintro e w1 ⟨rfl, rfl⟩
  have R1 := rTab_new w
  have hbA : Below w.heap.size w (w.alloc (.cells rfCells.toArray 63)) := (Below.refl _ _).alloc (Nat.le_refl _) _
  generalize w.alloc (.cells rfCells.toArray 63) = w1 at *
  have HR1 := hide R1
  clear R1
  go_wp2
  go_loopw [7] (fun i wr => ∃ k : Nat, k ≤ 28 ∧ i = .int .i64 k ∧ Below w1.heap.size w1 wr ∧ ∀ j, j < k → ¬ nmName j = s.data.toList) (fun i _ => 28 - (intOf i).toNat)
  case atStart => exact ⟨0, Nat.zero_le _, rfl, Below.refl _ _, fun j hj => by omega⟩
  case round =>
    obtain ⟨k, hk, rfl, hbw, hno⟩ := hrel
    have HN := hide hno
    clear hno
    by_cases hp : k < 28
    · have hpi : (k : Int) < 28 := by omega
      obtain ⟨d1, d2⟩ := (unhide HR1).below hbw k hp
      have hzw := hbw.size
      by_cases he : nmName k = s.data.toList
      · have hxx : bs (nmName k) = s := by rw [he, bs_self]
        have hb := beq_yes hxx
        have HC := hide (unhide HI k hp he)
        generalize bs (nmName k) = nm at *
        clear he hxx
        go_wp2
        go_ret
        exact ⟨by rw [unhide HC]; rfl, (hbA.trans (hbw.mono hbA.size)).alloc (by have := hbA.size; omega) _⟩
      · have hxx : ¬ bs (nmName k) = s := fun e => he (by rw [← e, bs_toList])
        have hb := beq_no hxx
        have HE := hide he
        generalize bs (nmName k) = nm at *
        clear he hxx
        go_wp2
        go_roundw
        case rel => exact ⟨k + 1, by omega, by go_num, hbw.alloc hbw.size _, fun j hj => by
          by_cases hjk : j = k
          · rw [hjk]; exact unhide HE
          · exact unhide HN j (by omega)⟩
        case measure => simp [intOf]; omega
    · have hpi : ¬ (k : Int) < 28 := by omega
      have HC := hide (unhide HZ (fun j hj => unhide HN j (by omega)))
      go_wp2
      go_ret
      exact ⟨by rw [unhide HC]; rfl, hbA.trans (hbw.mono hbA.size)⟩
end Go.Proofs.YtmiehnknnkcdlaaDoor
