/-
  The two tables of package utf, and what 'utf.isCharacter' and 'utf.size' do.
-/
import Derived.Test.YtpfnjgkfombmpaaDoorUPl
namespace Go.Proofs.YtpfnjgkfombmpaaDoor
open Go.RowKit
set_option linter.unusedVariables false

/-- The two tables, as their text says them. -/
def Tabs (w : World) : Prop :=
  w.cell? ⟨0, 1, none⟩ = some (.int .i64 0) ∧ w.cell? ⟨0, 2, none⟩ = some (.int .i64 192) ∧ w.cell? ⟨0, 3, none⟩ = some (.int .i64 224) ∧ w.cell? ⟨0, 4, none⟩ = some (.int .i64 240) ∧
  w.cell? ⟨1, 1, none⟩ = some (.int .i64 128) ∧ w.cell? ⟨1, 2, none⟩ = some (.int .i64 2048) ∧ w.cell? ⟨1, 3, none⟩ = some (.int .i64 65536) ∧ w.cell? ⟨1, 4, none⟩ = some (.int .i64 1114112)
theorem Tabs.below {w w' : World} (h : Tabs w) (hb : Below w.heap.size w w') : Tabs w' := by
  obtain ⟨h1, h2, h3, h4, h5, h6, h7, h8⟩ := h
  exact ⟨cell_later hb h1, cell_later hb h2, cell_later hb h3, cell_later hb h4, cell_later hb h5, cell_later hb h6, cell_later hb h7, cell_later hb h8⟩
theorem Tabs.lt {w : World} (h : Tabs w) : 0 < w.heap.size ∧ 1 < w.heap.size := by
  obtain ⟨h1, _, _, _, h5, _⟩ := h
  exact ⟨World.block_lt_of_cell? w ⟨0, 1, none⟩ h1, World.block_lt_of_cell? w ⟨1, 1, none⟩ h5⟩

theorem isChar_any (c : Int) (w : World) :
    Calls Tryd.prog 93 #[.int .i64 c] w fun e w' => e = .returned (.bool (isC c)) ∧ w' = w := by
  by_cases h1 : 0 ≤ c
  · by_cases h2 : c ≤ 1114111
    · by_cases h3 : c < 55296
      · rw [isC_mk (by omega)]
        go_enter Tryd.func93, Tryd.ntmps93
        go_wp2
        go_ret
        exact ⟨rfl, rfl⟩
      · have h3' : 55296 ≤ c := by omega
        by_cases h4 : 57343 < c
        · rw [isC_mk (by omega)]
          clear h3
          go_enter Tryd.func93, Tryd.ntmps93
          go_wp2
          go_ret
          exact ⟨rfl, rfl⟩
        · rw [isC_no (by omega)]
          have h4' : c ≤ 57343 := by omega
          have hd : decide (57343 < c) = false := by simp; omega
          have hd3 : decide (c < 55296) = false := by simp; omega
          clear h3 h4
          go_enter Tryd.func93, Tryd.ntmps93
          go_wp2
          go_ret
          exact ⟨rfl, rfl⟩
    · rw [isC_no (by omega)]
      have h2' : 1114111 < c := by omega
      have hd : decide (c ≤ 1114111) = false := by simp; omega
      clear h2
      go_enter Tryd.func93, Tryd.ntmps93
      go_wp2
      go_ret
      exact ⟨rfl, rfl⟩
  · rw [isC_no (by omega)]
    have h1' : c < 0 := by omega
    have hd : decide (0 ≤ c) = false := by simp; omega
    clear h1
    go_enter Tryd.func93, Tryd.ntmps93
    go_wp2
    go_ret
    exact ⟨rfl, rfl⟩

theorem size_any (c : Int) (w : World) (h0 : 0 ≤ c) (h1 : c ≤ 1114111) (ht : Tabs w) :
    Calls Tryd.prog 94 #[.int .i64 c] w fun e w' => e = .returned (.int .i64 (sz c : Int)) ∧ w' = w := by
  obtain ⟨_, _, _, _, t1, t2, t3, t4⟩ := ht
  rcases sz_cases c with ⟨h, e⟩ | ⟨hl, h, e⟩ | ⟨hl, h, e⟩ | ⟨hl, e⟩
  · rw [e]
    clear e
    go_enter Tryd.func94, Tryd.ntmps94
    go_wp2
    refine wp_loop_rounds 1 ?_
    rw [rounds_succ]; go_wp2
    go_ret
    exact ⟨rfl, rfl⟩
  · rw [e]
    clear e
    go_enter Tryd.func94, Tryd.ntmps94
    go_wp2
    refine wp_loop_rounds 2 ?_
    rw [rounds_succ]; go_wp2
    rw [rounds_succ]; go_wp2
    go_ret
    exact ⟨rfl, rfl⟩
  · rw [e]
    clear e
    go_enter Tryd.func94, Tryd.ntmps94
    go_wp2
    refine wp_loop_rounds 3 ?_
    rw [rounds_succ]; go_wp2
    rw [rounds_succ]; go_wp2
    rw [rounds_succ]; go_wp2
    go_ret
    exact ⟨rfl, rfl⟩
  · rw [e]
    clear e
    go_enter Tryd.func94, Tryd.ntmps94
    go_wp2
    refine wp_loop_rounds 4 ?_
    rw [rounds_succ]; go_wp2
    rw [rounds_succ]; go_wp2
    rw [rounds_succ]; go_wp2
    rw [rounds_succ]; go_wp2
    go_ret
    exact ⟨rfl, rfl⟩
end Go.Proofs.YtpfnjgkfombmpaaDoor
