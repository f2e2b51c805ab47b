/-
  slices.Grow of nothing, slices.Concat of two lists of texts; 'policy.hasNamesOnce'.
-/
import Derived.Test.YtfdhmhdemfbfeaaWTw
import Derived.Lib.SliceRun
namespace Go.Proofs.Ytfdhmhdemfbfeaa
open Go.RowKit
set_option linter.unusedVariables false

set_option maxHeartbeats 1000000 in
theorem grow0_any (w : World) :
    Calls Try.prog 78 #[.slice none 0 0, .int .i64 0] w fun e w' => e = .returned (.slice none 0 0) ∧ w' = w := by
  go_enter Try.func78, Try.ntmps78
  go_wp2
  go_ret
  exact ⟨rfl, rfl⟩

set_option maxHeartbeats 1000000 in
theorem grow_any (n : Nat) (w : World) (h0 : 0 < n) (h1 : n ≤ 100) :
    Calls Try.prog 78 #[.slice none 0 0, .int .i64 (n : Int)] w fun e w' => ∃ cap, e = .returned (.slice (some ⟨w.heap.size, 0, none⟩) 0 cap) ∧ w'.ownsRow w.heap.size 9 1 (.slice (some ⟨w.heap.size, 0, none⟩) 0 cap) 0 [] ∧ Below w.heap.size w w' := by
  obtain ⟨i0, hi, hz0, hz1, hz2⟩ := info_parts Try.infoStr
  have hr := fun ty => Lib.run_append_grow_zeros (P := Try.prog) w 23 3 ty 9 i0 (.string ⟨#[]⟩) .i64 .i64 Try.underlying23 Try.underlying3 hi hz0 none 0 0 [] (run_firstCells_none w.drew i0.size 0 0 0) n h0 (by omega) (by omega) (by omega) (by rw [hz2]; omega) (growslice_fits (by omega) (by rw [hz2]; omega))
  rw [Nat.zero_add] at hr
  have hGn : n ≤ grownCap w n 0 9 := grownCap_ge w _ _ _
  have hGm := grownCap_le_maxLen w n 0 9 (by unfold maxLen; omega)
  generalize grownCap w n 0 9 = G at *
  have hG63 : G ≤ 9223372036854775807 := by unfold maxLen at hGm; omega
  have hni : (0 : Int) < (n : Int) := by omega
  have hni2 : decide ((n : Int) < 0) = false := by simp
  have hcs : ((Value.string ⟨#[]⟩ : Value).cells).size = 1 := rfl
  have hzz : ∀ k, (Builtin.zeroCells (Value.string ⟨#[]⟩ : Value).cells k).size = k := fun k => by simp [Builtin.zeroCells, hcs]
  generalize hC : (([] : List Value).toArray ++ Builtin.zeroCells (Value.string ⟨#[]⟩ : Value).cells n ++ Builtin.zeroCells (Value.string ⟨#[]⟩ : Value).cells (G - n)) = C at hr
  have hCs : C.size = G := by rw [← hC]; simp [hzz]; omega
  have HO : Hid ((w.drew.alloc (.cells C 9)).ownsRow w.heap.size 9 1 (.slice (some ⟨w.heap.size, 0, none⟩) 0 G) 0 []) := hide (by
    refine ⟨rfl, .inr ⟨w.heap.size, G, C, rfl, Nat.le_refl _, ?_, Nat.zero_le _, hGm, by rw [hCs]; omega, by simp⟩⟩
    exact heap_alloc_new _ _)
  clear hC hcs hzz
  go_enter Try.func78, Try.ntmps78
  go_wp2_with (at_builtin; refine wpList_append_run _ rfl _ _ _ _ rfl _ _ rfl rfl (hr _) ?_)
  go_wp2
  go_ret
  exact ⟨G, rfl, unhide HO, ((Below.refl _ _).drew).alloc (by simp) _⟩

theorem grown_any (n : Nat) (w : World) (h1 : n ≤ 100) :
    Calls Try.prog 78 #[.slice none 0 0, .int .i64 (n : Int)] w fun e w' => ∃ q cap, e = .returned (.slice q 0 cap) ∧ w'.ownsRow w.heap.size 9 1 (.slice q 0 cap) 0 [] ∧ Below w.heap.size w w' := by
  by_cases h0 : n = 0
  · subst h0
    refine (grow0_any w).mono ?_
    rintro e w' ⟨rfl, rfl⟩
    exact ⟨none, 0, rfl, World.ownsRow_nil _ _ _ _, Below.refl _ _⟩
  · refine (grow_any n w (by omega) h1).mono ?_
    rintro e w' ⟨cap, rfl, h2, h3⟩
    exact ⟨_, cap, rfl, h2, h3⟩

theorem news_of {w : World} {b off cap : Nat} {zs : List ByteArray} (hc : 0 < zs.length → ∃ b' off', (some ⟨b, off, none⟩ : Option Addr) = some ⟨b', off', none⟩ ∧ ∀ i, i < zs.length → w.cell? ⟨b', off' + i, none⟩ = some (.string (zs.getD i ByteArray.empty))) :
    ∀ j u, (zs.map Value.string)[j]? = some u → w.cell? ((⟨b, off, none⟩ : Addr).add j) = some u := by
  intro j u hj
  have hjl : j < zs.length := by
    rcases Nat.lt_or_ge j zs.length with h | h
    · exact h
    · rw [List.getElem?_eq_none (by simpa using h)] at hj; cases hj
  obtain ⟨b', off', e, h⟩ := hc (by omega)
  cases e
  have h2 := h j hjl
  rw [List.getElem?_map, List.getElem?_eq_getElem hjl] at hj
  rw [List.getD, List.getElem?_eq_getElem hjl] at h2
  have e2 : (⟨b, off, none⟩ : Addr).add j = ⟨b, off + j, none⟩ := by unfold Addr.add; split <;> simp_all
  rw [e2, h2]
  exact hj
theorem one_str (zs : List ByteArray) : ∀ u ∈ zs.map Value.string, u.oneCell' = true := by
  intro u hu
  obtain ⟨s, _, rfl⟩ := List.mem_map.1 hu
  rfl
/-- A source of an append: nothing at all, or cells. -/
def Src (w : World) (v : Value) (zs : List ByteArray) : Prop := (v = .slice none 0 0 ∧ zs = []) ∨ ∃ ad cap, v = .slice (some ad) zs.length cap ∧ ∀ j u, (zs.map Value.string)[j]? = some u → w.cell? (ad.add j) = some u
theorem src_of {w : World} {v : Value} {zs : List ByteArray} (h : ViewN w v zs) : Src w v zs := by
  obtain ⟨⟨h1, a, cap, rfl, hc⟩, hn⟩ := h
  cases a with
  | none =>
    left
    have h0 : zs.length = 0 := by
      rcases Nat.eq_zero_or_pos zs.length with h | h
      · exact h
      · obtain ⟨b, off, e, _⟩ := hc h; cases e
    rw [h0, hn _ _ rfl]
    exact ⟨rfl, List.eq_nil_of_length_eq_zero h0⟩
  | some ad =>
    right
    refine ⟨ad, cap, rfl, ?_⟩
    by_cases h0 : 0 < zs.length
    · obtain ⟨b, off, e, h⟩ := hc h0
      cases e
      exact news_of (cap := cap) hc
    · have hz : zs = [] := List.eq_nil_of_length_eq_zero (by omega)
      subst hz
      intro j u hj
      simp at hj
end Go.Proofs.Ytfdhmhdemfbfeaa
