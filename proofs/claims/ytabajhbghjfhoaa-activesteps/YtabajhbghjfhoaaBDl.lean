/-
  slices.Delete of all entries from a place on.
-/
import Derived.Test.YtabajhbghjfhoaaBSw
namespace Go.Proofs.Ytabajhbghjfhoaa
open Go.RowKit
set_option linter.unusedVariables false
set_option linter.unusedSimpArgs false

theorem zeroCells_ones (z : Array Value) (m : Nat) (h : ∀ u ∈ z, u.oneCell' = true) : ∀ u ∈ (Builtin.zeroCells z m).toList, u.oneCell' = true := by
  intro u hu
  simp only [Builtin.zeroCells, Array.toList_map, List.mem_map] at hu
  obtain ⟨i, hi, rfl⟩ := hu
  by_cases hz : z.size = 0
  · rw [hz] at hi; simp at hi
  · rw [getElem!_pos z _ (Nat.mod_lt _ (by omega))]
    exact h _ (Array.getElem_mem _)

set_option maxHeartbeats 4000000 in
set_option maxRecDepth 100000 in
theorem adel_tail (base g n cap i : Nat) (xs : List Value) (w : World) (hown : w.ownsRow base 58 4 (.slice (some ⟨g, 0, none⟩) n cap) n xs) (hi : i < n) :
    Calls Try.prog 94 #[.slice (some ⟨g, 0, none⟩) n cap, .int .i64 (i : Int), .int .i64 (n : Int)] w fun e w' =>
      e = .returned (.slice (some ⟨g, 0, none⟩) i cap) ∧ w'.ownsRow base 58 4 (.slice (some ⟨g, 0, none⟩) i cap) i (xs.take (i * 4)) ∧ w.grownBy w' (some g) := by
  obtain ⟨hlen, h⟩ := hown
  rcases h with ⟨h, _⟩ | ⟨g', cap', cur, hv, hbg, hblk, hnc, hcm, hcs, htk⟩
  · cases h
  simp only [Value.slice.injEq, Option.some.injEq, Addr.mk.injEq, and_true, true_and] at hv
  obtain ⟨rfl, rfl⟩ := hv
  have hc63 : cap ≤ 9223372036854775807 := by simp only [maxLen] at hcm; omega
  obtain ⟨i0, hi0, hi1, hi2, hi3⟩ := infoA
  obtain ⟨A, hA⟩ : ∃ A : Addr, (if cap = n then some (⟨g, 0, none⟩ : Addr) else some ⟨g, n * 4, none⟩) = some A := by
    by_cases h : cap = n
    · exact ⟨_, by rw [if_pos h]⟩
    · exact ⟨_, by rw [if_neg h]⟩
  obtain ⟨W1, hW1⟩ : ∃ W1, W1 = w.drew.setRow g (cur.toList.take (i * i0.size) ++ [] ++ cur.toList.drop (i * i0.size + ([] : List Value).length)).toArray := ⟨_, rfl⟩
  have hrun : ∀ ty c, (Builtin.append_ #[62, 62] ty #[.slice (some ⟨g, 0, none⟩) i cap, .slice (some A) 0 c]).run Try.prog w.drew = .ok (.slice (some ⟨g, 0, none⟩) i cap) W1 := fun ty c => by
    rw [hW1]
    exact run_append_room w.drew 62 ty 58 i0 Try.underlying62 hi0 g i cap cur hblk A 0 c [] (by simp) (fun t u hu => by simp at hu) (fun u hu => by simp at hu) (by omega) (by rw [hi2, hcs]; simp; omega)
  obtain ⟨cur1, hcur1⟩ : ∃ cur1, cur1 = (cur.toList.take (i * i0.size) ++ [] ++ cur.toList.drop (i * i0.size + ([] : List Value).length)).toArray := ⟨_, rfl⟩
  have hblk1 : W1.heap[g]? = some (.cells cur1 58 (0, 0)) := by rw [hW1, hcur1]; exact setRow_heap w.drew g cur _ _ _ hblk
  have hg1 : w.grownBy W1 (some g) := by rw [hW1]; exact grown_setRow (grown_drewN (grown_refl w _) 1) _
  have hcc : cur1 = cur := by rw [hcur1]; simp
  have hs1 : cur1.size = cap * 4 := by rw [hcc, hcs]
  obtain ⟨zs, hzs⟩ : ∃ zs : List Value, (Builtin.zeroCells (Value.agg #[.bool false, .int .i64 0, .string ⟨#[]⟩, .slice none 0 0]).cells (n - i)).toList = zs := ⟨_, rfl⟩
  have hzl : zs.length = (n - i) * 4 := by
    rw [← hzs, Array.length_toList, size_zeroCells]
    have : (Value.agg #[.bool false, .int .i64 0, .string ⟨#[]⟩, .slice none 0 0]).cells.size = 4 := by kernel_rfl
    rw [this]
  have hz1 : ∀ u ∈ zs, u.oneCell' = true := by
    rw [← hzs]
    refine zeroCells_ones _ _ ?_
    have : (Value.agg #[.bool false, .int .i64 0, .string ⟨#[]⟩, .slice none 0 0]).cells = #[.bool false, .int .i64 0, .string ⟨#[]⟩, .slice none 0 0] := by kernel_rfl
    rw [this]
    simp [Value.oneCell']
  obtain ⟨W2, hW2⟩ : ∃ W2, W2 = W1.setRow g (cur1.toList.take (i * 4) ++ zs ++ cur1.toList.drop (i * 4 + zs.length)).toArray := ⟨_, rfl⟩
  have hcl : ∀ ty c, (Builtin.clear_ #[62] ty #[.slice (some ⟨g, i * 4, none⟩) (n - i) c]).run Try.prog W1 = .ok (.tuple #[]) W2 := fun ty c => by
    rw [hW2]
    exact run_clear_row W1 _ _ ty _ Try.underlying62 zeroA g _ (n - i) c (by omega) cur1 hblk1 zs hzs hz1 (by rw [hzl, hs1]; omega)
  have hblk2 := hide (hW2 ▸ setRow_heap W1 g cur1 (cur1.toList.take (i * 4) ++ zs ++ cur1.toList.drop (i * 4 + zs.length)).toArray _ _ hblk1)
  have hg2 := hide (hW2 ▸ grown_setRow hg1 (cur1.toList.take (i * 4) ++ zs ++ cur1.toList.drop (i * 4 + zs.length)).toArray : w.grownBy W2 (some g))
  have htake : Hid (cur1.toList.take (i * 4) = xs.take (i * 4)) := by
    show cur1.toList.take (i * 4) = _
    rw [hcc, ← htk, List.take_take]
    congr 1
    omega
  have HS1 := hide hs1
  have HZ := hide hzl
  have HL := hide hlen
  have HW := hide (And.intro hbg (And.intro hnc hcm))
  have hii : (i : Int) < (n : Int) := by omega
  have hii1 : (i : Int) ≤ (n : Int) := by omega
  have hnn : (n : Int) ≤ (cap : Int) := by omega
  have hic : i ≤ cap := by omega
  have hin : i ≤ n := by omega
  have h0n : (0 : Int) ≤ (n : Int) := by omega
  have hne : ((i : Int) == (n : Int)) = false := beq_eq_false_iff_ne.2 (by omega)
  have hne2 : ¬ i = n := by omega
  have hnc1 : ¬ cap = i := by omega
  have hnc2 : n - i ≠ 0 := by omega
  clear hW1 hW2 hblk1 hg1 hs1 hcur1 hzs hzl hz1 hblk htk hcs hlen hbg hcm hi0 hi1 hi2 hi3 hcc
  go_enter Try.func94, Try.ntmps94
  go_wp2_with fail
  go_region_law (refine step_append_run rfl (.tmp 22) (.tmp 25) 62 62 rfl (.slice (some ⟨g, 0, none⟩) i cap) (.slice (some A) 0 (cap - n)) (by simp [Act.eval, Act.put]) (by simp [Act.eval, Act.put]) (hrun _ _) ?_)
  go_wp2
  go_ret
  obtain ⟨hbg, hnc, hcm⟩ := unhide HW
  have hs1 := unhide HS1
  have hlen := unhide HL
  refine ⟨rfl, ⟨?_, .inr ⟨g, cap, _, rfl, hbg, unhide hblk2, by omega, hcm, ?_, ?_⟩⟩, unhide hg2⟩
  · rw [List.length_take, hlen]; omega
  · simp only [List.size_toArray, List.length_append, List.length_take, List.length_drop, Array.length_toList, hs1, unhide HZ]
    omega
  · rw [← unhide htake]
    show ((cur1.toList.take (i * 4) ++ zs) ++ _).take _ = _
    rw [List.append_assoc, List.take_append_of_le_length (by rw [List.length_take, Array.length_toList, hs1]; omega), List.take_take, Nat.min_self]
end Go.Proofs.Ytabajhbghjfhoaa
