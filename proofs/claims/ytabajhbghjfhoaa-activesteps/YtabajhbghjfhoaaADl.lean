/-
  What slices.Delete does of a row of the call's own: one element is taken out.
-/
import Derived.Test.YtabajhbghjfhoaaKSt
namespace Go.Proofs.Ytabajhbghjfhoaa
open Go.RowKit
set_option linter.unusedVariables false

theorem infoA0 : (Try.prog.info? 58).map (fun i => (i.zero, i.size, i.bytes)) = some (some (.agg #[.bool false, .int .i64 0, .string ⟨#[]⟩, .slice none 0 0]), 4, 56) := by kernel_rfl
theorem infoA : ∃ i, Try.prog.info? 58 = some i ∧ i.zero = some (.agg #[.bool false, .int .i64 0, .string ⟨#[]⟩, .slice none 0 0]) ∧ i.size = 4 ∧ i.bytes = 56 := by
  have h := infoA0
  cases hi : Try.prog.info? 58 with
  | none => rw [hi] at h; cases h
  | some i =>
    rw [hi] at h
    simp only [Option.map_some, Option.some.injEq, Prod.mk.injEq] at h
    exact ⟨i, rfl, h.1, h.2.1, h.2.2⟩
theorem zeroA (w : World) : (zeroValue 58).run Try.prog w = .ok (.agg #[.bool false, .int .i64 0, .string ⟨#[]⟩, .slice none 0 0]) w := by kernel_rfl

set_option maxHeartbeats 4000000 in
set_option maxRecDepth 100000 in
theorem adel_any (base g n cap i : Nat) (xs : List Value) (w : World) (hown : w.ownsRow base 58 4 (.slice (some ⟨g, 0, none⟩) n cap) n xs) (h1 : ∀ u ∈ xs, u.oneCell' = true) (hi : i < n) :
    Calls Try.prog 94 #[.slice (some ⟨g, 0, none⟩) n cap, .int .i64 (i : Int), .int .i64 ((i : Int) + 1)] w fun e w' =>
      e = .returned (.slice (some ⟨g, 0, none⟩) (n - 1) cap) ∧ w'.ownsRow base 58 4 (.slice (some ⟨g, 0, none⟩) (n - 1) cap) (n - 1) (xs.take (i * 4) ++ xs.drop ((i + 1) * 4)) ∧ w.grownBy w' (some g) := by
  obtain ⟨hlen, h⟩ := hown
  rcases h with ⟨h, _⟩ | ⟨g', cap', cur, hv, hbg, hblk, hnc, hcm, hcs, htk⟩
  · cases h
  simp only [Value.slice.injEq, Option.some.injEq, Addr.mk.injEq, and_true, true_and] at hv
  obtain ⟨rfl, rfl⟩ := hv
  have hc63 : cap ≤ 9223372036854775807 := by simp only [maxLen] at hcm; omega
  obtain ⟨i0, hi0, hi1, hi2, hi3⟩ := infoA
  obtain ⟨news, hnews⟩ : ∃ news, news = xs.drop ((i + 1) * 4) := ⟨_, rfl⟩
  have hnl : news.length = (n - (i + 1)) * i0.size := by rw [hnews, List.length_drop, hlen, hi2]; omega
  have hcur : ∀ j u, xs[j]? = some u → cur[j]? = some u := fun j u hu => by
    rw [← htk, List.getElem?_take] at hu
    split at hu
    · simpa using hu
    · cases hu
  obtain ⟨A, hA, hsrc⟩ : ∃ A : Addr, (if cap = i + 1 then some (⟨g, 0, none⟩ : Addr) else some ⟨g, (i + 1) * 4, none⟩) = some A ∧ Hid (∀ t u, news[t]? = some u → w.drew.cell? (A.add t) = some u) := by
    by_cases h : cap = i + 1
    · refine ⟨⟨g, 0, none⟩, by simp [h], fun t u hu => ?_⟩
      have h0 : news.length = 0 := by rw [hnl, hi2]; omega
      rw [List.length_eq_zero_iff.1 h0] at hu
      simp at hu
    · refine ⟨⟨g, (i + 1) * 4, none⟩, by simp [h], fun t u hu => ?_⟩
      rw [hnews, List.getElem?_drop] at hu
      rw [Addr.add_lit]
      exact (cell_of_row w g _ cur _ (0, 0) hblk).trans (hcur _ _ hu)
  have hn1 : ∀ u ∈ news, u.oneCell' = true := fun u hu => h1 u (by rw [hnews] at hu; exact List.mem_of_mem_drop hu)
  obtain ⟨W1, hW1⟩ : ∃ W1, W1 = w.drew.setRow g (cur.toList.take (i * i0.size) ++ news ++ cur.toList.drop (i * i0.size + news.length)).toArray := ⟨_, rfl⟩
  have hrun : ∀ ty c, (Builtin.append_ #[62, 62] ty #[.slice (some ⟨g, 0, none⟩) i cap, .slice (some A) (n - (i + 1)) c]).run Try.prog w.drew = .ok (.slice (some ⟨g, 0, none⟩) (i + (n - (i + 1))) cap) W1 := fun ty c => by
    rw [hW1]
    exact run_append_room w.drew 62 ty 58 i0 Try.underlying62 hi0 g i cap cur hblk A (n - (i + 1)) c news hnl hsrc.out hn1 (by omega) (by rw [hnl, hi2, hcs]; omega)
  obtain ⟨cur1, hcur1⟩ : ∃ cur1, cur1 = (cur.toList.take (i * i0.size) ++ news ++ cur.toList.drop (i * i0.size + news.length)).toArray := ⟨_, rfl⟩
  have hblk1 : W1.heap[g]? = some (.cells cur1 58 (0, 0)) := by rw [hW1, hcur1]; exact setRow_heap w.drew g cur _ _ _ hblk
  have hg1 : w.grownBy W1 (some g) := by rw [hW1]; exact grown_setRow (grown_drewN (grown_refl w _) 1) _
  have hs1 : cur1.size = cap * 4 := by
    rw [hcur1]
    simp only [List.size_toArray, List.length_append, List.length_take, List.length_drop, Array.length_toList, hnl, hi2, hcs]
    omega
  obtain ⟨zs, hzs⟩ : ∃ zs : List Value, zs = [.bool false, .int .i64 0, .string ⟨#[]⟩, .slice none 0 0] := ⟨_, rfl⟩
  obtain ⟨W2, hW2⟩ : ∃ W2, W2 = W1.setRow g (cur1.toList.take ((n - 1) * 4) ++ zs ++ cur1.toList.drop ((n - 1) * 4 + zs.length)).toArray := ⟨_, rfl⟩
  have hcl : ∀ ty c, (Builtin.clear_ #[62] ty #[.slice (some ⟨g, (i + (n - (i + 1))) * 4, none⟩) (n - (i + (n - (i + 1)))) c]).run Try.prog W1 = .ok (.tuple #[]) W2 := fun ty c => by
    have e1 : i + (n - (i + 1)) = n - 1 := by omega
    have e2 : n - (n - 1) = 1 := by omega
    rw [e1, e2, hW2]
    refine run_clear_row W1 _ _ ty _ Try.underlying62 zeroA g _ 1 c (by decide) cur1 hblk1 zs ?_ ?_ ?_
    · rw [hzs]; kernel_rfl
    · rw [hzs]; simp [Value.oneCell']
    · rw [hzs, hs1]; simp; omega
  have hblk2 := hide (hW2 ▸ setRow_heap W1 g cur1 (cur1.toList.take ((n - 1) * 4) ++ zs ++ cur1.toList.drop ((n - 1) * 4 + zs.length)).toArray _ _ hblk1)
  have hg2 := hide (hW2 ▸ grown_setRow hg1 (cur1.toList.take ((n - 1) * 4) ++ zs ++ cur1.toList.drop ((n - 1) * 4 + zs.length)).toArray : w.grownBy W2 (some g))
  have htake : Hid (cur1.toList.take ((n - 1) * 4) = xs.take (i * 4) ++ xs.drop ((i + 1) * 4)) := by
    show cur1.toList.take ((n - 1) * 4) = _
    have hl1 : (cur.toList.take (i * 4)).length = i * 4 := by rw [List.length_take, Array.length_toList, hcs]; omega
    have hxt : xs.take (i * 4) = cur.toList.take (i * 4) := by rw [← htk, List.take_take]; congr 1; omega
    rw [hcur1, hi2, ← hnews, hxt]
    show ((cur.toList.take (i * 4) ++ news) ++ _).take _ = _
    rw [List.take_append_of_le_length (by rw [List.length_append, hl1, hnl, hi2]; omega), List.take_of_length_le (by rw [List.length_append, hl1, hnl, hi2]; omega)]
  have HS1 := hide hs1
  have HZ := hide hzs
  have HL := hide hlen
  have HW := hide (And.intro hbg (And.intro hnc hcm))
  have hii : (i : Int) < (n : Int) := by omega
  have hii1 : (i : Int) + 1 ≤ (n : Int) := by omega
  have hnn : (n : Int) ≤ (cap : Int) := by omega
  have hic : i ≤ cap := by omega
  have hjc : i + 1 ≤ cap := by omega
  have hin : i + 1 ≤ n := by omega
  have h01 : (0 : Int) ≤ (i : Int) + 1 := by omega
  have hne : ((i : Int) == (i : Int) + 1) = false := beq_eq_false_iff_ne.2 (by omega)
  have htn : ((i : Int) + 1).toNat = i + 1 := by omega
  have hw1 : IntKind.i64.wrap ((i : Int) + 1) = (i : Int) + 1 := by rw [IntKind.wrap_i64]; omega
  clear hW1 hW2 hblk1 hg1 hs1 hcur1 hzs hn1 hnl hnews hcur h1 hblk htk hcs hlen hbg hcm hi0 hi1 hi2 hi3 hsrc
  go_enter Try.func94, Try.ntmps94
  go_wp2_with fail
  go_region_law (refine step_append_run rfl (.tmp 22) (.tmp 25) 62 62 rfl (.slice (some ⟨g, 0, none⟩) i cap) (.slice (some A) (n - (i + 1)) (cap - (i + 1))) (by simp [Act.eval, Act.put]) (by simp [Act.eval, Act.put]) (hrun _ _) ?_)
  go_wp2
  go_ret
  have e1 : i + (n - (i + 1)) = n - 1 := by omega
  obtain ⟨hbg, hnc, hcm⟩ := unhide HW
  have hs1 := unhide HS1
  have hlen := unhide HL
  refine ⟨by rw [e1]; rfl, ⟨?_, .inr ⟨g, cap, _, rfl, hbg, unhide hblk2, by omega, hcm, ?_, ?_⟩⟩, unhide hg2⟩
  · rw [List.length_append, List.length_take, List.length_drop, hlen]; omega
  · rw [unhide HZ]
    simp only [List.size_toArray, List.length_append, List.length_take, List.length_drop, Array.length_toList, hs1, List.length_cons, List.length_nil]
    omega
  · rw [← unhide htake]
    show ((cur1.toList.take ((n - 1) * 4) ++ zs) ++ _).take _ = _
    rw [List.append_assoc, List.take_append_of_le_length (by rw [List.length_take, Array.length_toList, hs1]; omega), List.take_take, Nat.min_self]
end Go.Proofs.Ytabajhbghjfhoaa
