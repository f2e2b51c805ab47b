/-
  What slices.Insert does of a row of the call's own: one element is put at a place.
-/
import Derived.Test.YtabajhbghjfhoaaADl
namespace Go.Proofs.Ytabajhbghjfhoaa
open Go.RowKit
set_option linter.unusedVariables false

theorem sizeA : (Try.prog.info? 58).map (·.size) = some 4 := by
  obtain ⟨i, h, _, h2, _⟩ := infoA
  rw [h]; simp [h2]

def AInsPost (base : Nat) (v : Value) (n i : Nat) (xs news : List Value) (w : World) (e : Ending) (w' : World) : Prop :=
  ∃ v', e = .returned v' ∧ w'.ownsRow base 58 4 v' (n + 1) (xs.take (i * 4) ++ news ++ xs.drop (i * 4)) ∧ w.grownBy w' v.ownBlock ∧ (v'.ownBlock = v.ownBlock ∨ v'.ownBlock = some w.heap.size)

set_option maxHeartbeats 4000000 in
set_option maxRecDepth 100000 in
theorem ains_end (base vb n : Nat) (v : Value) (xs news : List Value) (w : World) (hown : w.ownsRow base 58 4 v n xs) (hn : n ≤ 1000000) (hvb : Blk w vb news.toArray 58) (hnl : news.length = 4) (hn1 : ∀ u ∈ news, u.oneCell' = true) (hbase : base ≤ w.heap.size) :
    Calls Try.prog 80 #[v, .int .i64 (n : Int), .slice (some ⟨vb, 0, none⟩) 1 1] w (AInsPost base v n n xs news w) := by
  have hlen := hown.1
  have hnc : ∃ q cap, v = .slice q n cap ∧ n ≤ cap ∧ cap ≤ maxLen := by
    rcases hown.2 with ⟨rfl, rfl⟩ | ⟨g, cap, cur, rfl, _, _, h, h', _⟩
    · exact ⟨none, 0, rfl, Nat.le_refl _, Nat.zero_le _⟩
    · exact ⟨_, cap, rfl, h, h'⟩
  obtain ⟨q, cap, rfl, hcap, hcm⟩ := hnc
  have hc63 : cap ≤ 9223372036854775807 := by simp only [maxLen] at hcm; omega
  have hncI : (n : Int) ≤ (cap : Int) := by omega
  have enn : ((n : Int) == (n : Int)) = true := by simp
  obtain ⟨i0, hi0, hi1, hi2, hi3⟩ := infoA
  have hsrc : Hid (∀ j u, news[j]? = some u → w.cell? ((⟨vb, 0, none⟩ : Addr).add j) = some u) := fun j u hj => by
    rw [Addr.add_lit, Nat.zero_add, hvb.cell j]
    simpa using hj
  have HW := hide hown
  have hN1 := hide hn1
  have hNL := hide hnl
  have HL := hide hlen
  clear hown hn1 hnl hvb hlen
  by_cases hcn : cap = n
  · subst hcn
    unfold AInsPost
    go_enter Try.func80, Try.ntmps80
    go_wp2_with (at_builtin; refine wpList_append_own_at _ rfl _ _ 62 rfl base 58 i0 (.agg #[.bool false, .int .i64 0, .string ⟨#[]⟩, .slice none 0 0]) 4 56 Try.underlying62 hi0 hi1 hi2 hi3 rfl (by decide) _ cap xs rfl (unhide HW) ⟨vb, 0, none⟩ 1 1 news rfl ?c1 hsrc.out ?c2 ?c3 ?c4 ?c5 ?_)
    case c1 => rw [unhide hNL]
    case c2 => exact unhide hN1
    case c3 => simp only [maxLen]; omega
    case c4 => omega
    case c5 => exact hbase
    intro v' w1 hown' hgrow _ hat
    go_wp2
    go_ret
    refine ⟨v', rfl, ?_, hgrow, hat⟩
    have e1 : xs.take (cap * 4) = xs := List.take_of_length_le (by rw [unhide HL]; omega)
    have e2 : xs.drop (cap * 4) = [] := List.drop_eq_nil_of_le (by rw [unhide HL]; omega)
    rw [e1, e2, List.append_nil]
    exact hown'
  · unfold AInsPost
    go_enter Try.func80, Try.ntmps80
    go_wp2_with (at_builtin; refine wpList_append_own_at _ rfl _ _ 62 rfl base 58 i0 (.agg #[.bool false, .int .i64 0, .string ⟨#[]⟩, .slice none 0 0]) 4 56 Try.underlying62 hi0 hi1 hi2 hi3 rfl (by decide) _ n xs rfl (unhide HW) ⟨vb, 0, none⟩ 1 1 news rfl ?d1 hsrc.out ?d2 ?d3 ?d4 ?d5 ?_)
    case d1 => rw [unhide hNL]
    case d2 => exact unhide hN1
    case d3 => simp only [maxLen]; omega
    case d4 => omega
    case d5 => exact hbase
    intro v' w1 hown' hgrow _ hat
    go_wp2
    go_ret
    refine ⟨v', rfl, ?_, hgrow, hat⟩
    have e1 : xs.take (n * 4) = xs := List.take_of_length_le (by rw [unhide HL]; omega)
    have e2 : xs.drop (n * 4) = [] := List.drop_eq_nil_of_le (by rw [unhide HL]; omega)
    rw [e1, e2, List.append_nil]
    exact hown'

set_option maxHeartbeats 4000000 in
set_option maxRecDepth 100000 in
theorem ains_room (base vb g cap n i : Nat) (cur : Array Value) (xs news : List Value) (w : World) (hbg : base ≤ g) (hblk : w.heap[g]? = some (.cells cur 58 (0, 0))) (hcm : cap ≤ maxLen) (hcs : cur.size = cap * 4) (htk : cur.toList.take (n * 4) = xs) (hi : i < n) (hroom : n + 1 ≤ cap) (h1 : ∀ u ∈ xs, u.oneCell' = true) (hvb : Blk w vb news.toArray 58) (hnl : news.length = 4) (hn1 : ∀ u ∈ news, u.oneCell' = true) (hne : vb ≠ g) :
    Calls Try.prog 80 #[.slice (some ⟨g, 0, none⟩) n cap, .int .i64 (i : Int), .slice (some ⟨vb, 0, none⟩) 1 1] w (AInsPost base (.slice (some ⟨g, 0, none⟩) n cap) n i xs news w) := by
  have hc63 : cap ≤ 9223372036854775807 := by simp only [maxLen] at hcm; omega
  have hlen : xs.length = n * 4 := by rw [← htk, List.length_take, Array.length_toList, hcs]; omega
  have hcur : ∀ j u, xs[j]? = some u → cur[j]? = some u := fun j u hu => by
    rw [← htk, List.getElem?_take] at hu
    split at hu
    · simpa using hu
    · cases hu
  have hov : ∀ lb cb, (callFunc 100 #[.slice (some ⟨vb, 0, none⟩) 1 1, .slice (some ⟨g, (i + 1) * 4, none⟩) lb cb]).run Try.prog w = .ok (.value (.bool false)) w := fun lb cb => by
    rw [run_callFunc_extern Try.func100 (by kernel_rfl) (by kernel_rfl) (by kernel_rfl) (e := Extern.SlicesOverlaps.overlaps #[62, 62] #[4]) (by kernel_rfl),
      Lib.run_overlaps_apart w 62 4 58 Try.underlying62 4 (fun w => by kernel_rfl) ⟨vb, 0, none⟩ ⟨g, (i + 1) * 4, none⟩ 1 1 lb cb hne _ _ _ _ (shape_blk hvb) (shape_blk (show Blk w g cur _ from hblk)) (by rw [hcs]; omega) (hvb.frozen 0) (hvb.frozen _)]
    rfl
  have hdl : (xs.drop (i * 4)).length = (n - i) * 4 := by rw [List.length_drop, hlen]; omega
  obtain ⟨W1, hW1⟩ : ∃ W1, W1 = w.drew.setRow g (cur.toList.take ((i + 1) * 4) ++ xs.drop (i * 4) ++ cur.toList.drop ((i + 1) * 4 + (xs.drop (i * 4)).length)).toArray := ⟨_, rfl⟩
  have hcp1 : ∀ ty dc sc, (Builtin.copy_ #[62, 62] ty #[.slice (some ⟨g, (i + 1) * 4, none⟩) (n + 1 - (i + 1)) dc, .slice (some ⟨g, i * 4, none⟩) (n + 1 - i) sc]).run Try.prog w.drew = .ok (goInt ((n - i : Nat) : Int)) W1 := fun ty dc sc => by
    rw [hW1]
    exact run_copy_rowK w.drew _ _ ty 58 g ((i + 1) * 4) (n + 1 - (i + 1)) dc ⟨g, i * 4, none⟩ (n + 1 - i) sc cur _ (xs.drop (i * 4)) 4 (n - i) Try.underlying62 sizeA hblk (by simp only [Nat.min_def]; split <;> omega) hdl
      (fun j v hj => by
        rw [Addr.add_lit]
        rw [List.getElem?_drop] at hj
        exact (cell_of_row w g _ cur _ (0, 0) hblk).trans (hcur _ _ hj))
      (by rw [hdl, hcs]; omega) (fun v hv => h1 v (List.mem_of_mem_drop hv))
  obtain ⟨cur1, hcur1⟩ : ∃ cur1, cur1 = (cur.toList.take ((i + 1) * 4) ++ xs.drop (i * 4) ++ cur.toList.drop ((i + 1) * 4 + (xs.drop (i * 4)).length)).toArray := ⟨_, rfl⟩
  have hblk1 : W1.heap[g]? = some (.cells cur1 58 (0, 0)) := by rw [hW1, hcur1]; exact setRow_heap w.drew g cur _ _ _ hblk
  have hg1 : w.grownBy W1 (some g) := by rw [hW1]; exact grown_setRow (grown_drewN (grown_refl w _) 1) _
  have hs1 : cur1.size = cap * 4 := by
    rw [hcur1]
    simp only [List.size_toArray, List.length_append, List.length_take, List.length_drop, Array.length_toList, hlen, hcs]
    omega
  have hvb1 : Blk W1 vb news.toArray 58 := (hg1.block vb hvb.lt (by simpa using hne)).trans hvb
  obtain ⟨W2, hW2⟩ : ∃ W2, W2 = W1.setRow g (cur1.toList.take (i * 4) ++ news ++ cur1.toList.drop (i * 4 + news.length)).toArray := ⟨_, rfl⟩
  have hcp2 : ∀ ty dc, (Builtin.copy_ #[62, 62] ty #[.slice (some ⟨g, i * 4, none⟩) (n + 1 - i) dc, .slice (some ⟨vb, 0, none⟩) 1 1]).run Try.prog W1 = .ok (goInt 1) W2 := fun ty dc => by
    rw [hW2]
    exact run_copy_rowK W1 _ _ ty 58 g (i * 4) (n + 1 - i) dc ⟨vb, 0, none⟩ 1 1 cur1 _ news 4 1 Try.underlying62 sizeA hblk1 (by simp only [Nat.min_def]; split <;> omega) (by rw [hnl])
      (fun j v hj => by
        rw [Addr.add_lit, Nat.zero_add, hvb1.cell j]
        simpa using hj)
      (by rw [hnl, hs1]; omega) hn1
  have hblk2 := hide (hW2 ▸ setRow_heap W1 g cur1 (cur1.toList.take (i * 4) ++ news ++ cur1.toList.drop (i * 4 + news.length)).toArray _ _ hblk1)
  have hg2 := hide (hW2 ▸ grown_setRow hg1 (cur1.toList.take (i * 4) ++ news ++ cur1.toList.drop (i * 4 + news.length)).toArray : w.grownBy W2 (some g))
  have htake : Hid ((cur1.toList.take (i * 4) ++ news ++ cur1.toList.drop (i * 4 + news.length)).take ((n + 1) * 4) = xs.take (i * 4) ++ news ++ xs.drop (i * 4)) := by
    show _ = _
    have hl1 : (cur.toList.take ((i + 1) * 4)).length = (i + 1) * 4 := by rw [List.length_take, Array.length_toList, hcs]; omega
    have hxt : xs.take (i * 4) = cur.toList.take (i * 4) := by rw [← htk, List.take_take]; congr 1; omega
    have ea : cur1.toList.take (i * 4) = xs.take (i * 4) := by
      rw [hcur1, hxt]
      show ((cur.toList.take ((i + 1) * 4) ++ xs.drop (i * 4)) ++ _).take _ = _
      rw [List.append_assoc, List.take_append_of_le_length (by rw [hl1]; omega), List.take_take]
      congr 1; omega
    have eb : cur1.toList.drop (i * 4 + news.length) = xs.drop (i * 4) ++ cur.toList.drop ((i + 1) * 4 + (xs.drop (i * 4)).length) := by
      rw [hcur1, hnl]
      show ((cur.toList.take ((i + 1) * 4) ++ xs.drop (i * 4)) ++ _).drop _ = _
      rw [List.append_assoc, List.drop_append_of_le_length (by rw [hl1]; omega), List.drop_eq_nil_of_le (by rw [hl1]; omega), List.nil_append]
    rw [ea, eb, ← List.append_assoc]
    have hl2 : (xs.take (i * 4) ++ news ++ xs.drop (i * 4)).length = (n + 1) * 4 := by
      rw [List.length_append, List.length_append, List.length_take, List.length_drop, hlen, hnl]; omega
    rw [List.take_append_of_le_length (by rw [hl2]; omega), List.take_of_length_le (by rw [hl2]; omega)]
  have HS1 := hide hs1
  have HL := hide hlen
  have HNL := hide hnl
  have HW := hide (And.intro hbg hcm)
  have hii : (i : Int) < (n : Int) := by omega
  have hz2 : ((i : Int) == (n : Int)) = false := beq_eq_false_iff_ne.2 (by omega)
  have hz3 : ¬ (cap : Int) < (n : Int) + 1 := by omega
  have hz4 : (n : Int) + 1 ≤ (cap : Int) := by omega
  have hz5 : (i : Int) ≤ (n : Int) + 1 := by omega
  have hz6 : (i : Int) + 1 ≤ (n : Int) + 1 := by omega
  have h01 : (0 : Int) ≤ (i : Int) + 1 := by omega
  have h02 : (0 : Int) ≤ (n : Int) + 1 := by omega
  have htn : ((i : Int) + 1).toNat = i + 1 := by omega
  have hw1 : IntKind.i64.wrap ((i : Int) + 1) = (i : Int) + 1 := by rw [IntKind.wrap_i64]; omega
  have htn2 : ((n : Int) + 1).toNat = n + 1 := by omega
  have hb2 : ¬ (cap = i + 1) := by omega
  have hb4 : ¬ (cap = i) := by omega
  have hin : i ≤ n := by omega
  clear hW1 hW2 hblk1 hg1 hs1 hcur1 hn1 hnl hcur h1 hblk htk hcs hlen hbg hcm hvb hvb1 hdl
  unfold AInsPost
  go_enter Try.func80, Try.ntmps80
  go_wp2_with (simp only [hov])
  go_region_law (refine step_copy_run rfl (.tmp 73) (.tmp 76) 62 62 rfl (.slice (some ⟨g, (i + 1) * 4, none⟩) (n + 1 - (i + 1)) (cap - (i + 1))) (.slice (some ⟨g, i * 4, none⟩) (n + 1 - i) (cap - i)) (by simp [Act.eval, Act.put]) (by simp [Act.eval, Act.put]) (hcp1 _ _ _) ?_)
  go_wp2_with (at_builtin; refine wpList_copy_run _ rfl _ _ 62 62 rfl _ _ rfl rfl (hcp2 _ _) ?_)
  go_ret
  obtain ⟨hbg, hcm⟩ := unhide HW
  have hlen := unhide HL
  have hnl := unhide HNL
  refine ⟨_, rfl, ⟨?_, .inr ⟨g, cap, _, rfl, hbg, unhide hblk2, hroom, hcm, ?_, ?_⟩⟩, unhide hg2, Or.inl rfl⟩
  · rw [List.length_append, List.length_append, List.length_take, List.length_drop, hlen, hnl]; omega
  · simp only [List.size_toArray, List.length_append, List.length_take, List.length_drop, Array.length_toList, unhide HS1, hnl]
    omega
  · exact unhide htake

set_option maxHeartbeats 4000000 in
set_option maxRecDepth 100000 in
theorem ains_grow (base vb g n i : Nat) (cur : Array Value) (xs news : List Value) (w : World) (hbase : base ≤ w.heap.size) (hblk : w.heap[g]? = some (.cells cur 58 (0, 0))) (hcs : cur.size = n * 4) (htk : cur.toList.take (n * 4) = xs) (hi : i < n) (hn : n ≤ 1000000) (h1 : ∀ u ∈ xs, u.oneCell' = true) (hvb : Blk w vb news.toArray 58) (hnl : news.length = 4) (hn1 : ∀ u ∈ news, u.oneCell' = true) :
    Calls Try.prog 80 #[.slice (some ⟨g, 0, none⟩) n n, .int .i64 (i : Int), .slice (some ⟨vb, 0, none⟩) 1 1] w (AInsPost base (.slice (some ⟨g, 0, none⟩) n n) n i xs news w) := by
  have hgw : g < w.heap.size := (show Blk w g cur _ from hblk).lt
  have hlen : xs.length = n * 4 := by rw [← htk, List.length_take, Array.length_toList, hcs]; omega
  have hcur : ∀ j u, xs[j]? = some u → cur[j]? = some u := fun j u hu => by
    rw [← htk, List.getElem?_take] at hu
    split at hu
    · simpa using hu
    · cases hu
  obtain ⟨i0, hi0, hi1, hi2, hi3⟩ := infoA
  have hkk : (n : Int) + 1 - (i : Int) = ((n + 1 - i : Nat) : Int) := by omega
  have hik : i + (n + 1 - i) = n + 1 := by omega
  obtain ⟨G, hG⟩ : ∃ G, G = grownCap w (n + 1) n 58 := ⟨_, rfl⟩
  have hGn : n + 1 ≤ G := by rw [hG]; exact grownCap_ge w _ _ _
  have hGm : G ≤ maxLen := by rw [hG]; exact grownCap_le_maxLen w (n + 1) n 58 (by simp only [maxLen]; omega)
  have hG63 : G ≤ 9223372036854775807 := by simp only [maxLen] at hGm; omega
  have hxl : (xs.take (i * 4)).length = i * 4 := by rw [List.length_take, hlen]; omega
  have hold : (Builtin.firstCells i0.size i (.slice (some ⟨g, 0, none⟩) i n)).run Try.prog w.drew = .ok (xs.take (i * 4)).toArray w.drew := by
    rw [hi2]
    exact run_firstCells_some w.drew 4 i ⟨g, 0, none⟩ i n (xs.take (i * 4)) hxl (fun j v hj => by
      rw [Addr.add_lit, Nat.zero_add]
      rw [List.getElem?_take] at hj
      split at hj
      · exact (cell_of_row w g _ cur _ (0, 0) hblk).trans (hcur _ _ hj)
      · cases hj)
  obtain ⟨ROW, hROW⟩ : ∃ ROW : Array Value, ROW = (xs.take (i * 4)).toArray ++ Builtin.zeroCells (.agg #[.bool false, .int .i64 0, .string ⟨#[]⟩, .slice none 0 0] : Value).cells (n + 1 - i) ++ Builtin.zeroCells (.agg #[.bool false, .int .i64 0, .string ⟨#[]⟩, .slice none 0 0] : Value).cells (G - (n + 1)) := ⟨_, rfl⟩
  have hRs : ROW.size = G * 4 := by
    rw [hROW]
    simp only [Array.size_append, List.size_toArray, hxl, size_zeroCells]
    show i * 4 + (n + 1 - i) * 4 + (G - (n + 1)) * 4 = _
    omega
  have hRt : ROW.toList.take (i * 4) = xs.take (i * 4) := by
    rw [hROW]
    simp only [Array.toList_append, List.append_assoc]
    rw [List.take_append_of_le_length (by simp [hxl]), List.take_of_length_le (by simp [hxl])]
  obtain ⟨W1, hW1⟩ : ∃ W1, W1 = w.drew.alloc (.cells ROW 58) := ⟨_, rfl⟩
  have hrz : ∀ ty, (Builtin.append_ #[62, 3] ty #[.slice (some ⟨g, 0, none⟩) i n, .int .i64 ((n : Int) + 1 - (i : Int))]).run Try.prog w = .ok (.slice (some ⟨w.heap.size, 0, none⟩) (n + 1) G) W1 := fun ty => by
    have h := Lib.run_append_grow_zeros w 62 3 ty 58 i0 _ .i64 .i64 Try.underlying62 Try.underlying3 hi0 hi1 (some ⟨g, 0, none⟩) i n (xs.take (i * 4)) hold (n + 1 - i) (by omega) (by omega) (by omega) (by omega) (by rw [hi3]; omega) (by rw [hi3, hik]; exact growslice_fits (by omega) (by omega))
    rw [hik, ← hG, ← hROW, ← hW1] at h
    rw [hkk]
    exact h
  have hblk1 : W1.heap[w.heap.size]? = some (.cells ROW 58 (0, 0)) := by rw [hW1]; exact heap_alloc_new w.drew _
  have hg1 : w.grownBy W1 none := by rw [hW1]; exact ⟨rfl, rfl, rfl, by simp, fun k hk _ => Below.heap_alloc w.drew _ k hk⟩
  have hvb1 : Blk W1 vb news.toArray 58 := (hg1.block vb hvb.lt (by simp)).trans hvb
  have hgg1 : Blk W1 g cur 58 := (hg1.block g hgw (by simp)).trans hblk
  obtain ⟨cur2, hcur2⟩ : ∃ cur2, cur2 = (ROW.toList.take (i * 4) ++ news ++ ROW.toList.drop (i * 4 + news.length)).toArray := ⟨_, rfl⟩
  obtain ⟨W2, hW2⟩ : ∃ W2, W2 = W1.setRow w.heap.size cur2 := ⟨_, rfl⟩
  have hcpA : ∀ ty dc, (Builtin.copy_ #[62, 62] ty #[.slice (some ⟨w.heap.size, i * 4, none⟩) (n + 1 - i) dc, .slice (some ⟨vb, 0, none⟩) 1 1]).run Try.prog W1 = .ok (goInt 1) W2 := fun ty dc => by
    rw [hW2, hcur2]
    exact run_copy_rowK W1 _ _ ty 58 w.heap.size (i * 4) (n + 1 - i) dc ⟨vb, 0, none⟩ 1 1 ROW _ news 4 1 Try.underlying62 sizeA hblk1 (by simp only [Nat.min_def]; split <;> omega) (by rw [hnl])
      (fun j v hj => by
        rw [Addr.add_lit, Nat.zero_add, hvb1.cell j]
        simpa using hj)
      (by rw [hnl, hRs]; omega) hn1
  have hblk2 : W2.heap[w.heap.size]? = some (.cells cur2 58 (0, 0)) := by rw [hW2]; exact setRow_heap W1 _ ROW _ _ _ hblk1
  have hs2 : cur2.size = G * 4 := by
    rw [hcur2]
    simp only [List.size_toArray, List.length_append, List.length_take, List.length_drop, Array.length_toList, hRs, hnl]
    omega
  have hgg2 : Blk W2.drew g cur 58 := by
    have : W2.heap[g]? = some (.cells cur 58 (0, 0)) := by rw [hW2, setRow_other _ _ _ _ (by omega)]; exact hgg1
    exact this
  have hdl : (xs.drop (i * 4)).length = (n - i) * 4 := by rw [List.length_drop, hlen]; omega
  obtain ⟨cur3, hcur3⟩ : ∃ cur3, cur3 = (cur2.toList.take ((i + 1) * 4) ++ xs.drop (i * 4) ++ cur2.toList.drop ((i + 1) * 4 + (xs.drop (i * 4)).length)).toArray := ⟨_, rfl⟩
  obtain ⟨W3, hW3⟩ : ∃ W3, W3 = W2.drew.setRow w.heap.size cur3 := ⟨_, rfl⟩
  have hcpB : ∀ ty dc sc, (Builtin.copy_ #[62, 62] ty #[.slice (some ⟨w.heap.size, (i + 1) * 4, none⟩) (n + 1 - (i + 1)) dc, .slice (some ⟨g, i * 4, none⟩) (n - i) sc]).run Try.prog W2.drew = .ok (goInt ((n - i : Nat) : Int)) W3 := fun ty dc sc => by
    rw [hW3, hcur3]
    exact run_copy_rowK W2.drew _ _ ty 58 w.heap.size ((i + 1) * 4) (n + 1 - (i + 1)) dc ⟨g, i * 4, none⟩ (n - i) sc cur2 _ (xs.drop (i * 4)) 4 (n - i) Try.underlying62 sizeA hblk2 (by simp only [Nat.min_def]; split <;> omega) hdl
      (fun j v hj => by
        rw [Addr.add_lit]
        rw [List.getElem?_drop] at hj
        exact (hgg2.cell _).trans (hcur _ _ hj))
      (by rw [hdl, hs2]; omega) (fun v hv => h1 v (List.mem_of_mem_drop hv))
  have hblk3 := hide (hW3 ▸ setRow_heap W2.drew w.heap.size cur2 cur3 _ _ hblk2 : W3.heap[w.heap.size]? = some (.cells cur3 58 (0, 0)))
  have hg3 : Hid (w.grownBy W3 (some g)) := by
    show w.grownBy W3 (some g)
    refine ⟨by rw [hW3]; show W2.os = _; rw [hW2]; exact hg1.os, by rw [hW3]; show W2.tape = _; rw [hW2]; exact hg1.tape, by rw [hW3]; show W2.output = _; rw [hW2]; exact hg1.output, ?_, fun k hk _ => ?_⟩
    · rw [hW3, size_setRow]; show _ ≤ W2.heap.size; rw [hW2, size_setRow]; exact hg1.size
    · rw [hW3, setRow_other _ _ _ _ (by omega)]; show W2.heap[k]? = _; rw [hW2, setRow_other _ _ _ _ (by omega)]; exact hg1.block k hk (by simp)
  have hs3 : Hid (cur3.size = G * 4) := by
    show cur3.size = _
    rw [hcur3]
    simp only [List.size_toArray, List.length_append, List.length_take, List.length_drop, Array.length_toList, hs2, hlen]
    omega
  have htake : Hid (cur3.toList.take ((n + 1) * 4) = xs.take (i * 4) ++ news ++ xs.drop (i * 4)) := by
    show _ = _
    have ec2 : cur2.toList = xs.take (i * 4) ++ news ++ ROW.toList.drop (i * 4 + news.length) := by rw [hcur2, hRt]
    have ea : cur2.toList.take ((i + 1) * 4) = xs.take (i * 4) ++ news := by
      rw [ec2, List.take_append_of_le_length (by rw [List.length_append, hxl, hnl]; omega), List.take_of_length_le (by rw [List.length_append, hxl, hnl]; omega)]
    rw [hcur3, ea]
    have hl2 : (xs.take (i * 4) ++ news ++ xs.drop (i * 4)).length = (n + 1) * 4 := by
      rw [List.length_append, List.length_append, hxl, List.length_drop, hlen, hnl]; omega
    show ((xs.take (i * 4) ++ news ++ xs.drop (i * 4)) ++ _).take _ = _
    rw [List.take_append_of_le_length (by rw [hl2]; omega), List.take_of_length_le (by rw [hl2]; omega)]
  have HL := hide hlen
  have HNL := hide hnl
  have HG := hide (And.intro hGn hGm)
  have HX := hide hxl
  have hii : (i : Int) < (n : Int) := by omega
  have hz2 : ((i : Int) == (n : Int)) = false := beq_eq_false_iff_ne.2 (by omega)
  have hz3 : (n : Int) < (n : Int) + 1 := by omega
  have hz5 : (i : Int) ≤ (n : Int) + 1 := by omega
  have hz6 : (i : Int) + 1 ≤ (n : Int) + 1 := by omega
  have h01 : (0 : Int) ≤ (i : Int) + 1 := by omega
  have htn : ((i : Int) + 1).toNat = i + 1 := by omega
  have hw1 : IntKind.i64.wrap ((i : Int) + 1) = (i : Int) + 1 := by rw [IntKind.wrap_i64]; omega
  have hb2 : ¬ (G = i + 1) := by omega
  have hb4 : ¬ (G = i) := by omega
  have hb5 : ¬ (n = i) := by omega
  have hin : i ≤ n := by omega
  have hin2 : (i : Int) ≤ (n : Int) := by omega
  clear hW1 hW2 hW3 hblk1 hblk2 hg1 hcur2 hcur3 hn1 hnl hcur h1 hblk htk hcs hlen hvb hvb1 hdl hgg1 hgg2 hold hROW hRs hRt hxl hs2 hi0 hi1 hi2 hi3 hG hGm hkk hik hgw
  unfold AInsPost
  generalize w.heap.size = H at *
  go_enter Try.func80, Try.ntmps80
  go_wp2_with (first
    | (at_builtin; refine wpList_append_run _ rfl _ _ _ _ rfl _ _ rfl rfl (hrz _) ?_)
    | (at_builtin; refine wpList_copy_run _ rfl _ _ 62 62 rfl _ _ rfl rfl (hcpA _ _) ?_))
  go_region_law (refine step_copy_run rfl (.tmp 50) (.tmp 53) 62 62 rfl (.slice (some ⟨H, (i + 1) * 4, none⟩) (n + 1 - (i + 1)) (G - (i + 1))) (.slice (some ⟨g, i * 4, none⟩) (n - i) (n - i)) (by simp [Act.eval, Act.put]) (by simp [Act.eval, Act.put]) (hcpB _ _ _) ?_)
  go_wp2
  go_ret
  have hlen := unhide HL
  have hnl := unhide HNL
  obtain ⟨hGn, hGm⟩ := unhide HG
  refine ⟨_, rfl, ⟨?_, .inr ⟨H, G, cur3, rfl, hbase, unhide hblk3, hGn, hGm, unhide hs3, unhide htake⟩⟩, unhide hg3, Or.inr rfl⟩
  rw [List.length_append, List.length_append, unhide HX, List.length_drop, hlen, hnl]; omega

theorem ains_any (base vb n i : Nat) (v : Value) (xs news : List Value) (w : World) (hown : w.ownsRow base 58 4 v n xs) (hn : n ≤ 1000000) (hi : i ≤ n) (h1 : ∀ u ∈ xs, u.oneCell' = true) (hvb : Blk w vb news.toArray 58) (hnl : news.length = 4) (hn1 : ∀ u ∈ news, u.oneCell' = true) (hbase : base ≤ w.heap.size) (hne : v.ownBlock ≠ some vb) :
    Calls Try.prog 80 #[v, .int .i64 (i : Int), .slice (some ⟨vb, 0, none⟩) 1 1] w (AInsPost base v n i xs news w) := by
  by_cases he : i = n
  · subst he; exact ains_end base vb i v xs news w hown hn hvb hnl hn1 hbase
  · rcases hown.2 with ⟨rfl, rfl⟩ | ⟨g, cap, cur, rfl, hbg, hblk, hnc, hcm, hcs, htk⟩
    · omega
    · by_cases hr : n + 1 ≤ cap
      · exact ains_room base vb g cap n i cur xs news w hbg hblk hcm hcs htk (by omega) hr h1 hvb hnl hn1 (by simpa [Value.ownBlock, eq_comm] using hne)
      · obtain rfl : cap = n := by omega
        exact ains_grow base vb g cap i cur xs news w hbase hblk hcs htk (by omega) hn h1 hvb hnl hn1
end Go.Proofs.Ytabajhbghjfhoaa
