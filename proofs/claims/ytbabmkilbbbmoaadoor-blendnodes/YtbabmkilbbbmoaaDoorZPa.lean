/-
  What 'parts' of blend's three lists of texts does.
-/
import Derived.Test.YtbabmkilbbbmoaaDoorMgAK
import Derived.Test.YtbabmkilbbbmoaaDoorZTr
import Derived.Deep.RegionWith
namespace Go.Proofs.YtbabmkilbbbmoaaDoor
open Go.RowKit
set_option linter.unusedVariables false
set_option linter.unusedSimpArgs false

theorem ptF_step (S : Sms) (n a b i j k : Nat) (T : List (Nat × Nat × Nat)) (m : Nat) (hm : m < T.length) : ptF S n a b i j k (T.drop m) = stP S i (T.getD m (0, 0, 0)).1 j (T.getD m (0, 0, 0)).2.1 k (T.getD m (0, 0, 0)).2.2 ++ keptT (T.getD m (0, 0, 0)) :: ptF S n a b ((T.getD m (0, 0, 0)).1 + 1) ((T.getD m (0, 0, 0)).2.1 + 1) ((T.getD m (0, 0, 0)).2.2 + 1) (T.drop (m + 1)) := by
  rw [List.drop_eq_getElem_cons hm, ptF, List.getD, List.getElem?_eq_getElem hm]
  rfl
theorem upT_step {n a b i j k : Nat} {T : List (Nat × Nat × Nat)} {m : Nat} (hm : m < T.length) (h : UpT n a b i j k (T.drop m)) : i ≤ (T.getD m (0, 0, 0)).1 ∧ j ≤ (T.getD m (0, 0, 0)).2.1 ∧ k ≤ (T.getD m (0, 0, 0)).2.2 ∧ (T.getD m (0, 0, 0)).1 < n ∧ (T.getD m (0, 0, 0)).2.1 < a ∧ (T.getD m (0, 0, 0)).2.2 < b ∧ UpT n a b ((T.getD m (0, 0, 0)).1 + 1) ((T.getD m (0, 0, 0)).2.1 + 1) ((T.getD m (0, 0, 0)).2.2 + 1) (T.drop (m + 1)) := by
  rw [List.drop_eq_getElem_cons hm] at h
  rw [List.getD, List.getElem?_eq_getElem hm]
  exact h
theorem parts_cells {w : World} {base : Nat} {u : Value} {L : List PT} (h : PartsV w base u L) : ∃ q c, u = .slice q L.length c ∧ (0 < L.length → ∃ g, q = some ⟨g, 0, none⟩ ∧ base ≤ g ∧ ∀ k, k < L.length → ∀ j, j < 7 → w.cell? ⟨g, k * 7 + j, none⟩ = (ptL (L.getD k p7))[j]?) := by
  obtain ⟨_, h⟩ := h
  rcases h with ⟨h1, h0⟩ | ⟨g, cap, cur, h0, h1, h2, h3, h4, h5, h6⟩
  · exact ⟨none, 0, by rw [h0]; exact h1, fun x => by omega⟩
  · refine ⟨_, cap, h0, fun _ => ⟨g, rfl, h1, fun k hk j hj => ?_⟩⟩
    rw [Joins.cell_of_block h2, ← flat7_split ptL ptL_len L k hk j hj, ← h6, List.getElem?_take, if_pos (by omega)]
    simp
theorem keepB_cellZ {w w' : World} {v : Value} {b o : Nat} {x : Value} (h : KpB w v w') (hne : some b ≠ v.ownBlock) (hc : w.cell? ⟨b, o, none⟩ = some x) : w'.cell? ⟨b, o, none⟩ = some x := by
  have he := h b (World.block_lt_of_cell? w _ hc) hne
  unfold World.cell? at hc ⊢
  simp only [he]
  exact hc

set_option maxHeartbeats 4000000 in
set_option maxRecDepth 100000 in
theorem parts_any (tb : Nat) (qo qa qb : Option Addr) (co ca cb : Nat) (o a b : List ByteArray) (q1 q2 : Option Addr) (c1 c2 : Nat) (L1 L2 : List (Nat × Nat)) (w : World) (h3 : ThreeV w tb qo qa qb co ca cb o a b)
    (h1 : PrAt w q1 L1) (h2 : PrAt w q2 L2) (hc1 : L1.length ≤ c1) (hc2 : L2.length ≤ c2) (r1 : RiseP o.length a.length 0 0 L1) (r2 : RiseP o.length b.length 0 0 L2) (hn : o.length ≤ 1000) (ha : a.length ≤ 1000) (hb : b.length ≤ 1000) (hm1 : c1 ≤ 9223372036854775807) (hm2 : c2 ≤ 9223372036854775807) :
    Calls Tryd.prog 76 #[.pointer (some ⟨tb, 0, none⟩), .slice q1 L1.length c1, .slice q2 L2.length c2] w fun e w' => ∃ u, e = .returned u ∧ PartsV w' w.heap.size u (ptF (smT o a b) o.length a.length b.length 0 0 0 (trF L1 L2)) ∧ Below w.heap.size w w' := by
  obtain ⟨i0, hi0, hi1, hi2, hi3⟩ := infoPart
  have CT := hide (triples_any q1 q2 c1 c2 o.length a.length b.length L1 L2 w h1 h2 hc1 hc2 r1 r2 hn ha hb hm1 hm2)
  have hup := trF_up r1 r2
  have HUP := hide hup
  have hTl := upT_len _ _ _ _ _ _ _ hup
  have H3 := hide h3
  clear h1 h2 r1 r2 hup h3
  generalize trF L1 L2 = T at *
  have HPL := hide (ptF_len (smT o a b) o.length a.length b.length T 0 0 0)
  have CS0 := hide (fun (W0 : World) (h : ThreeV W0 tb qo qa qb co ca cb o a b) => stretch_any W0 tb qo qa qb co ca cb o a b h)
  go_enter Tryd.func76, Tryd.ntmps76
  go_wp2_with fail
  refine (unhide CT).mono ?_
  rintro e w1 ⟨v, rfl, hrow, hb1⟩
  obtain ⟨tq, tc, rfl, hcells⟩ := parts_cells hrow
  rw [List.length_map] at hcells ⊢
  have HC := hide hcells
  have HB1 := hide hb1
  have hz1 := hb1.size
  have H31 : Hid (ThreeV w1 tb qo qa qb co ca cb o a b) := hide (by
    obtain ⟨t1, t2, t3, t4, v1, v2, v3, c⟩ := unhide H3
    exact ⟨cellB hb1 t1, cellB hb1 t2, cellB hb1 t3, cellB hb1 t4, view_below v1 hb1, view_below v2 hb1, view_below v3 hb1, c⟩)
  have CS := hide (unhide CS0 w1 (unhide H31))
  clear hrow hb1 hcells CT CS0 H3
  go_wp2
  go_loopw [17, 7, 8, 9, 10] (fun x u iv jv kv wr => ∃ (m i j k : Nat) (Lm : List PT), m ≤ T.length ∧ x = .int .i64 (m : Int) ∧ iv = .int .i64 (i : Int) ∧ jv = .int .i64 (j : Int) ∧ kv = .int .i64 (k : Int) ∧ i ≤ o.length ∧ j ≤ a.length ∧ k ≤ b.length ∧ UpT o.length a.length b.length i j k (T.drop m) ∧ PartsV wr w1.heap.size u Lm ∧ Lm ++ ptF (smT o a b) o.length a.length b.length i j k (T.drop m) = ptF (smT o a b) o.length a.length b.length 0 0 0 T ∧ Below w1.heap.size w1 wr) (fun x _ _ _ _ _ => T.length - (intOf x).toNat)
  case atStart => exact ⟨0, 0, 0, 0, [], Nat.zero_le _, rfl, rfl, rfl, rfl, Nat.zero_le _, Nat.zero_le _, Nat.zero_le _, unhide HUP, World.ownsRow_nil _ _ _ _, rfl, Below.refl _ _⟩
  case round =>
    clear HUP
    obtain ⟨m, i, j, k, Lm, hm, rfl, rfl, rfl, rfl, hi, hj, hk, hup, hrow, heq, hbl⟩ := hrel
    obtain ⟨uq, un, uc, hu⟩ := slice_of hrow
    subst hu
    have hll : Lm.length ≤ 3000 := by
      have := congrArg List.length heq
      rw [List.length_append] at this
      have := unhide HPL
      omega
    have hz := hbl.size
    have HR := hide hrow
    have HBL := hide hbl
    by_cases hp : m < T.length
    · have hpi : (m : Int) < (T.length : Int) := by omega
      obtain ⟨x1, x2, x3, x4, x5, x6, x7⟩ := upT_step hp hup
      rw [ptF_step _ _ _ _ _ _ _ _ _ hp] at heq
      obtain ⟨g, rfl, hg, hcell⟩ := unhide HC (by omega)
      have hck := hcell m hp
      have hT7 : (T.map keptT).getD m p7 = keptT (T.getD m (0, 0, 0)) := by
        rw [List.getD, List.getElem?_map, List.getElem?_eq_getElem hp, List.getD, List.getElem?_eq_getElem hp]; rfl
      rw [hT7] at hck
      generalize hgt : T.getD m (0, 0, 0) = t at *
      obtain ⟨tO, ta, tbb⟩ := t
      dsimp only at x1 x2 x3 x4 x5 x6 x7 heq
      have k0 : wr.cell? ⟨g, m * 7, none⟩ = some (.int .i64 1) := cellB hbl (hck 0 (by decide))
      have k1 : wr.cell? ⟨g, m * 7 + 1, none⟩ = some (.int .i64 (tO : Int)) := cellB hbl (hck 1 (by decide))
      have k2 : wr.cell? ⟨g, m * 7 + 2, none⟩ = some (.int .i64 ((tO : Int) + 1)) := cellB hbl (hck 2 (by decide))
      have k3 : wr.cell? ⟨g, m * 7 + 3, none⟩ = some (.int .i64 (ta : Int)) := cellB hbl (hck 3 (by decide))
      have k4 : wr.cell? ⟨g, m * 7 + 4, none⟩ = some (.int .i64 ((ta : Int) + 1)) := cellB hbl (hck 4 (by decide))
      have k5 : wr.cell? ⟨g, m * 7 + 5, none⟩ = some (.int .i64 (tbb : Int)) := cellB hbl (hck 5 (by decide))
      have k6 : wr.cell? ⟨g, m * 7 + 6, none⟩ = some (.int .i64 ((tbb : Int) + 1)) := cellB hbl (hck 6 (by decide))
      have CC := hide (fun X hr hbX => unhide CS (.slice uq un uc) Lm i tO j ta k tbb X hr hbX x1 (by omega) x2 (by omega) x3 (by omega) (by omega) ⟨hn, ha, hb⟩)
      have HEQ := hide heq
      have HX7 := hide x7
      have hnb : Hid (∀ q, (Value.slice uq un uc).ownBlock = some q → w1.heap.size ≤ q ∧ q < wr.heap.size) := hide (fun q hq => (unhide HR).lt q hq)
      have HRX := hide ((unhide HR).alloc (Obj.cells #[.int .i64 1, .int .i64 (tO : Int), .int .i64 ((tO : Int) + 1), .int .i64 (ta : Int), .int .i64 ((ta : Int) + 1), .int .i64 (tbb : Int), .int .i64 ((tbb : Int) + 1)] 99))
      have HBX := hide ((unhide HBL).alloc hz (Obj.cells #[.int .i64 1, .int .i64 (tO : Int), .int .i64 ((tO : Int) + 1), .int .i64 (ta : Int), .int .i64 ((ta : Int) + 1), .int .i64 (tbb : Int), .int .i64 ((tbb : Int) + 1)] 99))
      have BX := hide (Blk.new wr #[.int .i64 1, .int .i64 (tO : Int), .int .i64 ((tO : Int) + 1), .int .i64 (ta : Int), .int .i64 ((ta : Int) + 1), .int .i64 (tbb : Int), .int .i64 ((tbb : Int) + 1)] 99)
      have hXs : (wr.alloc (Obj.cells #[.int .i64 1, .int .i64 (tO : Int), .int .i64 ((tO : Int) + 1), .int .i64 (ta : Int), .int .i64 ((ta : Int) + 1), .int .i64 (tbb : Int), .int .i64 ((tbb : Int) + 1)] 99)).heap.size = wr.heap.size + 1 := by simp
      clear hck hcell hT7 hgt heq hup hrow hbl HC x7
      go_wp2_with fail
      refine Calls.mono (unhide CC _ (unhide HRX) (unhide HBX)) ?_
      rintro e w2 ⟨u2, rfl, hr2, hb2, hk2, hf2⟩
      obtain ⟨vq, vn, vc, hu2⟩ := slice_of hr2
      subst hu2
      have hne : some wr.heap.size ≠ (Value.slice uq un uc).ownBlock := fun e => by have := (unhide hnb _ e.symm).2; omega
      have y0 := keepB_cellZ hk2 hne ((unhide BX).cell 0)
      have y1 := keepB_cellZ hk2 hne ((unhide BX).cell 1)
      have y2 := keepB_cellZ hk2 hne ((unhide BX).cell 2)
      have y3 := keepB_cellZ hk2 hne ((unhide BX).cell 3)
      have y4 := keepB_cellZ hk2 hne ((unhide BX).cell 4)
      have y5 := keepB_cellZ hk2 hne ((unhide BX).cell 5)
      have y6 := keepB_cellZ hk2 hne ((unhide BX).cell 6)
      have HR2 := hide hr2
      have HB2 := hide ((unhide HBX).trans hb2)
      have hz2 := hb2.size
      have hs1 := stP_len (smT o a b) i tO j ta k tbb
      have hll2 : (Lm ++ stP (smT o a b) i tO j ta k tbb).length ≤ 3001 := by rw [List.length_append]; omega
      have hne2 : Hid (∀ q, (Value.slice vq vn vc).ownBlock = some q → w1.heap.size ≤ q ∧ q ≠ wr.heap.size ∧ q < w2.heap.size) := hide (fun q hq => by
        have l1 := hr2.lt q hq
        rcases hf2 q hq with h | h
        · have := (unhide hnb q h).2; exact ⟨l1.1, by omega, l1.2⟩
        · rw [hXs] at h; exact ⟨l1.1, by omega, l1.2⟩)
      have HEQ2 : Hid ((Lm ++ stP (smT o a b) i tO j ta k tbb) ++ keptT (tO, ta, tbb) :: ptF (smT o a b) o.length a.length b.length (tO + 1) (ta + 1) (tbb + 1) (T.drop (m + 1)) = ptF (smT o a b) o.length a.length b.length 0 0 0 T) := hide (by rw [List.append_assoc]; exact unhide HEQ)
      have hlt2 : wr.heap.size < w2.heap.size := by omega
      unfold PartsV at HR2
      generalize Lm ++ stP (smT o a b) i tO j ta k tbb = L2m at *
      clear hr2 hb2 hk2 hf2 hne hs1 hXs HRX HBX BX CC HEQ
      clear k0 k1 k2 k3 k4 k5 k6
      go_wp2_with (at_builtin; refine wpList_append_own_at _ rfl _ _ 52 rfl w1.heap.size 99 i0 (.agg #[.int .i64 0, .int .i64 0, .int .i64 0, .int .i64 0, .int .i64 0, .int .i64 0, .int .i64 0]) 7 56 Tryd.underlying52 hi0 hi1 hi2 hi3 rfl (by decide) (.slice vq vn vc) _ _ rfl ((unhide HR2).alloc _) ⟨w2.heap.size, 0, none⟩ 1 1 (ptL (keptT (tO, ta, tbb))) rfl rfl (cell_seven_new _ _ _ _ _ _ _ _ _) (by simp [Value.oneCell', ptL, keptT]) (by simp only [maxLen]; omega) (by omega) (by simp; omega) ?_)
      intro u' w9 hown hgr _ _
      have HO : Hid (PartsV w9 w1.heap.size u' (L2m ++ [keptT (tO, ta, tbb)])) := hide (parts_snoc hown)
      have HB9 : Hid (Below w1.heap.size w1 w9) := hide (((unhide HB2).alloc (by omega) _).grown hgr (by simp; omega) (fun q hq => (unhide hne2 q hq).1))
      have gk : ∀ o v, w2.cell? ⟨wr.heap.size, o, none⟩ = some v → w9.cell? ⟨wr.heap.size, o, none⟩ = some v := fun o v hc => by
        have h1 := hgr.block wr.heap.size (by simp; omega) (fun e => (unhide hne2 _ e.symm).2.1 rfl)
        have h2 := h1.trans (((Below.refl w2.heap.size w2).alloc (Nat.le_refl _) _).block _ hlt2)
        unfold World.cell? at hc ⊢
        simp only [h2]
        exact hc
      replace y0 := gk _ _ y0
      replace y1 := gk _ _ y1
      replace y2 := gk _ _ y2
      replace y3 := gk _ _ y3
      replace y4 := gk _ _ y4
      replace y5 := gk _ _ y5
      replace y6 := gk _ _ y6
      clear hown hgr gk
      go_wp2
      go_quiet (fail)
      go_wp2
      go_roundw
      case rel => exact ⟨m + 1, tO + 1, ta + 1, tbb + 1, L2m ++ [keptT (tO, ta, tbb)], by omega, by go_num, rfl, rfl, rfl, by omega, by omega, by omega, unhide HX7, unhide HO, by rw [List.append_assoc]; exact unhide HEQ2, _root_.Go.below_drewN (unhide HB9) _⟩
      case measure => simp [intOf]; omega
    · have hpi : ¬ (m : Int) < (T.length : Int) := by omega
      have hme : T.drop m = [] := List.drop_eq_nil_of_le (by omega)
      rw [hme] at heq hup
      have HEQ : Hid (Lm ++ stP (smT o a b) i o.length j a.length k b.length = ptF (smT o a b) o.length a.length b.length 0 0 0 T) := hide heq
      have CC := hide (fun X hr hbX => unhide CS (.slice uq un uc) Lm i o.length j a.length k b.length X hr hbX hi (Nat.le_refl _) hj (Nat.le_refl _) hk (Nat.le_refl _) (by omega) ⟨hn, ha, hb⟩)
      obtain ⟨t1, t2, t3, t4, v1, v2, v3, c⟩ := unhide H31
      have y1 := cellB hbl t1
      have y2 := cellB hbl t2
      have y3 := cellB hbl t3
      clear hme heq hup hrow hbl t1 t2 t3 t4 v1 v2 v3 c H31 CS HC
      go_wp2
      go_region_with (go_at_call 103; refine Calls.mono (unhide CC _ (by first | exact unhide HR | exact (unhide HR).drew) (by first | exact unhide HBL | exact (unhide HBL).drew)) ?_; rintro e w2 ⟨u2, rfl, hr2, hb2, _, _⟩; have HR2 := hide hr2; have HB2 := hide hb2; clear hr2 hb2 CC)
      all_goals (
        go_wp2
        go_ret
        exact ⟨_, rfl, by rw [← unhide HEQ]; exact owns_mono (unhide HR2) hz1, ((unhide HB1).trans (((unhide HBL).drew.trans (unhide HB2)).mono hz1))⟩)
end Go.Proofs.YtbabmkilbbbmoaaDoor
