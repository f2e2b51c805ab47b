/-
  What 'appendStretch' of blend's three lists of nodes does (made by mk_bnode.py).
-/
import Derived.Test.YtbabmkilbbbmoaaDoorMgBN
import Derived.Test.YtbabmkilbbbmoaaDoorMgAK
namespace Go.Proofs.YtbabmkilbbbmoaaDoor
open Go.RowKit
set_option linter.unusedVariables false
set_option linter.unusedSimpArgs false

set_option maxHeartbeats 4000000 in
set_option maxRecDepth 100000 in
theorem nstretch_any (W0 : World) (tb : Nat) (qo qa qb : Option Addr) (co ca cb : Nat) (o a b : Forest) (h3 : ThreeN W0 tb qo qa qb co ca cb o a b) (v : Value) (L : List PT) (i i' j j' k k' : Nat) (w : World) (hrow : PartsV w W0.heap.size v L) (hbl : Below W0.heap.size W0 w)
    (hi : i ≤ i') (hi2 : i' ≤ o.len) (hj : j ≤ j') (hj2 : j' ≤ a.len) (hk : k ≤ k') (hk2 : k' ≤ b.len) (hL : L.length ≤ 10000) (hn : o.len ≤ 1000 ∧ a.len ≤ 1000 ∧ b.len ≤ 1000) (hsm : SmF o ∧ SmF a ∧ SmF b) (hct : o.count ≤ 900000 ∧ a.count ≤ 900000 ∧ b.count ≤ 900000) :
    Calls Tryd.prog 81 #[.pointer (some ⟨tb, 0, none⟩), v, .agg #[.int .i64 (i : Int), .int .i64 (i' : Int)], .agg #[.int .i64 (j : Int), .int .i64 (j' : Int)], .agg #[.int .i64 (k : Int), .int .i64 (k' : Int)]] w fun e w' => ∃ u, e = .returned u ∧ PartsV w' W0.heap.size u (L ++ stP (smM o a b) i i' j j' k k') ∧ Below W0.heap.size w w' ∧ KpB w v w' ∧ FrB w v u := by
  obtain ⟨i0, hi0, hi1, hi2', hi3⟩ := infoPart
  obtain ⟨uq, un, uc, hu⟩ := slice_of hrow
  subst hu
  have HR := hide hrow
  have HB := hide hbl
  have hsz := hbl.size
  obtain ⟨t1, t2, t3, t4, v1, v2, v3, c1, c2, c3⟩ := h3
  have hlt : tb < W0.heap.size := World.block_lt_of_cell? W0 _ t1
  clear hrow
  by_cases hall : i = i' ∧ j = j' ∧ k = k'
  · obtain ⟨rfl, rfl, rfl⟩ := hall
    have hs : stP (smM o a b) i i j j k k = [] := by unfold stP; rw [if_pos ⟨rfl, rfl, rfl⟩]
    rw [hs, List.append_nil]
    clear hs t1 t2 t3 t4 v1 v2 v3
    go_enter Tryd.func81, Tryd.ntmps81
    go_wp2
    go_ret
    exact ⟨_, rfl, (((unhide HR).alloc _).alloc _).alloc _, (((Below.refl _ _).alloc hsz _).alloc (by simp; omega) _).alloc (by simp; omega) _, fun b9 hb9 _ => ((((Below.refl w.heap.size w).alloc (Nat.le_refl _) _).alloc (by simp) _).alloc (by simp; omega) _).block b9 hb9, fun k9 hk9 => .inl hk9⟩
  · have hs : stP (smM o a b) i i' j j' k k' = [(kd3 (sameF (subN a j j') (subN o i i')) (sameF (subN b k k') (subN o i i')) (sameF (subN a j j') (subN b k k')), (i, i'), (j, j'), (k, k'))] := by unfold stP; rw [if_neg hall]; rfl
    rw [hs]
    have d1 := bcell hbl
    have t1' := (d1.1 tb 0 hlt).trans t1
    have t2' := (d1.1 tb 1 hlt).trans t2
    have t3' := (d1.1 tb 2 hlt).trans t3
    have t4' := (d1.1 tb 3 hlt).trans t4
    have r1 := run_partN qo o.len co i i' hi (by omega)
    have r2 := run_partN qa a.len ca j j' hj (by omega)
    have r3 := run_partN qb b.len cb k k' hk (by omega)
    have p1 := (fo_part v1 hi hi2 c1).below hbl
    have m1 := subN_len o i i' hi hi2
    have p2 := (fo_part v2 hj hj2 c2).below hbl
    have m2 := subN_len a j j' hj hj2
    have p3 := (fo_part v3 hk hk2 c3).below hbl
    have m3 := subN_len b k k' hk hk2
    have S1 := hide (fun W hW => by
      have X := nsame_any (subN a j j') (subN o i i') _ _ (ca - j) (co - i) W (p2.below hW) (p1.below hW) (subN_small _ _ _ hsm.2.1) (Nat.le_trans (subN_count _ _ _) hct.2.1) (Nat.le_trans (subN_count _ _ _) hct.1)
      rw [m2, m1] at X
      exact X)
    have S2 := hide (fun W hW => by
      have X := nsame_any (subN b k k') (subN o i i') _ _ (cb - k) (co - i) W (p3.below hW) (p1.below hW) (subN_small _ _ _ hsm.2.2) (Nat.le_trans (subN_count _ _ _) hct.2.2) (Nat.le_trans (subN_count _ _ _) hct.1)
      rw [m3, m1] at X
      exact X)
    have S3 := hide (fun W hW => by
      have X := nsame_any (subN a j j') (subN b k k') _ _ (ca - j) (cb - k) W (p2.below hW) (p3.below hW) (subN_small _ _ _ hsm.2.1) (Nat.le_trans (subN_count _ _ _) hct.2.1) (Nat.le_trans (subN_count _ _ _) hct.2.2)
      rw [m2, m3] at X
      exact X)
    have hx : (¬ i = i') ∨ (i = i' ∧ ¬ j = j') ∨ (i = i' ∧ j = j' ∧ ¬ k = k') := by
      by_cases e1 : i = i'
      · by_cases e2 : j = j'
        · exact .inr (.inr ⟨e1, e2, fun e3 => hall ⟨e1, e2, e3⟩⟩)
        · exact .inr (.inl ⟨e1, e2⟩)
      · exact .inl e1
    have HH := hide hall
    clear t1 t2 t3 t4 p1 p2 p3 v1 v2 v3 d1 hall hs m1 m2 m3 hsm hct
    generalize hx1 : sameF (subN a j j') (subN o i i') = x1 at *
    generalize hx2 : sameF (subN b k k') (subN o i i') = x2 at *
    generalize hx3 : sameF (subN a j j') (subN b k k') = x3 at *
    clear hx1 hx2 hx3
    have HK2 : Hid (x1 = true → kd3 x1 x2 x3 = 2) := hide (fun h => by rw [h]; rfl)
    have HK3 : Hid (x1 = false → x2 = true → kd3 x1 x2 x3 = 3) := hide (fun h h' => by rw [h, h']; rfl)
    have HK4 : Hid (x1 = false → x2 = false → x3 = true → kd3 x1 x2 x3 = 4) := hide (fun h h' h'' => by rw [h, h', h'']; rfl)
    have HK5 : Hid (x1 = false → x2 = false → x3 = false → kd3 x1 x2 x3 = 5) := hide (fun h h' h'' => by rw [h, h', h'']; rfl)
    generalize kd3 x1 x2 x3 = kk at *
    have HSF := hide (stP_new tb w (i : Int) (i' : Int) (j : Int) (j' : Int) (k : Int) (k' : Int) 97)
    have hltw : tb < w.heap.size := by omega
    rcases hx with e | ⟨e0, e⟩ | ⟨e0, e1, e⟩
    case' inl =>
      have ei : ((i : Int) == (i' : Int)) = false := beq_eq_false_iff_ne.2 (by omega)
    case' inr.inl =>
      have ei : ((i : Int) == (i' : Int)) = true := beq_iff_eq.2 (by omega)
      have ej : ((j : Int) == (j' : Int)) = false := beq_eq_false_iff_ne.2 (by omega)
      clear e0
    case' inr.inr =>
      have ei : ((i : Int) == (i' : Int)) = true := beq_iff_eq.2 (by omega)
      have ej : ((j : Int) == (j' : Int)) = true := beq_iff_eq.2 (by omega)
      have ek : ((k : Int) == (k' : Int)) = false := beq_eq_false_iff_ne.2 (by omega)
      clear e0 e1
    all_goals (
      go_enter Tryd.func81, Tryd.ntmps81
      go_wp2
      generalize ((w.alloc (Obj.cells #[.int .i64 (i : Int), .int .i64 (i' : Int)] 97)).alloc (Obj.cells #[.int .i64 (j : Int), .int .i64 (j' : Int)] 97)).alloc (Obj.cells #[.int .i64 (k : Int), .int .i64 (k' : Int)] 97) = W at *
      have q1 := cellB (unhide HSF).bl t1'
      have q2 := cellB (unhide HSF).bl t2'
      have q3 := cellB (unhide HSF).bl t3'
      have q4 := cellB (unhide HSF).bl t4'
      have f1 := (unhide HSF).a0
      have f2 := (unhide HSF).a1
      have f3 := (unhide HSF).b0
      have f4 := (unhide HSF).b1
      have f5 := (unhide HSF).c0
      have f6 := (unhide HSF).c1
      go_quiet (fail)
      go_wp2_with fail
      refine calls_from (fun X => StF tb w (i : Int) (i' : Int) (j : Int) (j' : Int) (k : Int) (k' : Int) X) ((unhide HSF).below (below_draws _ _)) ?_
      intro X hX
      clear q1 q2 q3 q4 f1 f2 f3 f4 f5 f6 HSF
      refine (unhide S1 X hX.bl).mono ?_
      rintro e9 w1 ⟨rfl, hb1⟩
      have H1 := hX.below hb1
      clear hb1
      have q4 := cellB H1.bl t4'
      cases x1 with
      | true =>
        have HRw := hide (ownsRow_below (unhide HR) H1.bl)
        unfold PartsV at HRw
        have hz2 := H1.bl.size
        have f1 := H1.a0
        have f2 := H1.a1
        have f3 := H1.b0
        have f4 := H1.b1
        have f5 := H1.c0
        have f6 := H1.c1
        have HBL := hide H1.bl
        clear H1 S1 S2 S3 q4
        go_wp2_with (at_builtin; refine wpList_append_fresh _ rfl _ _ 52 rfl W0.heap.size 99 i0 (.agg #[.int .i64 0, .int .i64 0, .int .i64 0, .int .i64 0, .int .i64 0, .int .i64 0, .int .i64 0]) 7 56 Tryd.underlying52 hi0 hi1 hi2' hi3 rfl (by decide) (.slice uq un uc) _ _ rfl ((unhide HRw).alloc _) ⟨w1.heap.size, 0, none⟩ 1 1 (ptL (2, (i, i'), (j, j'), (k, k'))) rfl rfl (cell_seven_new _ _ _ _ _ _ _ _ _) (by simp [Value.oneCell', ptL]) (by simp only [maxLen]; omega) (by omega) (by simp; omega) ?_)
        intro u' w9 hown hgr hfr
        have HO : Hid (PartsV w9 W0.heap.size u' (L ++ [(kk, (i, i'), (j, j'), (k, k'))])) := hide (by rw [unhide HK2 (by trivial)]; exact parts_snoc hown)
        have HB9 : Hid (Below W0.heap.size w w9) := hide ((((unhide HBL).mono hsz).alloc (by omega) _).grown hgr (by simp; omega) (fun q hq => ((unhide HRw).lt q hq).1))
        have HK9 : Hid (KpB w (.slice uq un uc) w9) := hide (fun b9 hb9 hne => (hgr.block b9 (by have := (unhide HBL).size; simp; omega) hne).trans (((unhide HBL).alloc (unhide HBL).size _).block b9 hb9))
        have HF9 : Hid (FrB w (.slice uq un uc) u') := hide (fun k9 hk9 => (hfr k9 hk9).imp id (fun h9 => by first | exact Nat.le_trans (unhide HBL).size h9 | exact Nat.le_trans (Nat.le_trans (unhide HBL).size (by simp)) h9))
        clear hown hgr hfr
        go_wp2
        go_ret
        exact ⟨_, rfl, unhide HO, unhide HB9, unhide HK9, unhide HF9⟩
      | false =>
        go_wp2_with fail
        refine (unhide S2 _ H1.bl).mono ?_
        rintro e9 w2 ⟨rfl, hb2⟩
        have H2 := H1.below hb2
        clear hb2 q4 H1
        have q4 := cellB H2.bl t4'
        cases x2 with
        | true =>
          have HRw := hide (ownsRow_below (unhide HR) H2.bl)
          unfold PartsV at HRw
          have hz2 := H2.bl.size
          have f1 := H2.a0
          have f2 := H2.a1
          have f3 := H2.b0
          have f4 := H2.b1
          have f5 := H2.c0
          have f6 := H2.c1
          have HBL := hide H2.bl
          clear H2 S1 S2 S3 q4
          go_wp2_with (at_builtin; refine wpList_append_fresh _ rfl _ _ 52 rfl W0.heap.size 99 i0 (.agg #[.int .i64 0, .int .i64 0, .int .i64 0, .int .i64 0, .int .i64 0, .int .i64 0, .int .i64 0]) 7 56 Tryd.underlying52 hi0 hi1 hi2' hi3 rfl (by decide) (.slice uq un uc) _ _ rfl ((unhide HRw).alloc _) ⟨w2.heap.size, 0, none⟩ 1 1 (ptL (3, (i, i'), (j, j'), (k, k'))) rfl rfl (cell_seven_new _ _ _ _ _ _ _ _ _) (by simp [Value.oneCell', ptL]) (by simp only [maxLen]; omega) (by omega) (by simp; omega) ?_)
          intro u' w9 hown hgr hfr
          have HO : Hid (PartsV w9 W0.heap.size u' (L ++ [(kk, (i, i'), (j, j'), (k, k'))])) := hide (by rw [unhide HK3 (by trivial) (by trivial)]; exact parts_snoc hown)
          have HB9 : Hid (Below W0.heap.size w w9) := hide ((((unhide HBL).mono hsz).alloc (by omega) _).grown hgr (by simp; omega) (fun q hq => ((unhide HRw).lt q hq).1))
          have HK9 : Hid (KpB w (.slice uq un uc) w9) := hide (fun b9 hb9 hne => (hgr.block b9 (by have := (unhide HBL).size; simp; omega) hne).trans (((unhide HBL).alloc (unhide HBL).size _).block b9 hb9))
          have HF9 : Hid (FrB w (.slice uq un uc) u') := hide (fun k9 hk9 => (hfr k9 hk9).imp id (fun h9 => by first | exact Nat.le_trans (unhide HBL).size h9 | exact Nat.le_trans (Nat.le_trans (unhide HBL).size (by simp)) h9))
          clear hown hgr hfr
          go_wp2
          go_ret
          exact ⟨_, rfl, unhide HO, unhide HB9, unhide HK9, unhide HF9⟩
        | false =>
          go_wp2_with fail
          refine (unhide S3 _ H2.bl).mono ?_
          rintro e9 w3 ⟨rfl, hb3⟩
          have H3 := H2.below hb3
          clear hb3 q4 H2
          have q4 := cellB H3.bl t4'
          cases x3 with
          | true =>
            have HRw := hide (ownsRow_below (unhide HR) H3.bl)
            unfold PartsV at HRw
            have hz2 := H3.bl.size
            have f1 := H3.a0
            have f2 := H3.a1
            have f3 := H3.b0
            have f4 := H3.b1
            have f5 := H3.c0
            have f6 := H3.c1
            have HBL := hide H3.bl
            clear H3 S1 S2 S3 q4
            go_wp2_with (at_builtin; refine wpList_append_fresh _ rfl _ _ 52 rfl W0.heap.size 99 i0 (.agg #[.int .i64 0, .int .i64 0, .int .i64 0, .int .i64 0, .int .i64 0, .int .i64 0, .int .i64 0]) 7 56 Tryd.underlying52 hi0 hi1 hi2' hi3 rfl (by decide) (.slice uq un uc) _ _ rfl ((unhide HRw).alloc _) ⟨w3.heap.size, 0, none⟩ 1 1 (ptL (4, (i, i'), (j, j'), (k, k'))) rfl rfl (cell_seven_new _ _ _ _ _ _ _ _ _) (by simp [Value.oneCell', ptL]) (by simp only [maxLen]; omega) (by omega) (by simp; omega) ?_)
            intro u' w9 hown hgr hfr
            have HO : Hid (PartsV w9 W0.heap.size u' (L ++ [(kk, (i, i'), (j, j'), (k, k'))])) := hide (by rw [unhide HK4 (by trivial) (by trivial) (by trivial)]; exact parts_snoc hown)
            have HB9 : Hid (Below W0.heap.size w w9) := hide ((((unhide HBL).mono hsz).alloc (by omega) _).grown hgr (by simp; omega) (fun q hq => ((unhide HRw).lt q hq).1))
            have HK9 : Hid (KpB w (.slice uq un uc) w9) := hide (fun b9 hb9 hne => (hgr.block b9 (by have := (unhide HBL).size; simp; omega) hne).trans (((unhide HBL).alloc (unhide HBL).size _).block b9 hb9))
            have HF9 : Hid (FrB w (.slice uq un uc) u') := hide (fun k9 hk9 => (hfr k9 hk9).imp id (fun h9 => by first | exact Nat.le_trans (unhide HBL).size h9 | exact Nat.le_trans (Nat.le_trans (unhide HBL).size (by simp)) h9))
            clear hown hgr hfr
            go_wp2
            go_ret
            exact ⟨_, rfl, unhide HO, unhide HB9, unhide HK9, unhide HF9⟩
          | false =>
            have HRw := hide (ownsRow_below (unhide HR) H3.bl)
            unfold PartsV at HRw
            have hz2 := H3.bl.size
            have f1 := H3.a0
            have f2 := H3.a1
            have f3 := H3.b0
            have f4 := H3.b1
            have f5 := H3.c0
            have f6 := H3.c1
            have HBL := hide H3.bl
            clear H3 S1 S2 S3 q4
            go_wp2_with (at_builtin; refine wpList_append_fresh _ rfl _ _ 52 rfl W0.heap.size 99 i0 (.agg #[.int .i64 0, .int .i64 0, .int .i64 0, .int .i64 0, .int .i64 0, .int .i64 0, .int .i64 0]) 7 56 Tryd.underlying52 hi0 hi1 hi2' hi3 rfl (by decide) (.slice uq un uc) _ _ rfl ((unhide HRw).alloc _) ⟨w3.heap.size, 0, none⟩ 1 1 (ptL (5, (i, i'), (j, j'), (k, k'))) rfl rfl (cell_seven_new _ _ _ _ _ _ _ _ _) (by simp [Value.oneCell', ptL]) (by simp only [maxLen]; omega) (by omega) (by simp; omega) ?_)
            intro u' w9 hown hgr hfr
            have HO : Hid (PartsV w9 W0.heap.size u' (L ++ [(kk, (i, i'), (j, j'), (k, k'))])) := hide (by rw [unhide HK5 (by trivial) (by trivial) (by trivial)]; exact parts_snoc hown)
            have HB9 : Hid (Below W0.heap.size w w9) := hide ((((unhide HBL).mono hsz).alloc (by omega) _).grown hgr (by simp; omega) (fun q hq => ((unhide HRw).lt q hq).1))
            have HK9 : Hid (KpB w (.slice uq un uc) w9) := hide (fun b9 hb9 hne => (hgr.block b9 (by have := (unhide HBL).size; simp; omega) hne).trans (((unhide HBL).alloc (unhide HBL).size _).block b9 hb9))
            have HF9 : Hid (FrB w (.slice uq un uc) u') := hide (fun k9 hk9 => (hfr k9 hk9).imp id (fun h9 => by first | exact Nat.le_trans (unhide HBL).size h9 | exact Nat.le_trans (Nat.le_trans (unhide HBL).size (by simp)) h9))
            clear hown hgr hfr
            go_wp2
            go_ret
            exact ⟨_, rfl, unhide HO, unhide HB9, unhide HK9, unhide HF9⟩)
end Go.Proofs.YtbabmkilbbbmoaaDoor
