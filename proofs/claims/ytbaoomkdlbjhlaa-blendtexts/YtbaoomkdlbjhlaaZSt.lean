/-
  What 'appendStretch' of blend's three lists of texts does.
-/
import Derived.Test.YtbaoomkdlbjhlaaZEq
import Derived.Test.YtbaoomkdlbjhlaaZSu
import Derived.Deep.RegionWith
namespace Go.Proofs.Ytbaoomkdlbjhlaa
open Go.RowKit
set_option linter.unusedVariables false
set_option linter.unusedSimpArgs false

/-- Blocks but one row's stay. -/
def FrB (w : World) (v u : Value) : Prop := ∀ k, u.ownBlock = some k → v.ownBlock = some k ∨ w.heap.size ≤ k
def KpB (w : World) (v : Value) (w' : World) : Prop := ∀ b, b < w.heap.size → some b ≠ v.ownBlock → w'.heap[b]? = w.heap[b]?
/-- What holds behind the three boxes of ranges. -/
structure StF (tb : Nat) (w : World) (i i' j j' k k' : Int) (W : World) : Prop where
  bl : Below w.heap.size w W
  a0 : W.cell? ⟨w.heap.size, 0, none⟩ = some (.int .i64 i)
  a1 : W.cell? ⟨w.heap.size, 1, none⟩ = some (.int .i64 i')
  b0 : W.cell? ⟨w.heap.size + 1, 0, none⟩ = some (.int .i64 j)
  b1 : W.cell? ⟨w.heap.size + 1, 1, none⟩ = some (.int .i64 j')
  c0 : W.cell? ⟨w.heap.size + 1 + 1, 0, none⟩ = some (.int .i64 k)
  c1 : W.cell? ⟨w.heap.size + 1 + 1, 1, none⟩ = some (.int .i64 k')
theorem StF.below {tb : Nat} {w : World} {i i' j j' k k' : Int} {W W' : World} (h : StF tb w i i' j j' k k' W) (hb : Below W.heap.size W W') : StF tb w i i' j j' k k' W' :=
  ⟨tr2 h.bl hb, cellB hb h.a0, cellB hb h.a1, cellB hb h.b0, cellB hb h.b1, cellB hb h.c0, cellB hb h.c1⟩
theorem stF_new (tb : Nat) (w : World) (i i' j j' k k' : Int) (t : TypeId) : StF tb w i i' j j' k k' (((w.alloc (Obj.cells #[.int .i64 i, .int .i64 i'] t)).alloc (Obj.cells #[.int .i64 j, .int .i64 j'] t)).alloc (Obj.cells #[.int .i64 k, .int .i64 k'] t)) := by
  have e1 : (w.alloc (Obj.cells #[.int .i64 i, .int .i64 i'] t)).heap.size = w.heap.size + 1 := by simp
  have e2 : ((w.alloc (Obj.cells #[.int .i64 i, .int .i64 i'] t)).alloc (Obj.cells #[.int .i64 j, .int .i64 j'] t)).heap.size = w.heap.size + 1 + 1 := by simp
  have A := ((Blk.new w #[.int .i64 i, .int .i64 i'] t).alloc (.cells #[.int .i64 j, .int .i64 j'] t)).alloc (.cells #[.int .i64 k, .int .i64 k'] t)
  have B := (Blk.new (w.alloc (Obj.cells #[.int .i64 i, .int .i64 i'] t)) #[.int .i64 j, .int .i64 j'] t).alloc (.cells #[.int .i64 k, .int .i64 k'] t)
  have C := Blk.new ((w.alloc (Obj.cells #[.int .i64 i, .int .i64 i'] t)).alloc (Obj.cells #[.int .i64 j, .int .i64 j'] t)) #[.int .i64 k, .int .i64 k'] t
  rw [e1] at B
  rw [e2] at C
  exact ⟨(((Below.refl _ _).alloc (Nat.le_refl _) _).alloc (by simp) _).alloc (by simp; omega) _, A.cell 0, A.cell 1, B.cell 0, B.cell 1, C.cell 0, C.cell 1⟩

set_option maxHeartbeats 4000000 in
set_option maxRecDepth 100000 in
theorem stretch_any (W0 : World) (tb : Nat) (qo qa qb : Option Addr) (co ca cb : Nat) (o a b : List ByteArray) (h3 : ThreeV W0 tb qo qa qb co ca cb o a b) (v : Value) (L : List PT) (i i' j j' k k' : Nat) (w : World) (hrow : PartsV w W0.heap.size v L) (hbl : Below W0.heap.size W0 w)
    (hi : i ≤ i') (hi2 : i' ≤ o.length) (hj : j ≤ j') (hj2 : j' ≤ a.length) (hk : k ≤ k') (hk2 : k' ≤ b.length) (hL : L.length ≤ 10000) (hn : o.length ≤ 1000 ∧ a.length ≤ 1000 ∧ b.length ≤ 1000) :
    Calls Try.prog 27 #[.pointer (some ⟨tb, 0, none⟩), v, .agg #[.int .i64 (i : Int), .int .i64 (i' : Int)], .agg #[.int .i64 (j : Int), .int .i64 (j' : Int)], .agg #[.int .i64 (k : Int), .int .i64 (k' : Int)]] w fun e w' => ∃ u, e = .returned u ∧ PartsV w' W0.heap.size u (L ++ stF (smT o a b) i i' j j' k k') ∧ Below W0.heap.size w w' ∧ KpB w v w' ∧ FrB w v u := by
  obtain ⟨i0, hi0, hi1, hi2', hi3⟩ := infoPart
  obtain ⟨uq, un, uc, hu⟩ := slice_of hrow
  subst hu
  have HR := hide hrow
  have HB := hide hbl
  have hsz := hbl.size
  obtain ⟨t1, t2, t3, t4, v1, v2, v3, c1, c2, c3⟩ := h3
  have hlt : tb < W0.heap.size := World.block_lt_of_cell? W0 _ t1
  clear hrow
  by_cases hall : i = i' ∧ j = j' ∧ k = k'
  · obtain ⟨rfl, rfl, rfl⟩ := hall
    have hs : stF (smT o a b) i i j j k k = [] := by unfold stF; rw [if_pos ⟨rfl, rfl, rfl⟩]
    rw [hs, List.append_nil]
    clear hs t1 t2 t3 t4 v1 v2 v3
    go_enter Try.func27, Try.ntmps27
    go_wp2
    go_ret
    exact ⟨_, rfl, (((unhide HR).alloc _).alloc _).alloc _, (((Below.refl _ _).alloc hsz _).alloc (by simp; omega) _).alloc (by simp; omega) _, fun b9 hb9 _ => ((((Below.refl w.heap.size w).alloc (Nat.le_refl _) _).alloc (by simp) _).alloc (by simp; omega) _).block b9 hb9, fun k9 hk9 => .inl hk9⟩
  · have hs : stF (smT o a b) i i' j j' k k' = [(kd3 (sameT (sub a j j') (sub o i i')) (sameT (sub b k k') (sub o i i')) (sameT (sub a j j') (sub b k k')), (i, i'), (j, j'), (k, k'))] := by unfold stF; rw [if_neg hall]; rfl
    rw [hs]
    have d1 := bcell hbl
    have t1' := (d1.1 tb 0 hlt).trans t1
    have t2' := (d1.1 tb 1 hlt).trans t2
    have t3' := (d1.1 tb 2 hlt).trans t3
    have t4' := (d1.1 tb 3 hlt).trans t4
    have r1 := run_partT qo o.length co i i' hi (by omega)
    have r2 := run_partT qa a.length ca j j' hj (by omega)
    have r3 := run_partT qb b.length cb k k' hk (by omega)
    have p1 := view_below (view_part v1 hi hi2 c1) hbl
    have p2 := view_below (view_part v2 hj hj2 c2) hbl
    have p3 := view_below (view_part v3 hk hk2 c3) hbl
    have S1 := hide (fun W hW => bsame_any _ _ _ _ W (view_below p2 hW) (view_below p1 hW))
    have S2 := hide (fun W hW => bsame_any _ _ _ _ W (view_below p3 hW) (view_below p1 hW))
    have S3 := hide (fun W hW => bsame_any _ _ _ _ W (view_below p2 hW) (view_below p3 hW))
    have hx : (¬ i = i') ∨ (i = i' ∧ ¬ j = j') ∨ (i = i' ∧ j = j' ∧ ¬ k = k') := by
      by_cases e1 : i = i'
      · by_cases e2 : j = j'
        · exact .inr (.inr ⟨e1, e2, fun e3 => hall ⟨e1, e2, e3⟩⟩)
        · exact .inr (.inl ⟨e1, e2⟩)
      · exact .inl e1
    have HH := hide hall
    clear t1 t2 t3 t4 p1 p2 p3 v1 v2 v3 d1 hall hs
    generalize hx1 : sameT (sub a j j') (sub o i i') = x1 at *
    generalize hx2 : sameT (sub b k k') (sub o i i') = x2 at *
    generalize hx3 : sameT (sub a j j') (sub b k k') = x3 at *
    clear hx1 hx2 hx3
    have HK2 : Hid (x1 = true → kd3 x1 x2 x3 = 2) := hide (fun h => by rw [h]; rfl)
    have HK3 : Hid (x1 = false → x2 = true → kd3 x1 x2 x3 = 3) := hide (fun h h' => by rw [h, h']; rfl)
    have HK4 : Hid (x1 = false → x2 = false → x3 = true → kd3 x1 x2 x3 = 4) := hide (fun h h' h'' => by rw [h, h', h'']; rfl)
    have HK5 : Hid (x1 = false → x2 = false → x3 = false → kd3 x1 x2 x3 = 5) := hide (fun h h' h'' => by rw [h, h', h'']; rfl)
    generalize kd3 x1 x2 x3 = kk at *
    have HSF := hide (stF_new tb w (i : Int) (i' : Int) (j : Int) (j' : Int) (k : Int) (k' : Int) 39)
    have hltw : tb < w.heap.size := by omega
    rcases hx with e | ⟨e0, e⟩ | ⟨e0, e1, e⟩
    case' inl =>
      have ei : ((i : Int) == (i' : Int)) = false := beq_eq_false_iff_ne.2 (by omega)
    case' inr.inl =>
      have ei : ((i : Int) == (i' : Int)) = true := beq_iff_eq.2 (by omega)
      have ej : ((j : Int) == (j' : Int)) = false := beq_eq_false_iff_ne.2 (by omega)
      clear e0
    case' inr.inr =>
      have ei : ((i : Int) == (i' : Int)) = true := beq_iff_eq.2 (by omega)
      have ej : ((j : Int) == (j' : Int)) = true := beq_iff_eq.2 (by omega)
      have ek : ((k : Int) == (k' : Int)) = false := beq_eq_false_iff_ne.2 (by omega)
      clear e0 e1
    all_goals (
      go_enter Try.func27, Try.ntmps27
      go_wp2
      generalize ((w.alloc (Obj.cells #[.int .i64 (i : Int), .int .i64 (i' : Int)] 39)).alloc (Obj.cells #[.int .i64 (j : Int), .int .i64 (j' : Int)] 39)).alloc (Obj.cells #[.int .i64 (k : Int), .int .i64 (k' : Int)] 39) = W at *
      have q1 := cellB (unhide HSF).bl t1'
      have q2 := cellB (unhide HSF).bl t2'
      have q3 := cellB (unhide HSF).bl t3'
      have q4 := cellB (unhide HSF).bl t4'
      have f1 := (unhide HSF).a0
      have f2 := (unhide HSF).a1
      have f3 := (unhide HSF).b0
      have f4 := (unhide HSF).b1
      have f5 := (unhide HSF).c0
      have f6 := (unhide HSF).c1
      go_quiet (fail)
      go_wp2_with fail
      refine calls_from (fun X => StF tb w (i : Int) (i' : Int) (j : Int) (j' : Int) (k : Int) (k' : Int) X) ((unhide HSF).below (below_draws _ _)) ?_
      intro X hX
      clear q1 q2 q3 q4 f1 f2 f3 f4 f5 f6 HSF
      refine (unhide S1 X hX.bl).mono ?_
      rintro e9 w1 ⟨rfl, hb1⟩
      have H1 := hX.below hb1
      clear hb1
      have q4 := cellB H1.bl t4'
      cases x1 with
      | true =>
        have HRw := hide (ownsRow_below (unhide HR) H1.bl)
        unfold PartsV at HRw
        have hz2 := H1.bl.size
        have f1 := H1.a0
        have f2 := H1.a1
        have f3 := H1.b0
        have f4 := H1.b1
        have f5 := H1.c0
        have f6 := H1.c1
        have HBL := hide H1.bl
        clear H1 S1 S2 S3 q4
        go_wp2_with (at_builtin; refine wpList_append_fresh _ rfl _ _ 30 rfl W0.heap.size 41 i0 (.agg #[.int .i64 0, .int .i64 0, .int .i64 0, .int .i64 0, .int .i64 0, .int .i64 0, .int .i64 0]) 7 56 Try.underlying30 hi0 hi1 hi2' hi3 rfl (by decide) (.slice uq un uc) _ _ rfl ((unhide HRw).alloc _) ⟨w1.heap.size, 0, none⟩ 1 1 (ptL (2, (i, i'), (j, j'), (k, k'))) rfl rfl (cell_seven_new _ _ _ _ _ _ _ _ _) (by simp [Value.oneCell', ptL]) (by simp only [maxLen]; omega) (by omega) (by simp; omega) ?_)
        intro u' w9 hown hgr hfr
        have HO : Hid (PartsV w9 W0.heap.size u' (L ++ [(kk, (i, i'), (j, j'), (k, k'))])) := hide (by rw [unhide HK2 (by trivial)]; exact parts_snoc hown)
        have HB9 : Hid (Below W0.heap.size w w9) := hide ((((unhide HBL).mono hsz).alloc (by omega) _).grown hgr (by simp; omega) (fun q hq => ((unhide HRw).lt q hq).1))
        have HK9 : Hid (KpB w (.slice uq un uc) w9) := hide (fun b9 hb9 hne => (hgr.block b9 (by have := (unhide HBL).size; simp; omega) hne).trans (((unhide HBL).alloc (unhide HBL).size _).block b9 hb9))
        have HF9 : Hid (FrB w (.slice uq un uc) u') := hide (fun k9 hk9 => (hfr k9 hk9).imp id (fun h9 => by first | exact Nat.le_trans (unhide HBL).size h9 | exact Nat.le_trans (Nat.le_trans (unhide HBL).size (by simp)) h9))
        clear hown hgr hfr
        go_wp2
        go_ret
        exact ⟨_, rfl, unhide HO, unhide HB9, unhide HK9, unhide HF9⟩
      | false =>
        go_wp2_with fail
        refine (unhide S2 _ H1.bl).mono ?_
        rintro e9 w2 ⟨rfl, hb2⟩
        have H2 := H1.below hb2
        clear hb2 q4 H1
        have q4 := cellB H2.bl t4'
        cases x2 with
        | true =>
          have HRw := hide (ownsRow_below (unhide HR) H2.bl)
          unfold PartsV at HRw
          have hz2 := H2.bl.size
          have f1 := H2.a0
          have f2 := H2.a1
          have f3 := H2.b0
          have f4 := H2.b1
          have f5 := H2.c0
          have f6 := H2.c1
          have HBL := hide H2.bl
          clear H2 S1 S2 S3 q4
          go_wp2_with (at_builtin; refine wpList_append_fresh _ rfl _ _ 30 rfl W0.heap.size 41 i0 (.agg #[.int .i64 0, .int .i64 0, .int .i64 0, .int .i64 0, .int .i64 0, .int .i64 0, .int .i64 0]) 7 56 Try.underlying30 hi0 hi1 hi2' hi3 rfl (by decide) (.slice uq un uc) _ _ rfl ((unhide HRw).alloc _) ⟨w2.heap.size, 0, none⟩ 1 1 (ptL (3, (i, i'), (j, j'), (k, k'))) rfl rfl (cell_seven_new _ _ _ _ _ _ _ _ _) (by simp [Value.oneCell', ptL]) (by simp only [maxLen]; omega) (by omega) (by simp; omega) ?_)
          intro u' w9 hown hgr hfr
          have HO : Hid (PartsV w9 W0.heap.size u' (L ++ [(kk, (i, i'), (j, j'), (k, k'))])) := hide (by rw [unhide HK3 (by trivial) (by trivial)]; exact parts_snoc hown)
          have HB9 : Hid (Below W0.heap.size w w9) := hide ((((unhide HBL).mono hsz).alloc (by omega) _).grown hgr (by simp; omega) (fun q hq => ((unhide HRw).lt q hq).1))
          have HK9 : Hid (KpB w (.slice uq un uc) w9) := hide (fun b9 hb9 hne => (hgr.block b9 (by have := (unhide HBL).size; simp; omega) hne).trans (((unhide HBL).alloc (unhide HBL).size _).block b9 hb9))
          have HF9 : Hid (FrB w (.slice uq un uc) u') := hide (fun k9 hk9 => (hfr k9 hk9).imp id (fun h9 => by first | exact Nat.le_trans (unhide HBL).size h9 | exact Nat.le_trans (Nat.le_trans (unhide HBL).size (by simp)) h9))
          clear hown hgr hfr
          go_wp2
          go_ret
          exact ⟨_, rfl, unhide HO, unhide HB9, unhide HK9, unhide HF9⟩
        | false =>
          go_wp2_with fail
          refine (unhide S3 _ H2.bl).mono ?_
          rintro e9 w3 ⟨rfl, hb3⟩
          have H3 := H2.below hb3
          clear hb3 q4 H2
          have q4 := cellB H3.bl t4'
          cases x3 with
          | true =>
            have HRw := hide (ownsRow_below (unhide HR) H3.bl)
            unfold PartsV at HRw
            have hz2 := H3.bl.size
            have f1 := H3.a0
            have f2 := H3.a1
            have f3 := H3.b0
            have f4 := H3.b1
            have f5 := H3.c0
            have f6 := H3.c1
            have HBL := hide H3.bl
            clear H3 S1 S2 S3 q4
            go_wp2_with (at_builtin; refine wpList_append_fresh _ rfl _ _ 30 rfl W0.heap.size 41 i0 (.agg #[.int .i64 0, .int .i64 0, .int .i64 0, .int .i64 0, .int .i64 0, .int .i64 0, .int .i64 0]) 7 56 Try.underlying30 hi0 hi1 hi2' hi3 rfl (by decide) (.slice uq un uc) _ _ rfl ((unhide HRw).alloc _) ⟨w3.heap.size, 0, none⟩ 1 1 (ptL (4, (i, i'), (j, j'), (k, k'))) rfl rfl (cell_seven_new _ _ _ _ _ _ _ _ _) (by simp [Value.oneCell', ptL]) (by simp only [maxLen]; omega) (by omega) (by simp; omega) ?_)
            intro u' w9 hown hgr hfr
            have HO : Hid (PartsV w9 W0.heap.size u' (L ++ [(kk, (i, i'), (j, j'), (k, k'))])) := hide (by rw [unhide HK4 (by trivial) (by trivial) (by trivial)]; exact parts_snoc hown)
            have HB9 : Hid (Below W0.heap.size w w9) := hide ((((unhide HBL).mono hsz).alloc (by omega) _).grown hgr (by simp; omega) (fun q hq => ((unhide HRw).lt q hq).1))
            have HK9 : Hid (KpB w (.slice uq un uc) w9) := hide (fun b9 hb9 hne => (hgr.block b9 (by have := (unhide HBL).size; simp; omega) hne).trans (((unhide HBL).alloc (unhide HBL).size _).block b9 hb9))
            have HF9 : Hid (FrB w (.slice uq un uc) u') := hide (fun k9 hk9 => (hfr k9 hk9).imp id (fun h9 => by first | exact Nat.le_trans (unhide HBL).size h9 | exact Nat.le_trans (Nat.le_trans (unhide HBL).size (by simp)) h9))
            clear hown hgr hfr
            go_wp2
            go_ret
            exact ⟨_, rfl, unhide HO, unhide HB9, unhide HK9, unhide HF9⟩
          | false =>
            have HRw := hide (ownsRow_below (unhide HR) H3.bl)
            unfold PartsV at HRw
            have hz2 := H3.bl.size
            have f1 := H3.a0
            have f2 := H3.a1
            have f3 := H3.b0
            have f4 := H3.b1
            have f5 := H3.c0
            have f6 := H3.c1
            have HBL := hide H3.bl
            clear H3 S1 S2 S3 q4
            go_wp2_with (at_builtin; refine wpList_append_fresh _ rfl _ _ 30 rfl W0.heap.size 41 i0 (.agg #[.int .i64 0, .int .i64 0, .int .i64 0, .int .i64 0, .int .i64 0, .int .i64 0, .int .i64 0]) 7 56 Try.underlying30 hi0 hi1 hi2' hi3 rfl (by decide) (.slice uq un uc) _ _ rfl ((unhide HRw).alloc _) ⟨w3.heap.size, 0, none⟩ 1 1 (ptL (5, (i, i'), (j, j'), (k, k'))) rfl rfl (cell_seven_new _ _ _ _ _ _ _ _ _) (by simp [Value.oneCell', ptL]) (by simp only [maxLen]; omega) (by omega) (by simp; omega) ?_)
            intro u' w9 hown hgr hfr
            have HO : Hid (PartsV w9 W0.heap.size u' (L ++ [(kk, (i, i'), (j, j'), (k, k'))])) := hide (by rw [unhide HK5 (by trivial) (by trivial) (by trivial)]; exact parts_snoc hown)
            have HB9 : Hid (Below W0.heap.size w w9) := hide ((((unhide HBL).mono hsz).alloc (by omega) _).grown hgr (by simp; omega) (fun q hq => ((unhide HRw).lt q hq).1))
            have HK9 : Hid (KpB w (.slice uq un uc) w9) := hide (fun b9 hb9 hne => (hgr.block b9 (by have := (unhide HBL).size; simp; omega) hne).trans (((unhide HBL).alloc (unhide HBL).size _).block b9 hb9))
            have HF9 : Hid (FrB w (.slice uq un uc) u') := hide (fun k9 hk9 => (hfr k9 hk9).imp id (fun h9 => by first | exact Nat.le_trans (unhide HBL).size h9 | exact Nat.le_trans (Nat.le_trans (unhide HBL).size (by simp)) h9))
            clear hown hgr hfr
            go_wp2
            go_ret
            exact ⟨_, rfl, unhide HO, unhide HB9, unhide HK9, unhide HF9⟩)
end Go.Proofs.Ytbaoomkdlbjhlaa
