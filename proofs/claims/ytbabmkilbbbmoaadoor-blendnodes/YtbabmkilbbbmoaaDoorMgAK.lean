/-
  Several texts in one: what the functions of the program and of the document's answer do.
-/
import Derived.Test.YtbabmkilbbbmoaaDoorMgAJ
import Derived.Deep.RegionWith
import Derived.Test.YtbabmkilbbbmoaaDoorMgAF
import Derived.Test.YtbabmkilbbbmoaaDoorZSu

/-
  What the reference's 'Triples' of layer 25 does.
-/
namespace Go.Proofs.YtbabmkilbbbmoaaDoor
open Go.RowKit
set_option linter.unusedVariables false
set_option linter.unusedSimpArgs false

theorem infoTri0 : (Tryd.prog.info? 101).map (fun i => (i.zero, i.size, i.bytes)) = some (some (.agg #[.int .i64 0, .int .i64 0, .int .i64 0]), 3, 24) := by kernel_rfl
theorem infoTri : ∃ i, Tryd.prog.info? 101 = some i ∧ i.zero = some (.agg #[.int .i64 0, .int .i64 0, .int .i64 0]) ∧ i.size = 3 ∧ i.bytes = 24 := by
  have h := infoTri0
  cases hi : Tryd.prog.info? 101 with
  | none => rw [hi] at h; cases h
  | some i =>
    rw [hi] at h
    simp only [Option.map_some, Option.some.injEq, Prod.mk.injEq] at h
    exact ⟨i, rfl, h.1, h.2.1, h.2.2⟩
def triL (t : Nat × Nat × Nat) : List Value := [.int .i64 (t.1 : Int), .int .i64 (t.2.1 : Int), .int .i64 (t.2.2 : Int)]
def flatT : List (Nat × Nat × Nat) → List Value
  | [] => []
  | p :: r => triL p ++ flatT r
theorem flatT_app (a b : List (Nat × Nat × Nat)) : flatT (a ++ b) = flatT a ++ flatT b := by
  induction a with
  | nil => rfl
  | cons e r ih => simp only [List.cons_append, flatT, ih, List.append_assoc]
theorem flatT_split (L : List (Nat × Nat × Nat)) (k : Nat) (h : k < L.length) (j : Nat) (hj : j < 3) : (flatT L)[k * 3 + j]? = (triL (L.getD k (0, 0, 0)))[j]? := by
  induction L generalizing k with
  | nil => cases h
  | cons e r ih =>
    cases k with
    | zero =>
      rw [Nat.zero_mul, Nat.zero_add, flatT, List.getElem?_append_left (by simpa [triL] using hj)]
      rfl
    | succ k =>
      have e1 : (k + 1) * 3 + j = 3 + (k * 3 + j) := by omega
      rw [e1, flatT, List.getElem?_append_right (by simp [triL])]
      have e2 : 3 + (k * 3 + j) - (triL e).length = k * 3 + j := by simp [triL]
      rw [e2]
      exact ih k (by simpa using h)
def TrisV (w : World) (base : Nat) (u : Value) (L : List (Nat × Nat × Nat)) : Prop := w.ownsRow base 101 3 u L.length (flatT L)
theorem tris_snoc {w : World} {base : Nat} {u : Value} {L : List (Nat × Nat × Nat)} {p : Nat × Nat × Nat} (h : w.ownsRow base 101 3 u (L.length + 1) (flatT L ++ triL p)) : TrisV w base u (L ++ [p]) := by
  unfold TrisV
  rw [List.length_append, flatT_app]
  simpa [flatT] using h
theorem tris_at {w : World} {base : Nat} {u : Value} {L : List (Nat × Nat × Nat)} (h : TrisV w base u L) : ∃ q c, u = .slice q L.length c ∧ (0 < L.length → ∃ g, q = some ⟨g, 0, none⟩ ∧ ∀ k, k < L.length → ∀ j, j < 3 → w.cell? ⟨g, k * 3 + j, none⟩ = (triL (L.getD k (0, 0, 0)))[j]?) := by
  obtain ⟨_, h⟩ := h
  rcases h with ⟨h1, h0⟩ | ⟨g, cap, cur, h0, h1, h2, h3, h4, h5, h6⟩
  · exact ⟨none, 0, by rw [h0]; exact h1, fun x => by omega⟩
  · refine ⟨_, cap, h0, fun _ => ⟨g, rfl, fun k hk j hj => ?_⟩⟩
    rw [Joins.cell_of_block h2, ← flatT_split L k hk j hj, ← h6, List.getElem?_take, if_pos (by omega)]
    simp
theorem tri_snoc (l m : List (Nat × Nat)) (o : Nat) : (List.range (o + 1)).filterMap (triR l m) = (List.range o).filterMap (triR l m) ++ (triR l m o).toList := by
  rw [List.range_succ, List.filterMap_append]
  cases h : triR l m o <;> simp [h]
theorem tri_len (l m : List (Nat × Nat)) (o : Nat) : ((List.range o).filterMap (triR l m)).length ≤ o := by
  have := List.length_filterMap_le (triR l m) (List.range o)
  simpa using this
theorem felI_cases (L : List (Nat × Nat)) (o : Nat) : (∃ y, felF L o = some y ∧ felI L o = (y : Int)) ∨ (felF L o = none ∧ felI L o = -1) := by
  unfold felI
  cases h : felF L o with
  | none => exact .inr ⟨rfl, rfl⟩
  | some y => exact .inl ⟨y, rfl, rfl⟩
theorem felF_lt {n m : Nat} : ∀ (L : List (Nat × Nat)) (i j o y : Nat), RiseP n m i j L → felF L o = some y → y < m
  | [], _, _, _, _, _, h => by simp [felF] at h
  | p :: r, i, j, o, y, hr, h => by
    obtain ⟨a1, a2, a3, a4, a5⟩ := risep_cons hr
    by_cases e : p.1 = o
    · rw [← e, felF_cons_eq] at h
      cases h
      exact a4
    · rw [felF_cons_ne r e] at h
      exact felF_lt r _ _ o y a5 h

set_option maxHeartbeats 4000000 in
set_option maxRecDepth 100000 in
theorem rtriples_any (q1 q2 : Option Addr) (c1 c2 n a b : Nat) (L1 L2 : List (Nat × Nat)) (w : World) (h1 : PrAt w q1 L1) (h2 : PrAt w q2 L2) (r1 : RiseP n a 0 0 L1) (r2 : RiseP n b 0 0 L2) (hn : n ≤ 1000) (ha : a ≤ 1000) (hb : b ≤ 1000) (hl1 : L1.length ≤ 1000) (hl2 : L2.length ≤ 1000) :
    Calls Tryd.prog 56 #[.slice q1 L1.length c1, .slice q2 L2.length c2, .agg #[.int .i64 (n : Int), .int .i64 (a : Int), .int .i64 (b : Int)]] w fun e w' => ∃ u, e = .returned u ∧ TrisV w' w.heap.size u (trF L1 L2 ++ [(n, a, b)]) ∧ Below w.heap.size w w' := by
  obtain ⟨i0, hi0, hi1, hi2, hi3⟩ := infoTri
  have C1 := hide (fun o W (hW : Below w.heap.size w W) => fellow_any q1 c1 L1 o W (h1.below hW) (by omega))
  have C2 := hide (fun o W (hW : Below w.heap.size w W) => fellow_any q2 c2 L2 o W (h2.below hW) (by omega))
  have HF : Hid ((List.range n).filterMap (triR L1 L2) = trF L1 L2) := hide (by rw [List.range_eq_range']; exact tri_range n a b n 0 0 0 L1 L2 rfl r1 r2)
  have hTl : (trF L1 L2).length ≤ n := by rw [← unhide HF]; exact tri_len L1 L2 n
  generalize trF L1 L2 = TT at *
  have F1 := hide (fun o => felI_cases L1 o)
  have F2 := hide (fun o => felI_cases L2 o)
  have G1 := hide (fun o y h => felF_lt L1 0 0 o y r1 h)
  have G2 := hide (fun o y h => felF_lt L2 0 0 o y r2 h)
  clear h1 h2 r1 r2
  have BX := hide (Blk.new w #[.int .i64 (n : Int), .int .i64 (a : Int), .int .i64 (b : Int)] 101)
  have HBX : Hid (Below w.heap.size w (w.alloc (Obj.cells #[.int .i64 (n : Int), .int .i64 (a : Int), .int .i64 (b : Int)] 101))) := hide ((Below.refl _ _).alloc (Nat.le_refl _) _)
  go_enter Tryd.func56, Tryd.ntmps56
  go_wp2
  generalize hW1 : w.alloc (Obj.cells #[.int .i64 (n : Int), .int .i64 (a : Int), .int .i64 (b : Int)] 101) = W1 at *
  have hz1 : w.heap.size < W1.heap.size := by rw [← hW1]; simp
  clear hW1
  go_loopw [8, 7] (fun x u wr => ∃ o : Nat, o ≤ n ∧ x = .int .i64 (o : Int) ∧ TrisV wr W1.heap.size u ((List.range o).filterMap (triR L1 L2)) ∧ Below W1.heap.size W1 wr) (fun x _ _ => n - (intOf x).toNat)
  case atStart => exact ⟨0, Nat.zero_le _, rfl, World.ownsRow_nil _ _ _ _, Below.refl _ _⟩
  case round =>
    obtain ⟨o, ho, rfl, hrow, hbl⟩ := hrel
    obtain ⟨uq, un, uc, hu⟩ := slice_of hrow
    subst hu
    have HR := hide hrow
    have HBL := hide hbl
    have hz := hbl.size
    have KX : Blk wr w.heap.size #[.int .i64 (n : Int), .int .i64 (a : Int), .int .i64 (b : Int)] 101 := (hbl.block w.heap.size (by omega)).trans (unhide BX)
    have y0 := KX.cell 0
    have hbw : Below w.heap.size w wr := (unhide HBX).trans (hbl.mono (by omega))
    have HBW := hide hbw
    have hll := tri_len L1 L2 o
    by_cases hp : o < n
    · have hpi : (o : Int) < (n : Int) := by omega
      have CA := hide (fun W hW => unhide C1 o W hW)
      have CB := hide (fun W hW => unhide C2 o W hW)
      have HS := hide (tri_snoc L1 L2 o)
      have x1 := unhide F1 o
      have x2 := unhide F2 o
      have g1 := hide (unhide G1 o)
      have g2 := hide (unhide G2 o)
      have HT : Hid (triR L1 L2 o = (felF L1 o).bind (fun a => (felF L2 o).map (fun b => (o, a, b)))) := hide rfl
      generalize felI L1 o = fi at *
      generalize felI L2 o = fj at *
      clear hrow hbl KX hbw F1 F2 G1 G2
      go_wp2_with fail
      refine (unhide CA _ (by first | exact unhide HBW | exact (unhide HBW).drew)).mono ?_
      rintro e w2 ⟨rfl, hb2⟩
      have HB2 := hide (tr2 (unhide HBW) hb2)
      have HBL2 := hide ((unhide HBL).trans (hb2.mono hz))
      have HR2 := hide (ownsRow_below (unhide HR) hb2)
      clear hb2
      go_wp2_with fail
      refine (unhide CB _ (by first | exact unhide HB2 | exact (unhide HB2).drew)).mono ?_
      rintro e w3 ⟨rfl, hb3⟩
      have HB3 := hide (tr2 (unhide HB2) hb3)
      have hz2 := (unhide HBL2).size
      have HBL3 := hide ((unhide HBL2).trans (hb3.mono hz2))
      have HR3 := hide (ownsRow_below (unhide HR2) hb3)
      have hz3 := (unhide HBL3).size
      clear hb3 CA CB y0
      rcases x1 with ⟨ya, e1, rfl⟩ | ⟨e1, rfl⟩
      · have la := unhide g1 ya e1
        rcases x2 with ⟨yb, e2, rfl⟩ | ⟨e2, rfl⟩
        · have lb := unhide g2 yb e2
          have HS2 : Hid ((List.range (o + 1)).filterMap (triR L1 L2) = (List.range o).filterMap (triR L1 L2) ++ [(o, ya, yb)]) := hide (by rw [unhide HS, unhide HT, e1, e2]; rfl)
          clear e1 e2 HS HT g1 g2
          unfold TrisV at HR3
          generalize (List.range o).filterMap (triR L1 L2) = KL at *
          have hh : (0 : Int) ≤ (ya : Int) := by omega
          have hh2 : (0 : Int) ≤ (yb : Int) := by omega
          go_wp2_with (at_builtin; refine wpList_append_own_at _ rfl _ _ 107 rfl W1.heap.size 101 i0 (.agg #[.int .i64 0, .int .i64 0, .int .i64 0]) 3 24 Tryd.underlying107 hi0 hi1 hi2 hi3 rfl (by decide) (.slice uq un uc) _ _ rfl ((unhide HR3).alloc _) ⟨w3.heap.size, 0, none⟩ 1 1 (triL (o, ya, yb)) rfl rfl (cell_three_new _ _ _ _ _) (by simp [Value.oneCell', triL]) (by simp only [maxLen]; omega) (by omega) (by simp; omega) ?_)
          intro u' w9 hown hgr _ _
          have HO : Hid (TrisV w9 W1.heap.size u' (KL ++ [(o, ya, yb)])) := hide (tris_snoc hown)
          have HB9 : Hid (Below W1.heap.size W1 w9) := hide (((unhide HBL3).alloc (by omega) _).grown hgr (by simp; omega) (fun q hq => ((unhide HR3).lt q hq).1))
          clear hown hgr
          go_wp2
          go_roundw
          case rel => exact ⟨o + 1, by omega, by go_num, by rw [unhide HS2]; exact unhide HO, unhide HB9⟩
          case measure => simp [intOf]; omega
        · have HS2 : Hid ((List.range (o + 1)).filterMap (triR L1 L2) = (List.range o).filterMap (triR L1 L2)) := hide (by rw [unhide HS, unhide HT, e1, e2]; simp)
          clear e1 e2 HS HT g1 g2
          have hh : (0 : Int) ≤ (ya : Int) := by omega
          go_wp2
          go_roundw
          case rel => exact ⟨o + 1, by omega, by go_num, by rw [unhide HS2]; exact unhide HR3, unhide HBL3⟩
          case measure => simp [intOf]; omega
      · have HS2 : Hid ((List.range (o + 1)).filterMap (triR L1 L2) = (List.range o).filterMap (triR L1 L2)) := hide (by rw [unhide HS, unhide HT, e1]; simp)
        clear e1 HS HT g1 g2 x2
        go_wp2
        go_roundw
        case rel => exact ⟨o + 1, by omega, by go_num, by rw [unhide HS2]; exact unhide HR3, unhide HBL3⟩
        case measure => simp [intOf]; omega
    · have hoe : o = n := by omega
      subst hoe
      rw [unhide HF] at HR
      have hpi : ¬ (o : Int) < (o : Int) := by omega
      have y1 := KX.cell 1
      have y2 := KX.cell 2
      have HR3 : Hid (wr.ownsRow W1.heap.size 101 3 (.slice uq un uc) TT.length (flatT TT)) := HR
      clear hrow hbl KX hbw F1 F2 G1 G2 C1 C2 hll HF
      go_wp2_with (at_builtin; refine wpList_append_own_at _ rfl _ _ 107 rfl W1.heap.size 101 i0 (.agg #[.int .i64 0, .int .i64 0, .int .i64 0]) 3 24 Tryd.underlying107 hi0 hi1 hi2 hi3 rfl (by decide) (.slice uq un uc) _ _ rfl ((unhide HR3).alloc _) ⟨wr.heap.size, 0, none⟩ 1 1 (triL (o, a, b)) rfl rfl (cell_three_new _ _ _ _ _) (by simp [Value.oneCell', triL]) (by simp only [maxLen]; omega) (by omega) (by simp; omega) ?_)
      intro u' w9 hown hgr _ _
      have HO : Hid (TrisV w9 W1.heap.size u' (TT ++ [(o, a, b)])) := hide (tris_snoc hown)
      have HB9 : Hid (Below W1.heap.size W1 w9) := hide (((unhide HBL).alloc hz _).grown hgr (by simp; omega) (fun q hq => ((unhide HR3).lt q hq).1))
      have HO2 : Hid (TrisV w9 w.heap.size u' (TT ++ [(o, a, b)])) := hide (by have := unhide HO; unfold TrisV at this ⊢; exact owns_mono this (Nat.le_of_lt hz1))
      clear hown hgr
      go_wp2
      go_ret
      exact ⟨_, rfl, unhide HO2, (unhide HBX).trans ((unhide HB9).mono (by omega))⟩
end Go.Proofs.YtbabmkilbbbmoaaDoor

/-
  What 'appendStretch' of blend's three lists of texts does.
-/
namespace Go.Proofs.YtbabmkilbbbmoaaDoor
open Go.RowKit
set_option linter.unusedVariables false
set_option linter.unusedSimpArgs false

/-- What holds behind the three boxes of ranges. -/
structure StF (tb : Nat) (w : World) (i i' j j' k k' : Int) (W : World) : Prop where
  bl : Below w.heap.size w W
  a0 : W.cell? ⟨w.heap.size, 0, none⟩ = some (.int .i64 i)
  a1 : W.cell? ⟨w.heap.size, 1, none⟩ = some (.int .i64 i')
  b0 : W.cell? ⟨w.heap.size + 1, 0, none⟩ = some (.int .i64 j)
  b1 : W.cell? ⟨w.heap.size + 1, 1, none⟩ = some (.int .i64 j')
  c0 : W.cell? ⟨w.heap.size + 1 + 1, 0, none⟩ = some (.int .i64 k)
  c1 : W.cell? ⟨w.heap.size + 1 + 1, 1, none⟩ = some (.int .i64 k')
theorem StF.below {tb : Nat} {w : World} {i i' j j' k k' : Int} {W W' : World} (h : StF tb w i i' j j' k k' W) (hb : Below W.heap.size W W') : StF tb w i i' j j' k k' W' :=
  ⟨tr2 h.bl hb, cellB hb h.a0, cellB hb h.a1, cellB hb h.b0, cellB hb h.b1, cellB hb h.c0, cellB hb h.c1⟩
theorem stP_new (tb : Nat) (w : World) (i i' j j' k k' : Int) (t : TypeId) : StF tb w i i' j j' k k' (((w.alloc (Obj.cells #[.int .i64 i, .int .i64 i'] t)).alloc (Obj.cells #[.int .i64 j, .int .i64 j'] t)).alloc (Obj.cells #[.int .i64 k, .int .i64 k'] t)) := by
  have e1 : (w.alloc (Obj.cells #[.int .i64 i, .int .i64 i'] t)).heap.size = w.heap.size + 1 := by simp
  have e2 : ((w.alloc (Obj.cells #[.int .i64 i, .int .i64 i'] t)).alloc (Obj.cells #[.int .i64 j, .int .i64 j'] t)).heap.size = w.heap.size + 1 + 1 := by simp
  have A := ((Blk.new w #[.int .i64 i, .int .i64 i'] t).alloc (.cells #[.int .i64 j, .int .i64 j'] t)).alloc (.cells #[.int .i64 k, .int .i64 k'] t)
  have B := (Blk.new (w.alloc (Obj.cells #[.int .i64 i, .int .i64 i'] t)) #[.int .i64 j, .int .i64 j'] t).alloc (.cells #[.int .i64 k, .int .i64 k'] t)
  have C := Blk.new ((w.alloc (Obj.cells #[.int .i64 i, .int .i64 i'] t)).alloc (Obj.cells #[.int .i64 j, .int .i64 j'] t)) #[.int .i64 k, .int .i64 k'] t
  rw [e1] at B
  rw [e2] at C
  exact ⟨(((Below.refl _ _).alloc (Nat.le_refl _) _).alloc (by simp) _).alloc (by simp; omega) _, A.cell 0, A.cell 1, B.cell 0, B.cell 1, C.cell 0, C.cell 1⟩

set_option maxHeartbeats 4000000 in
set_option maxRecDepth 100000 in
theorem stretch_any (W0 : World) (tb : Nat) (qo qa qb : Option Addr) (co ca cb : Nat) (o a b : List ByteArray) (h3 : ThreeV W0 tb qo qa qb co ca cb o a b) (v : Value) (L : List PT) (i i' j j' k k' : Nat) (w : World) (hrow : PartsV w W0.heap.size v L) (hbl : Below W0.heap.size W0 w)
    (hi : i ≤ i') (hi2 : i' ≤ o.length) (hj : j ≤ j') (hj2 : j' ≤ a.length) (hk : k ≤ k') (hk2 : k' ≤ b.length) (hL : L.length ≤ 10000) (hn : o.length ≤ 1000 ∧ a.length ≤ 1000 ∧ b.length ≤ 1000) :
    Calls Tryd.prog 103 #[.pointer (some ⟨tb, 0, none⟩), v, .agg #[.int .i64 (i : Int), .int .i64 (i' : Int)], .agg #[.int .i64 (j : Int), .int .i64 (j' : Int)], .agg #[.int .i64 (k : Int), .int .i64 (k' : Int)]] w fun e w' => ∃ u, e = .returned u ∧ PartsV w' W0.heap.size u (L ++ stP (smT o a b) i i' j j' k k') ∧ Below W0.heap.size w w' ∧ KpB w v w' ∧ FrB w v u := by
  obtain ⟨i0, hi0, hi1, hi2', hi3⟩ := infoPart
  obtain ⟨uq, un, uc, hu⟩ := slice_of hrow
  subst hu
  have HR := hide hrow
  have HB := hide hbl
  have hsz := hbl.size
  obtain ⟨t1, t2, t3, t4, v1, v2, v3, c1, c2, c3⟩ := h3
  have hlt : tb < W0.heap.size := World.block_lt_of_cell? W0 _ t1
  clear hrow
  by_cases hall : i = i' ∧ j = j' ∧ k = k'
  · obtain ⟨rfl, rfl, rfl⟩ := hall
    have hs : stP (smT o a b) i i j j k k = [] := by unfold stP; rw [if_pos ⟨rfl, rfl, rfl⟩]
    rw [hs, List.append_nil]
    clear hs t1 t2 t3 t4 v1 v2 v3
    go_enter Tryd.func103, Tryd.ntmps103
    go_wp2
    go_ret
    exact ⟨_, rfl, (((unhide HR).alloc _).alloc _).alloc _, (((Below.refl _ _).alloc hsz _).alloc (by simp; omega) _).alloc (by simp; omega) _, fun b9 hb9 _ => ((((Below.refl w.heap.size w).alloc (Nat.le_refl _) _).alloc (by simp) _).alloc (by simp; omega) _).block b9 hb9, fun k9 hk9 => .inl hk9⟩
  · have hs : stP (smT o a b) i i' j j' k k' = [(kd3 (sameT (sub a j j') (sub o i i')) (sameT (sub b k k') (sub o i i')) (sameT (sub a j j') (sub b k k')), (i, i'), (j, j'), (k, k'))] := by unfold stP; rw [if_neg hall]; rfl
    rw [hs]
    have d1 := bcell hbl
    have t1' := (d1.1 tb 0 hlt).trans t1
    have t2' := (d1.1 tb 1 hlt).trans t2
    have t3' := (d1.1 tb 2 hlt).trans t3
    have t4' := (d1.1 tb 3 hlt).trans t4
    have r1 := run_partT qo o.length co i i' hi (by omega)
    have r2 := run_partT qa a.length ca j j' hj (by omega)
    have r3 := run_partT qb b.length cb k k' hk (by omega)
    have p1 := view_below (view_part v1 hi hi2 c1) hbl
    have p2 := view_below (view_part v2 hj hj2 c2) hbl
    have p3 := view_below (view_part v3 hk hk2 c3) hbl
    have S1 := hide (fun W hW => bsame_any _ _ _ _ W (view_below p2 hW) (view_below p1 hW))
    have S2 := hide (fun W hW => bsame_any _ _ _ _ W (view_below p3 hW) (view_below p1 hW))
    have S3 := hide (fun W hW => bsame_any _ _ _ _ W (view_below p2 hW) (view_below p3 hW))
    have hx : (¬ i = i') ∨ (i = i' ∧ ¬ j = j') ∨ (i = i' ∧ j = j' ∧ ¬ k = k') := by
      by_cases e1 : i = i'
      · by_cases e2 : j = j'
        · exact .inr (.inr ⟨e1, e2, fun e3 => hall ⟨e1, e2, e3⟩⟩)
        · exact .inr (.inl ⟨e1, e2⟩)
      · exact .inl e1
    have HH := hide hall
    clear t1 t2 t3 t4 p1 p2 p3 v1 v2 v3 d1 hall hs
    generalize hx1 : sameT (sub a j j') (sub o i i') = x1 at *
    generalize hx2 : sameT (sub b k k') (sub o i i') = x2 at *
    generalize hx3 : sameT (sub a j j') (sub b k k') = x3 at *
    clear hx1 hx2 hx3
    have HK2 : Hid (x1 = true → kd3 x1 x2 x3 = 2) := hide (fun h => by rw [h]; rfl)
    have HK3 : Hid (x1 = false → x2 = true → kd3 x1 x2 x3 = 3) := hide (fun h h' => by rw [h, h']; rfl)
    have HK4 : Hid (x1 = false → x2 = false → x3 = true → kd3 x1 x2 x3 = 4) := hide (fun h h' h'' => by rw [h, h', h'']; rfl)
    have HK5 : Hid (x1 = false → x2 = false → x3 = false → kd3 x1 x2 x3 = 5) := hide (fun h h' h'' => by rw [h, h', h'']; rfl)
    generalize kd3 x1 x2 x3 = kk at *
    have HSF := hide (stP_new tb w (i : Int) (i' : Int) (j : Int) (j' : Int) (k : Int) (k' : Int) 97)
    have hltw : tb < w.heap.size := by omega
    rcases hx with e | ⟨e0, e⟩ | ⟨e0, e1, e⟩
    case' inl =>
      have ei : ((i : Int) == (i' : Int)) = false := beq_eq_false_iff_ne.2 (by omega)
    case' inr.inl =>
      have ei : ((i : Int) == (i' : Int)) = true := beq_iff_eq.2 (by omega)
      have ej : ((j : Int) == (j' : Int)) = false := beq_eq_false_iff_ne.2 (by omega)
      clear e0
    case' inr.inr =>
      have ei : ((i : Int) == (i' : Int)) = true := beq_iff_eq.2 (by omega)
      have ej : ((j : Int) == (j' : Int)) = true := beq_iff_eq.2 (by omega)
      have ek : ((k : Int) == (k' : Int)) = false := beq_eq_false_iff_ne.2 (by omega)
      clear e0 e1
    all_goals (
      go_enter Tryd.func103, Tryd.ntmps103
      go_wp2
      generalize ((w.alloc (Obj.cells #[.int .i64 (i : Int), .int .i64 (i' : Int)] 97)).alloc (Obj.cells #[.int .i64 (j : Int), .int .i64 (j' : Int)] 97)).alloc (Obj.cells #[.int .i64 (k : Int), .int .i64 (k' : Int)] 97) = W at *
      have q1 := cellB (unhide HSF).bl t1'
      have q2 := cellB (unhide HSF).bl t2'
      have q3 := cellB (unhide HSF).bl t3'
      have q4 := cellB (unhide HSF).bl t4'
      have f1 := (unhide HSF).a0
      have f2 := (unhide HSF).a1
      have f3 := (unhide HSF).b0
      have f4 := (unhide HSF).b1
      have f5 := (unhide HSF).c0
      have f6 := (unhide HSF).c1
      go_quiet (fail)
      go_wp2_with fail
      refine calls_from (fun X => StF tb w (i : Int) (i' : Int) (j : Int) (j' : Int) (k : Int) (k' : Int) X) ((unhide HSF).below (below_draws _ _)) ?_
      intro X hX
      clear q1 q2 q3 q4 f1 f2 f3 f4 f5 f6 HSF
      refine (unhide S1 X hX.bl).mono ?_
      rintro e9 w1 ⟨rfl, hb1⟩
      have H1 := hX.below hb1
      clear hb1
      have q4 := cellB H1.bl t4'
      cases x1 with
      | true =>
        have HRw := hide (ownsRow_below (unhide HR) H1.bl)
        unfold PartsV at HRw
        have hz2 := H1.bl.size
        have f1 := H1.a0
        have f2 := H1.a1
        have f3 := H1.b0
        have f4 := H1.b1
        have f5 := H1.c0
        have f6 := H1.c1
        have HBL := hide H1.bl
        clear H1 S1 S2 S3 q4
        go_wp2_with (at_builtin; refine wpList_append_fresh _ rfl _ _ 52 rfl W0.heap.size 99 i0 (.agg #[.int .i64 0, .int .i64 0, .int .i64 0, .int .i64 0, .int .i64 0, .int .i64 0, .int .i64 0]) 7 56 Tryd.underlying52 hi0 hi1 hi2' hi3 rfl (by decide) (.slice uq un uc) _ _ rfl ((unhide HRw).alloc _) ⟨w1.heap.size, 0, none⟩ 1 1 (ptL (2, (i, i'), (j, j'), (k, k'))) rfl rfl (cell_seven_new _ _ _ _ _ _ _ _ _) (by simp [Value.oneCell', ptL]) (by simp only [maxLen]; omega) (by omega) (by simp; omega) ?_)
        intro u' w9 hown hgr hfr
        have HO : Hid (PartsV w9 W0.heap.size u' (L ++ [(kk, (i, i'), (j, j'), (k, k'))])) := hide (by rw [unhide HK2 (by trivial)]; exact parts_snoc hown)
        have HB9 : Hid (Below W0.heap.size w w9) := hide ((((unhide HBL).mono hsz).alloc (by omega) _).grown hgr (by simp; omega) (fun q hq => ((unhide HRw).lt q hq).1))
        have HK9 : Hid (KpB w (.slice uq un uc) w9) := hide (fun b9 hb9 hne => (hgr.block b9 (by have := (unhide HBL).size; simp; omega) hne).trans (((unhide HBL).alloc (unhide HBL).size _).block b9 hb9))
        have HF9 : Hid (FrB w (.slice uq un uc) u') := hide (fun k9 hk9 => (hfr k9 hk9).imp id (fun h9 => by first | exact Nat.le_trans (unhide HBL).size h9 | exact Nat.le_trans (Nat.le_trans (unhide HBL).size (by simp)) h9))
        clear hown hgr hfr
        go_wp2
        go_ret
        exact ⟨_, rfl, unhide HO, unhide HB9, unhide HK9, unhide HF9⟩
      | false =>
        go_wp2_with fail
        refine (unhide S2 _ H1.bl).mono ?_
        rintro e9 w2 ⟨rfl, hb2⟩
        have H2 := H1.below hb2
        clear hb2 q4 H1
        have q4 := cellB H2.bl t4'
        cases x2 with
        | true =>
          have HRw := hide (ownsRow_below (unhide HR) H2.bl)
          unfold PartsV at HRw
          have hz2 := H2.bl.size
          have f1 := H2.a0
          have f2 := H2.a1
          have f3 := H2.b0
          have f4 := H2.b1
          have f5 := H2.c0
          have f6 := H2.c1
          have HBL := hide H2.bl
          clear H2 S1 S2 S3 q4
          go_wp2_with (at_builtin; refine wpList_append_fresh _ rfl _ _ 52 rfl W0.heap.size 99 i0 (.agg #[.int .i64 0, .int .i64 0, .int .i64 0, .int .i64 0, .int .i64 0, .int .i64 0, .int .i64 0]) 7 56 Tryd.underlying52 hi0 hi1 hi2' hi3 rfl (by decide) (.slice uq un uc) _ _ rfl ((unhide HRw).alloc _) ⟨w2.heap.size, 0, none⟩ 1 1 (ptL (3, (i, i'), (j, j'), (k, k'))) rfl rfl (cell_seven_new _ _ _ _ _ _ _ _ _) (by simp [Value.oneCell', ptL]) (by simp only [maxLen]; omega) (by omega) (by simp; omega) ?_)
          intro u' w9 hown hgr hfr
          have HO : Hid (PartsV w9 W0.heap.size u' (L ++ [(kk, (i, i'), (j, j'), (k, k'))])) := hide (by rw [unhide HK3 (by trivial) (by trivial)]; exact parts_snoc hown)
          have HB9 : Hid (Below W0.heap.size w w9) := hide ((((unhide HBL).mono hsz).alloc (by omega) _).grown hgr (by simp; omega) (fun q hq => ((unhide HRw).lt q hq).1))
          have HK9 : Hid (KpB w (.slice uq un uc) w9) := hide (fun b9 hb9 hne => (hgr.block b9 (by have := (unhide HBL).size; simp; omega) hne).trans (((unhide HBL).alloc (unhide HBL).size _).block b9 hb9))
          have HF9 : Hid (FrB w (.slice uq un uc) u') := hide (fun k9 hk9 => (hfr k9 hk9).imp id (fun h9 => by first | exact Nat.le_trans (unhide HBL).size h9 | exact Nat.le_trans (Nat.le_trans (unhide HBL).size (by simp)) h9))
          clear hown hgr hfr
          go_wp2
          go_ret
          exact ⟨_, rfl, unhide HO, unhide HB9, unhide HK9, unhide HF9⟩
        | false =>
          go_wp2_with fail
          refine (unhide S3 _ H2.bl).mono ?_
          rintro e9 w3 ⟨rfl, hb3⟩
          have H3 := H2.below hb3
          clear hb3 q4 H2
          have q4 := cellB H3.bl t4'
          cases x3 with
          | true =>
            have HRw := hide (ownsRow_below (unhide HR) H3.bl)
            unfold PartsV at HRw
            have hz2 := H3.bl.size
            have f1 := H3.a0
            have f2 := H3.a1
            have f3 := H3.b0
            have f4 := H3.b1
            have f5 := H3.c0
            have f6 := H3.c1
            have HBL := hide H3.bl
            clear H3 S1 S2 S3 q4
            go_wp2_with (at_builtin; refine wpList_append_fresh _ rfl _ _ 52 rfl W0.heap.size 99 i0 (.agg #[.int .i64 0, .int .i64 0, .int .i64 0, .int .i64 0, .int .i64 0, .int .i64 0, .int .i64 0]) 7 56 Tryd.underlying52 hi0 hi1 hi2' hi3 rfl (by decide) (.slice uq un uc) _ _ rfl ((unhide HRw).alloc _) ⟨w3.heap.size, 0, none⟩ 1 1 (ptL (4, (i, i'), (j, j'), (k, k'))) rfl rfl (cell_seven_new _ _ _ _ _ _ _ _ _) (by simp [Value.oneCell', ptL]) (by simp only [maxLen]; omega) (by omega) (by simp; omega) ?_)
            intro u' w9 hown hgr hfr
            have HO : Hid (PartsV w9 W0.heap.size u' (L ++ [(kk, (i, i'), (j, j'), (k, k'))])) := hide (by rw [unhide HK4 (by trivial) (by trivial) (by trivial)]; exact parts_snoc hown)
            have HB9 : Hid (Below W0.heap.size w w9) := hide ((((unhide HBL).mono hsz).alloc (by omega) _).grown hgr (by simp; omega) (fun q hq => ((unhide HRw).lt q hq).1))
            have HK9 : Hid (KpB w (.slice uq un uc) w9) := hide (fun b9 hb9 hne => (hgr.block b9 (by have := (unhide HBL).size; simp; omega) hne).trans (((unhide HBL).alloc (unhide HBL).size _).block b9 hb9))
            have HF9 : Hid (FrB w (.slice uq un uc) u') := hide (fun k9 hk9 => (hfr k9 hk9).imp id (fun h9 => by first | exact Nat.le_trans (unhide HBL).size h9 | exact Nat.le_trans (Nat.le_trans (unhide HBL).size (by simp)) h9))
            clear hown hgr hfr
            go_wp2
            go_ret
            exact ⟨_, rfl, unhide HO, unhide HB9, unhide HK9, unhide HF9⟩
          | false =>
            have HRw := hide (ownsRow_below (unhide HR) H3.bl)
            unfold PartsV at HRw
            have hz2 := H3.bl.size
            have f1 := H3.a0
            have f2 := H3.a1
            have f3 := H3.b0
            have f4 := H3.b1
            have f5 := H3.c0
            have f6 := H3.c1
            have HBL := hide H3.bl
            clear H3 S1 S2 S3 q4
            go_wp2_with (at_builtin; refine wpList_append_fresh _ rfl _ _ 52 rfl W0.heap.size 99 i0 (.agg #[.int .i64 0, .int .i64 0, .int .i64 0, .int .i64 0, .int .i64 0, .int .i64 0, .int .i64 0]) 7 56 Tryd.underlying52 hi0 hi1 hi2' hi3 rfl (by decide) (.slice uq un uc) _ _ rfl ((unhide HRw).alloc _) ⟨w3.heap.size, 0, none⟩ 1 1 (ptL (5, (i, i'), (j, j'), (k, k'))) rfl rfl (cell_seven_new _ _ _ _ _ _ _ _ _) (by simp [Value.oneCell', ptL]) (by simp only [maxLen]; omega) (by omega) (by simp; omega) ?_)
            intro u' w9 hown hgr hfr
            have HO : Hid (PartsV w9 W0.heap.size u' (L ++ [(kk, (i, i'), (j, j'), (k, k'))])) := hide (by rw [unhide HK5 (by trivial) (by trivial) (by trivial)]; exact parts_snoc hown)
            have HB9 : Hid (Below W0.heap.size w w9) := hide ((((unhide HBL).mono hsz).alloc (by omega) _).grown hgr (by simp; omega) (fun q hq => ((unhide HRw).lt q hq).1))
            have HK9 : Hid (KpB w (.slice uq un uc) w9) := hide (fun b9 hb9 hne => (hgr.block b9 (by have := (unhide HBL).size; simp; omega) hne).trans (((unhide HBL).alloc (unhide HBL).size _).block b9 hb9))
            have HF9 : Hid (FrB w (.slice uq un uc) u') := hide (fun k9 hk9 => (hfr k9 hk9).imp id (fun h9 => by first | exact Nat.le_trans (unhide HBL).size h9 | exact Nat.le_trans (Nat.le_trans (unhide HBL).size (by simp)) h9))
            clear hown hgr hfr
            go_wp2
            go_ret
            exact ⟨_, rfl, unhide HO, unhide HB9, unhide HK9, unhide HF9⟩)
end Go.Proofs.YtbabmkilbbbmoaaDoor
