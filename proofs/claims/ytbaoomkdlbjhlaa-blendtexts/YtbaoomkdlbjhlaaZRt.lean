/-
  What the reference's 'Triples' of layer 25 does.
-/
import Derived.Test.YtbaoomkdlbjhlaaZFe
import Derived.Deep.RegionWith
namespace Go.Proofs.Ytbaoomkdlbjhlaa
open Go.RowKit
set_option linter.unusedVariables false
set_option linter.unusedSimpArgs false

theorem infoTri0 : (Try.prog.info? 43).map (fun i => (i.zero, i.size, i.bytes)) = some (some (.agg #[.int .i64 0, .int .i64 0, .int .i64 0]), 3, 24) := by kernel_rfl
theorem infoTri : ∃ i, Try.prog.info? 43 = some i ∧ i.zero = some (.agg #[.int .i64 0, .int .i64 0, .int .i64 0]) ∧ i.size = 3 ∧ i.bytes = 24 := by
  have h := infoTri0
  cases hi : Try.prog.info? 43 with
  | none => rw [hi] at h; cases h
  | some i =>
    rw [hi] at h
    simp only [Option.map_some, Option.some.injEq, Prod.mk.injEq] at h
    exact ⟨i, rfl, h.1, h.2.1, h.2.2⟩
def triL (t : Nat × Nat × Nat) : List Value := [.int .i64 (t.1 : Int), .int .i64 (t.2.1 : Int), .int .i64 (t.2.2 : Int)]
def flatT : List (Nat × Nat × Nat) → List Value
  | [] => []
  | p :: r => triL p ++ flatT r
theorem flatT_app (a b : List (Nat × Nat × Nat)) : flatT (a ++ b) = flatT a ++ flatT b := by
  induction a with
  | nil => rfl
  | cons e r ih => simp only [List.cons_append, flatT, ih, List.append_assoc]
theorem flatT_split (L : List (Nat × Nat × Nat)) (k : Nat) (h : k < L.length) (j : Nat) (hj : j < 3) : (flatT L)[k * 3 + j]? = (triL (L.getD k (0, 0, 0)))[j]? := by
  induction L generalizing k with
  | nil => cases h
  | cons e r ih =>
    cases k with
    | zero =>
      rw [Nat.zero_mul, Nat.zero_add, flatT, List.getElem?_append_left (by simpa [triL] using hj)]
      rfl
    | succ k =>
      have e1 : (k + 1) * 3 + j = 3 + (k * 3 + j) := by omega
      rw [e1, flatT, List.getElem?_append_right (by simp [triL])]
      have e2 : 3 + (k * 3 + j) - (triL e).length = k * 3 + j := by simp [triL]
      rw [e2]
      exact ih k (by simpa using h)
def TrisV (w : World) (base : Nat) (u : Value) (L : List (Nat × Nat × Nat)) : Prop := w.ownsRow base 43 3 u L.length (flatT L)
theorem tris_snoc {w : World} {base : Nat} {u : Value} {L : List (Nat × Nat × Nat)} {p : Nat × Nat × Nat} (h : w.ownsRow base 43 3 u (L.length + 1) (flatT L ++ triL p)) : TrisV w base u (L ++ [p]) := by
  unfold TrisV
  rw [List.length_append, flatT_app]
  simpa [flatT] using h
theorem tris_at {w : World} {base : Nat} {u : Value} {L : List (Nat × Nat × Nat)} (h : TrisV w base u L) : ∃ q c, u = .slice q L.length c ∧ (0 < L.length → ∃ g, q = some ⟨g, 0, none⟩ ∧ ∀ k, k < L.length → ∀ j, j < 3 → w.cell? ⟨g, k * 3 + j, none⟩ = (triL (L.getD k (0, 0, 0)))[j]?) := by
  obtain ⟨_, h⟩ := h
  rcases h with ⟨h1, h0⟩ | ⟨g, cap, cur, h0, h1, h2, h3, h4, h5, h6⟩
  · exact ⟨none, 0, by rw [h0]; exact h1, fun x => by omega⟩
  · refine ⟨_, cap, h0, fun _ => ⟨g, rfl, fun k hk j hj => ?_⟩⟩
    rw [Joins.cell_of_block h2, ← flatT_split L k hk j hj, ← h6, List.getElem?_take, if_pos (by omega)]
    simp
theorem tri_snoc (l m : List (Nat × Nat)) (o : Nat) : (List.range (o + 1)).filterMap (triR l m) = (List.range o).filterMap (triR l m) ++ (triR l m o).toList := by
  rw [List.range_succ, List.filterMap_append]
  cases h : triR l m o <;> simp [h]
theorem tri_len (l m : List (Nat × Nat)) (o : Nat) : ((List.range o).filterMap (triR l m)).length ≤ o := by
  have := List.length_filterMap_le (triR l m) (List.range o)
  simpa using this
theorem felI_cases (L : List (Nat × Nat)) (o : Nat) : (∃ y, felF L o = some y ∧ felI L o = (y : Int)) ∨ (felF L o = none ∧ felI L o = -1) := by
  unfold felI
  cases h : felF L o with
  | none => exact .inr ⟨rfl, rfl⟩
  | some y => exact .inl ⟨y, rfl, rfl⟩
theorem felF_lt {n m : Nat} : ∀ (L : List (Nat × Nat)) (i j o y : Nat), RiseP n m i j L → felF L o = some y → y < m
  | [], _, _, _, _, _, h => by simp [felF] at h
  | p :: r, i, j, o, y, hr, h => by
    obtain ⟨a1, a2, a3, a4, a5⟩ := risep_cons hr
    by_cases e : p.1 = o
    · rw [← e, felF_cons_eq] at h
      cases h
      exact a4
    · rw [felF_cons_ne r e] at h
      exact felF_lt r _ _ o y a5 h

set_option maxHeartbeats 4000000 in
set_option maxRecDepth 100000 in
theorem rtriples_any (q1 q2 : Option Addr) (c1 c2 n a b : Nat) (L1 L2 : List (Nat × Nat)) (w : World) (h1 : PrAt w q1 L1) (h2 : PrAt w q2 L2) (r1 : RiseP n a 0 0 L1) (r2 : RiseP n b 0 0 L2) (hn : n ≤ 1000) (ha : a ≤ 1000) (hb : b ≤ 1000) (hl1 : L1.length ≤ 1000) (hl2 : L2.length ≤ 1000) :
    Calls Try.prog 20 #[.slice q1 L1.length c1, .slice q2 L2.length c2, .agg #[.int .i64 (n : Int), .int .i64 (a : Int), .int .i64 (b : Int)]] w fun e w' => ∃ u, e = .returned u ∧ TrisV w' w.heap.size u (trF L1 L2 ++ [(n, a, b)]) ∧ Below w.heap.size w w' := by
  obtain ⟨i0, hi0, hi1, hi2, hi3⟩ := infoTri
  have C1 := hide (fun o W (hW : Below w.heap.size w W) => fellow_any q1 c1 L1 o W (h1.below hW) (by omega))
  have C2 := hide (fun o W (hW : Below w.heap.size w W) => fellow_any q2 c2 L2 o W (h2.below hW) (by omega))
  have HF : Hid ((List.range n).filterMap (triR L1 L2) = trF L1 L2) := hide (by rw [List.range_eq_range']; exact tri_range n a b n 0 0 0 L1 L2 rfl r1 r2)
  have hTl : (trF L1 L2).length ≤ n := by rw [← unhide HF]; exact tri_len L1 L2 n
  generalize trF L1 L2 = TT at *
  have F1 := hide (fun o => felI_cases L1 o)
  have F2 := hide (fun o => felI_cases L2 o)
  have G1 := hide (fun o y h => felF_lt L1 0 0 o y r1 h)
  have G2 := hide (fun o y h => felF_lt L2 0 0 o y r2 h)
  clear h1 h2 r1 r2
  have BX := hide (Blk.new w #[.int .i64 (n : Int), .int .i64 (a : Int), .int .i64 (b : Int)] 43)
  have HBX : Hid (Below w.heap.size w (w.alloc (Obj.cells #[.int .i64 (n : Int), .int .i64 (a : Int), .int .i64 (b : Int)] 43))) := hide ((Below.refl _ _).alloc (Nat.le_refl _) _)
  go_enter Try.func20, Try.ntmps20
  go_wp2
  generalize hW1 : w.alloc (Obj.cells #[.int .i64 (n : Int), .int .i64 (a : Int), .int .i64 (b : Int)] 43) = W1 at *
  have hz1 : w.heap.size < W1.heap.size := by rw [← hW1]; simp
  clear hW1
  go_loopw [8, 7] (fun x u wr => ∃ o : Nat, o ≤ n ∧ x = .int .i64 (o : Int) ∧ TrisV wr W1.heap.size u ((List.range o).filterMap (triR L1 L2)) ∧ Below W1.heap.size W1 wr) (fun x _ _ => n - (intOf x).toNat)
  case atStart => exact ⟨0, Nat.zero_le _, rfl, World.ownsRow_nil _ _ _ _, Below.refl _ _⟩
  case round =>
    obtain ⟨o, ho, rfl, hrow, hbl⟩ := hrel
    obtain ⟨uq, un, uc, hu⟩ := slice_of hrow
    subst hu
    have HR := hide hrow
    have HBL := hide hbl
    have hz := hbl.size
    have KX : Blk wr w.heap.size #[.int .i64 (n : Int), .int .i64 (a : Int), .int .i64 (b : Int)] 43 := (hbl.block w.heap.size (by omega)).trans (unhide BX)
    have y0 := KX.cell 0
    have hbw : Below w.heap.size w wr := (unhide HBX).trans (hbl.mono (by omega))
    have HBW := hide hbw
    have hll := tri_len L1 L2 o
    by_cases hp : o < n
    · have hpi : (o : Int) < (n : Int) := by omega
      have CA := hide (fun W hW => unhide C1 o W hW)
      have CB := hide (fun W hW => unhide C2 o W hW)
      have HS := hide (tri_snoc L1 L2 o)
      have x1 := unhide F1 o
      have x2 := unhide F2 o
      have g1 := hide (unhide G1 o)
      have g2 := hide (unhide G2 o)
      have HT : Hid (triR L1 L2 o = (felF L1 o).bind (fun a => (felF L2 o).map (fun b => (o, a, b)))) := hide rfl
      generalize felI L1 o = fi at *
      generalize felI L2 o = fj at *
      clear hrow hbl KX hbw F1 F2 G1 G2
      go_wp2_with fail
      refine (unhide CA _ (by first | exact unhide HBW | exact (unhide HBW).drew)).mono ?_
      rintro e w2 ⟨rfl, hb2⟩
      have HB2 := hide (tr2 (unhide HBW) hb2)
      have HBL2 := hide ((unhide HBL).trans (hb2.mono hz))
      have HR2 := hide (ownsRow_below (unhide HR) hb2)
      clear hb2
      go_wp2_with fail
      refine (unhide CB _ (by first | exact unhide HB2 | exact (unhide HB2).drew)).mono ?_
      rintro e w3 ⟨rfl, hb3⟩
      have HB3 := hide (tr2 (unhide HB2) hb3)
      have hz2 := (unhide HBL2).size
      have HBL3 := hide ((unhide HBL2).trans (hb3.mono hz2))
      have HR3 := hide (ownsRow_below (unhide HR2) hb3)
      have hz3 := (unhide HBL3).size
      clear hb3 CA CB y0
      rcases x1 with ⟨ya, e1, rfl⟩ | ⟨e1, rfl⟩
      · have la := unhide g1 ya e1
        rcases x2 with ⟨yb, e2, rfl⟩ | ⟨e2, rfl⟩
        · have lb := unhide g2 yb e2
          have HS2 : Hid ((List.range (o + 1)).filterMap (triR L1 L2) = (List.range o).filterMap (triR L1 L2) ++ [(o, ya, yb)]) := hide (by rw [unhide HS, unhide HT, e1, e2]; rfl)
          clear e1 e2 HS HT g1 g2
          unfold TrisV at HR3
          generalize (List.range o).filterMap (triR L1 L2) = KL at *
          have hh : (0 : Int) ≤ (ya : Int) := by omega
          have hh2 : (0 : Int) ≤ (yb : Int) := by omega
          go_wp2_with (at_builtin; refine wpList_append_own_at _ rfl _ _ 52 rfl W1.heap.size 43 i0 (.agg #[.int .i64 0, .int .i64 0, .int .i64 0]) 3 24 Try.underlying52 hi0 hi1 hi2 hi3 rfl (by decide) (.slice uq un uc) _ _ rfl ((unhide HR3).alloc _) ⟨w3.heap.size, 0, none⟩ 1 1 (triL (o, ya, yb)) rfl rfl (cell_three_new _ _ _ _ _) (by simp [Value.oneCell', triL]) (by simp only [maxLen]; omega) (by omega) (by simp; omega) ?_)
          intro u' w9 hown hgr _ _
          have HO : Hid (TrisV w9 W1.heap.size u' (KL ++ [(o, ya, yb)])) := hide (tris_snoc hown)
          have HB9 : Hid (Below W1.heap.size W1 w9) := hide (((unhide HBL3).alloc (by omega) _).grown hgr (by simp; omega) (fun q hq => ((unhide HR3).lt q hq).1))
          clear hown hgr
          go_wp2
          go_roundw
          case rel => exact ⟨o + 1, by omega, by go_num, by rw [unhide HS2]; exact unhide HO, unhide HB9⟩
          case measure => simp [intOf]; omega
        · have HS2 : Hid ((List.range (o + 1)).filterMap (triR L1 L2) = (List.range o).filterMap (triR L1 L2)) := hide (by rw [unhide HS, unhide HT, e1, e2]; simp)
          clear e1 e2 HS HT g1 g2
          have hh : (0 : Int) ≤ (ya : Int) := by omega
          go_wp2
          go_roundw
          case rel => exact ⟨o + 1, by omega, by go_num, by rw [unhide HS2]; exact unhide HR3, unhide HBL3⟩
          case measure => simp [intOf]; omega
      · have HS2 : Hid ((List.range (o + 1)).filterMap (triR L1 L2) = (List.range o).filterMap (triR L1 L2)) := hide (by rw [unhide HS, unhide HT, e1]; simp)
        clear e1 HS HT g1 g2 x2
        go_wp2
        go_roundw
        case rel => exact ⟨o + 1, by omega, by go_num, by rw [unhide HS2]; exact unhide HR3, unhide HBL3⟩
        case measure => simp [intOf]; omega
    · have hoe : o = n := by omega
      subst hoe
      rw [unhide HF] at HR
      have hpi : ¬ (o : Int) < (o : Int) := by omega
      have y1 := KX.cell 1
      have y2 := KX.cell 2
      have HR3 : Hid (wr.ownsRow W1.heap.size 43 3 (.slice uq un uc) TT.length (flatT TT)) := HR
      clear hrow hbl KX hbw F1 F2 G1 G2 C1 C2 hll HF
      go_wp2_with (at_builtin; refine wpList_append_own_at _ rfl _ _ 52 rfl W1.heap.size 43 i0 (.agg #[.int .i64 0, .int .i64 0, .int .i64 0]) 3 24 Try.underlying52 hi0 hi1 hi2 hi3 rfl (by decide) (.slice uq un uc) _ _ rfl ((unhide HR3).alloc _) ⟨wr.heap.size, 0, none⟩ 1 1 (triL (o, a, b)) rfl rfl (cell_three_new _ _ _ _ _) (by simp [Value.oneCell', triL]) (by simp only [maxLen]; omega) (by omega) (by simp; omega) ?_)
      intro u' w9 hown hgr _ _
      have HO : Hid (TrisV w9 W1.heap.size u' (TT ++ [(o, a, b)])) := hide (tris_snoc hown)
      have HB9 : Hid (Below W1.heap.size W1 w9) := hide (((unhide HBL).alloc hz _).grown hgr (by simp; omega) (fun q hq => ((unhide HR3).lt q hq).1))
      have HO2 : Hid (TrisV w9 w.heap.size u' (TT ++ [(o, a, b)])) := hide (by have := unhide HO; unfold TrisV at this ⊢; exact owns_mono this (Nat.le_of_lt hz1))
      clear hown hgr
      go_wp2
      go_ret
      exact ⟨_, rfl, unhide HO2, (unhide HBX).trans ((unhide HB9).mono (by omega))⟩
end Go.Proofs.Ytbaoomkdlbjhlaa
