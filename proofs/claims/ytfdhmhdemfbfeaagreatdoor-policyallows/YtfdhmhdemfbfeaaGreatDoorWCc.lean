/-
  slices.Concat of two lists of texts; 'policy.hasNamesOnce' (made by mk_wcc.py).
-/
import Derived.Test.YtfdhmhdemfbfeaaGreatDoorMgAO
namespace Go.Proofs.YtfdhmhdemfbfeaaGreatDoor
open Go.RowKit
set_option linter.unusedVariables false
set_option linter.unusedSimpArgs false

set_option maxHeartbeats 2000000 in
theorem concat_00 (g : Nat) (A B : List ByteArray) (ad bd : Addr) (ca cb : Nat) (w : World) (hG : Blk w g #[.slice none 0 0, .slice none 0 0] 23) (hA : A = []) (hB : B = []) (hl : A.length ≤ 30) (hm : B.length ≤ 30) :
    Calls Tryz.prog 64 #[.slice (some ⟨g, 0, none⟩) 2 2] w fun e w' => ∃ v, e = .returned v ∧ TxV w' v (A ++ B) ∧ Below w.heap.size w w' := by
  obtain ⟨i0, hi, hz0, hz1, hz2⟩ := info_parts Tryz.infoStr
  have HG := hide hG
  have g0 : w.cell? ⟨g, 0, none⟩ = some (.slice none 0 0) := hG.cell 0
  have g1 : w.cell? ⟨g, 1, none⟩ = some (.slice none 0 0) := hG.cell 1
  subst hA
  subst hB
  have CG := hide (fun w => grown_any 0 w (by omega))
  go_enter Tryz.func64, Tryz.ntmps64
  go_wp2
  refine wp_loop_rounds 3 ?_
  rw [rounds_succ]; go_wp2
  rw [rounds_succ]; go_wp2
  rw [rounds_succ]; go_wp2_with fail
  refine (unhide CG _).mono ?_
  rintro e1 w1 ⟨q, cap, rfl, hown, hb1⟩
  have G1 := hide ((unhide HG).later hb1)
  have k0 : w1.cell? ⟨g, 0, none⟩ = some (.slice none 0 0) := (unhide G1).cell 0
  have hsz := hb1.size
  clear g0 g1
  go_wp2
  refine wp_loop_rounds 3 ?_
  rw [rounds_succ]
  go_wp2_with (at_builtin; refine wpList_append_own_none rfl _ _ 23 rfl w.heap.size 9 i0 1 Tryz.underlying23 hi _ _ _ rfl hown rfl ?_)
  have k1 : w1.cell? ⟨g, 1, none⟩ = some (.slice none 0 0) := (unhide G1).cell 1
  go_wp2
  rw [rounds_succ]
  go_wp2_with (at_builtin; refine wpList_append_own_none rfl _ _ 23 rfl w.heap.size 9 i0 1 Tryz.underlying23 hi _ _ _ rfl hown rfl ?_)
  go_wp2
  rw [rounds_succ]; go_wp2
  go_ret
  exact ⟨_, rfl, tx_of_owns (base := w.heap.size) hown, hb1⟩
set_option maxHeartbeats 2000000 in
theorem concat_01 (g : Nat) (A B : List ByteArray) (ad bd : Addr) (ca cb : Nat) (w : World) (hG : Blk w g #[.slice none 0 0, .slice (some bd) B.length cb] 23) (hA : A = []) (hB : ∀ W, Below w.heap.size w W → ∀ j u, (B.map Value.string)[j]? = some u → W.cell? (bd.add j) = some u) (hl : A.length ≤ 30) (hm : B.length ≤ 30) :
    Calls Tryz.prog 64 #[.slice (some ⟨g, 0, none⟩) 2 2] w fun e w' => ∃ v, e = .returned v ∧ TxV w' v (A ++ B) ∧ Below w.heap.size w w' := by
  obtain ⟨i0, hi, hz0, hz1, hz2⟩ := info_parts Tryz.infoStr
  have HG := hide hG
  have g0 : w.cell? ⟨g, 0, none⟩ = some (.slice none 0 0) := hG.cell 0
  have g1 : w.cell? ⟨g, 1, none⟩ = some (.slice (some bd) B.length cb) := hG.cell 1
  subst hA
  have HB := hide hB
  clear hB
  have CG := hide (fun w => grown_any B.length w (by omega))
  have hpos : True := trivial
  have z2 : (B.length : Int) ≤ 30 := by omega
  have z2d : decide ((B.length : Int) < 0) = false := by simp
  go_enter Tryz.func64, Tryz.ntmps64
  go_wp2
  refine wp_loop_rounds 3 ?_
  rw [rounds_succ]; go_wp2
  rw [rounds_succ]; go_wp2
  rw [rounds_succ]; go_wp2_with fail
  refine (unhide CG _).mono ?_
  rintro e1 w1 ⟨q, cap, rfl, hown, hb1⟩
  have G1 := hide ((unhide HG).later hb1)
  have k0 : w1.cell? ⟨g, 0, none⟩ = some (.slice none 0 0) := (unhide G1).cell 0
  have hsz := hb1.size
  clear g0 g1
  go_wp2
  refine wp_loop_rounds 3 ?_
  rw [rounds_succ]
  go_wp2_with (at_builtin; refine wpList_append_own_none rfl _ _ 23 rfl w.heap.size 9 i0 1 Tryz.underlying23 hi _ _ _ rfl hown rfl ?_)
  have k1 : w1.cell? ⟨g, 1, none⟩ = some (.slice (some bd) B.length cb) := (unhide G1).cell 1
  go_wp2
  rw [rounds_succ]
  go_wp2_with (at_builtin; refine wpList_append_own _ rfl _ _ 23 rfl w.heap.size 9 i0 (.string ⟨#[]⟩) 1 16 Tryz.underlying23 hi hz0 hz1 hz2 rfl (by decide) _ _ _ rfl hown bd B.length cb (B.map Value.string) rfl (by rw [List.length_map]; omega) (unhide HB _ hb1) (one_str B) (by unfold maxLen; omega) (by omega) hsz ?_)
  intro v3 w3 hown3 hgrow3 _
  have hb3 : Below w.heap.size w w3 := hb1.grown hgrow3 hsz (fun j hj => (hown.lt j hj).1)
  obtain ⟨q3, m3, c3, rfl⟩ := slice_of hown3
  clear hgrow3
  go_wp2
  rw [rounds_succ]; go_wp2
  go_ret
  refine ⟨_, rfl, tx_of_owns (base := w.heap.size) ?_, hb3⟩
  try rw [Nat.zero_add, List.nil_append] at hown3
  exact hown3
set_option maxHeartbeats 2000000 in
theorem concat_10 (g : Nat) (A B : List ByteArray) (ad bd : Addr) (ca cb : Nat) (w : World) (hG : Blk w g #[.slice (some ad) A.length ca, .slice none 0 0] 23) (hA : ∀ W, Below w.heap.size w W → ∀ j u, (A.map Value.string)[j]? = some u → W.cell? (ad.add j) = some u) (hB : B = []) (hl : A.length ≤ 30) (hm : B.length ≤ 30) :
    Calls Tryz.prog 64 #[.slice (some ⟨g, 0, none⟩) 2 2] w fun e w' => ∃ v, e = .returned v ∧ TxV w' v (A ++ B) ∧ Below w.heap.size w w' := by
  obtain ⟨i0, hi, hz0, hz1, hz2⟩ := info_parts Tryz.infoStr
  have HG := hide hG
  have g0 : w.cell? ⟨g, 0, none⟩ = some (.slice (some ad) A.length ca) := hG.cell 0
  have g1 : w.cell? ⟨g, 1, none⟩ = some (.slice none 0 0) := hG.cell 1
  have HA := hide hA
  clear hA
  subst hB
  have CG := hide (fun w => grown_any A.length w (by omega))
  have hpos : True := trivial
  have z1 : (A.length : Int) ≤ 30 := by omega
  have z1d : decide ((A.length : Int) < 0) = false := by simp
  go_enter Tryz.func64, Tryz.ntmps64
  go_wp2
  refine wp_loop_rounds 3 ?_
  rw [rounds_succ]; go_wp2
  rw [rounds_succ]; go_wp2
  rw [rounds_succ]; go_wp2_with fail
  refine (unhide CG _).mono ?_
  rintro e1 w1 ⟨q, cap, rfl, hown, hb1⟩
  have G1 := hide ((unhide HG).later hb1)
  have k0 : w1.cell? ⟨g, 0, none⟩ = some (.slice (some ad) A.length ca) := (unhide G1).cell 0
  have hsz := hb1.size
  clear g0 g1
  go_wp2
  refine wp_loop_rounds 3 ?_
  rw [rounds_succ]
  go_wp2_with (at_builtin; refine wpList_append_own _ rfl _ _ 23 rfl w.heap.size 9 i0 (.string ⟨#[]⟩) 1 16 Tryz.underlying23 hi hz0 hz1 hz2 rfl (by decide) _ _ _ rfl hown ad A.length ca (A.map Value.string) rfl (by rw [List.length_map]; omega) (unhide HA _ hb1) (one_str A) (by unfold maxLen; omega) (by omega) hsz ?_)
  intro v2 w2 hown2 hgrow2 _
  have hb2 : Below w.heap.size w w2 := hb1.grown hgrow2 hsz (fun j hj => (hown.lt j hj).1)
  have hg2 : Blk w2 g #[.slice (some ad) A.length ca, .slice none 0 0] 23 := (unhide HG).later hb2
  have k1 : w2.cell? ⟨g, 1, none⟩ = some (.slice none 0 0) := hg2.cell 1
  obtain ⟨q2, m2, c2, rfl⟩ := slice_of hown2
  try rw [Nat.zero_add, List.nil_append] at hown2
  have hsz2 := hb2.size
  clear hgrow2 hg2
  go_wp2
  rw [rounds_succ]
  go_wp2_with (at_builtin; refine wpList_append_own_none rfl _ _ 23 rfl w.heap.size 9 i0 1 Tryz.underlying23 hi _ _ _ rfl hown2 rfl ?_)
  go_wp2
  rw [rounds_succ]; go_wp2
  go_ret
  exact ⟨_, rfl, by rw [List.append_nil]; exact tx_of_owns (base := w.heap.size) hown2, hb2⟩
set_option maxHeartbeats 2000000 in
theorem concat_11 (g : Nat) (A B : List ByteArray) (ad bd : Addr) (ca cb : Nat) (w : World) (hG : Blk w g #[.slice (some ad) A.length ca, .slice (some bd) B.length cb] 23) (hA : ∀ W, Below w.heap.size w W → ∀ j u, (A.map Value.string)[j]? = some u → W.cell? (ad.add j) = some u) (hB : ∀ W, Below w.heap.size w W → ∀ j u, (B.map Value.string)[j]? = some u → W.cell? (bd.add j) = some u) (hl : A.length ≤ 30) (hm : B.length ≤ 30) :
    Calls Tryz.prog 64 #[.slice (some ⟨g, 0, none⟩) 2 2] w fun e w' => ∃ v, e = .returned v ∧ TxV w' v (A ++ B) ∧ Below w.heap.size w w' := by
  obtain ⟨i0, hi, hz0, hz1, hz2⟩ := info_parts Tryz.infoStr
  have HG := hide hG
  have g0 : w.cell? ⟨g, 0, none⟩ = some (.slice (some ad) A.length ca) := hG.cell 0
  have g1 : w.cell? ⟨g, 1, none⟩ = some (.slice (some bd) B.length cb) := hG.cell 1
  have HA := hide hA
  clear hA
  have HB := hide hB
  clear hB
  have CG := hide (fun w => grown_any (A.length + B.length) w (by omega))
  rw [show (((A.length + B.length : Nat)) : Int) = (A.length : Int) + (B.length : Int) by omega] at CG
  have hpos : True := trivial
  have z1 : (A.length : Int) ≤ 30 := by omega
  have z1d : decide ((A.length : Int) < 0) = false := by simp
  have z2 : (B.length : Int) ≤ 30 := by omega
  have z2d : decide ((B.length : Int) < 0) = false := by simp
  have z3d : decide ((A.length : Int) + (B.length : Int) < 0) = false := by simp; omega
  go_enter Tryz.func64, Tryz.ntmps64
  go_wp2
  refine wp_loop_rounds 3 ?_
  rw [rounds_succ]; go_wp2
  rw [rounds_succ]; go_wp2
  rw [rounds_succ]; go_wp2_with fail
  refine (unhide CG _).mono ?_
  rintro e1 w1 ⟨q, cap, rfl, hown, hb1⟩
  have G1 := hide ((unhide HG).later hb1)
  have k0 : w1.cell? ⟨g, 0, none⟩ = some (.slice (some ad) A.length ca) := (unhide G1).cell 0
  have hsz := hb1.size
  clear g0 g1
  go_wp2
  refine wp_loop_rounds 3 ?_
  rw [rounds_succ]
  go_wp2_with (at_builtin; refine wpList_append_own _ rfl _ _ 23 rfl w.heap.size 9 i0 (.string ⟨#[]⟩) 1 16 Tryz.underlying23 hi hz0 hz1 hz2 rfl (by decide) _ _ _ rfl hown ad A.length ca (A.map Value.string) rfl (by rw [List.length_map]; omega) (unhide HA _ hb1) (one_str A) (by unfold maxLen; omega) (by omega) hsz ?_)
  intro v2 w2 hown2 hgrow2 _
  have hb2 : Below w.heap.size w w2 := hb1.grown hgrow2 hsz (fun j hj => (hown.lt j hj).1)
  have hg2 : Blk w2 g #[.slice (some ad) A.length ca, .slice (some bd) B.length cb] 23 := (unhide HG).later hb2
  have k1 : w2.cell? ⟨g, 1, none⟩ = some (.slice (some bd) B.length cb) := hg2.cell 1
  obtain ⟨q2, m2, c2, rfl⟩ := slice_of hown2
  try rw [Nat.zero_add, List.nil_append] at hown2
  have hsz2 := hb2.size
  clear hgrow2 hg2
  go_wp2
  rw [rounds_succ]
  go_wp2_with (at_builtin; refine wpList_append_own _ rfl _ _ 23 rfl w.heap.size 9 i0 (.string ⟨#[]⟩) 1 16 Tryz.underlying23 hi hz0 hz1 hz2 rfl (by decide) _ _ _ rfl hown2 bd B.length cb (B.map Value.string) rfl (by rw [List.length_map]; omega) (unhide HB _ hb2) (one_str B) (by unfold maxLen; omega) (by omega) hsz2 ?_)
  intro v3 w3 hown3 hgrow3 _
  have hb3 : Below w.heap.size w w3 := hb2.grown hgrow3 hsz2 (fun j hj => (hown2.lt j hj).1)
  obtain ⟨q3, m3, c3, rfl⟩ := slice_of hown3
  clear hgrow3
  go_wp2
  rw [rounds_succ]; go_wp2
  go_ret
  refine ⟨_, rfl, tx_of_owns (base := w.heap.size) ?_, hb3⟩
  rw [List.length_append, List.map_append]
  exact hown3

theorem concat_any (g : Nat) (A B : List ByteArray) (va vb : Value) (w : World) (hG : Blk w g #[va, vb] 23) (hA : ViewN w va A) (hB : ViewN w vb B) (hl : A.length ≤ 30) (hm : B.length ≤ 30) :
    Calls Tryz.prog 64 #[.slice (some ⟨g, 0, none⟩) 2 2] w fun e w' => ∃ v, e = .returned v ∧ TxV w' v (A ++ B) ∧ Below w.heap.size w w' := by
  have nx : ∀ {zs : List ByteArray} {v : Value}, ViewN w v zs → (v = .slice none 0 0 ∧ zs = []) ∨ ∃ ad cap, v = .slice (some ad) zs.length cap ∧ ∀ W, Below w.heap.size w W → ∀ j u, (zs.map Value.string)[j]? = some u → W.cell? (ad.add j) = some u := by
    intro zs v h
    rcases src_of h with h0 | ⟨ad, cap, rfl, hc⟩
    · exact .inl h0
    · right
      refine ⟨ad, cap, rfl, fun W hW j u hj => ?_⟩
      have := hc j u hj
      exact (hW.cell (World.block_lt_of_cell? _ _ this)).trans this
  rcases nx hA with ⟨rfl, hA0⟩ | ⟨ad, ca, rfl, hA1⟩
  · rcases nx hB with ⟨rfl, hB0⟩ | ⟨bd, cb, rfl, hB1⟩
    · exact concat_00 g A B ⟨0, 0, none⟩ ⟨0, 0, none⟩ 0 0 w hG hA0 hB0 hl hm
    · exact concat_01 g A B ⟨0, 0, none⟩ bd 0 cb w hG hA0 hB1 hl hm
  · rcases nx hB with ⟨rfl, hB0⟩ | ⟨bd, cb, rfl, hB1⟩
    · exact concat_10 g A B ad ⟨0, 0, none⟩ ca 0 w hG hA1 hB0 hl hm
    · exact concat_11 g A B ad bd ca cb w hG hA1 hB1 hl hm

set_option maxHeartbeats 1000000 in
theorem nonce_any (v : Value) (r : PRul) (w : World) (hv : RulV w v r) (hl : r.ats.length ≤ 30) (hm : r.lks.length ≤ 30) :
    Calls Tryz.prog 46 #[v] w fun e w' => e = .returned (.bool (!twB (r.ats ++ r.lks))) ∧ Below w.heap.size w w' := by
  obtain ⟨va, vl, rfl, h1, h2⟩ := hv
  have H1 := hide h1
  have H2 := hide h2
  obtain ⟨a1, c1, rfl⟩ := h1.1.slice
  obtain ⟨a2, c2, rfl⟩ := h2.1.slice
  unfold rulC
  clear h1 h2
  obtain ⟨nm, ac, ats, lks⟩ := r
  dsimp only at *
  have CC := hide (fun g W hG hW => concat_any g ats lks _ _ W hG (viewN_below (unhide H1) hW) (viewN_below (unhide H2) hW) hl hm)
  have CT := hide (fun v W hv => twice_any v (ats ++ lks) W hv)
  generalize twB (ats ++ lks) = D at *
  have hk : Hid (Blk ((w.alloc (Obj.cells #[.string nm, .int .i64 ac, .slice a1 ats.length c1, .slice a2 lks.length c2] 41)).alloc (Obj.cells #[.slice a1 ats.length c1, .slice a2 lks.length c2] 23)) (w.heap.size + 1) #[.slice a1 ats.length c1, .slice a2 lks.length c2] 23) := hide (Eq.mp (by simp) (Blk.new (w.alloc (Obj.cells #[.string nm, .int .i64 ac, .slice a1 ats.length c1, .slice a2 lks.length c2] 41)) #[.slice a1 ats.length c1, .slice a2 lks.length c2] 23))
  have hb0 : Below w.heap.size w ((w.alloc (Obj.cells #[.string nm, .int .i64 ac, .slice a1 ats.length c1, .slice a2 lks.length c2] 41)).alloc (Obj.cells #[.slice a1 ats.length c1, .slice a2 lks.length c2] 23)) := ((Below.refl _ _).alloc (Nat.le_refl _) _).alloc (by simp) _
  have C1 := hide (unhide CC _ _ (unhide hk) hb0)
  clear CC hk
  go_enter Tryz.func46, Tryz.ntmps46
  go_wp2_with fail
  refine (unhide C1).mono ?_
  rintro e1 w1 ⟨v, rfl, hv, hb1⟩
  obtain ⟨a9, c9, hv9⟩ := hv.view.slice
  have C2 := hide (unhide CT _ _ hv)
  generalize (ats ++ lks).length = L9 at hv9
  subst hv9
  clear hv
  go_wp2_with fail
  refine (unhide C2).mono ?_
  rintro e1 w2 ⟨rfl, hw2⟩
  obtain rfl : w1 = w2 := hw2.symm
  go_wp2
  go_ret
  exact ⟨rfl, tr2 hb0 hb1⟩
end Go.Proofs.YtfdhmhdemfbfeaaGreatDoor
