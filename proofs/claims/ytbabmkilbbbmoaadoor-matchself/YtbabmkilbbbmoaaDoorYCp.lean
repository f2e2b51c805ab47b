/-
  What the copying of one node does (the closure in tree.Copy), and tree.walk under it (made by mk_ycp.py).
-/
import Derived.Test.YtbabmkilbbbmoaaDoorYCi
import Derived.Deep.RegionHeld
namespace Go.Proofs.YtbabmkilbbbmoaaDoor
open Go.RowKit
set_option linter.unusedVariables false
set_option linter.unusedSimpArgs false

theorem cloneA_own (q : Option Addr) (ats : List (ByteArray × ByteArray)) (c : Nat) (w0 w : World) (h : Sl q ats w0) (hb : Below w0.heap.size w0 w) (hn : ats.length ≤ 1000000) :
    Calls Tryd.prog 102 #[.slice q ats.length c] w fun e w' => ∃ q' c', e = .returned (.slice q' ats.length c') ∧ (ats = [] ∨ ∃ ga cur, q' = some ⟨ga, 0, none⟩ ∧ w.heap.size ≤ ga ∧ Blk w' ga cur 112 ∧ Cells2 ga 0 ats w') ∧ Below w.heap.size w w' := by
  cases q with
  | none =>
    have h0 : ats = [] := by
      rcases h with h | ⟨g, o, h, _⟩
      · exact h
      · cases h
    subst h0
    refine (cloneA_nil 0 c w).mono ?_
    rintro e w' ⟨rfl, rfl⟩
    exact ⟨none, 0, rfl, Or.inl rfl, Below.refl _ _⟩
  | some ad =>
    have hcs : ∀ j u, (flatA ats)[j]? = some u → w.cell? (ad.add j) = some u := by
      rcases h with h | ⟨g, o, h, hc⟩
      · subst h; intro j u hj; simp [flatA] at hj
      · injection h with h
        subst h
        intro j u hj
        rw [add_at]
        have hlt : j < ats.length * 2 := by rw [← flatA_len]; exact (List.getElem?_eq_some_iff.1 hj).1
        have hk : j / 2 < ats.length := by omega
        obtain ⟨g1, g2⟩ := flatA_get ats (j / 2) hk
        obtain ⟨c1, c2⟩ := hc (j / 2) hk
        rcases Nat.mod_two_eq_zero_or_one j with e | e
        · rw [show j = j / 2 * 2 by omega] at hj ⊢
          rw [g1] at hj
          rw [← hj]; exact cell_later hb c1
        · rw [show j = j / 2 * 2 + 1 by omega] at hj ⊢
          rw [g2] at hj
          rw [← hj, ← Nat.add_assoc]; exact cell_later hb c2
    refine (cloneA_some ad ats.length c (flatA ats) w (hide (flatA_len ats)) (hide hcs) (hide (flatA_one ats)) (by omega)).mono ?_
    rintro e w' ⟨v', rfl, hrow, hb⟩
    obtain ⟨q', cap, rfl, hcl⟩ := cells_of_owns hrow
    refine ⟨q', cap, rfl, ?_, hb⟩
    rcases hcl with h | ⟨ga, hq, hx, hc⟩
    · exact Or.inl h
    · right
      rcases hrow.2 with ⟨h1, h0⟩ | ⟨g, cap', cur, h1, hb, h2, h3, _⟩
      · rw [hq] at h1; injection h1 with h1; cases h1
      · injection h1 with h4 h5 h6
        rw [hq] at h4
        injection h4 with h4
        injection h4 with h4
        subst h4
        exact ⟨ga, cur, hq, hb, h2, hc⟩
theorem cloneN_own (q : Option Addr) (f : Forest) (c : Nat) (w0 w : World) (h : Fo q f w0) (hb : Below w0.heap.size w0 w) (hn : f.len ≤ 1000000) :
    Calls Tryd.prog 99 #[.slice q f.len c] w fun e w' => ∃ q' c', e = .returned (.slice q' f.len c') ∧ f.len ≤ c' ∧ (f = .nil ∨ ∃ g cur, q' = some ⟨g, 0, none⟩ ∧ w.heap.size ≤ g ∧ Blk w' g cur 44 ∧ Half w0 f g 0 w') ∧ Below w.heap.size w w' := by
  cases q with
  | none =>
    have h0 : f = .nil := by
      rcases h with h | ⟨g, o, h, _⟩
      · exact h
      · cases h
    subst h0
    refine (cloneN_nil 0 c w).mono ?_
    rintro e w' ⟨rfl, rfl⟩
    exact ⟨none, 0, rfl, Nat.le_refl _, Or.inl rfl, Below.refl _ _⟩
  | some ad =>
    obtain ⟨xs, x1, x2, x3, x4⟩ : ∃ xs : List Value, xs.length = f.len * 6 ∧ (∀ j u, xs[j]? = some u → w.cell? (ad.add j) = some u) ∧ Desc f xs w0 ∧ ∀ u ∈ xs, u.oneCell' = true := by
      rcases h with h | ⟨g, o, h, hl⟩
      · subst h; exact ⟨[], rfl, fun j u h => by simp at h, rfl, fun u h => by cases h⟩
      · injection h with h
        subst h
        obtain ⟨xs, x1, x2, x3, x4⟩ := lies_cells f o hl
        exact ⟨xs, x1, fun j u hj => by rw [add_at]; exact cell_later hb (x2 j u hj), x3, x4⟩
    refine (cloneN_some ad f.len c xs w (hide x1) (hide x2) (hide x4) (by omega)).mono ?_
    rintro e w' ⟨v', rfl, hrow, hb⟩
    obtain ⟨a, cap, hv⟩ := slice_n hrow
    subst hv
    rcases hrow.2 with ⟨h1, h0⟩ | ⟨g, cap', cur, h1, hb', h2, h3, _⟩
    · exact ⟨a, cap, rfl, by rw [h0]; exact Nat.zero_le _, Or.inl (len_nil h0), hb⟩
    · injection h1 with h4 h5 h6
      subst h4 h6
      refine ⟨_, _, rfl, h3, Or.inr ⟨g, cur, rfl, hb', h2, x3.half f xs 0 (fun j u hj => ?_)⟩, hb⟩
      have := hrow.cells (g := g) rfl j u hj
      rw [add_off] at this
      rw [Nat.zero_add]
      exact this
theorem away5 {w : World} {g o : Nat} {v u : Value} (h : w.cell? ⟨g, o + 5, none⟩ = some u) : (w.setCell ⟨g, o + 3, none⟩ v).cell? ⟨g, o + 5, none⟩ = some u := by
  rw [World.cell?_setCell_other _ _ _ _ (by simp)]
  exact h
theorem froz5 {w : World} {g o : Nat} {v : Value} {cur : Array Value} {t : TypeId} (h : Blk w g cur t) : (w.setCell ⟨g, o + 3, none⟩ v).frozen? ⟨g, o + 5, none⟩ = false := by
  have h' : w.heap[g]? = some (.cells cur t (0, 0)) := h
  have : ∃ cur', Blk (w.setCell ⟨g, o + 3, none⟩ v) g cur' t := ⟨cur.setIfInBounds (o + 3) v, by simp [Blk, World.setCell, Array.getElem?_modify, h']⟩
  obtain ⟨cur', h2⟩ := this
  exact h2.frozen _
theorem c1s_of {w0 w w1 w2 : World} {g o al kl : Nat} {cur : Array Value} {ats : List (ByteArray × ByteArray)} {kids : Forest} {qa qk qa' qk' : Option Addr} {ca ck ca' ck' : Nat} (hll : ats.length = al ∧ kids.len = kl) (hrow : Blk w g cur 44)
    (hc : w.cell? ⟨g, o + 3, none⟩ = some (.slice qa al ca) ∧ w.cell? ⟨g, o + 5, none⟩ = some (.slice qk kl ck)) (hb : Below w0.heap.size w0 w ∧ w0.heap.size ≤ g) (hd : Below w.heap.size w w.drew)
    (hA : ats = [] ∨ ∃ ga cur, qa' = some ⟨ga, 0, none⟩ ∧ w.drew.heap.size ≤ ga ∧ Blk w1 ga cur 112 ∧ Cells2 ga 0 ats w1) (b1 : Below w.drew.heap.size w.drew w1)
    (hN : kl ≤ ck' ∧ (kids = .nil ∨ ∃ g' cur, qk' = some ⟨g', 0, none⟩ ∧ w1.heap.size ≤ g' ∧ Blk w2 g' cur 44 ∧ Half w0 kids g' 0 w2)) (b2 : Below w1.heap.size w1 w2) :
    C1S w0 g o ats kids w ((w2.setCell ⟨g, o + 3, none⟩ (.slice qa' al ca')).setCell ⟨g, o + 5, none⟩ (.slice qk' kl ck')) qa' ca' qk' ck' := by
  obtain ⟨rfl, rfl⟩ := hll
  have s1 := hd.size
  have s2 := b1.size
  have s3 := b2.size
  have hgl := hrow.lt
  have k2 : Blk w2 g cur 44 := ((hrow.later hd).later b1).later b2
  have z5 : o + 5 < cur.size := by
    have := (hrow.cell (o + 5)).symm.trans hc.2
    exact (Array.getElem?_eq_some_iff.1 this).1
  have k3 := k2.set (o + 3) (by omega) (.slice qa' ats.length ca')
  have k4 := k3.set (o + 5) (by simpa using z5) (.slice qk' kids.len ck')
  have hblk : ∀ i, i < w2.heap.size → i ≠ g → ((w2.setCell ⟨g, o + 3, none⟩ (.slice qa' ats.length ca')).setCell ⟨g, o + 5, none⟩ (.slice qk' kids.len ck')).heap[i]? = w2.heap[i]? := fun i hi hne =>
    (Below.heap_setCell _ ⟨g, o + 5, none⟩ _ i hne).trans (Below.heap_setCell _ ⟨g, o + 3, none⟩ _ i hne)
  have ho : Only g w2 ((w2.setCell ⟨g, o + 3, none⟩ (.slice qa' ats.length ca')).setCell ⟨g, o + 5, none⟩ (.slice qk' kids.len ck')) := ⟨by simp, hblk⟩
  refine ⟨by simp; omega, fun i hi hne => ?_, ⟨_, k4⟩, ?_, ?_, fun i v h3 h5 hv => ?_, ?_, ?_, hN.1, ?_⟩
  · rw [hblk i (by omega) hne, b2.block i (by omega), b1.block i (by omega), hd.block i hi]
  · rw [k4.cell]; simp [Array.getElem?_set]
  · rw [k4.cell]; simp
  · rw [k4.cell]
    have hv' := (hrow.cell i).symm.trans hv
    rw [Array.getElem?_set_ne _ (by omega), Array.getElem?_set_ne _ (by omega)]
    exact hv'
  · refine hA.imp id fun ⟨ga, ca, x1, x2, x3, x4⟩ => ⟨ga, ca, x1, by omega, ho.blk (x3.later b2) (by omega), fun k hk => ⟨ho.cell (cell_later b2 (x4 k hk).1) (by omega), ho.cell (cell_later b2 (x4 k hk).2) (by omega)⟩⟩
  · refine hN.2.imp id fun ⟨g', c', x1, x2, x3, x4⟩ => ⟨g', c', x1, by omega, ho.blk x3 (by omega), x4.keep _ _ _ fun i v _ hv => ho.cell hv (by omega)⟩
  · have hw2 : Below w0.heap.size w0 w2 := ((hb.1.trans (hd.mono hb.1.size)).trans (b1.mono (by have := hb.1.size; omega))).trans (b2.mono (by have := hb.1.size; omega))
    exact (hw2.setCell (p := ⟨g, o + 3, none⟩) hb.2 _).setCell (p := ⟨g, o + 5, none⟩) hb.2 _
set_option maxHeartbeats 4000000 in
set_option maxRecDepth 100000 in
theorem copy1_any (w0 w : World) (g o : Nat) (d : Int) (cur : Array Value) (ats : List (ByteArray × ByteArray)) (kids : Forest) (qa qk : Option Addr) (ca ck : Nat) (hrow : Blk w g cur 44) (hg : w0.heap.size ≤ g)
    (c3 : w.cell? ⟨g, o + 3, none⟩ = some (.slice qa ats.length ca)) (c5 : w.cell? ⟨g, o + 5, none⟩ = some (.slice qk kids.len ck)) (hsl : Sl qa ats w0) (hfo : Fo qk kids w0) (hb : Below w0.heap.size w0 w) (hn : ats.length ≤ 1000000) (hk : kids.len ≤ 1000000) :
    Calls Tryd.prog 101 #[.pointer (some ⟨g, o, none⟩), .int .i64 d] w fun e w' => e = .returned (.bool true) ∧ ∃ qa' ca' qk' ck', C1S w0 g o ats kids w w' qa' ca' qk' ck' := by
  have D0 : Below w.heap.size w w.drew := below_draws w 1
  have CA := hide (cloneA_own qa ats ca w0 w.drew hsl (hb.trans (D0.mono hb.size)) hn)
  have CN := hide (fun W (hW : Below w0.heap.size w0 W) => cloneN_own qk kids ck w0 W hfo hW hk)
  have HR := hide hrow
  have HC := hide (And.intro c3 c5)
  have HB := hide (And.intro hb hg)
  have HK0 := hide (show w.heap.size ≤ w.drew.heap.size from D0.size)
  have HD := hide D0
  have e3 : w.drew.cell? ⟨g, o + 3, none⟩ = some (.slice qa ats.length ca) := cell_later D0 c3
  have e5 : w.drew.cell? ⟨g, o + 5, none⟩ = some (.slice qk kids.len ck) := cell_later D0 c5
  have HE := hide (And.intro e3 e5)
  generalize hal : ats.length = al at *
  generalize hkl : kids.len = kl at *
  have HLL := hide (And.intro hal hkl)
  clear hrow hsl hfo hb hn hk hg hal hkl D0 e3 e5 c3 c5
  go_enter Tryd.func101, Tryd.ntmps101
  go_wp2_with fail
  have hSa : True := trivial
  refine wp_region_held (S := fun _ => True) (by kernel_rfl) ?_
  change wpAnyH _ _ _ _ _ _ _ _ (World.drew _)
  refine wpAnyH_take (i := 0) (oi := { dst := some 5, op := _, type := _, pos := _, after := _, guard := _ }) (v := ?va0_1) rfl (by kernel_rfl) (by kernel_rfl) (by kernel_rfl) (fun _ _ _ h => h) (Or.inl ⟨by kernel_rfl, ?ha0_1⟩) hSa ?ra0_1
  case ha0_1 => first | (intro w hSw; obtain _ := hSw; go_simp; done) | (intro w hSw; obtain _ := hSw; go_simp; with_reducible rfl)
  try simp only [Act.put, List.setIfInBounds_toArray, List.set_cons_zero, List.set_cons_succ]
  refine wpAnyH_take (i := 1) (oi := { dst := some 6, op := _, type := _, pos := _, after := _, guard := _ }) (v := ?va1_2) rfl (by kernel_rfl) (by kernel_rfl) (by kernel_rfl) (fun _ _ _ h => h) (Or.inl ⟨by kernel_rfl, ?ha1_2⟩) hSa ?ra1_2
  case ha1_2 => first | (intro w hSw; obtain _ := hSw; go_simp; done) | (intro w hSw; obtain _ := hSw; go_simp; with_reducible rfl)
  try simp only [Act.put, List.setIfInBounds_toArray, List.set_cons_zero, List.set_cons_succ]
  refine wpAnyH_take (i := 2) (oi := { dst := some 7, op := _, type := _, pos := _, after := _, guard := _ }) (v := ?va2_3) rfl (by kernel_rfl) (by kernel_rfl) (by kernel_rfl) (fun _ _ _ h => h) (Or.inl ⟨by kernel_rfl, ?ha2_3⟩) hSa ?ra2_3
  case ha2_3 => first | (intro w hSw; obtain _ := hSw; go_simp; done) | (intro w hSw; obtain _ := hSw; go_simp; with_reducible rfl)
  try simp only [Act.put, List.setIfInBounds_toArray, List.set_cons_zero, List.set_cons_succ]
  refine wpAnyH_take (i := 3) (oi := { dst := some 8, op := _, type := _, pos := _, after := _, guard := _ }) (v := ?va3_4) rfl (by kernel_rfl) (by kernel_rfl) (by kernel_rfl) (fun _ _ _ h => h) (Or.inl ⟨by kernel_rfl, ?ha3_4⟩) hSa ?ra3_4
  case ha3_4 => first | (intro w hSw; obtain _ := hSw; go_simp; done) | (intro w hSw; obtain _ := hSw; go_simp; with_reducible rfl)
  try simp only [Act.put, List.setIfInBounds_toArray, List.set_cons_zero, List.set_cons_succ]
  refine wpAnyH_take (i := 4) (oi := { dst := some 9, op := _, type := _, pos := _, after := _, guard := _ }) (v := ?va4_5) rfl (by kernel_rfl) (by kernel_rfl) (by kernel_rfl) (fun _ _ _ h => h) (Or.inl ⟨by kernel_rfl, ?ha4_5⟩) hSa ?ra4_5
  case ha4_5 => first | (intro w hSw; obtain _ := hSw; go_simp; done) | (intro w hSw; obtain _ := hSw; go_simp; with_reducible rfl)
  try simp only [Act.put, List.setIfInBounds_toArray, List.set_cons_zero, List.set_cons_succ]
  refine wpAnyH_take (i := 7) (oi := { dst := some 12, op := _, type := _, pos := _, after := _, guard := _ }) (v := ?va7_6) rfl (by kernel_rfl) (by kernel_rfl) (by kernel_rfl) (fun _ _ _ h => h) (Or.inl ⟨by kernel_rfl, ?ha7_6⟩) hSa ?ra7_6
  case ha7_6 => first | (intro w hSw; obtain _ := hSw; go_simp; done) | (intro w hSw; obtain _ := hSw; go_simp; with_reducible rfl)
  try simp only [Act.put, List.setIfInBounds_toArray, List.set_cons_zero, List.set_cons_succ]
  refine wpAnyH_take (i := 8) (oi := { dst := some 13, op := _, type := _, pos := _, after := _, guard := _ }) (v := ?va8_7) rfl (by kernel_rfl) (by kernel_rfl) (by kernel_rfl) (fun _ _ _ h => h) (Or.inl ⟨by kernel_rfl, ?ha8_7⟩) hSa ?ra8_7
  case ha8_7 => first | (intro w hSw; obtain _ := hSw; go_simp; done) | (intro w hSw; obtain _ := hSw; go_simp; with_reducible rfl)
  try simp only [Act.put, List.setIfInBounds_toArray, List.set_cons_zero, List.set_cons_succ]
  refine wpAnyH_take (i := 9) (oi := { dst := some 14, op := _, type := _, pos := _, after := _, guard := _ }) (v := ?va9_8) rfl (by kernel_rfl) (by kernel_rfl) (by kernel_rfl) (fun _ _ _ h => h) (Or.inl ⟨by kernel_rfl, ?ha9_8⟩) hSa ?ra9_8
  case ha9_8 => first | (intro w hSw; obtain _ := hSw; go_simp; done) | (intro w hSw; obtain _ := hSw; go_simp; with_reducible rfl)
  try simp only [Act.put, List.setIfInBounds_toArray, List.set_cons_zero, List.set_cons_succ]
  refine wpAnyH_ready (rs := [5, 10]) (by kernel_rfl) (by simp) ?_
  refine AllReadyH.cons rfl (fun K hK => ?_) (AllReadyH.cons rfl (fun K hK => ?_) AllReadyH.nil)
  · have x3 := (unhide HE).1
    go_simp
    have hSa' : True := trivial
    clear x3
    refine hK _ _ hSa' (fun _ => ?_)
    clear hK K hSa
    have hSa := hSa'
    clear hSa'
    refine wpAnyH_ready (rs := [6, 10]) (by kernel_rfl) (by simp) ?_
    refine AllReadyH.cons rfl (fun K hK => ?_) (AllReadyH.cons rfl (fun K hK => ?_) AllReadyH.nil)
    · go_simp
      refine (unhide CA).mono ?_
      rintro e w1 ⟨qa', ca', rfl, hA, hb1⟩
      have HA := hide hA
      have B1 := hide hb1
      have hSa' : True := trivial
      clear hA hb1 CA
      refine hK _ _ hSa' (fun _ => ?_)
      clear hK K hSa
      have hSa := hSa'
      clear hSa'
      refine wpAnyH_ready (rs := [10]) (by kernel_rfl) (by simp) ?_
      refine AllReadyH.cons rfl (fun K hK => ?_) AllReadyH.nil
      have x5 : w1.cell? ⟨g, o + 5, none⟩ = some (.slice qk kl ck) := cell_later (unhide B1) (unhide HE).2
      go_simp
      have hSa' : True := trivial
      clear x5
      refine hK _ _ hSa' (fun _ => ?_)
      clear hK K hSa
      have hSa := hSa'
      clear hSa'
      refine wpAnyH_ready (rs := [11]) (by kernel_rfl) (by simp) ?_
      refine AllReadyH.cons rfl (fun K hK => ?_) AllReadyH.nil
      go_simp
      refine (unhide CN w1 (((unhide HB).1.trans ((unhide HD).mono (unhide HB).1.size)).trans ((unhide B1).mono (Nat.le_trans (unhide HB).1.size (unhide HK0))))).mono ?_
      rintro e w2 ⟨qk', ck', rfl, hck, hN, hb2⟩
      have HN := hide (And.intro hck hN)
      have B2 := hide hb2
      have hSa' : True := trivial
      clear hN hck hb2 CN
      refine hK _ _ hSa' (fun _ => ?_)
      clear hK K hSa
      have hSa := hSa'
      clear hSa'
      refine wpAnyH_take (i := 12) (oi := { dst := some 17, op := _, type := _, pos := _, after := _, guard := _ }) (v := ?va12_9) rfl (by kernel_rfl) (by kernel_rfl) (by kernel_rfl) (fun _ _ _ h => h) (Or.inl ⟨by kernel_rfl, ?ha12_9⟩) hSa ?ra12_9
      case ha12_9 => first | (intro w hSw; obtain _ := hSw; go_simp; done) | (intro w hSw; obtain _ := hSw; go_simp; with_reducible rfl)
      try simp only [Act.put, List.setIfInBounds_toArray, List.set_cons_zero, List.set_cons_succ]
      refine wpAnyH_take (i := 13) (oi := { dst := some 18, op := _, type := _, pos := _, after := _, guard := _ }) (v := ?va13_10) rfl (by kernel_rfl) (by kernel_rfl) (by kernel_rfl) (fun _ _ _ h => h) (Or.inl ⟨by kernel_rfl, ?ha13_10⟩) hSa ?ra13_10
      case ha13_10 => first | (intro w hSw; obtain _ := hSw; go_simp; done) | (intro w hSw; obtain _ := hSw; go_simp; with_reducible rfl)
      try simp only [Act.put, List.setIfInBounds_toArray, List.set_cons_zero, List.set_cons_succ]
      refine wpAnyH_ready (rs := [14]) (by kernel_rfl) (by simp) ?_
      refine AllReadyH.cons rfl (fun K hK => ?_) AllReadyH.nil
      have K2 := hide (((unhide HR).later (unhide HD)).later (unhide B1) |>.later (unhide B2))
      have x3 : w2.cell? ⟨g, o + 3, none⟩ = some (.slice qa al ca) := cell_later (unhide B2) (cell_later (unhide B1) (unhide HE).1)
      have f3 := (unhide K2).frozen (o + 3)
      go_simp
      have hSa' : True := trivial
      clear x3 f3
      refine hK _ _ hSa' (fun _ => ?_)
      clear hK K hSa
      have hSa := hSa'
      clear hSa'
      refine wpAnyH_take (i := 15) (oi := { dst := some 19, op := _, type := _, pos := _, after := _, guard := _ }) (v := ?va15_11) rfl (by kernel_rfl) (by kernel_rfl) (by kernel_rfl) (fun _ _ _ h => h) (Or.inl ⟨by kernel_rfl, ?ha15_11⟩) hSa ?ra15_11
      case ha15_11 => first | (intro w hSw; obtain _ := hSw; go_simp; done) | (intro w hSw; obtain _ := hSw; go_simp; with_reducible rfl)
      try simp only [Act.put, List.setIfInBounds_toArray, List.set_cons_zero, List.set_cons_succ]
      refine wpAnyH_take (i := 16) (oi := { dst := some 20, op := _, type := _, pos := _, after := _, guard := _ }) (v := ?va16_12) rfl (by kernel_rfl) (by kernel_rfl) (by kernel_rfl) (fun _ _ _ h => h) (Or.inl ⟨by kernel_rfl, ?ha16_12⟩) hSa ?ra16_12
      case ha16_12 => first | (intro w hSw; obtain _ := hSw; go_simp; done) | (intro w hSw; obtain _ := hSw; go_simp; with_reducible rfl)
      try simp only [Act.put, List.setIfInBounds_toArray, List.set_cons_zero, List.set_cons_succ]
      refine wpAnyH_ready (rs := [17]) (by kernel_rfl) (by simp) ?_
      refine AllReadyH.cons rfl (fun K hK => ?_) AllReadyH.nil
      have x5 : (w2.setCell ⟨g, o + 3, none⟩ (.slice qa' al ca')).cell? ⟨g, o + 5, none⟩ = some (.slice qk kl ck) := away5 (cell_later (unhide B2) (cell_later (unhide B1) (unhide HE).2))
      have f5 := froz5 (unhide K2) (o := o) (v := .slice qa' al ca')
      go_simp
      have hSa' : True := trivial
      clear x5 f5
      refine hK _ _ hSa' (fun _ => ?_)
      clear hK K hSa
      have hSa := hSa'
      clear hSa'
      refine wpAnyH_done (by kernel_rfl) ?_ _
      clear hSa
      go_wp2
      go_ret
      refine ⟨rfl, qa', ca', qk', ck', ?_⟩
      exact c1s_of (unhide HLL) (unhide HR) (unhide HC) (unhide HB) (unhide HD) (unhide HA) (unhide B1) (unhide HN) (unhide B2)
    · have x5 := (unhide HE).2
      go_simp
      have hSa' : True := trivial
      clear x5
      refine hK _ _ hSa' (fun _ => ?_)
      clear hK K hSa
      have hSa := hSa'
      clear hSa'
      refine wpAnyH_ready (rs := [6]) (by kernel_rfl) (by simp) ?_
      refine AllReadyH.cons rfl (fun K hK => ?_) AllReadyH.nil
      go_simp
      refine (unhide CA).mono ?_
      rintro e w1 ⟨qa', ca', rfl, hA, hb1⟩
      have HA := hide hA
      have B1 := hide hb1
      have hSa' : True := trivial
      clear hA hb1 CA
      refine hK _ _ hSa' (fun _ => ?_)
      clear hK K hSa
      have hSa := hSa'
      clear hSa'
      refine wpAnyH_ready (rs := [11]) (by kernel_rfl) (by simp) ?_
      refine AllReadyH.cons rfl (fun K hK => ?_) AllReadyH.nil
      go_simp
      refine (unhide CN w1 (((unhide HB).1.trans ((unhide HD).mono (unhide HB).1.size)).trans ((unhide B1).mono (Nat.le_trans (unhide HB).1.size (unhide HK0))))).mono ?_
      rintro e w2 ⟨qk', ck', rfl, hck, hN, hb2⟩
      have HN := hide (And.intro hck hN)
      have B2 := hide hb2
      have hSa' : True := trivial
      clear hN hck hb2 CN
      refine hK _ _ hSa' (fun _ => ?_)
      clear hK K hSa
      have hSa := hSa'
      clear hSa'
      refine wpAnyH_take (i := 12) (oi := { dst := some 17, op := _, type := _, pos := _, after := _, guard := _ }) (v := ?va12_13) rfl (by kernel_rfl) (by kernel_rfl) (by kernel_rfl) (fun _ _ _ h => h) (Or.inl ⟨by kernel_rfl, ?ha12_13⟩) hSa ?ra12_13
      case ha12_13 => first | (intro w hSw; obtain _ := hSw; go_simp; done) | (intro w hSw; obtain _ := hSw; go_simp; with_reducible rfl)
      try simp only [Act.put, List.setIfInBounds_toArray, List.set_cons_zero, List.set_cons_succ]
      refine wpAnyH_take (i := 13) (oi := { dst := some 18, op := _, type := _, pos := _, after := _, guard := _ }) (v := ?va13_14) rfl (by kernel_rfl) (by kernel_rfl) (by kernel_rfl) (fun _ _ _ h => h) (Or.inl ⟨by kernel_rfl, ?ha13_14⟩) hSa ?ra13_14
      case ha13_14 => first | (intro w hSw; obtain _ := hSw; go_simp; done) | (intro w hSw; obtain _ := hSw; go_simp; with_reducible rfl)
      try simp only [Act.put, List.setIfInBounds_toArray, List.set_cons_zero, List.set_cons_succ]
      refine wpAnyH_ready (rs := [14]) (by kernel_rfl) (by simp) ?_
      refine AllReadyH.cons rfl (fun K hK => ?_) AllReadyH.nil
      have K2 := hide (((unhide HR).later (unhide HD)).later (unhide B1) |>.later (unhide B2))
      have x3 : w2.cell? ⟨g, o + 3, none⟩ = some (.slice qa al ca) := cell_later (unhide B2) (cell_later (unhide B1) (unhide HE).1)
      have f3 := (unhide K2).frozen (o + 3)
      go_simp
      have hSa' : True := trivial
      clear x3 f3
      refine hK _ _ hSa' (fun _ => ?_)
      clear hK K hSa
      have hSa := hSa'
      clear hSa'
      refine wpAnyH_take (i := 15) (oi := { dst := some 19, op := _, type := _, pos := _, after := _, guard := _ }) (v := ?va15_15) rfl (by kernel_rfl) (by kernel_rfl) (by kernel_rfl) (fun _ _ _ h => h) (Or.inl ⟨by kernel_rfl, ?ha15_15⟩) hSa ?ra15_15
      case ha15_15 => first | (intro w hSw; obtain _ := hSw; go_simp; done) | (intro w hSw; obtain _ := hSw; go_simp; with_reducible rfl)
      try simp only [Act.put, List.setIfInBounds_toArray, List.set_cons_zero, List.set_cons_succ]
      refine wpAnyH_take (i := 16) (oi := { dst := some 20, op := _, type := _, pos := _, after := _, guard := _ }) (v := ?va16_16) rfl (by kernel_rfl) (by kernel_rfl) (by kernel_rfl) (fun _ _ _ h => h) (Or.inl ⟨by kernel_rfl, ?ha16_16⟩) hSa ?ra16_16
      case ha16_16 => first | (intro w hSw; obtain _ := hSw; go_simp; done) | (intro w hSw; obtain _ := hSw; go_simp; with_reducible rfl)
      try simp only [Act.put, List.setIfInBounds_toArray, List.set_cons_zero, List.set_cons_succ]
      refine wpAnyH_ready (rs := [17]) (by kernel_rfl) (by simp) ?_
      refine AllReadyH.cons rfl (fun K hK => ?_) AllReadyH.nil
      have x5 : (w2.setCell ⟨g, o + 3, none⟩ (.slice qa' al ca')).cell? ⟨g, o + 5, none⟩ = some (.slice qk kl ck) := away5 (cell_later (unhide B2) (cell_later (unhide B1) (unhide HE).2))
      have f5 := froz5 (unhide K2) (o := o) (v := .slice qa' al ca')
      go_simp
      have hSa' : True := trivial
      clear x5 f5
      refine hK _ _ hSa' (fun _ => ?_)
      clear hK K hSa
      have hSa := hSa'
      clear hSa'
      refine wpAnyH_done (by kernel_rfl) ?_ _
      clear hSa
      go_wp2
      go_ret
      refine ⟨rfl, qa', ca', qk', ck', ?_⟩
      exact c1s_of (unhide HLL) (unhide HR) (unhide HC) (unhide HB) (unhide HD) (unhide HA) (unhide B1) (unhide HN) (unhide B2)
  · have x5 := (unhide HE).2
    go_simp
    have hSa' : True := trivial
    clear x5
    refine hK _ _ hSa' (fun _ => ?_)
    clear hK K hSa
    have hSa := hSa'
    clear hSa'
    refine wpAnyH_ready (rs := [5]) (by kernel_rfl) (by simp) ?_
    refine AllReadyH.cons rfl (fun K hK => ?_) AllReadyH.nil
    have x3 := (unhide HE).1
    go_simp
    have hSa' : True := trivial
    clear x3
    refine hK _ _ hSa' (fun _ => ?_)
    clear hK K hSa
    have hSa := hSa'
    clear hSa'
    refine wpAnyH_ready (rs := [6]) (by kernel_rfl) (by simp) ?_
    refine AllReadyH.cons rfl (fun K hK => ?_) AllReadyH.nil
    go_simp
    refine (unhide CA).mono ?_
    rintro e w1 ⟨qa', ca', rfl, hA, hb1⟩
    have HA := hide hA
    have B1 := hide hb1
    have hSa' : True := trivial
    clear hA hb1 CA
    refine hK _ _ hSa' (fun _ => ?_)
    clear hK K hSa
    have hSa := hSa'
    clear hSa'
    refine wpAnyH_ready (rs := [11]) (by kernel_rfl) (by simp) ?_
    refine AllReadyH.cons rfl (fun K hK => ?_) AllReadyH.nil
    go_simp
    refine (unhide CN w1 (((unhide HB).1.trans ((unhide HD).mono (unhide HB).1.size)).trans ((unhide B1).mono (Nat.le_trans (unhide HB).1.size (unhide HK0))))).mono ?_
    rintro e w2 ⟨qk', ck', rfl, hck, hN, hb2⟩
    have HN := hide (And.intro hck hN)
    have B2 := hide hb2
    have hSa' : True := trivial
    clear hN hck hb2 CN
    refine hK _ _ hSa' (fun _ => ?_)
    clear hK K hSa
    have hSa := hSa'
    clear hSa'
    refine wpAnyH_take (i := 12) (oi := { dst := some 17, op := _, type := _, pos := _, after := _, guard := _ }) (v := ?va12_17) rfl (by kernel_rfl) (by kernel_rfl) (by kernel_rfl) (fun _ _ _ h => h) (Or.inl ⟨by kernel_rfl, ?ha12_17⟩) hSa ?ra12_17
    case ha12_17 => first | (intro w hSw; obtain _ := hSw; go_simp; done) | (intro w hSw; obtain _ := hSw; go_simp; with_reducible rfl)
    try simp only [Act.put, List.setIfInBounds_toArray, List.set_cons_zero, List.set_cons_succ]
    refine wpAnyH_take (i := 13) (oi := { dst := some 18, op := _, type := _, pos := _, after := _, guard := _ }) (v := ?va13_18) rfl (by kernel_rfl) (by kernel_rfl) (by kernel_rfl) (fun _ _ _ h => h) (Or.inl ⟨by kernel_rfl, ?ha13_18⟩) hSa ?ra13_18
    case ha13_18 => first | (intro w hSw; obtain _ := hSw; go_simp; done) | (intro w hSw; obtain _ := hSw; go_simp; with_reducible rfl)
    try simp only [Act.put, List.setIfInBounds_toArray, List.set_cons_zero, List.set_cons_succ]
    refine wpAnyH_ready (rs := [14]) (by kernel_rfl) (by simp) ?_
    refine AllReadyH.cons rfl (fun K hK => ?_) AllReadyH.nil
    have K2 := hide (((unhide HR).later (unhide HD)).later (unhide B1) |>.later (unhide B2))
    have x3 : w2.cell? ⟨g, o + 3, none⟩ = some (.slice qa al ca) := cell_later (unhide B2) (cell_later (unhide B1) (unhide HE).1)
    have f3 := (unhide K2).frozen (o + 3)
    go_simp
    have hSa' : True := trivial
    clear x3 f3
    refine hK _ _ hSa' (fun _ => ?_)
    clear hK K hSa
    have hSa := hSa'
    clear hSa'
    refine wpAnyH_take (i := 15) (oi := { dst := some 19, op := _, type := _, pos := _, after := _, guard := _ }) (v := ?va15_19) rfl (by kernel_rfl) (by kernel_rfl) (by kernel_rfl) (fun _ _ _ h => h) (Or.inl ⟨by kernel_rfl, ?ha15_19⟩) hSa ?ra15_19
    case ha15_19 => first | (intro w hSw; obtain _ := hSw; go_simp; done) | (intro w hSw; obtain _ := hSw; go_simp; with_reducible rfl)
    try simp only [Act.put, List.setIfInBounds_toArray, List.set_cons_zero, List.set_cons_succ]
    refine wpAnyH_take (i := 16) (oi := { dst := some 20, op := _, type := _, pos := _, after := _, guard := _ }) (v := ?va16_20) rfl (by kernel_rfl) (by kernel_rfl) (by kernel_rfl) (fun _ _ _ h => h) (Or.inl ⟨by kernel_rfl, ?ha16_20⟩) hSa ?ra16_20
    case ha16_20 => first | (intro w hSw; obtain _ := hSw; go_simp; done) | (intro w hSw; obtain _ := hSw; go_simp; with_reducible rfl)
    try simp only [Act.put, List.setIfInBounds_toArray, List.set_cons_zero, List.set_cons_succ]
    refine wpAnyH_ready (rs := [17]) (by kernel_rfl) (by simp) ?_
    refine AllReadyH.cons rfl (fun K hK => ?_) AllReadyH.nil
    have x5 : (w2.setCell ⟨g, o + 3, none⟩ (.slice qa' al ca')).cell? ⟨g, o + 5, none⟩ = some (.slice qk kl ck) := away5 (cell_later (unhide B2) (cell_later (unhide B1) (unhide HE).2))
    have f5 := froz5 (unhide K2) (o := o) (v := .slice qa' al ca')
    go_simp
    have hSa' : True := trivial
    clear x5 f5
    refine hK _ _ hSa' (fun _ => ?_)
    clear hK K hSa
    have hSa := hSa'
    clear hSa'
    refine wpAnyH_done (by kernel_rfl) ?_ _
    clear hSa
    go_wp2
    go_ret
    refine ⟨rfl, qa', ca', qk', ck', ?_⟩
    exact c1s_of (unhide HLL) (unhide HR) (unhide HC) (unhide HB) (unhide HD) (unhide HA) (unhide B1) (unhide HN) (unhide B2)
end Go.Proofs.YtbabmkilbbbmoaaDoor
