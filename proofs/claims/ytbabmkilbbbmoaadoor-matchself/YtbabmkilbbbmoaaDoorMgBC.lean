/-
  Several texts in one: what the functions of the program and of the document's answer do.
-/
import Derived.Test.YtbabmkilbbbmoaaDoorMgBB
import Derived.Deep.RegionWith
import Derived.Test.YtbabmkilbbbmoaaDoorMgBA

/-
  What 'match.match' does.
-/
namespace Go.Proofs.YtbabmkilbbbmoaaDoor
open Go.RowKit
set_option linter.unusedVariables false
set_option linter.unusedSimpArgs false

theorem keepB_cell {w w' : World} {v : Value} {b o : Nat} {x : Value} (h : KpB w v w') (hne : some b ≠ v.ownBlock) (hc : w.cell? ⟨b, o, none⟩ = some x) : w'.cell? ⟨b, o, none⟩ = some x := by
  have he := h b (World.block_lt_of_cell? w _ hc) hne
  unfold World.cell? at hc ⊢
  simp only [he]
  exact hc
theorem mtF_len (A : Nat → Nat → Bool) (n m : Nat) : ∀ (P : List (Nat × Nat)) (i j : Nat), i ≤ n → RiseFrom (fun _ _ => true) n m i j P → (mtF A n m i j P).length ≤ n - i
  | [], i, j, hi, _ => by
    have := alF_len A m (n - i) i j
    rw [mtF]; unfold whB; rw [List.length_map]; exact this
  | p :: r, i, j, hi, h => by
    obtain ⟨h1, h2, h3, h4, _, h6⟩ := h
    have e1 := alF_len A p.2 (p.1 - i) i j
    have e2 := mtF_len A n m r (p.1 + 1) (p.2 + 1) h3 h6
    rw [mtF, List.length_append, List.length_cons]
    unfold whB
    rw [List.length_map]
    omega
theorem mtF_step (A : Nat → Nat → Bool) (n m i j : Nat) (P : List (Nat × Nat)) (k : Nat) (hk : k < P.length) : mtF A n m i j (P.drop k) = whB false (alF A (P.getD k (0, 0)).2 ((P.getD k (0, 0)).1 - i) i j) ++ (((P.getD k (0, 0)).1 : Int), ((P.getD k (0, 0)).2 : Int), true) :: mtF A n m ((P.getD k (0, 0)).1 + 1) ((P.getD k (0, 0)).2 + 1) (P.drop (k + 1)) := by
  rw [List.drop_eq_getElem_cons hk, mtF, List.getD, List.getElem?_eq_getElem hk]
  rfl
theorem rise_step {n m i j : Nat} {P : List (Nat × Nat)} {k : Nat} (hk : k < P.length) (h : RiseFrom (fun _ _ => true) n m i j (P.drop k)) : i ≤ (P.getD k (0, 0)).1 ∧ j ≤ (P.getD k (0, 0)).2 ∧ (P.getD k (0, 0)).1 < n ∧ (P.getD k (0, 0)).2 < m ∧ RiseFrom (fun _ _ => true) n m ((P.getD k (0, 0)).1 + 1) ((P.getD k (0, 0)).2 + 1) (P.drop (k + 1)) := by
  rw [List.drop_eq_getElem_cons hk] at h
  rw [List.getD, List.getElem?_eq_getElem hk]
  exact ⟨h.1, h.2.1, h.2.2.1, h.2.2.2.1, h.2.2.2.2.2⟩
theorem pair_cells {w : World} {base : Nat} {u : Value} {L : List (Nat × Nat)} (h : PairsV w base u (whP L)) : ∃ q c, u = .slice q L.length c ∧ (0 < L.length → ∃ g, q = some ⟨g, 0, none⟩ ∧ ∀ k, k < L.length → w.cell? ⟨g, k * 3, none⟩ = some (.int .i64 ((L.getD k (0, 0)).1 : Int)) ∧ w.cell? ⟨g, k * 3 + 1, none⟩ = some (.int .i64 ((L.getD k (0, 0)).2 : Int)) ∧ w.cell? ⟨g, k * 3 + 2, none⟩ = some (.bool true)) := by
  have hl : (whP L).length = L.length := by unfold whP; rw [List.length_map]
  obtain ⟨q, c, h1, h2⟩ := PairsV.cells h
  rw [hl] at h1 h2
  refine ⟨q, c, h1, fun h0 => ?_⟩
  obtain ⟨g, hq, _, h4⟩ := h2 h0
  refine ⟨g, hq, fun k hk => ?_⟩
  have e : (whP L).getD k p0 = (((L.getD k (0, 0)).1 : Int), ((L.getD k (0, 0)).2 : Int), true) := by
    unfold whP
    rw [List.getD, List.getD, List.getElem?_map, List.getElem?_eq_getElem hk]
    rfl
  have := h4 k hk
  rw [e] at this
  exact this
theorem rise_any {E : Nat → Nat → Bool} {n m : Nat} : ∀ (r : List (Nat × Nat)) (i j : Nat), RiseFrom E n m i j r → RiseFrom (fun _ _ => true) n m i j r
  | [], _, _, _ => trivial
  | p :: r, i, j, h => ⟨h.1, h.2.1, h.2.2.1, h.2.2.2.1, rfl, rise_any r _ _ h.2.2.2.2.2⟩
theorem rise_weakM (E : Nat → Nat → Bool) (n m : Nat) : ∀ (r : List (Nat × Nat)) (i j i' j' : Nat), i' ≤ i → j' ≤ j → RiseFrom E n m i j r → RiseFrom E n m i' j' r
  | [], _, _, _, _, _, _, _ => trivial
  | p :: r, i, j, i', j', h1, h2, h => ⟨Nat.le_trans h1 h.1, Nat.le_trans h2 h.2.1, h.2.2⟩
theorem lnP_riseM (E : Nat → Nat → Bool) (n m : Nat) : ∀ (f i j : Nat), (n - i) + (m - j) ≤ f → RiseFrom E n m i j (lnP E n m i j) := by
  intro f
  induction f with
  | zero => intro i j h; rw [lnP_out _ _ _ _ _ (by omega)]; trivial
  | succ f ih =>
    intro i j h
    by_cases hin : i < n ∧ j < m
    · cases hE : E i j with
      | true => rw [lnP_yes _ _ _ _ _ hin.1 hin.2 hE]; exact ⟨Nat.le_refl _, Nat.le_refl _, hin.1, hin.2, hE, ih _ _ (by omega)⟩
      | false =>
        by_cases hg : lcB E n m i (j + 1) ≤ lcB E n m (i + 1) j
        · rw [lnP_a _ _ _ _ _ hin.1 hin.2 hE hg]; exact rise_weakM _ _ _ _ _ _ _ _ (by omega) (by omega) (ih _ _ (by omega))
        · rw [lnP_b _ _ _ _ _ hin.1 hin.2 hE hg]; exact rise_weakM _ _ _ _ _ _ _ _ (by omega) (by omega) (ih _ _ (by omega))
    · rw [lnP_out _ _ _ _ _ hin]; trivial

set_option maxHeartbeats 4000000 in
set_option maxRecDepth 100000 in
theorem match_any (qka qla qkb qlb : Option Addr) (n m cka cla ckb clb : Nat) (ka la kb lb : List Int) (w : World) (h1 : MtsV qka n ka w) (h2 : MtsV qla n la w) (h3 : MtsV qkb m kb w) (h4 : MtsV qlb m lb w) (hn : n ≤ 1000) (hm : m ≤ 1000) (hc1 : n ≤ cka) (hc3 : m ≤ ckb) :
    Calls Tryd.prog 29 #[.agg #[.slice qka n cka, .slice qla n cla], .agg #[.slice qkb m ckb, .slice qlb m clb]] w fun e w' => ∃ u, e = .returned u ∧ PairsV w' w.heap.size u (mtF (eqZ la lb) n m 0 0 (lnP (eqZ ka kb) n m 0 0)) ∧ Below w.heap.size w w' := by
  obtain ⟨p0', hp0, hp1, hp2, hp3⟩ := mfoPair
  have CL := hide (fun W (hW : Below w.heap.size w W) => line_any qka qkb n m cka ckb ka kb W (h1.below hW) (h3.below hW) hn hm hc1 hc3)
  have HLA := hide h2
  have HLB := hide h4
  have hrise := rise_any _ _ _ (lnP_riseM (eqZ ka kb) n m _ 0 0 (Nat.le_refl _))
  have hml := mtF_len (eqZ la lb) n m _ 0 0 (Nat.zero_le _) hrise
  have HRI := hide hrise
  have hPl := lnP_small (eqZ ka kb) n m 0 0
  generalize lnP (eqZ ka kb) n m 0 0 = P at *
  have CA0 := hide (fun W0 ha hb => apal_any W0 qla qlb n m cla clb la lb ha hb)
  have K2 := hide ((Blk.new w #[.slice qka n cka, .slice qla n cla] 70).alloc (Obj.cells #[.slice qkb m ckb, .slice qlb m clb] 70))
  have K3 : Hid (Blk ((w.alloc (Obj.cells #[.slice qka n cka, .slice qla n cla] 70)).alloc (Obj.cells #[.slice qkb m ckb, .slice qlb m clb] 70)) (w.heap.size + 1) #[.slice qkb m ckb, .slice qlb m clb] 70) := hide (by have := Blk.new (w.alloc (Obj.cells #[.slice qka n cka, .slice qla n cla] 70)) #[.slice qkb m ckb, .slice qlb m clb] 70; rw [show (w.alloc (Obj.cells #[.slice qka n cka, .slice qla n cla] 70)).heap.size = w.heap.size + 1 by simp] at this; exact this)
  have HW0 : Hid (Below w.heap.size w ((w.alloc (Obj.cells #[.slice qka n cka, .slice qla n cla] 70)).alloc (Obj.cells #[.slice qkb m ckb, .slice qlb m clb] 70))) := hide (((Below.refl _ _).alloc (Nat.le_refl _) _).alloc (by simp) _)
  clear h1 h2 h3 h4 hrise
  go_enter Tryd.func29, Tryd.ntmps29
  go_wp2_with fail
  refine (unhide CL _ (unhide HW0)).mono ?_
  rintro e w1 ⟨v, rfl, hrow, hb1⟩
  obtain ⟨tq, tc, rfl, hcells⟩ := pair_cells hrow
  have HC := hide hcells
  have KA := hide ((unhide K2).later hb1)
  have KB := hide ((unhide K3).later hb1)
  have HB1 := hide (tr2 (unhide HW0) hb1)
  have hz1 := (unhide HB1).size
  have hkb := (unhide KB).lt
  have CA := hide (unhide CA0 w1 ((unhide HLA).below (unhide HB1)) ((unhide HLB).below (unhide HB1)))
  clear hrow hb1 hcells CL CA0 K2 K3 HW0 HLA HLB
  go_wp2
  go_loopw [16, 5, 6, 7] (fun x u iv jv wr => ∃ (k i j : Nat) (Lm : List (Int × Int × Bool)), k ≤ P.length ∧ x = .int .i64 (k : Int) ∧ iv = .int .i64 (i : Int) ∧ jv = .int .i64 (j : Int) ∧ i ≤ n ∧ j ≤ m ∧ RiseFrom (fun _ _ => true) n m i j (P.drop k) ∧ PairsV wr w1.heap.size u Lm ∧ Lm ++ mtF (eqZ la lb) n m i j (P.drop k) = mtF (eqZ la lb) n m 0 0 P ∧ Below w1.heap.size w1 wr) (fun x _ _ _ _ => P.length - (intOf x).toNat)
  case atStart => exact ⟨0, 0, 0, [], Nat.zero_le _, rfl, rfl, rfl, Nat.zero_le _, Nat.zero_le _, unhide HRI, World.ownsRow_nil _ _ _ _, rfl, Below.refl _ _⟩
  case round =>
    clear HRI
    obtain ⟨k, i, j, Lm, hk, rfl, rfl, rfl, hi, hj, hri, hrow, heq, hbl⟩ := hrel
    obtain ⟨uq, un, uc, hu⟩ := slice_of hrow
    subst hu
    have hll : Lm.length ≤ 1000 := by
      have := congrArg List.length heq
      rw [List.length_append] at this
      omega
    have hz := hbl.size
    have HR := hide hrow
    have HBL := hide hbl
    have ka0 := cellB hbl ((unhide KA).cell 0)
    have ka1 := cellB hbl ((unhide KA).cell 1)
    have kb0 := cellB hbl ((unhide KB).cell 0)
    have kb1 := cellB hbl ((unhide KB).cell 1)
    by_cases hp : k < P.length
    · have hpi : (k : Int) < (P.length : Int) := by omega
      obtain ⟨x1, x2, x3, x4, x5⟩ := rise_step hp hri
      rw [mtF_step _ _ _ _ _ _ _ hp] at heq
      obtain ⟨g, rfl, hcell⟩ := unhide HC (by omega)
      obtain ⟨c0, c1, c2⟩ := hcell k hp
      generalize P.getD k (0, 0) = t at *
      obtain ⟨ta, tb⟩ := t
      dsimp only at x1 x2 x3 x4 x5 heq c0 c1
      have k0 := cellB hbl c0
      have k1 := cellB hbl c1
      have k2 := cellB hbl c2
      have CC := hide (fun X hr hbX => unhide CA (.slice uq un uc) Lm i ta j tb X hr hbX x1 (by omega) x2 (by omega) ⟨hn, hm⟩ (by omega))
      have HEQ := hide heq
      have HX5 := hide x5
      have hnb : Hid (∀ q, (Value.slice uq un uc).ownBlock = some q → w1.heap.size ≤ q ∧ q < wr.heap.size) := hide (fun q hq => (unhide HR).lt q hq)
      have HRX := hide ((unhide HR).alloc (Obj.cells #[.int .i64 (ta : Int), .int .i64 (tb : Int), .bool true] 37))
      have HBX := hide ((unhide HBL).alloc hz (Obj.cells #[.int .i64 (ta : Int), .int .i64 (tb : Int), .bool true] 37))
      have BX := hide (Blk.new wr #[.int .i64 (ta : Int), .int .i64 (tb : Int), .bool true] 37)
      have hXs : (wr.alloc (Obj.cells #[.int .i64 (ta : Int), .int .i64 (tb : Int), .bool true] 37)).heap.size = wr.heap.size + 1 := by simp
      have hkw : w.heap.size + 1 < wr.heap.size := by omega
      have hkw0 : w.heap.size < wr.heap.size := by omega
      clear hcell heq hri hrow hbl HC x5 c0 c1 c2
      go_wp2_with fail
      refine Calls.mono (unhide CC _ (unhide HRX) (unhide HBX)) ?_
      rintro e w2 ⟨u2, rfl, hr2, hb2, hf2, hk2⟩
      obtain ⟨vq, vn, vc, hu2⟩ := slice_of hr2
      subst hu2
      have hne : some wr.heap.size ≠ (Value.slice uq un uc).ownBlock := fun e => by have := (unhide hnb _ e.symm).2; omega
      have y0 := keepB_cell hk2 hne ((unhide BX).cell 0)
      have y1 := keepB_cell hk2 hne ((unhide BX).cell 1)
      have y2 := keepB_cell hk2 hne ((unhide BX).cell 2)
      have HR2 := hide hr2
      have HB2 := hide ((unhide HBX).trans hb2)
      have hz2 := hb2.size
      have hal := alF_len (eqZ la lb) tb (ta - i) i j
      have hll2 : (Lm ++ whB false (alF (eqZ la lb) tb (ta - i) i j)).length ≤ 3000 := by rw [List.length_append]; unfold whB; rw [List.length_map]; omega
      have hne2 : Hid (∀ q, (Value.slice vq vn vc).ownBlock = some q → w1.heap.size ≤ q ∧ q ≠ wr.heap.size ∧ q < w2.heap.size) := hide (fun q hq => by
        have l1 := hr2.lt q hq
        rcases hf2 q hq with h | h
        · have := (unhide hnb q h).2; exact ⟨l1.1, by omega, l1.2⟩
        · rw [hXs] at h; exact ⟨l1.1, by omega, l1.2⟩)
      have HEQ2 : Hid ((Lm ++ whB false (alF (eqZ la lb) tb (ta - i) i j)) ++ ((ta : Int), (tb : Int), true) :: mtF (eqZ la lb) n m (ta + 1) (tb + 1) (P.drop (k + 1)) = mtF (eqZ la lb) n m 0 0 P) := hide (by rw [List.append_assoc]; exact unhide HEQ)
      have hlt2 : wr.heap.size < w2.heap.size := by omega
      unfold PairsV at HR2
      generalize Lm ++ whB false (alF (eqZ la lb) tb (ta - i) i j) = L2m at *
      clear hr2 hb2 hk2 hf2 hne hal hXs HRX HBX BX CC HEQ k0 k1 k2 ka0 ka1 kb0 kb1
      go_wp2_with (at_builtin; refine wpList_append_own_at _ rfl _ _ 26 rfl w1.heap.size 37 p0' (.agg #[.int .i64 0, .int .i64 0, .bool false]) 3 24 Tryd.underlying26 hp0 hp1 hp2 hp3 rfl (by decide) (.slice vq vn vc) _ _ rfl ((unhide HR2).alloc _) ⟨w2.heap.size, 0, none⟩ 1 1 (pairL ((ta : Int), (tb : Int), true)) rfl rfl (cell_three_new _ _ _ _ _) (by simp [Value.oneCell', pairL]) (by simp only [maxLen]; omega) (by omega) (by simp; omega) ?_)
      intro u' w9 hown hgr _ _
      have HO : Hid (PairsV w9 w1.heap.size u' (L2m ++ [((ta : Int), (tb : Int), true)])) := hide (pairs_snoc hown)
      have HB9 : Hid (Below w1.heap.size w1 w9) := hide (((unhide HB2).alloc (by omega) _).grown hgr (by simp; omega) (fun q hq => (unhide hne2 q hq).1))
      have gk : ∀ o v, w2.cell? ⟨wr.heap.size, o, none⟩ = some v → w9.cell? ⟨wr.heap.size, o, none⟩ = some v := fun o v hc => by
        have h1 := hgr.block wr.heap.size (by simp; omega) (fun e => (unhide hne2 _ e.symm).2.1 rfl)
        have h2 := h1.trans (((Below.refl w2.heap.size w2).alloc (Nat.le_refl _) _).block _ hlt2)
        unfold World.cell? at hc ⊢
        simp only [h2]
        exact hc
      replace y0 := gk _ _ y0
      replace y1 := gk _ _ y1
      clear y2 hown hgr gk
      go_wp2
      go_quiet (fail)
      go_wp2
      go_roundw
      case rel => exact ⟨k + 1, ta + 1, tb + 1, L2m ++ [((ta : Int), (tb : Int), true)], by omega, by go_num, rfl, rfl, by omega, by omega, unhide HX5, unhide HO, by rw [List.append_assoc]; exact unhide HEQ2, _root_.Go.below_drewN (unhide HB9) _⟩
      case measure => simp [intOf]; omega
    · have hpi : ¬ (k : Int) < (P.length : Int) := by omega
      have hme : P.drop k = [] := List.drop_eq_nil_of_le (by omega)
      rw [hme] at heq
      have HEQ : Hid (Lm ++ whB false (alF (eqZ la lb) m (n - i) i j) = mtF (eqZ la lb) n m 0 0 P) := hide heq
      have CC := hide (fun X hr hbX => unhide CA (.slice uq un uc) Lm i n j m X hr hbX hi (Nat.le_refl _) hj (Nat.le_refl _) ⟨hn, hm⟩ (by omega))
      clear hme heq hri hrow hbl CA HC
      go_wp2_with fail
      refine Calls.mono (unhide CC _ (unhide HR) (unhide HBL)) ?_
      rintro e w2 ⟨u2, rfl, hr2, hb2, _, _⟩
      have HR2 : Hid (PairsV w2 w.heap.size u2 (mtF (eqZ la lb) n m 0 0 P)) := hide (by rw [← unhide HEQ]; exact owns_mono hr2 hz1)
      have HB2 := hide ((unhide HB1).trans (((unhide HBL).trans hb2).mono hz1))
      clear hr2 hb2 CC HEQ
      go_wp2
      go_ret
      exact ⟨_, rfl, unhide HR2, unhide HB2⟩
end Go.Proofs.YtbabmkilbbbmoaaDoor

/-
  What 'match.Lists' does (made by mk_hal.py).
-/
namespace Go.Proofs.YtbabmkilbbbmoaaDoor
open Go.RowKit Go.Maps
set_option linter.unusedVariables false
set_option linter.unusedSimpArgs false

theorem fdF_same (q r : Nat → Bool) : ∀ (f j : Nat), (∀ y, j ≤ y → y < j + f → q y = r y) → fdF q f j = fdF r f j
  | 0, _, _ => rfl
  | f + 1, j, h => by rw [fdF, fdF, h j (Nat.le_refl _) (by omega), fdF_same q r f (j + 1) (fun y a b => h y (by omega) (by omega))]
theorem alF_same (A B : Nat → Nat → Bool) (n m j1 : Nat) (hj : j1 ≤ m) (h : ∀ a b, a < n → b < m → A a b = B a b) : ∀ (f i j : Nat), i + f ≤ n → alF A j1 f i j = alF B j1 f i j
  | 0, _, _, _ => rfl
  | f + 1, i, j, hi => by
    rw [alF, alF, fdF_same (A i) (B i) (j1 - j) j (fun y a b => h i y (by omega) (by omega))]
    cases fdF (B i) (j1 - j) j with
    | some x => simp only []; rw [alF_same A B n m j1 hj h f (i + 1) (x + 1) (by omega)]
    | none => exact alF_same A B n m j1 hj h f (i + 1) j (by omega)
theorem mtF_same (A B : Nat → Nat → Bool) (n m : Nat) (h : ∀ a b, a < n → b < m → A a b = B a b) : ∀ (P : List (Nat × Nat)) (i j : Nat), i ≤ n → RiseFrom (fun _ _ => true) n m i j P → mtF A n m i j P = mtF B n m i j P
  | [], i, j, hi, _ => by rw [mtF, mtF, alF_same A B n m m (Nat.le_refl _) h _ _ _ (by omega)]
  | p :: r, i, j, hi, hr => by
    obtain ⟨h1, h2, h3, h4, _, h6⟩ := hr
    rw [mtF, mtF, alF_same A B n m p.2 (by omega) h _ _ _ (by omega), mtF_same A B n m h r _ _ h3 h6]
theorem nums_eqG (D0 D' : List (List UInt8)) (ss tt : List ByteArray) (hp : addAll D0 (txs ss) <+: D') (i j : Nat) (hi : i < ss.length) (hj : j < tt.length) : eqZ (numsK D0 (txs ss)) (numsK D' (txs tt)) i j = eqT ss tt i j := by
  have li : i < (txs ss).length := by unfold txs; rw [List.length_map]; exact hi
  have lj : j < (txs tt).length := by unfold txs; rw [List.length_map]; exact hj
  unfold eqZ eqT
  rw [getD_nums _ _ _ li, getD_nums _ _ _ lj, ← txs_getD _ _ hi, ← txs_getD _ _ hj]
  have m1 : (txs ss).getD i [] ∈ txs ss := by rw [List.getD, List.getElem?_eq_getElem li]; exact List.getElem_mem li
  have m2 : (txs tt).getD j [] ∈ txs tt := by rw [List.getD, List.getElem?_eq_getElem lj]; exact List.getElem_mem lj
  have n1 := addAll_mem (txs ss) D0 _ m1
  have n2 := addAll_mem (txs tt) D' _ m2
  have p := hp.trans (addAll_pre (txs tt) D')
  rw [← numT_pre p n1]
  have := numT_inj (p.subset n1) n2
  by_cases e : (txs ss).getD i [] = (txs tt).getD j []
  · rw [decide_eq_true e, e]; simp
  · rw [decide_eq_false e]
    exact beq_eq_false_iff_ne.2 (fun x => e (this.1 x))
/-- The pairs of two lists of nodes, plainly. -/
def ltP (f h : Forest) : List (Int × Int × Bool) := mtF (eqT (lsT f) (lsT h)) f.len h.len 0 0 (lnP (eqT (ksT f) (ksT h)) f.len h.len 0 0)
def KidsOk (f : Forest) : Prop := ∀ k kk sp n ats tx kids rest, k < f.len → f.drop k = .cons kk sp n ats tx kids rest → kids.count ≤ 4000
theorem keyT_small (f : Forest) (hs : SmF f) (hr : RngF f) (hk : KidsOk f) (k : Nat) (h : k < f.len) : (keyT f k).size ≤ 9223372036854775807 := by
  obtain ⟨kk, sp, n, ats, tx, kids, hd⟩ := Forest.drop_cons k f h
  have h1 := smF_drop k f hs
  have h2 := rngF_drop k f hr
  have h3 := hk k _ _ _ _ _ _ _ h hd
  unfold keyT
  rw [hd] at h1 h2 ⊢
  have hsm : SmF (.cons kk sp n ats tx kids .nil) := ⟨h1.1, h1.2.1, trivial⟩
  have hrn : RngF (.cons kk sp n ats tx kids .nil) := ⟨h2.1, trivial⟩
  have hlen := keyF_lenK _ hrn hsm
  have : (Forest.cons kk sp n ats tx kids .nil).count ≤ 4001 := by
    show 1 + kids.count + 0 ≤ 4001
    omega
  rw [bs_size]
  have h9 : 21000000 * (Forest.cons kk sp n ats tx kids .nil).count ≤ 21000000 * 4001 := Nat.mul_le_mul_left _ this
  exact Nat.le_trans hlen (Nat.le_trans h9 (by decide))
theorem labT_small (f : Forest) (hs : SmF f) (hr : RngF f) (k : Nat) (h : k < f.len) : (labT f k).size ≤ 9223372036854775807 := by
  obtain ⟨kk, sp, n, ats, tx, kids, hd⟩ := Forest.drop_cons k f h
  have h1 := smF_drop k f hs
  have h2 := rngF_drop k f hr
  unfold labT
  rw [hd] at h1 h2 ⊢
  rw [bs_size]
  unfold labelB
  have e1 := numB_lenK h2.1.1
  have e2 := numB_lenK h2.1.2.1
  have e3 := textB_lenK (s := n) (by have := h1.1.2.1; omega)
  simp only [List.length_append]
  omega

set_option maxHeartbeats 4000000 in
set_option maxRecDepth 100000 in
theorem mlists_any (qa qb : Option Addr) (ca cb : Nat) (f h : Forest) (w : World) (hf : Fo qa f w) (hh : Fo qb h w) (sf : SmF f) (sh : SmF h) (rf : RngF f) (rh : RngF h) (kf : KidsOk f) (kh : KidsOk h) (ht : TabP w) (nf : f.len ≤ 1000) (nh : h.len ≤ 1000) :
    Calls Tryd.prog 11 #[.slice qa f.len ca, .slice qb h.len cb] w fun e w' => ∃ u, e = .returned u ∧ PairsV w' w.heap.size u (ltP f h) ∧ Below w.heap.size w w' := by
  have hmm := @run_makeMap Tryd.prog
  obtain ⟨D1, hD1⟩ : ∃ D, D = addAll [] (txs (ksT f)) := ⟨_, rfl⟩
  obtain ⟨D2, hD2⟩ : ∃ D, D = addAll D1 (txs (lsT f)) := ⟨_, rfl⟩
  obtain ⟨D3, hD3⟩ : ∃ D, D = addAll D2 (txs (ksT h)) := ⟨_, rfl⟩
  have d1 : D1.length ≤ 1000 := by have := addAll_len (txs (ksT f)) []; rw [txs_len, ksT_len] at this; rw [hD1]; simp at this; omega
  have d2 : D2.length ≤ 2000 := by have := addAll_len (txs (lsT f)) D1; rw [txs_len, lsT_len] at this; rw [hD2]; omega
  have d3 : D3.length ≤ 3000 := by have := addAll_len (txs (ksT h)) D2; rw [txs_len, ksT_len] at this; rw [hD3]; omega
  have HPL : Hid (mtF (eqZ (numsK D1 (txs (lsT f))) (numsK D3 (txs (lsT h)))) f.len h.len 0 0 (lnP (eqZ (numsK [] (txs (ksT f))) (numsK D2 (txs (ksT h)))) f.len h.len 0 0) = ltP f h) := hide (by
    have e1 : lnP (eqZ (numsK [] (txs (ksT f))) (numsK D2 (txs (ksT h)))) f.len h.len 0 0 = lnP (eqT (ksT f) (ksT h)) f.len h.len 0 0 := lnP_same _ _ _ _ (fun a b hx hy => nums_eqG [] D2 (ksT f) (ksT h) (by rw [← hD1, hD2]; exact addAll_pre _ _) a b (by rw [ksT_len]; exact hx) (by rw [ksT_len]; exact hy)) _ 0 0
    rw [e1]
    exact mtF_same _ _ _ _ (fun a b hx hy => nums_eqG D1 D3 (lsT f) (lsT h) (by rw [← hD2, hD3]; exact addAll_pre _ _) a b (by rw [lsT_len]; exact hx) (by rw [lsT_len]; exact hy)) _ 0 0 (Nat.zero_le _) (rise_any _ _ _ (lnP_riseM _ _ _ _ 0 0 (Nat.le_refl _))))
  have hw0 : Below w.heap.size w (w.alloc (.map #[] 0)) := (Below.refl _ _).alloc (Nat.le_refl _) _
  have ht0 := ht.below hw0
  have hz0 : w.heap.size < (w.alloc (.map #[] 0)).heap.size := by simp
  have C1 := hide (fun vv (hv : NdsV (w.alloc (.map #[] 0)) qa f.len vv) hx => ofNodes_key w.heap.size [] qa ca (ksT f) vv _ (numM_new w) (by rw [ksT_len]; exact hv) (fun k hk => by rw [ksT_len] at hk; rw [ksT_tx f k hk]; exact keyT_small f sf rf kf k hk) (by rw [ksT_len]; simp; omega) (key_at (numM_new w) ht0 (q := qa) sf rf hx kf))
  obtain ⟨vf, hvf, hxf⟩ := nds_of (hf.below hw0)
  have C1' := hide (unhide C1 vf hvf hxf)
  rw [ksT_len, ← hD1] at C1'
  have C2 := hide (fun W (hN : NumM W w.heap.size D1) (hg : (w.alloc (.map #[] 0)).grownBy W (some w.heap.size)) => by
    obtain ⟨vv, hv, hx⟩ := nds_of ((hf.below hw0).le (grown_le (numM_new w) hg))
    have X := ofNodes_lab w.heap.size D1 qa ca (lsT f) vv W hN (by rw [lsT_len]; exact hv) (fun k hk => by rw [lsT_len] at hk; rw [lsT_tx f k hk]; exact labT_small f sf rf k hk) (by rw [lsT_len]; omega) (lab_at hN (ht0.grown (numM_new w) hg) sf rf hx)
    rw [lsT_len, ← hD2] at X
    exact X)
  have C3 := hide (fun W (hN : NumM W w.heap.size D2) (hg : (w.alloc (.map #[] 0)).grownBy W (some w.heap.size)) => by
    obtain ⟨vv, hv, hx⟩ := nds_of ((hh.below hw0).le (grown_le (numM_new w) hg))
    have X := ofNodes_key w.heap.size D2 qb cb (ksT h) vv W hN (by rw [ksT_len]; exact hv) (fun k hk => by rw [ksT_len] at hk; rw [ksT_tx h k hk]; exact keyT_small h sh rh kh k hk) (by rw [ksT_len]; omega) (key_at hN (ht0.grown (numM_new w) hg) (q := qb) sh rh hx kh)
    rw [ksT_len, ← hD3] at X
    exact X)
  have C4 := hide (fun W (hN : NumM W w.heap.size D3) (hg : (w.alloc (.map #[] 0)).grownBy W (some w.heap.size)) => by
    obtain ⟨vv, hv, hx⟩ := nds_of ((hh.below hw0).le (grown_le (numM_new w) hg))
    have X := ofNodes_lab w.heap.size D3 qb cb (lsT h) vv W hN (by rw [lsT_len]; exact hv) (fun k hk => by rw [lsT_len] at hk; rw [lsT_tx h k hk]; exact labT_small h sh rh k hk) (by rw [lsT_len]; omega) (lab_at hN (ht0.grown (numM_new w) hg) sh rh hx)
    rw [lsT_len] at X
    exact X)
  have l1 : Hid ((numsK [] (txs (ksT f))).length = f.len) := hide (by rw [numsK_len, txs_len, ksT_len])
  have l2 : Hid ((numsK D1 (txs (lsT f))).length = f.len) := hide (by rw [numsK_len, txs_len, lsT_len])
  have l3 : Hid ((numsK D2 (txs (ksT h))).length = h.len) := hide (by rw [numsK_len, txs_len, ksT_len])
  have l4 : Hid ((numsK D3 (txs (lsT h))).length = h.len) := hide (by rw [numsK_len, txs_len, lsT_len])
  generalize numsK [] (txs (ksT f)) = z1 at *
  generalize numsK D1 (txs (lsT f)) = z2 at *
  generalize numsK D2 (txs (ksT h)) = z3 at *
  generalize numsK D3 (txs (lsT h)) = z4 at *
  generalize ltP f h = LT at *
  clear C1 hvf hxf hf hh sf sh rf rh kf kh ht ht0 hD1 hD2 hD3 d1 d2 d3
  generalize f.len = n at *
  generalize h.len = m at *
  go_enter Tryd.func11, Tryd.ntmps11
  go_wp2_with fail
  refine (unhide C1').mono ?_
  rintro e w1 ⟨u1, rfl, hr1, hn1, hg1⟩
  have R1 := hide hr1
  have N1 := hide hn1
  have G1 := hide hg1
  obtain ⟨q1, m1, k1, hu1⟩ := slice_of hr1
  subst hu1
  clear hr1 hn1 hg1 C1'
  go_wp2_with fail
  refine (unhide C2 w1 (unhide N1) (unhide G1)).mono ?_
  rintro e w2 ⟨u2, rfl, hr2, hn2, hg2⟩
  have R1' := hide (owns_grown (unhide R1) hg2 hz0)
  have R2 := hide (owns_mono hr2 (unhide G1).size)
  have N2 := hide hn2
  have G2 := hide (grown_trans (unhide G1) hg2)
  obtain ⟨q2, m2, k2, hu2⟩ := slice_of hr2
  subst hu2
  clear hr2 hn2 hg2 C2 R1 N1 G1
  go_wp2_with fail
  refine (unhide C3 w2 (unhide N2) (unhide G2)).mono ?_
  rintro e w3 ⟨u3, rfl, hr3, hn3, hg3⟩
  have R1 := hide (owns_grown (unhide R1') hg3 hz0)
  have R2' := hide (owns_grown (unhide R2) hg3 hz0)
  have R3 := hide (owns_mono hr3 (unhide G2).size)
  have N3 := hide hn3
  have G3 := hide (grown_trans (unhide G2) hg3)
  obtain ⟨q3, m3, k3, hu3⟩ := slice_of hr3
  subst hu3
  clear hr3 hn3 hg3 C3 R1' R2 N2 G2
  go_wp2_with fail
  refine (unhide C4 w3 (unhide N3) (unhide G3)).mono ?_
  rintro e w4 ⟨u4, rfl, hr4, hn4, hg4⟩
  have S1 := owns_grown (unhide R1) hg4 hz0
  have S2 := owns_grown (unhide R2') hg4 hz0
  have S3 := owns_grown (unhide R3) hg4 hz0
  have S4 := owns_mono hr4 (unhide G3).size
  have G4 := hide (grown_trans (unhide G3) hg4)
  obtain ⟨q4, m4, k4, hu4⟩ := slice_of hr4
  subst hu4
  rw [← unhide l1] at S1
  rw [← unhide l2] at S2
  rw [← unhide l3] at S3
  rw [← unhide l4] at S4
  obtain ⟨e1, c1, i1⟩ := ints_owns S1
  obtain ⟨e2, c2, i2⟩ := ints_owns S2
  obtain ⟨e3, c3, i3⟩ := ints_owns S3
  obtain ⟨e4, c4, i4⟩ := ints_owns S4
  have x1 : m1 = n := e1.trans (unhide l1)
  have x2 : m2 = n := e2.trans (unhide l2)
  have x3 : m3 = m := e3.trans (unhide l3)
  have x4 : m4 = m := e4.trans (unhide l4)
  subst x1
  subst x3
  rw [x2] at i2 ⊢
  rw [x4] at i4 ⊢
  have CM := hide (match_any q1 q2 q3 q4 m1 m3 k1 k2 k3 k4 z1 z2 z3 z4 w4 i1 i2 i3 i4 nf nh c1 c3)
  rw [unhide HPL] at CM
  have HBW := hide (grown_is_below (unhide G4))
  clear hr4 hn4 hg4 C4 R1 R2' R3 N3 G3 S1 S2 S3 S4 e1 e2 e3 e4 i1 i2 i3 i4 c1 c2 c3 c4 l1 l2 l3 l4 G4 x2 x4 HPL hmm
  go_wp2_with fail
  refine (unhide CM).mono ?_
  rintro e w5 ⟨u5, rfl, hp, hb5⟩
  have HP := hide hp
  have HB5 := hide hb5
  have hz := (unhide HBW).size
  clear hp hb5
  obtain ⟨q5, m5, k5, hu5⟩ := slice_of (unhide HP)
  subst hu5
  go_wp2
  go_ret
  exact ⟨_, rfl, owns_mono (unhide HP) hz, (unhide HBW).trans ((unhide HB5).mono hz)⟩
end Go.Proofs.YtbabmkilbbbmoaaDoor
