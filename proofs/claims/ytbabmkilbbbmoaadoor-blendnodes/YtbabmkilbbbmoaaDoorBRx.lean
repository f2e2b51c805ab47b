/-
  What the reference's 'Nodes' of layer 25 does (made by mk_brx.py).
-/
import Derived.Test.YtbabmkilbbbmoaaDoorMgAM
import Derived.Test.YtbabmkilbbbmoaaDoorMgBQ
import Derived.Test.YtbabmkilbbbmoaaDoorMgBS
namespace Go.Proofs.YtbabmkilbbbmoaaDoor
open Go.RowKit
set_option linter.unusedVariables false
set_option linter.unusedSimpArgs false

set_option maxHeartbeats 8000000 in
set_option maxRecDepth 100000 in
theorem rnodes_any (qo qa qb : Option Addr) (co ca cb : Nat) (o a b : Forest) (w : World) (ho : NdL qo o co w) (ha : NdL qa a ca w) (hb : NdL qb b cb w) :
    Calls Tryd.prog 26 #[.slice qo o.len co, .slice qa a.len ca, .slice qb b.len cb] w fun e w' => ∃ u, e = .returned u ∧ RPartsV w' w.heap.size u (ndP o a b) ∧ Below w.heap.size w w' := by
  obtain ⟨i0, hi0, hi1, hi2, hi3⟩ := infoRPart
  have C1 := hide (fun W (hW : Below w.heap.size w W) => rlists_any qo qa co ca o a W (ho.below hW).fo (ha.below hW).fo ho.sm ha.sm ho.kd ha.kd ho.ln ha.ln)
  have PL1 := hide (fun (W : World) u (hp : PrCells W u (ltP o a)) => prCellsN_at hp)
  have lo := ho.ln
  have la := ha.ln
  have lb := hb.ln
  have c1 := ho.cap
  have c2 := ha.cap
  have c3 := hb.cap
  have C2 := hide (fun W (hW : Below w.heap.size w W) => rlists_any qo qb co cb o b W (ho.below hW).fo (hb.below hW).fo ho.sm hb.sm ho.kd hb.kd ho.ln hb.ln)
  have PL2 := hide (fun (W : World) u (hp : PrCells W u (ltP o b)) => prCellsN_at hp)
  have R1 := hide (ltM_rise o a)
  have R2 := hide (ltM_rise o b)
  have LL1 : (ltM o a).length ≤ 1000 := by have h1 := ltM_len o a; have h2 := ltP_small o a; omega
  have LL2 : (ltM o b).length ≤ 1000 := by have h1 := ltM_len o b; have h2 := ltP_small o b; omega
  have CT := hide (fun q1 q2 d1 d2 W h1 h2 => rtriples_any q1 q2 d1 d2 o.len a.len b.len (ltM o a) (ltM o b) W h1 h2 (unhide R1) (unhide R2) lo la lb LL1 LL2)
  have HUP := hide (ndP_up o a b)
  have hTl := upT_len _ _ _ _ _ _ _ (ndP_up o a b)
  have hfl : (ndP o a b).length ≤ 2001 := by have h1 := ptF_len (smM o a b) o.len a.len b.len (trF (ltM o a) (ltM o b)) 0 0 0; unfold ndP; omega
  have HFL : Hid (ndP o a b = ptF (smM o a b) o.len a.len b.len 0 0 0 (trF (ltM o a) (ltM o b))) := hide rfl
  have HVA := hide (And.intro ho (And.intro ha hb))
  --
  clear ho ha hb
  generalize hT : trF (ltM o a) (ltM o b) = T at *
  generalize ltM o a = L1 at *
  generalize ltM o b = L2 at *
  generalize ltP o a = K1 at *
  generalize ltP o b = K2 at *
  generalize ndP o a b = full at *
  clear hT R1 R2
  have BF := hide (Blk.new w #[.int .i64 0, .int .i64 0, .int .i64 0] 101)
  have HBX : Hid (Below w.heap.size w (w.alloc (Obj.cells #[.int .i64 0, .int .i64 0, .int .i64 0] 101))) := hide ((Below.refl _ _).alloc (Nat.le_refl _) _)
  have hfs : w.heap.size < (w.alloc (Obj.cells #[.int .i64 0, .int .i64 0, .int .i64 0] 101)).heap.size := by simp
  go_enter Tryd.func26, Tryd.ntmps26
  go_wp2_with fail
  refine calls_from (fun X => Below w.heap.size w X ∧ Blk X w.heap.size #[.int .i64 0, .int .i64 0, .int .i64 0] 101) ⟨by first | exact unhide HBX | exact (unhide HBX).drew, by first | exact unhide BF | exact (unhide BF)⟩ ?_
  rintro X ⟨hX, kX⟩
  refine (unhide C1 _ hX).mono ?_
  rintro e w1 ⟨u1, rfl, hp1, hb1⟩
  obtain ⟨q1, d1, rfl, hp1'⟩ := unhide PL1 _ _ (owns_pr hp1)
  have HB1 := hide (tr2 hX hb1)
  have K1 := hide (kX.later hb1)
  have HP1 := hide hp1'
  clear hp1 hp1' hb1 hX kX C1 BF HBX hfs
  go_wp2_with fail
  refine (unhide C2 _ (unhide HB1)).mono ?_
  rintro e w2 ⟨u2, rfl, hp2, hb2⟩
  obtain ⟨q2, d2, rfl, hp2'⟩ := unhide PL2 _ _ (owns_pr hp2)
  have HB2 := hide (tr2 (unhide HB1) hb2)
  have K2 := hide ((unhide K1).later hb2)
  have CT2 := hide (unhide CT q1 q2 d1 d2 w2 ((unhide HP1).below hb2) hp2')
  clear hp2 hp2' hb2 HB1 K1 HP1 C2 CT
  go_wp2_with fail
  refine (unhide CT2).mono ?_
  rintro e w3 ⟨u3, rfl, hp3, hb3⟩
  obtain ⟨tq, tc, rfl, htc⟩ := tris_at hp3
  obtain ⟨tg, rfl, htcell⟩ := htc (by rw [List.length_append]; simp)
  have hgl : w2.heap.size ≤ tg ∧ tg < w3.heap.size := hp3.lt tg (by simp [Value.ownBlock])
  have HB3 := hide (tr2 (unhide HB2) hb3)
  have K3 := hide ((unhide K2).later hb3)
  have hfb : w.heap.size < tg := by have := (unhide K2).lt; omega
  have HTC := hide htcell
  have hTl2 : (T ++ [(o.len, a.len, b.len)]).length = T.length + 1 := by rw [List.length_append]; rfl
  rw [hTl2]
  rw [hTl2] at HTC
  have hTT : ∀ m, m < T.length → (T ++ [(o.len, a.len, b.len)]).getD m (0, 0, 0) = T.getD m (0, 0, 0) := fun m hm => by rw [List.getD, List.getD, List.getElem?_append_left hm]
  have hTE : (T ++ [(o.len, a.len, b.len)]).getD T.length (0, 0, 0) = (o.len, a.len, b.len) := by rw [List.getD, List.getElem?_append_right (Nat.le_refl _), Nat.sub_self]; rfl
  have HTT := hide hTT
  have HTE := hide hTE
  have hz3 := (unhide HB3).size
  clear hp3 hb3 htc htcell CT2 HB2 K2 hTl2 hTT hTE
  go_wp2
  go_loopw [33, 7] (fun x u wr => ∃ m i j k Lm, m ≤ T.length + 1 ∧ x = .int .i64 (m : Int) ∧ RxS w w3 w3.heap.size w.heap.size tg o.len a.len b.len (smM o a b) T full u m i j k Lm wr) (fun x _ _ => T.length + 1 - (intOf x).toNat)
  case atStart => exact ⟨0, 0, 0, 0, [], Nat.zero_le _, rfl, unhide K3, rfl, World.ownsRow_nil _ _ _ _, unhide HB3, Nat.le_refl _, fun _ => ⟨Nat.zero_le _, Nat.zero_le _, Nat.zero_le _, unhide HUP, (unhide HFL).symm⟩, (fun h => by omega), Nat.zero_le _⟩
  case round =>
    clear K3 HUP
    obtain ⟨m, i, j, k, Lm, hm, rfl, hS⟩ := hrel
    obtain ⟨uq, un, uc, hu⟩ := slice_of hS.row
    subst hu
    have HS := hide hS
    by_cases hp : m < T.length + 1
    · have hpi : (m : Int) < (T.length : Int) + 1 := by omega
      obtain ⟨m1, m2, m3, hup, heq⟩ := hS.mid (by omega)
      obtain ⟨t1, t2, t3, ht⟩ : ∃ t1 t2 t3, (T ++ [(o.len, a.len, b.len)]).getD m (0, 0, 0) = (t1, t2, t3) := ⟨_, _, _, rfl⟩
      have hck := unhide HTC m hp
      rw [ht] at hck
      have hfacts : i ≤ t1 ∧ j ≤ t2 ∧ k ≤ t3 ∧ t1 ≤ o.len ∧ t2 ≤ a.len ∧ t3 ≤ b.len := by
        by_cases hlt : m < T.length
        · rw [unhide HTT m hlt] at ht
          have := upT_step hlt hup
          rw [ht] at this
          dsimp only at this
          obtain ⟨x1, x2, x3, x4, x5, x6, _⟩ := this
          exact ⟨x1, x2, x3, by omega, by omega, by omega⟩
        · have : m = T.length := by omega
          subst this
          rw [unhide HTE] at ht
          cases ht
          exact ⟨m1, m2, m3, Nat.le_refl _, Nat.le_refl _, Nat.le_refl _⟩
      obtain ⟨f1, f2, f3, f4, f5, f6⟩ := hfacts
      have k0 : wr.cell? ⟨tg, m * 3, none⟩ = some (.int .i64 (t1 : Int)) := cell_of_same hS.tr (hck 0 (by decide))
      have k1 : wr.cell? ⟨tg, m * 3 + 1, none⟩ = some (.int .i64 (t2 : Int)) := cell_of_same hS.tr (hck 1 (by decide))
      have k2 : wr.cell? ⟨tg, m * 3 + 2, none⟩ = some (.int .i64 (t3 : Int)) := cell_of_same hS.tr (hck 2 (by decide))
      have b0 := hS.fr.cell 0
      have b1 := hS.fr.cell 1
      have b2 := hS.fr.cell 2
      have hfr := hS.fr.lt
      have r1 := run_partN qo o.len co i t1 f1 (by omega)
      have r2 := run_partN qa a.len ca j t2 f2 (by omega)
      have r3 := run_partN qb b.len cb k t3 f3 (by omega)
      have KB := hide (Blk.new wr #[.int .i64 (t1 : Int), .int .i64 (t2 : Int), .int .i64 (t3 : Int)] 101)
      have HWB : Hid (Below wr.heap.size wr (wr.alloc (Obj.cells #[.int .i64 (t1 : Int), .int .i64 (t2 : Int), .int .i64 (t3 : Int)] 101))) := hide ((Below.refl _ _).alloc (Nat.le_refl _) _)
      have KF := hide (hS.fr.alloc (Obj.cells #[.int .i64 (t1 : Int), .int .i64 (t2 : Int), .int .i64 (t3 : Int)] 101))
      have PV : Hid (∀ W, Below wr.heap.size wr W → Fo (fromQ6 qo i co) (subN o i t1) W ∧ Fo (fromQ6 qa j ca) (subN a j t2) W ∧ Fo (fromQ6 qb k cb) (subN b k t3) W) := hide (fun W hW => by
        have hw := tr2 hS.bl hW
        exact ⟨(fo_part (unhide HVA).1.fo f1 f4 c1).below hw, (fo_part (unhide HVA).2.1.fo f2 f5 c2).below hw, (fo_part (unhide HVA).2.2.fo f3 f6 c3).below hw⟩)
      have e1 := subN_len o i t1 f1 f4
      have e2 := subN_len a j t2 f2 f5
      have e3 := subN_len b k t3 f3 f6
      have Q1 := hide (fun W hW => by
        have X := nodes_any (subN o i t1).count (subN o i t1) (Nat.le_refl _) (Nat.le_trans (subN_count _ _ _) (Nat.le_trans (unhide HVA).1.ct (by decide))) (subN_small _ _ _ (unhide HVA).1.sm) (subN a j t2) _ _ (co - i) (ca - j) W (unhide PV W hW).1 (unhide PV W hW).2.1 (subN_small _ _ _ (unhide HVA).2.1.sm) (by omega)
        rw [e1, e2] at X
        exact X)
      have Q2 := hide (fun W hW => by
        have X := nodes_any (subN o i t1).count (subN o i t1) (Nat.le_refl _) (Nat.le_trans (subN_count _ _ _) (Nat.le_trans (unhide HVA).1.ct (by decide))) (subN_small _ _ _ (unhide HVA).1.sm) (subN b k t3) _ _ (co - i) (cb - k) W (unhide PV W hW).1 (unhide PV W hW).2.2 (subN_small _ _ _ (unhide HVA).2.2.sm) (by omega)
        rw [e1, e3] at X
        exact X)
      have Q3 := hide (fun W hW => by
        have X := nodes_any (subN a j t2).count (subN a j t2) (Nat.le_refl _) (Nat.le_trans (subN_count _ _ _) (Nat.le_trans (unhide HVA).2.1.ct (by decide))) (subN_small _ _ _ (unhide HVA).2.1.sm) (subN b k t3) _ _ (ca - j) (cb - k) W (unhide PV W hW).2.1 (unhide PV W hW).2.2 (subN_small _ _ _ (unhide HVA).2.2.sm) (by omega)
        rw [e2, e3] at X
        exact X)
      have HKD : Hid (kdF (smM o a b) i t1 j t2 k t3 = kd3 (sameF (subN o i t1) (subN a j t2)) (sameF (subN o i t1) (subN b k t3)) (sameF (subN a j t2) (subN b k t3))) := hide (by rw [sameF_comm (subN o i t1) (subN a j t2), sameF_comm (subN o i t1) (subN b k t3)]; rfl)
      have Q4 := hide (fun W => kind_any (sameF (subN o i t1) (subN a j t2)) (sameF (subN o i t1) (subN b k t3)) (sameF (subN a j t2) (subN b k t3)) W)
      have hkd5 := kd3_ge (sameF (subN o i t1) (subN a j t2)) (sameF (subN o i t1) (subN b k t3)) (sameF (subN a j t2) (subN b k t3))
      generalize kd3 (sameF (subN o i t1) (subN a j t2)) (sameF (subN o i t1) (subN b k t3)) (sameF (subN a j t2) (subN b k t3)) = kd at *
      generalize sameF (subN o i t1) (subN a j t2) = x1 at *
      generalize sameF (subN o i t1) (subN b k t3) = x2 at *
      generalize sameF (subN a j t2) (subN b k t3) = x3 at *
      clear hS hck PV e1 e2 e3
      go_upto_region 10 with fail
      generalize wr.alloc (Obj.cells #[.int .i64 (t1 : Int), .int .i64 (t2 : Int), .int .i64 (t3 : Int)] 101) = WB at *
      go_cut [15] from 56 to 68 (fun p wx => ∃ pb, p = .pointer (some ⟨pb, 0, none⟩) ∧ Blk wx pb #[.int .i64 (kd : Int), .int .i64 (i : Int), .int .i64 (j : Int), .int .i64 (k : Int), .int .i64 (t1 : Int), .int .i64 (t2 : Int), .int .i64 (t3 : Int)] 103 ∧ Below WB.heap.size WB wx ∧ WB.heap.size ≤ pb)
      case first =>
        --REGION
        clear k0 k1 k2 b0 b1 b2 HVA HTC HTT HTE r1 r2 r3
        have hSa : SxR WB w.heap.size wr.heap.size (i : Int) (j : Int) (k : Int) (t1 : Int) (t2 : Int) (t3 : Int) WB.drew := ⟨below_draws WB 1, (unhide KF).cell 0, (unhide KF).cell 1, (unhide KF).cell 2, (unhide KB).cell 0, (unhide KB).cell 1, (unhide KB).cell 2⟩
        refine wp_region_held (S := SxR WB w.heap.size wr.heap.size (i : Int) (j : Int) (k : Int) (t1 : Int) (t2 : Int) (t3 : Int)) (by kernel_rfl) ?_
        change wpAnyH _ _ _ _ _ _ _ _ (World.drew _)
        refine wpAnyH_take (i := 0) (oi := { dst := some 56, op := _, type := _, pos := _, after := _, guard := _ }) (v := ?va0_1) rfl (by kernel_rfl) (by kernel_rfl) (by kernel_rfl) (fun _ _ _ h => h) (Or.inl ⟨by kernel_rfl, ?ha0_1⟩) hSa ?ra0_1
        case ha0_1 => first | (intro w hSw; obtain ⟨s0, s1, s2, s3, s4, s5, s6⟩ := hSw; go_simp; done) | (intro w hSw; obtain ⟨s0, s1, s2, s3, s4, s5, s6⟩ := hSw; go_simp; with_reducible rfl)
        try simp only [Act.put, List.setIfInBounds_toArray, List.set_cons_zero, List.set_cons_succ]
        refine wpAnyH_take (i := 1) (oi := { dst := some 57, op := _, type := _, pos := _, after := _, guard := _ }) (v := ?va1_2) rfl (by kernel_rfl) (by kernel_rfl) (by kernel_rfl) (fun _ _ _ h => h) (Or.inl ⟨by kernel_rfl, ?ha1_2⟩) hSa ?ra1_2
        case ha1_2 => first | (intro w hSw; obtain ⟨s0, s1, s2, s3, s4, s5, s6⟩ := hSw; go_simp; done) | (intro w hSw; obtain ⟨s0, s1, s2, s3, s4, s5, s6⟩ := hSw; go_simp; with_reducible rfl)
        try simp only [Act.put, List.setIfInBounds_toArray, List.set_cons_zero, List.set_cons_succ]
        refine wpAnyH_take (i := 3) (oi := { dst := some 59, op := _, type := _, pos := _, after := _, guard := _ }) (v := ?va3_3) rfl (by kernel_rfl) (by kernel_rfl) (by kernel_rfl) (fun _ _ _ h => h) (Or.inl ⟨by kernel_rfl, ?ha3_3⟩) hSa ?ra3_3
        case ha3_3 => first | (intro w hSw; obtain ⟨s0, s1, s2, s3, s4, s5, s6⟩ := hSw; go_simp; done) | (intro w hSw; obtain ⟨s0, s1, s2, s3, s4, s5, s6⟩ := hSw; go_simp; with_reducible rfl)
        try simp only [Act.put, List.setIfInBounds_toArray, List.set_cons_zero, List.set_cons_succ]
        refine wpAnyH_take (i := 4) (oi := { dst := some 60, op := _, type := _, pos := _, after := _, guard := _ }) (v := ?va4_4) rfl (by kernel_rfl) (by kernel_rfl) (by kernel_rfl) (fun _ _ _ h => h) (Or.inl ⟨by kernel_rfl, ?ha4_4⟩) hSa ?ra4_4
        case ha4_4 => first | (intro w hSw; obtain ⟨s0, s1, s2, s3, s4, s5, s6⟩ := hSw; go_simp; done) | (intro w hSw; obtain ⟨s0, s1, s2, s3, s4, s5, s6⟩ := hSw; go_simp; with_reducible rfl)
        try simp only [Act.put, List.setIfInBounds_toArray, List.set_cons_zero, List.set_cons_succ]
        refine wpAnyH_take (i := 6) (oi := { dst := some 62, op := _, type := _, pos := _, after := _, guard := _ }) (v := ?va6_5) rfl (by kernel_rfl) (by kernel_rfl) (by kernel_rfl) (fun _ _ _ h => h) (Or.inl ⟨by kernel_rfl, ?ha6_5⟩) hSa ?ra6_5
        case ha6_5 => first | (intro w hSw; obtain ⟨s0, s1, s2, s3, s4, s5, s6⟩ := hSw; go_simp; done) | (intro w hSw; obtain ⟨s0, s1, s2, s3, s4, s5, s6⟩ := hSw; go_simp; with_reducible rfl)
        try simp only [Act.put, List.setIfInBounds_toArray, List.set_cons_zero, List.set_cons_succ]
        refine wpAnyH_take (i := 7) (oi := { dst := some 63, op := _, type := _, pos := _, after := _, guard := _ }) (v := ?va7_6) rfl (by kernel_rfl) (by kernel_rfl) (by kernel_rfl) (fun _ _ _ h => h) (Or.inl ⟨by kernel_rfl, ?ha7_6⟩) hSa ?ra7_6
        case ha7_6 => first | (intro w hSw; obtain ⟨s0, s1, s2, s3, s4, s5, s6⟩ := hSw; go_simp; done) | (intro w hSw; obtain ⟨s0, s1, s2, s3, s4, s5, s6⟩ := hSw; go_simp; with_reducible rfl)
        try simp only [Act.put, List.setIfInBounds_toArray, List.set_cons_zero, List.set_cons_succ]
        refine wpAnyH_take (i := 10) (oi := { dst := some 66, op := _, type := _, pos := _, after := _, guard := _ }) (v := ?va10_7) rfl (by kernel_rfl) (by kernel_rfl) (by kernel_rfl) (fun _ _ _ h => h) (Or.inl ⟨by kernel_rfl, ?ha10_7⟩) hSa ?ra10_7
        case ha10_7 => first | (intro w hSw; obtain ⟨s0, s1, s2, s3, s4, s5, s6⟩ := hSw; go_simp; done) | (intro w hSw; obtain ⟨s0, s1, s2, s3, s4, s5, s6⟩ := hSw; go_simp; with_reducible rfl)
        try simp only [Act.put, List.setIfInBounds_toArray, List.set_cons_zero, List.set_cons_succ]
        refine wpAnyH_take (i := 11) (oi := { dst := some 67, op := _, type := _, pos := _, after := _, guard := _ }) (v := ?va11_8) rfl (by kernel_rfl) (by kernel_rfl) (by kernel_rfl) (fun _ _ _ h => h) (Or.inl ⟨by kernel_rfl, ?ha11_8⟩) hSa ?ra11_8
        case ha11_8 => first | (intro w hSw; obtain ⟨s0, s1, s2, s3, s4, s5, s6⟩ := hSw; go_simp; done) | (intro w hSw; obtain ⟨s0, s1, s2, s3, s4, s5, s6⟩ := hSw; go_simp; with_reducible rfl)
        try simp only [Act.put, List.setIfInBounds_toArray, List.set_cons_zero, List.set_cons_succ]
        refine wpAnyH_ready (rs := [2, 13]) (by kernel_rfl) (by simp) ?_
        refine AllReadyH.cons rfl (fun KK hK => ?_) (AllReadyH.cons rfl (fun KK hK => ?_) AllReadyH.nil)
        · go_simp
          refine (unhide Q1 _ (tr2 (unhide HWB) hSa.1)).mono ?_
          rintro e9 z58 ⟨rfl, hb9⟩
          have hSa' := SxR.below hSa hb9
          clear hb9
          refine hK _ _ hSa' (fun _ => ?_)
          clear hK KK hSa
          have hSa := hSa'
          clear hSa'
          refine wpAnyH_ready (rs := [5, 13]) (by kernel_rfl) (by simp) ?_
          refine AllReadyH.cons rfl (fun KK hK => ?_) (AllReadyH.cons rfl (fun KK hK => ?_) AllReadyH.nil)
          · go_simp
            refine (unhide Q2 _ (tr2 (unhide HWB) hSa.1)).mono ?_
            rintro e9 z61 ⟨rfl, hb9⟩
            have hSa' := SxR.below hSa hb9
            clear hb9
            refine hK _ _ hSa' (fun _ => ?_)
            clear hK KK hSa
            have hSa := hSa'
            clear hSa'
            refine wpAnyH_ready (rs := [8, 13]) (by kernel_rfl) (by simp) ?_
            refine AllReadyH.cons rfl (fun KK hK => ?_) (AllReadyH.cons rfl (fun KK hK => ?_) AllReadyH.nil)
            · go_simp
              refine (unhide Q3 _ (tr2 (unhide HWB) hSa.1)).mono ?_
              rintro e9 z64 ⟨rfl, hb9⟩
              have hSa' := SxR.below hSa hb9
              clear hb9
              refine hK _ _ hSa' (fun _ => ?_)
              clear hK KK hSa
              have hSa := hSa'
              clear hSa'
              refine wpAnyH_ready (rs := [9, 13]) (by kernel_rfl) (by simp) ?_
              refine AllReadyH.cons rfl (fun KK hK => ?_) (AllReadyH.cons rfl (fun KK hK => ?_) AllReadyH.nil)
              · go_simp
                refine (unhide Q4 _).mono ?_
                rintro e9 z65 ⟨rfl, hb9⟩
                have hSa' := SxR.below hSa hb9
                clear hb9
                refine hK _ _ hSa' (fun _ => ?_)
                clear hK KK hSa
                have hSa := hSa'
                clear hSa'
                refine wpAnyH_take (i := 12) (oi := { dst := some 68, op := _, type := _, pos := _, after := _, guard := _ }) (v := ?va12_9) rfl (by kernel_rfl) (by kernel_rfl) (by kernel_rfl) (fun _ _ _ h => h) (Or.inl ⟨by kernel_rfl, ?ha12_9⟩) hSa ?ra12_9
                case ha12_9 => first | (intro w hSw; obtain ⟨s0, s1, s2, s3, s4, s5, s6⟩ := hSw; go_simp; done) | (intro w hSw; obtain ⟨s0, s1, s2, s3, s4, s5, s6⟩ := hSw; go_simp; with_reducible rfl)
                try simp only [Act.put, List.setIfInBounds_toArray, List.set_cons_zero, List.set_cons_succ]
                refine wpAnyH_ready (rs := [13]) (by kernel_rfl) (by simp) ?_
                refine AllReadyH.cons rfl (fun KK hK => ?_) AllReadyH.nil
                go_simp
                have hSa0 := hSa
                have hSa' := SxR.below hSa ((Below.refl _ _).alloc (Nat.le_refl _) (Obj.cells #[.int .i64 0, .int .i64 0, .int .i64 0, .int .i64 0, .int .i64 0, .int .i64 0, .int .i64 0] 103))
                have KP : Hid (Blk (z65.alloc (Obj.cells #[.int .i64 0, .int .i64 0, .int .i64 0, .int .i64 0, .int .i64 0, .int .i64 0, .int .i64 0] 103)) z65.heap.size #[.int .i64 0, .int .i64 0, .int .i64 0, .int .i64 0, .int .i64 0, .int .i64 0, .int .i64 0] 103) := hide (Blk.new z65 #[.int .i64 0, .int .i64 0, .int .i64 0, .int .i64 0, .int .i64 0, .int .i64 0, .int .i64 0] 103)
                have HPB : Hid (WB.heap.size ≤ z65.heap.size) := hide hSa.1.size
                refine hK _ _ hSa' (fun _ => ?_)
                clear hK KK hSa
                have hSa := hSa'
                clear hSa'
                refine wpAnyH_ready (rs := [14]) (by kernel_rfl) (by simp) ?_
                refine AllReadyH.cons rfl (fun KK hK => ?_) AllReadyH.nil
                have p0 := (unhide KP).cell 0
                have p1 := (unhide KP).cell 1
                have p2 := (unhide KP).cell 2
                have p3 := (unhide KP).cell 3
                have p4 := (unhide KP).cell 4
                have p5 := (unhide KP).cell 5
                have p6 := (unhide KP).cell 6
                have g0 := (unhide KP).frozen 0
                have g1 := (unhide KP).frozen 1
                have g2 := (unhide KP).frozen 2
                have g3 := (unhide KP).frozen 3
                have g4 := (unhide KP).frozen 4
                have g5 := (unhide KP).frozen 5
                have g6 := (unhide KP).frozen 6
                go_simp
                have HBLK : Hid (Blk (z65.alloc (Obj.cells #[.int .i64 (kd : Int), .int .i64 (i : Int), .int .i64 (j : Int), .int .i64 (k : Int), .int .i64 (t1 : Int), .int .i64 (t2 : Int), .int .i64 (t3 : Int)] 103)) z65.heap.size #[.int .i64 (kd : Int), .int .i64 (i : Int), .int .i64 (j : Int), .int .i64 (k : Int), .int .i64 (t1 : Int), .int .i64 (t2 : Int), .int .i64 (t3 : Int)] 103) := hide (Blk.new z65 #[.int .i64 (kd : Int), .int .i64 (i : Int), .int .i64 (j : Int), .int .i64 (k : Int), .int .i64 (t1 : Int), .int .i64 (t2 : Int), .int .i64 (t3 : Int)] 103)
                have hSa' : SxR WB w.heap.size wr.heap.size (i : Int) (j : Int) (k : Int) (t1 : Int) (t2 : Int) (t3 : Int) (z65.alloc (Obj.cells #[.int .i64 (kd : Int), .int .i64 (i : Int), .int .i64 (j : Int), .int .i64 (k : Int), .int .i64 (t1 : Int), .int .i64 (t2 : Int), .int .i64 (t3 : Int)] 103)) := SxR.below hSa0 ((Below.refl _ _).alloc (Nat.le_refl _) _)
                refine hK _ _ hSa' (fun _ => ?_)
                clear hK KK hSa
                have hSa := hSa'
                clear hSa'
                refine wpAnyH_done (by kernel_rfl) ?_ _
                try simp only [Act.put, List.setIfInBounds_toArray, List.set_cons_zero, List.set_cons_succ]
                go_wp2_with fail
                go_meet
                case rel => exact ⟨_, rfl, unhide HBLK, hSa.1, unhide HPB⟩
              · go_simp
                have hSa0 := hSa
                have hSa' := SxR.below hSa ((Below.refl _ _).alloc (Nat.le_refl _) (Obj.cells #[.int .i64 0, .int .i64 0, .int .i64 0, .int .i64 0, .int .i64 0, .int .i64 0, .int .i64 0] 103))
                have KP : Hid (Blk (z64.alloc (Obj.cells #[.int .i64 0, .int .i64 0, .int .i64 0, .int .i64 0, .int .i64 0, .int .i64 0, .int .i64 0] 103)) z64.heap.size #[.int .i64 0, .int .i64 0, .int .i64 0, .int .i64 0, .int .i64 0, .int .i64 0, .int .i64 0] 103) := hide (Blk.new z64 #[.int .i64 0, .int .i64 0, .int .i64 0, .int .i64 0, .int .i64 0, .int .i64 0, .int .i64 0] 103)
                have HPB : Hid (WB.heap.size ≤ z64.heap.size) := hide hSa.1.size
                refine hK _ _ hSa' (fun _ => ?_)
                clear hK KK hSa
                have hSa := hSa'
                clear hSa'
                refine wpAnyH_ready (rs := [9]) (by kernel_rfl) (by simp) ?_
                refine AllReadyH.cons rfl (fun KK hK => ?_) AllReadyH.nil
                go_simp
                refine (unhide Q4 _).mono ?_
                rintro e9 z65 ⟨rfl, hb9⟩
                have hSa' := SxR.below hSa hb9
                have KP2 := hide ((unhide KP).later hb9)
                clear KP
                have KP := KP2
                clear KP2
                clear hb9
                refine hK _ _ hSa' (fun _ => ?_)
                clear hK KK hSa
                have hSa := hSa'
                clear hSa'
                refine wpAnyH_take (i := 12) (oi := { dst := some 68, op := _, type := _, pos := _, after := _, guard := _ }) (v := ?va12_10) rfl (by kernel_rfl) (by kernel_rfl) (by kernel_rfl) (fun _ _ _ h => h) (Or.inl ⟨by kernel_rfl, ?ha12_10⟩) hSa ?ra12_10
                case ha12_10 => first | (intro w hSw; obtain ⟨s0, s1, s2, s3, s4, s5, s6⟩ := hSw; go_simp; done) | (intro w hSw; obtain ⟨s0, s1, s2, s3, s4, s5, s6⟩ := hSw; go_simp; with_reducible rfl)
                try simp only [Act.put, List.setIfInBounds_toArray, List.set_cons_zero, List.set_cons_succ]
                refine wpAnyH_ready (rs := [14]) (by kernel_rfl) (by simp) ?_
                refine AllReadyH.cons rfl (fun KK hK => ?_) AllReadyH.nil
                have p0 := (unhide KP).cell 0
                have p1 := (unhide KP).cell 1
                have p2 := (unhide KP).cell 2
                have p3 := (unhide KP).cell 3
                have p4 := (unhide KP).cell 4
                have p5 := (unhide KP).cell 5
                have p6 := (unhide KP).cell 6
                have g0 := (unhide KP).frozen 0
                have g1 := (unhide KP).frozen 1
                have g2 := (unhide KP).frozen 2
                have g3 := (unhide KP).frozen 3
                have g4 := (unhide KP).frozen 4
                have g5 := (unhide KP).frozen 5
                have g6 := (unhide KP).frozen 6
                have HNE : z64.heap.size ≠ w.heap.size ∧ z64.heap.size ≠ wr.heap.size ∧ WB.heap.size ≤ z64.heap.size := by have h1 := (unhide KF).lt; have h2 := (unhide KB).lt; have h3 := unhide HPB; exact ⟨by omega, by omega, h3⟩
                go_simp
                have HBLK : Hid (Blk (((((((z65.setCell ⟨z64.heap.size, 0, none⟩ (.int .i64 (kd : Int))).setCell ⟨z64.heap.size, 1, none⟩ (.int .i64 (i : Int))).setCell ⟨z64.heap.size, 2, none⟩ (.int .i64 (j : Int))).setCell ⟨z64.heap.size, 3, none⟩ (.int .i64 (k : Int))).setCell ⟨z64.heap.size, 4, none⟩ (.int .i64 (t1 : Int))).setCell ⟨z64.heap.size, 5, none⟩ (.int .i64 (t2 : Int))).setCell ⟨z64.heap.size, 6, none⟩ (.int .i64 (t3 : Int))) z64.heap.size #[.int .i64 (kd : Int), .int .i64 (i : Int), .int .i64 (j : Int), .int .i64 (k : Int), .int .i64 (t1 : Int), .int .i64 (t2 : Int), .int .i64 (t3 : Int)] 103) := hide (((((((((unhide KP).set 0 (by decide) (.int .i64 (kd : Int))).set 1 (by simp) (.int .i64 (i : Int))).set 2 (by simp) (.int .i64 (j : Int))).set 3 (by simp) (.int .i64 (k : Int))).set 4 (by simp) (.int .i64 (t1 : Int))).set 5 (by simp) (.int .i64 (t2 : Int))).set 6 (by simp) (.int .i64 (t3 : Int))))
                have hSa' : SxR WB w.heap.size wr.heap.size (i : Int) (j : Int) (k : Int) (t1 : Int) (t2 : Int) (t3 : Int) (((((((z65.setCell ⟨z64.heap.size, 0, none⟩ (.int .i64 (kd : Int))).setCell ⟨z64.heap.size, 1, none⟩ (.int .i64 (i : Int))).setCell ⟨z64.heap.size, 2, none⟩ (.int .i64 (j : Int))).setCell ⟨z64.heap.size, 3, none⟩ (.int .i64 (k : Int))).setCell ⟨z64.heap.size, 4, none⟩ (.int .i64 (t1 : Int))).setCell ⟨z64.heap.size, 5, none⟩ (.int .i64 (t2 : Int))).setCell ⟨z64.heap.size, 6, none⟩ (.int .i64 (t3 : Int))) := (SxR.set (SxR.set (SxR.set (SxR.set (SxR.set (SxR.set (SxR.set hSa HNE 0 (.int .i64 (kd : Int))) HNE 1 (.int .i64 (i : Int))) HNE 2 (.int .i64 (j : Int))) HNE 3 (.int .i64 (k : Int))) HNE 4 (.int .i64 (t1 : Int))) HNE 5 (.int .i64 (t2 : Int))) HNE 6 (.int .i64 (t3 : Int)))
                refine hK _ _ hSa' (fun _ => ?_)
                clear hK KK hSa
                have hSa := hSa'
                clear hSa'
                refine wpAnyH_done (by kernel_rfl) ?_ _
                try simp only [Act.put, List.setIfInBounds_toArray, List.set_cons_zero, List.set_cons_succ]
                go_wp2_with fail
                go_meet
                case rel => exact ⟨_, rfl, unhide HBLK, hSa.1, unhide HPB⟩
            · go_simp
              have hSa0 := hSa
              have hSa' := SxR.below hSa ((Below.refl _ _).alloc (Nat.le_refl _) (Obj.cells #[.int .i64 0, .int .i64 0, .int .i64 0, .int .i64 0, .int .i64 0, .int .i64 0, .int .i64 0] 103))
              have KP : Hid (Blk (z61.alloc (Obj.cells #[.int .i64 0, .int .i64 0, .int .i64 0, .int .i64 0, .int .i64 0, .int .i64 0, .int .i64 0] 103)) z61.heap.size #[.int .i64 0, .int .i64 0, .int .i64 0, .int .i64 0, .int .i64 0, .int .i64 0, .int .i64 0] 103) := hide (Blk.new z61 #[.int .i64 0, .int .i64 0, .int .i64 0, .int .i64 0, .int .i64 0, .int .i64 0, .int .i64 0] 103)
              have HPB : Hid (WB.heap.size ≤ z61.heap.size) := hide hSa.1.size
              refine hK _ _ hSa' (fun _ => ?_)
              clear hK KK hSa
              have hSa := hSa'
              clear hSa'
              refine wpAnyH_ready (rs := [8]) (by kernel_rfl) (by simp) ?_
              refine AllReadyH.cons rfl (fun KK hK => ?_) AllReadyH.nil
              go_simp
              refine (unhide Q3 _ (tr2 (unhide HWB) hSa.1)).mono ?_
              rintro e9 z64 ⟨rfl, hb9⟩
              have hSa' := SxR.below hSa hb9
              have KP2 := hide ((unhide KP).later hb9)
              clear KP
              have KP := KP2
              clear KP2
              clear hb9
              refine hK _ _ hSa' (fun _ => ?_)
              clear hK KK hSa
              have hSa := hSa'
              clear hSa'
              refine wpAnyH_ready (rs := [9]) (by kernel_rfl) (by simp) ?_
              refine AllReadyH.cons rfl (fun KK hK => ?_) AllReadyH.nil
              go_simp
              refine (unhide Q4 _).mono ?_
              rintro e9 z65 ⟨rfl, hb9⟩
              have hSa' := SxR.below hSa hb9
              have KP2 := hide ((unhide KP).later hb9)
              clear KP
              have KP := KP2
              clear KP2
              clear hb9
              refine hK _ _ hSa' (fun _ => ?_)
              clear hK KK hSa
              have hSa := hSa'
              clear hSa'
              refine wpAnyH_take (i := 12) (oi := { dst := some 68, op := _, type := _, pos := _, after := _, guard := _ }) (v := ?va12_11) rfl (by kernel_rfl) (by kernel_rfl) (by kernel_rfl) (fun _ _ _ h => h) (Or.inl ⟨by kernel_rfl, ?ha12_11⟩) hSa ?ra12_11
              case ha12_11 => first | (intro w hSw; obtain ⟨s0, s1, s2, s3, s4, s5, s6⟩ := hSw; go_simp; done) | (intro w hSw; obtain ⟨s0, s1, s2, s3, s4, s5, s6⟩ := hSw; go_simp; with_reducible rfl)
              try simp only [Act.put, List.setIfInBounds_toArray, List.set_cons_zero, List.set_cons_succ]
              refine wpAnyH_ready (rs := [14]) (by kernel_rfl) (by simp) ?_
              refine AllReadyH.cons rfl (fun KK hK => ?_) AllReadyH.nil
              have p0 := (unhide KP).cell 0
              have p1 := (unhide KP).cell 1
              have p2 := (unhide KP).cell 2
              have p3 := (unhide KP).cell 3
              have p4 := (unhide KP).cell 4
              have p5 := (unhide KP).cell 5
              have p6 := (unhide KP).cell 6
              have g0 := (unhide KP).frozen 0
              have g1 := (unhide KP).frozen 1
              have g2 := (unhide KP).frozen 2
              have g3 := (unhide KP).frozen 3
              have g4 := (unhide KP).frozen 4
              have g5 := (unhide KP).frozen 5
              have g6 := (unhide KP).frozen 6
              have HNE : z61.heap.size ≠ w.heap.size ∧ z61.heap.size ≠ wr.heap.size ∧ WB.heap.size ≤ z61.heap.size := by have h1 := (unhide KF).lt; have h2 := (unhide KB).lt; have h3 := unhide HPB; exact ⟨by omega, by omega, h3⟩
              go_simp
              have HBLK : Hid (Blk (((((((z65.setCell ⟨z61.heap.size, 0, none⟩ (.int .i64 (kd : Int))).setCell ⟨z61.heap.size, 1, none⟩ (.int .i64 (i : Int))).setCell ⟨z61.heap.size, 2, none⟩ (.int .i64 (j : Int))).setCell ⟨z61.heap.size, 3, none⟩ (.int .i64 (k : Int))).setCell ⟨z61.heap.size, 4, none⟩ (.int .i64 (t1 : Int))).setCell ⟨z61.heap.size, 5, none⟩ (.int .i64 (t2 : Int))).setCell ⟨z61.heap.size, 6, none⟩ (.int .i64 (t3 : Int))) z61.heap.size #[.int .i64 (kd : Int), .int .i64 (i : Int), .int .i64 (j : Int), .int .i64 (k : Int), .int .i64 (t1 : Int), .int .i64 (t2 : Int), .int .i64 (t3 : Int)] 103) := hide (((((((((unhide KP).set 0 (by decide) (.int .i64 (kd : Int))).set 1 (by simp) (.int .i64 (i : Int))).set 2 (by simp) (.int .i64 (j : Int))).set 3 (by simp) (.int .i64 (k : Int))).set 4 (by simp) (.int .i64 (t1 : Int))).set 5 (by simp) (.int .i64 (t2 : Int))).set 6 (by simp) (.int .i64 (t3 : Int))))
              have hSa' : SxR WB w.heap.size wr.heap.size (i : Int) (j : Int) (k : Int) (t1 : Int) (t2 : Int) (t3 : Int) (((((((z65.setCell ⟨z61.heap.size, 0, none⟩ (.int .i64 (kd : Int))).setCell ⟨z61.heap.size, 1, none⟩ (.int .i64 (i : Int))).setCell ⟨z61.heap.size, 2, none⟩ (.int .i64 (j : Int))).setCell ⟨z61.heap.size, 3, none⟩ (.int .i64 (k : Int))).setCell ⟨z61.heap.size, 4, none⟩ (.int .i64 (t1 : Int))).setCell ⟨z61.heap.size, 5, none⟩ (.int .i64 (t2 : Int))).setCell ⟨z61.heap.size, 6, none⟩ (.int .i64 (t3 : Int))) := (SxR.set (SxR.set (SxR.set (SxR.set (SxR.set (SxR.set (SxR.set hSa HNE 0 (.int .i64 (kd : Int))) HNE 1 (.int .i64 (i : Int))) HNE 2 (.int .i64 (j : Int))) HNE 3 (.int .i64 (k : Int))) HNE 4 (.int .i64 (t1 : Int))) HNE 5 (.int .i64 (t2 : Int))) HNE 6 (.int .i64 (t3 : Int)))
              refine hK _ _ hSa' (fun _ => ?_)
              clear hK KK hSa
              have hSa := hSa'
              clear hSa'
              refine wpAnyH_done (by kernel_rfl) ?_ _
              try simp only [Act.put, List.setIfInBounds_toArray, List.set_cons_zero, List.set_cons_succ]
              go_wp2_with fail
              go_meet
              case rel => exact ⟨_, rfl, unhide HBLK, hSa.1, unhide HPB⟩
          · go_simp
            have hSa0 := hSa
            have hSa' := SxR.below hSa ((Below.refl _ _).alloc (Nat.le_refl _) (Obj.cells #[.int .i64 0, .int .i64 0, .int .i64 0, .int .i64 0, .int .i64 0, .int .i64 0, .int .i64 0] 103))
            have KP : Hid (Blk (z58.alloc (Obj.cells #[.int .i64 0, .int .i64 0, .int .i64 0, .int .i64 0, .int .i64 0, .int .i64 0, .int .i64 0] 103)) z58.heap.size #[.int .i64 0, .int .i64 0, .int .i64 0, .int .i64 0, .int .i64 0, .int .i64 0, .int .i64 0] 103) := hide (Blk.new z58 #[.int .i64 0, .int .i64 0, .int .i64 0, .int .i64 0, .int .i64 0, .int .i64 0, .int .i64 0] 103)
            have HPB : Hid (WB.heap.size ≤ z58.heap.size) := hide hSa.1.size
            refine hK _ _ hSa' (fun _ => ?_)
            clear hK KK hSa
            have hSa := hSa'
            clear hSa'
            refine wpAnyH_ready (rs := [5]) (by kernel_rfl) (by simp) ?_
            refine AllReadyH.cons rfl (fun KK hK => ?_) AllReadyH.nil
            go_simp
            refine (unhide Q2 _ (tr2 (unhide HWB) hSa.1)).mono ?_
            rintro e9 z61 ⟨rfl, hb9⟩
            have hSa' := SxR.below hSa hb9
            have KP2 := hide ((unhide KP).later hb9)
            clear KP
            have KP := KP2
            clear KP2
            clear hb9
            refine hK _ _ hSa' (fun _ => ?_)
            clear hK KK hSa
            have hSa := hSa'
            clear hSa'
            refine wpAnyH_ready (rs := [8]) (by kernel_rfl) (by simp) ?_
            refine AllReadyH.cons rfl (fun KK hK => ?_) AllReadyH.nil
            go_simp
            refine (unhide Q3 _ (tr2 (unhide HWB) hSa.1)).mono ?_
            rintro e9 z64 ⟨rfl, hb9⟩
            have hSa' := SxR.below hSa hb9
            have KP2 := hide ((unhide KP).later hb9)
            clear KP
            have KP := KP2
            clear KP2
            clear hb9
            refine hK _ _ hSa' (fun _ => ?_)
            clear hK KK hSa
            have hSa := hSa'
            clear hSa'
            refine wpAnyH_ready (rs := [9]) (by kernel_rfl) (by simp) ?_
            refine AllReadyH.cons rfl (fun KK hK => ?_) AllReadyH.nil
            go_simp
            refine (unhide Q4 _).mono ?_
            rintro e9 z65 ⟨rfl, hb9⟩
            have hSa' := SxR.below hSa hb9
            have KP2 := hide ((unhide KP).later hb9)
            clear KP
            have KP := KP2
            clear KP2
            clear hb9
            refine hK _ _ hSa' (fun _ => ?_)
            clear hK KK hSa
            have hSa := hSa'
            clear hSa'
            refine wpAnyH_take (i := 12) (oi := { dst := some 68, op := _, type := _, pos := _, after := _, guard := _ }) (v := ?va12_12) rfl (by kernel_rfl) (by kernel_rfl) (by kernel_rfl) (fun _ _ _ h => h) (Or.inl ⟨by kernel_rfl, ?ha12_12⟩) hSa ?ra12_12
            case ha12_12 => first | (intro w hSw; obtain ⟨s0, s1, s2, s3, s4, s5, s6⟩ := hSw; go_simp; done) | (intro w hSw; obtain ⟨s0, s1, s2, s3, s4, s5, s6⟩ := hSw; go_simp; with_reducible rfl)
            try simp only [Act.put, List.setIfInBounds_toArray, List.set_cons_zero, List.set_cons_succ]
            refine wpAnyH_ready (rs := [14]) (by kernel_rfl) (by simp) ?_
            refine AllReadyH.cons rfl (fun KK hK => ?_) AllReadyH.nil
            have p0 := (unhide KP).cell 0
            have p1 := (unhide KP).cell 1
            have p2 := (unhide KP).cell 2
            have p3 := (unhide KP).cell 3
            have p4 := (unhide KP).cell 4
            have p5 := (unhide KP).cell 5
            have p6 := (unhide KP).cell 6
            have g0 := (unhide KP).frozen 0
            have g1 := (unhide KP).frozen 1
            have g2 := (unhide KP).frozen 2
            have g3 := (unhide KP).frozen 3
            have g4 := (unhide KP).frozen 4
            have g5 := (unhide KP).frozen 5
            have g6 := (unhide KP).frozen 6
            have HNE : z58.heap.size ≠ w.heap.size ∧ z58.heap.size ≠ wr.heap.size ∧ WB.heap.size ≤ z58.heap.size := by have h1 := (unhide KF).lt; have h2 := (unhide KB).lt; have h3 := unhide HPB; exact ⟨by omega, by omega, h3⟩
            go_simp
            have HBLK : Hid (Blk (((((((z65.setCell ⟨z58.heap.size, 0, none⟩ (.int .i64 (kd : Int))).setCell ⟨z58.heap.size, 1, none⟩ (.int .i64 (i : Int))).setCell ⟨z58.heap.size, 2, none⟩ (.int .i64 (j : Int))).setCell ⟨z58.heap.size, 3, none⟩ (.int .i64 (k : Int))).setCell ⟨z58.heap.size, 4, none⟩ (.int .i64 (t1 : Int))).setCell ⟨z58.heap.size, 5, none⟩ (.int .i64 (t2 : Int))).setCell ⟨z58.heap.size, 6, none⟩ (.int .i64 (t3 : Int))) z58.heap.size #[.int .i64 (kd : Int), .int .i64 (i : Int), .int .i64 (j : Int), .int .i64 (k : Int), .int .i64 (t1 : Int), .int .i64 (t2 : Int), .int .i64 (t3 : Int)] 103) := hide (((((((((unhide KP).set 0 (by decide) (.int .i64 (kd : Int))).set 1 (by simp) (.int .i64 (i : Int))).set 2 (by simp) (.int .i64 (j : Int))).set 3 (by simp) (.int .i64 (k : Int))).set 4 (by simp) (.int .i64 (t1 : Int))).set 5 (by simp) (.int .i64 (t2 : Int))).set 6 (by simp) (.int .i64 (t3 : Int))))
            have hSa' : SxR WB w.heap.size wr.heap.size (i : Int) (j : Int) (k : Int) (t1 : Int) (t2 : Int) (t3 : Int) (((((((z65.setCell ⟨z58.heap.size, 0, none⟩ (.int .i64 (kd : Int))).setCell ⟨z58.heap.size, 1, none⟩ (.int .i64 (i : Int))).setCell ⟨z58.heap.size, 2, none⟩ (.int .i64 (j : Int))).setCell ⟨z58.heap.size, 3, none⟩ (.int .i64 (k : Int))).setCell ⟨z58.heap.size, 4, none⟩ (.int .i64 (t1 : Int))).setCell ⟨z58.heap.size, 5, none⟩ (.int .i64 (t2 : Int))).setCell ⟨z58.heap.size, 6, none⟩ (.int .i64 (t3 : Int))) := (SxR.set (SxR.set (SxR.set (SxR.set (SxR.set (SxR.set (SxR.set hSa HNE 0 (.int .i64 (kd : Int))) HNE 1 (.int .i64 (i : Int))) HNE 2 (.int .i64 (j : Int))) HNE 3 (.int .i64 (k : Int))) HNE 4 (.int .i64 (t1 : Int))) HNE 5 (.int .i64 (t2 : Int))) HNE 6 (.int .i64 (t3 : Int)))
            refine hK _ _ hSa' (fun _ => ?_)
            clear hK KK hSa
            have hSa := hSa'
            clear hSa'
            refine wpAnyH_done (by kernel_rfl) ?_ _
            try simp only [Act.put, List.setIfInBounds_toArray, List.set_cons_zero, List.set_cons_succ]
            go_wp2_with fail
            go_meet
            case rel => exact ⟨_, rfl, unhide HBLK, hSa.1, unhide HPB⟩
        · go_simp
          have hSa0 := hSa
          have hSa' := SxR.below hSa ((Below.refl _ _).alloc (Nat.le_refl _) (Obj.cells #[.int .i64 0, .int .i64 0, .int .i64 0, .int .i64 0, .int .i64 0, .int .i64 0, .int .i64 0] 103))
          have KP : Hid (Blk (WB.drew.alloc (Obj.cells #[.int .i64 0, .int .i64 0, .int .i64 0, .int .i64 0, .int .i64 0, .int .i64 0, .int .i64 0] 103)) WB.heap.size #[.int .i64 0, .int .i64 0, .int .i64 0, .int .i64 0, .int .i64 0, .int .i64 0, .int .i64 0] 103) := hide (Blk.new WB.drew #[.int .i64 0, .int .i64 0, .int .i64 0, .int .i64 0, .int .i64 0, .int .i64 0, .int .i64 0] 103)
          have HPB : Hid (WB.heap.size ≤ WB.heap.size) := hide hSa.1.size
          refine hK _ _ hSa' (fun _ => ?_)
          clear hK KK hSa
          have hSa := hSa'
          clear hSa'
          refine wpAnyH_ready (rs := [2]) (by kernel_rfl) (by simp) ?_
          refine AllReadyH.cons rfl (fun KK hK => ?_) AllReadyH.nil
          go_simp
          refine (unhide Q1 _ (tr2 (unhide HWB) hSa.1)).mono ?_
          rintro e9 z58 ⟨rfl, hb9⟩
          have hSa' := SxR.below hSa hb9
          have KP2 := hide ((unhide KP).later hb9)
          clear KP
          have KP := KP2
          clear KP2
          clear hb9
          refine hK _ _ hSa' (fun _ => ?_)
          clear hK KK hSa
          have hSa := hSa'
          clear hSa'
          refine wpAnyH_ready (rs := [5]) (by kernel_rfl) (by simp) ?_
          refine AllReadyH.cons rfl (fun KK hK => ?_) AllReadyH.nil
          go_simp
          refine (unhide Q2 _ (tr2 (unhide HWB) hSa.1)).mono ?_
          rintro e9 z61 ⟨rfl, hb9⟩
          have hSa' := SxR.below hSa hb9
          have KP2 := hide ((unhide KP).later hb9)
          clear KP
          have KP := KP2
          clear KP2
          clear hb9
          refine hK _ _ hSa' (fun _ => ?_)
          clear hK KK hSa
          have hSa := hSa'
          clear hSa'
          refine wpAnyH_ready (rs := [8]) (by kernel_rfl) (by simp) ?_
          refine AllReadyH.cons rfl (fun KK hK => ?_) AllReadyH.nil
          go_simp
          refine (unhide Q3 _ (tr2 (unhide HWB) hSa.1)).mono ?_
          rintro e9 z64 ⟨rfl, hb9⟩
          have hSa' := SxR.below hSa hb9
          have KP2 := hide ((unhide KP).later hb9)
          clear KP
          have KP := KP2
          clear KP2
          clear hb9
          refine hK _ _ hSa' (fun _ => ?_)
          clear hK KK hSa
          have hSa := hSa'
          clear hSa'
          refine wpAnyH_ready (rs := [9]) (by kernel_rfl) (by simp) ?_
          refine AllReadyH.cons rfl (fun KK hK => ?_) AllReadyH.nil
          go_simp
          refine (unhide Q4 _).mono ?_
          rintro e9 z65 ⟨rfl, hb9⟩
          have hSa' := SxR.below hSa hb9
          have KP2 := hide ((unhide KP).later hb9)
          clear KP
          have KP := KP2
          clear KP2
          clear hb9
          refine hK _ _ hSa' (fun _ => ?_)
          clear hK KK hSa
          have hSa := hSa'
          clear hSa'
          refine wpAnyH_take (i := 12) (oi := { dst := some 68, op := _, type := _, pos := _, after := _, guard := _ }) (v := ?va12_13) rfl (by kernel_rfl) (by kernel_rfl) (by kernel_rfl) (fun _ _ _ h => h) (Or.inl ⟨by kernel_rfl, ?ha12_13⟩) hSa ?ra12_13
          case ha12_13 => first | (intro w hSw; obtain ⟨s0, s1, s2, s3, s4, s5, s6⟩ := hSw; go_simp; done) | (intro w hSw; obtain ⟨s0, s1, s2, s3, s4, s5, s6⟩ := hSw; go_simp; with_reducible rfl)
          try simp only [Act.put, List.setIfInBounds_toArray, List.set_cons_zero, List.set_cons_succ]
          refine wpAnyH_ready (rs := [14]) (by kernel_rfl) (by simp) ?_
          refine AllReadyH.cons rfl (fun KK hK => ?_) AllReadyH.nil
          have p0 := (unhide KP).cell 0
          have p1 := (unhide KP).cell 1
          have p2 := (unhide KP).cell 2
          have p3 := (unhide KP).cell 3
          have p4 := (unhide KP).cell 4
          have p5 := (unhide KP).cell 5
          have p6 := (unhide KP).cell 6
          have g0 := (unhide KP).frozen 0
          have g1 := (unhide KP).frozen 1
          have g2 := (unhide KP).frozen 2
          have g3 := (unhide KP).frozen 3
          have g4 := (unhide KP).frozen 4
          have g5 := (unhide KP).frozen 5
          have g6 := (unhide KP).frozen 6
          have HNE : WB.heap.size ≠ w.heap.size ∧ WB.heap.size ≠ wr.heap.size ∧ WB.heap.size ≤ WB.heap.size := by have h1 := (unhide KF).lt; have h2 := (unhide KB).lt; have h3 := unhide HPB; exact ⟨by omega, by omega, h3⟩
          go_simp
          have HBLK : Hid (Blk (((((((z65.setCell ⟨WB.heap.size, 0, none⟩ (.int .i64 (kd : Int))).setCell ⟨WB.heap.size, 1, none⟩ (.int .i64 (i : Int))).setCell ⟨WB.heap.size, 2, none⟩ (.int .i64 (j : Int))).setCell ⟨WB.heap.size, 3, none⟩ (.int .i64 (k : Int))).setCell ⟨WB.heap.size, 4, none⟩ (.int .i64 (t1 : Int))).setCell ⟨WB.heap.size, 5, none⟩ (.int .i64 (t2 : Int))).setCell ⟨WB.heap.size, 6, none⟩ (.int .i64 (t3 : Int))) WB.heap.size #[.int .i64 (kd : Int), .int .i64 (i : Int), .int .i64 (j : Int), .int .i64 (k : Int), .int .i64 (t1 : Int), .int .i64 (t2 : Int), .int .i64 (t3 : Int)] 103) := hide (((((((((unhide KP).set 0 (by decide) (.int .i64 (kd : Int))).set 1 (by simp) (.int .i64 (i : Int))).set 2 (by simp) (.int .i64 (j : Int))).set 3 (by simp) (.int .i64 (k : Int))).set 4 (by simp) (.int .i64 (t1 : Int))).set 5 (by simp) (.int .i64 (t2 : Int))).set 6 (by simp) (.int .i64 (t3 : Int))))
          have hSa' : SxR WB w.heap.size wr.heap.size (i : Int) (j : Int) (k : Int) (t1 : Int) (t2 : Int) (t3 : Int) (((((((z65.setCell ⟨WB.heap.size, 0, none⟩ (.int .i64 (kd : Int))).setCell ⟨WB.heap.size, 1, none⟩ (.int .i64 (i : Int))).setCell ⟨WB.heap.size, 2, none⟩ (.int .i64 (j : Int))).setCell ⟨WB.heap.size, 3, none⟩ (.int .i64 (k : Int))).setCell ⟨WB.heap.size, 4, none⟩ (.int .i64 (t1 : Int))).setCell ⟨WB.heap.size, 5, none⟩ (.int .i64 (t2 : Int))).setCell ⟨WB.heap.size, 6, none⟩ (.int .i64 (t3 : Int))) := (SxR.set (SxR.set (SxR.set (SxR.set (SxR.set (SxR.set (SxR.set hSa HNE 0 (.int .i64 (kd : Int))) HNE 1 (.int .i64 (i : Int))) HNE 2 (.int .i64 (j : Int))) HNE 3 (.int .i64 (k : Int))) HNE 4 (.int .i64 (t1 : Int))) HNE 5 (.int .i64 (t2 : Int))) HNE 6 (.int .i64 (t3 : Int)))
          refine hK _ _ hSa' (fun _ => ?_)
          clear hK KK hSa
          have hSa := hSa'
          clear hSa'
          refine wpAnyH_done (by kernel_rfl) ?_ _
          try simp only [Act.put, List.setIfInBounds_toArray, List.set_cons_zero, List.set_cons_succ]
          go_wp2_with fail
          go_meet
          case rel => exact ⟨_, rfl, unhide HBLK, hSa.1, unhide HPB⟩
      case rest =>
        obtain ⟨pb, rfl, hpb, hbx, hpl⟩ := hcut
        generalize wc = wx at *
        have hs := unhide HS
        have hWx := tr2 (unhide HWB) hbx
        have KFx := hide ((unhide KF).later hbx)
        have KBx := hide ((unhide KB).later hbx)
        have HRx := hide (ownsRow_below hs.row hWx)
        have HTx : Hid (wx.heap[tg]? = w3.heap[tg]?) := hide ((hWx.block tg (by have := hs.sz; omega)).trans hs.tr)
        have HBx := hide (tr2 hs.bl hWx)
        have hfbl : w.heap.size < w3.heap.size := by omega
        have hzw := hs.sz
        have hzx := hWx.size
        have HOWN : Hid (∀ q, (Value.slice uq un uc).ownBlock = some q → w3.heap.size ≤ q ∧ q < wr.heap.size) := hide (fun q hq => hs.row.lt q hq)
        have HNE : Hid (wr.heap.size ≠ w.heap.size ∧ tg ≠ w.heap.size) := hide ⟨by omega, by omega⟩
        have HTL := hide (show tg < wr.heap.size by omega)
        have HTG := hide hgl.2
        have hlmS := hs.len
        have hpbx := hpb.lt
        have HMID0 : Hid (m < T.length → t1 + 1 ≤ o.len ∧ t2 + 1 ≤ a.len ∧ t3 + 1 ≤ b.len ∧ UpT o.len a.len b.len (t1 + 1) (t2 + 1) (t3 + 1) (T.drop (m + 1)) ∧ (Lm ++ stP (smM o a b) i t1 j t2 k t3) ++ keptT (t1, t2, t3) :: ptF (smM o a b) o.len a.len b.len (t1 + 1) (t2 + 1) (t3 + 1) (T.drop (m + 1)) = full) := hide (fun hlt => by
          have ht' := ht
          rw [unhide HTT m hlt] at ht'
          have hu := upT_step hlt hup
          have he := heq
          rw [ptF_step _ _ _ _ _ _ _ _ _ hlt] at he
          rw [ht'] at hu he
          dsimp only at hu he
          obtain ⟨x1, x2, x3, x4, x5, x6, x7⟩ := hu
          exact ⟨by omega, by omega, by omega, x7, by rw [List.append_assoc]; exact he⟩)
        have HFIN0 : Hid (m = T.length → Lm ++ stP (smM o a b) i t1 j t2 k t3 = full) := hide (fun he => by
          have ht' := ht
          rw [he, unhide HTE] at ht'
          cases ht'
          have h2 := heq
          rw [he, List.drop_length] at h2
          exact h2)
        have hmS := hs.mid
        have hLl : Lm.length ≤ full.length := by have := congrArg List.length heq; rw [List.length_append] at this; omega
        have CE := hide (fun W => empty_any (kd : Int) i t1 j t2 k t3 W)
        have hwx2 : wr.heap.size < wx.heap.size := by have := (unhide KBx).lt; omega
        clear hs hWx hbx hup heq ht hmS HS KF KB HWB HTC HTT HTE HVA Q1 Q2 Q3 Q4 r1 r2 r3 k0 k1 k2 b0 b1 b2
        have p0 := hpb.cell 0
        have p1 := hpb.cell 1
        have p2 := hpb.cell 2
        have p3 := hpb.cell 3
        have p4 := hpb.cell 4
        have p5 := hpb.cell 5
        have p6 := hpb.cell 6
        go_wp2_with fail
        refine (unhide CE _).mono ?_
        rintro e9 we ⟨rfl, hbe⟩
        have KF := hide ((unhide KFx).later hbe)
        have KB := hide ((unhide KBx).later hbe)
        have KP := hide (hpb.later hbe)
        have HR := hide (ownsRow_below (unhide HRx) hbe)
        have HT : Hid (we.heap[tg]? = w3.heap[tg]?) := hide ((hbe.block tg (by omega)).trans (unhide HTx))
        have HB := hide (tr2 (unhide HBx) hbe)
        have hze := hbe.size
        clear hbe KFx KBx HRx HTx HBx hpb CE p0 p1 p2 p3 p4 p5 p6
        unfold emB
        by_cases he : i = t1 ∧ j = t2 ∧ k = t3
        · rw [decide_eq_true he]
          have hst : stP (smM o a b) i t1 j t2 k t3 = [] := by unfold stP; rw [if_pos he]
          rw [hst, List.append_nil] at HMID0 HFIN0
          have HMID : Hid (m < T.length → t1 + 1 ≤ o.len ∧ t2 + 1 ≤ a.len ∧ t3 + 1 ≤ b.len ∧ UpT o.len a.len b.len (t1 + 1) (t2 + 1) (t3 + 1) (T.drop (m + 1)) ∧ (Lm ++ [keptT (t1, t2, t3)]) ++ ptF (smM o a b) o.len a.len b.len (t1 + 1) (t2 + 1) (t3 + 1) (T.drop (m + 1)) = full) := hide (fun h => by obtain ⟨x1, x2, x3, x4, x5⟩ := unhide HMID0 h; exact ⟨x1, x2, x3, x4, by rw [List.append_assoc]; exact x5⟩)
          have HFIN : Hid (m = T.length → Lm = full) := HFIN0
          have HNB : Hid (∀ q, (Value.slice uq un uc).ownBlock = some q → w3.heap.size ≤ q) := hide (fun q hq => (unhide HOWN q hq).1)
          have HNF : Hid (∀ q, (Value.slice uq un uc).ownBlock = some q → q ≠ w.heap.size) := hide (fun q hq => by have := unhide HNB q hq; omega)
          clear hst he HMID0 HFIN0 HOWN KP
          have y0 := (unhide KF).cell 0
          have y1 := (unhide KF).cell 1
          have y2 := (unhide KF).cell 2
          have f0 := (unhide KF).frozen 0
          have f1 := (unhide KF).frozen 1
          have f2 := (unhide KF).frozen 2
          have z0 := (unhide KB).cell 0
          have z1 := (unhide KB).cell 1
          have z2 := (unhide KB).cell 2
          go_upto_region 14 with fail
          have KF2 : Hid (Blk (((we.setCell ⟨w.heap.size, 0, none⟩ (.int .i64 ((t1 : Int) + 1))).setCell ⟨w.heap.size, 1, none⟩ (.int .i64 ((t2 : Int) + 1))).setCell ⟨w.heap.size, 2, none⟩ (.int .i64 ((t3 : Int) + 1))) w.heap.size #[.int .i64 ((t1 : Int) + 1), .int .i64 ((t2 : Int) + 1), .int .i64 ((t3 : Int) + 1)] 101) := hide ((((unhide KF).set 0 (by simp) (.int .i64 ((t1 : Int) + 1))).set 1 (by simp) (.int .i64 ((t2 : Int) + 1))).set 2 (by simp) (.int .i64 ((t3 : Int) + 1)))
          have KB2 := hide ((((unhide KB).away (b' := w.heap.size) (o := 0) (unhide HNE).1 (.int .i64 ((t1 : Int) + 1))).away (b' := w.heap.size) (o := 1) (unhide HNE).1 (.int .i64 ((t2 : Int) + 1))).away (b' := w.heap.size) (o := 2) (unhide HNE).1 (.int .i64 ((t3 : Int) + 1)))
          have HT2 : Hid ((((we.setCell ⟨w.heap.size, 0, none⟩ (.int .i64 ((t1 : Int) + 1))).setCell ⟨w.heap.size, 1, none⟩ (.int .i64 ((t2 : Int) + 1))).setCell ⟨w.heap.size, 2, none⟩ (.int .i64 ((t3 : Int) + 1))).heap[tg]? = w3.heap[tg]?) := hide ((Below.heap_setCell _ ⟨w.heap.size, 2, none⟩ _ tg (unhide HNE).2).trans ((Below.heap_setCell _ ⟨w.heap.size, 1, none⟩ _ tg (unhide HNE).2).trans ((Below.heap_setCell _ ⟨w.heap.size, 0, none⟩ _ tg (unhide HNE).2).trans (unhide HT))))
          have HR2 := hide (owns_away (owns_away (owns_away (unhide HR) (c := w.heap.size) (o := 0) (x := .int .i64 ((t1 : Int) + 1)) (fun q hq => unhide HNF q hq.symm)) (c := w.heap.size) (o := 1) (x := .int .i64 ((t2 : Int) + 1)) (fun q hq => unhide HNF q hq.symm)) (c := w.heap.size) (o := 2) (x := .int .i64 ((t3 : Int) + 1)) (fun q hq => unhide HNF q hq.symm))
          have HB2 := hide ((((unhide HB).setCell (p := ⟨w.heap.size, 0, none⟩) (Nat.le_refl _) (.int .i64 ((t1 : Int) + 1))).setCell (p := ⟨w.heap.size, 1, none⟩) (Nat.le_refl _) (.int .i64 ((t2 : Int) + 1))).setCell (p := ⟨w.heap.size, 2, none⟩) (Nat.le_refl _) (.int .i64 ((t3 : Int) + 1)))
          have hz2 : we.heap.size ≤ (((we.setCell ⟨w.heap.size, 0, none⟩ (.int .i64 ((t1 : Int) + 1))).setCell ⟨w.heap.size, 1, none⟩ (.int .i64 ((t2 : Int) + 1))).setCell ⟨w.heap.size, 2, none⟩ (.int .i64 ((t3 : Int) + 1))).heap.size := by simp
          clear y0 y1 y2 f0 f1 f2 z0 z1 z2 KF KB HT HR HB
          generalize ((we.setCell ⟨w.heap.size, 0, none⟩ (.int .i64 ((t1 : Int) + 1))).setCell ⟨w.heap.size, 1, none⟩ (.int .i64 ((t2 : Int) + 1))).setCell ⟨w.heap.size, 2, none⟩ (.int .i64 ((t3 : Int) + 1)) = W2 at *
          by_cases hlt : m < T.length
          · have hlti : (m : Int) < (T.length : Int) + 1 - 1 := by omega
            have hlti2 : (m : Int) < (T.length : Int) := by omega
            have y0 := (unhide KF2).cell 0
            have y1 := (unhide KF2).cell 1
            have y2 := (unhide KF2).cell 2
            have z0 := (unhide KB2).cell 0
            have z1 := (unhide KB2).cell 1
            have z2 := (unhide KB2).cell 2
            go_wp2_with (at_builtin; refine wpList_append_fresh _ rfl _ _ 54 rfl w3.heap.size 103 i0 (.agg #[.int .i64 0, .int .i64 0, .int .i64 0, .int .i64 0, .int .i64 0, .int .i64 0, .int .i64 0]) 7 56 Tryd.underlying54 hi0 hi1 hi2 hi3 rfl (by decide) (.slice uq un uc) _ _ rfl ((unhide HR2).alloc _) ⟨W2.heap.size, 0, none⟩ 1 1 (ptR (keptT (t1, t2, t3))) rfl rfl (cell_seven_new _ _ _ _ _ _ _ _ _) (by simp [Value.oneCell', ptR, keptT]) (by simp only [maxLen]; omega) (by omega) (by simp; omega) ?_)
            intro u'' w9 hown hgr hfr
            have HO : Hid (RPartsV w9 w3.heap.size u'' (Lm ++ [keptT (t1, t2, t3)])) := hide (rparts_snoc hown)
            have KF9 : Hid (Blk w9 w.heap.size #[.int .i64 ((t1 : Int) + 1), .int .i64 ((t2 : Int) + 1), .int .i64 ((t3 : Int) + 1)] 101) := hide (((unhide KF2).alloc _).grown hgr (fun e => unhide HNF _ e.symm rfl))
            have HT9 : Hid (w9.heap[tg]? = w3.heap[tg]?) := hide ((hgr.block tg (by have := unhide HTL; simp; omega) (fun e => by have := unhide HNB _ e.symm; have := unhide HTG; omega)).trans ((((Below.refl W2.heap.size W2).alloc (Nat.le_refl _) _).block tg (by have := unhide HTL; omega)).trans (unhide HT2)))
            have HB9 : Hid (Below w.heap.size w w9) := hide (((unhide HB2).alloc (unhide HB2).size _).grown hgr (by have := (unhide HB2).size; simp; omega) (fun q hq => by have := unhide HNB q hq; omega))
            have hz9 : w3.heap.size ≤ w9.heap.size := by have := hgr.size; simp at this; omega
            clear hown hgr hfr y0 y1 y2 z0 z1 z2
            go_wp2
            go_roundw
            case rel => exact ⟨m + 1, t1 + 1, t2 + 1, t3 + 1, Lm ++ [keptT (t1, t2, t3)], by omega, by go_num, unhide KF9, unhide HT9, unhide HO, unhide HB9, hz9, fun _ => unhide HMID hlt, fun h => by omega, by rw [List.length_append]; simp; omega⟩
            case measure => simp [intOf]; omega
          · have hlti : ¬ (m : Int) < (T.length : Int) + 1 - 1 := by omega
            have hlti2 : ¬ (m : Int) < (T.length : Int) := by omega
            go_wp2
            go_roundw
            case rel => exact ⟨m + 1, t1 + 1, t2 + 1, t3 + 1, Lm, by omega, by go_num, unhide KF2, unhide HT2, unhide HR2, unhide HB2, by omega, fun h => by omega, fun _ => unhide HFIN (by omega), by omega⟩
            case measure => simp [intOf]; omega
        · rw [decide_eq_false he]
          have hst : stP (smM o a b) i t1 j t2 k t3 = [(kd, (i, t1), (j, t2), (k, t3))] := by unfold stP; rw [if_neg he, unhide HKD]
          rw [hst] at HMID0 HFIN0
          have p0 := (unhide KP).cell 0
          have p1 := (unhide KP).cell 1
          have p2 := (unhide KP).cell 2
          have p3 := (unhide KP).cell 3
          have p4 := (unhide KP).cell 4
          have p5 := (unhide KP).cell 5
          have p6 := (unhide KP).cell 6
          go_wp2_with (at_builtin; refine wpList_append_fresh _ rfl _ _ 54 rfl w3.heap.size 103 i0 (.agg #[.int .i64 0, .int .i64 0, .int .i64 0, .int .i64 0, .int .i64 0, .int .i64 0, .int .i64 0]) 7 56 Tryd.underlying54 hi0 hi1 hi2 hi3 rfl (by decide) (.slice uq un uc) _ _ rfl ((unhide HR).alloc _) ⟨we.heap.size, 0, none⟩ 1 1 (ptR (kd, (i, t1), (j, t2), (k, t3))) rfl rfl (cell_seven_new _ _ _ _ _ _ _ _ _) (by simp [Value.oneCell', ptR, keptT]) (by simp only [maxLen]; omega) (by omega) (by simp; omega) ?_)
          intro u' wa hown hgr hfr
          obtain ⟨vq, vn, vc, hv⟩ := slice_of hown
          subst hv
          have HRa : Hid (RPartsV wa w3.heap.size (.slice vq vn vc) (Lm ++ [(kd, (i, t1), (j, t2), (k, t3))])) := hide (rparts_snoc hown)
          have KFa : Hid (Blk wa w.heap.size #[.int .i64 (i : Int), .int .i64 (j : Int), .int .i64 (k : Int)] 101) := hide (((unhide KF).alloc _).grown hgr (fun e => by have := (unhide HOWN _ e.symm).1; omega))
          have KBa : Hid (Blk wa wr.heap.size #[.int .i64 (t1 : Int), .int .i64 (t2 : Int), .int .i64 (t3 : Int)] 101) := hide (((unhide KB).alloc _).grown hgr (fun e => by have := (unhide HOWN _ e.symm).2; omega))
          have HTa : Hid (wa.heap[tg]? = w3.heap[tg]?) := hide ((hgr.block tg (by have := unhide HTL; simp; omega) (fun e => by have := (unhide HOWN _ e.symm).1; have := unhide HTG; omega)).trans ((((Below.refl we.heap.size we).alloc (Nat.le_refl _) _).block tg (by omega)).trans (unhide HT)))
          have HBa := hide (((unhide HB).alloc (unhide HB).size _).grown hgr (by have := (unhide HB).size; simp; omega) (fun q hq => by have := (unhide HOWN q hq).1; omega))
          have HNB : Hid (∀ q, (Value.slice vq vn vc).ownBlock = some q → w3.heap.size ≤ q) := hide (fun q hq => (hown.lt q hq).1)
          have HNF : Hid (∀ q, (Value.slice vq vn vc).ownBlock = some q → q ≠ w.heap.size) := hide (fun q hq => by have := unhide HNB q hq; omega)
          have hza : we.heap.size ≤ wa.heap.size := by have := hgr.size; simp at this; omega
          have HMID : Hid (m < T.length → t1 + 1 ≤ o.len ∧ t2 + 1 ≤ a.len ∧ t3 + 1 ≤ b.len ∧ UpT o.len a.len b.len (t1 + 1) (t2 + 1) (t3 + 1) (T.drop (m + 1)) ∧ ((Lm ++ [(kd, (i, t1), (j, t2), (k, t3))]) ++ [keptT (t1, t2, t3)]) ++ ptF (smM o a b) o.len a.len b.len (t1 + 1) (t2 + 1) (t3 + 1) (T.drop (m + 1)) = full) := hide (fun h => by obtain ⟨x1, x2, x3, x4, x5⟩ := unhide HMID0 h; exact ⟨x1, x2, x3, x4, by rw [List.append_assoc]; exact x5⟩)
          have HFIN : Hid (m = T.length → Lm ++ [(kd, (i, t1), (j, t2), (k, t3))] = full) := HFIN0
          have hL2l : (Lm ++ [(kd, (i, t1), (j, t2), (k, t3))]).length ≤ 3002 := by rw [List.length_append]; simp; omega
          generalize Lm ++ [(kd, (i, t1), (j, t2), (k, t3))] = L2m at *
          clear hown hgr hfr hst he HMID0 HFIN0 HOWN KP KF KB HT HR HB p0 p1 p2 p3 p4 p5 p6
          have KF := KFa
          have KB := KBa
          have HT := HTa
          have HR := HRa
          have HB := HBa
          clear KFa KBa HTa HRa HBa
          unfold RPartsV at HR
          have y0 := (unhide KF).cell 0
          have y1 := (unhide KF).cell 1
          have y2 := (unhide KF).cell 2
          have f0 := (unhide KF).frozen 0
          have f1 := (unhide KF).frozen 1
          have f2 := (unhide KF).frozen 2
          have z0 := (unhide KB).cell 0
          have z1 := (unhide KB).cell 1
          have z2 := (unhide KB).cell 2
          go_upto_region 14 with fail
          have KF2 : Hid (Blk (((wa.setCell ⟨w.heap.size, 0, none⟩ (.int .i64 ((t1 : Int) + 1))).setCell ⟨w.heap.size, 1, none⟩ (.int .i64 ((t2 : Int) + 1))).setCell ⟨w.heap.size, 2, none⟩ (.int .i64 ((t3 : Int) + 1))) w.heap.size #[.int .i64 ((t1 : Int) + 1), .int .i64 ((t2 : Int) + 1), .int .i64 ((t3 : Int) + 1)] 101) := hide ((((unhide KF).set 0 (by simp) (.int .i64 ((t1 : Int) + 1))).set 1 (by simp) (.int .i64 ((t2 : Int) + 1))).set 2 (by simp) (.int .i64 ((t3 : Int) + 1)))
          have KB2 := hide ((((unhide KB).away (b' := w.heap.size) (o := 0) (unhide HNE).1 (.int .i64 ((t1 : Int) + 1))).away (b' := w.heap.size) (o := 1) (unhide HNE).1 (.int .i64 ((t2 : Int) + 1))).away (b' := w.heap.size) (o := 2) (unhide HNE).1 (.int .i64 ((t3 : Int) + 1)))
          have HT2 : Hid ((((wa.setCell ⟨w.heap.size, 0, none⟩ (.int .i64 ((t1 : Int) + 1))).setCell ⟨w.heap.size, 1, none⟩ (.int .i64 ((t2 : Int) + 1))).setCell ⟨w.heap.size, 2, none⟩ (.int .i64 ((t3 : Int) + 1))).heap[tg]? = w3.heap[tg]?) := hide ((Below.heap_setCell _ ⟨w.heap.size, 2, none⟩ _ tg (unhide HNE).2).trans ((Below.heap_setCell _ ⟨w.heap.size, 1, none⟩ _ tg (unhide HNE).2).trans ((Below.heap_setCell _ ⟨w.heap.size, 0, none⟩ _ tg (unhide HNE).2).trans (unhide HT))))
          have HR2 := hide (owns_away (owns_away (owns_away (unhide HR) (c := w.heap.size) (o := 0) (x := .int .i64 ((t1 : Int) + 1)) (fun q hq => unhide HNF q hq.symm)) (c := w.heap.size) (o := 1) (x := .int .i64 ((t2 : Int) + 1)) (fun q hq => unhide HNF q hq.symm)) (c := w.heap.size) (o := 2) (x := .int .i64 ((t3 : Int) + 1)) (fun q hq => unhide HNF q hq.symm))
          have HB2 := hide ((((unhide HB).setCell (p := ⟨w.heap.size, 0, none⟩) (Nat.le_refl _) (.int .i64 ((t1 : Int) + 1))).setCell (p := ⟨w.heap.size, 1, none⟩) (Nat.le_refl _) (.int .i64 ((t2 : Int) + 1))).setCell (p := ⟨w.heap.size, 2, none⟩) (Nat.le_refl _) (.int .i64 ((t3 : Int) + 1)))
          have hz2 : wa.heap.size ≤ (((wa.setCell ⟨w.heap.size, 0, none⟩ (.int .i64 ((t1 : Int) + 1))).setCell ⟨w.heap.size, 1, none⟩ (.int .i64 ((t2 : Int) + 1))).setCell ⟨w.heap.size, 2, none⟩ (.int .i64 ((t3 : Int) + 1))).heap.size := by simp
          clear y0 y1 y2 f0 f1 f2 z0 z1 z2 KF KB HT HR HB
          generalize ((wa.setCell ⟨w.heap.size, 0, none⟩ (.int .i64 ((t1 : Int) + 1))).setCell ⟨w.heap.size, 1, none⟩ (.int .i64 ((t2 : Int) + 1))).setCell ⟨w.heap.size, 2, none⟩ (.int .i64 ((t3 : Int) + 1)) = W2 at *
          by_cases hlt : m < T.length
          · have hlti : (m : Int) < (T.length : Int) + 1 - 1 := by omega
            have hlti2 : (m : Int) < (T.length : Int) := by omega
            have y0 := (unhide KF2).cell 0
            have y1 := (unhide KF2).cell 1
            have y2 := (unhide KF2).cell 2
            have z0 := (unhide KB2).cell 0
            have z1 := (unhide KB2).cell 1
            have z2 := (unhide KB2).cell 2
            go_wp2_with (at_builtin; refine wpList_append_fresh _ rfl _ _ 54 rfl w3.heap.size 103 i0 (.agg #[.int .i64 0, .int .i64 0, .int .i64 0, .int .i64 0, .int .i64 0, .int .i64 0, .int .i64 0]) 7 56 Tryd.underlying54 hi0 hi1 hi2 hi3 rfl (by decide) (.slice vq vn vc) _ _ rfl ((unhide HR2).alloc _) ⟨W2.heap.size, 0, none⟩ 1 1 (ptR (keptT (t1, t2, t3))) rfl rfl (cell_seven_new _ _ _ _ _ _ _ _ _) (by simp [Value.oneCell', ptR, keptT]) (by simp only [maxLen]; omega) (by omega) (by simp; omega) ?_)
            intro u'' w9 hown hgr hfr
            have HO : Hid (RPartsV w9 w3.heap.size u'' (L2m ++ [keptT (t1, t2, t3)])) := hide (rparts_snoc hown)
            have KF9 : Hid (Blk w9 w.heap.size #[.int .i64 ((t1 : Int) + 1), .int .i64 ((t2 : Int) + 1), .int .i64 ((t3 : Int) + 1)] 101) := hide (((unhide KF2).alloc _).grown hgr (fun e => unhide HNF _ e.symm rfl))
            have HT9 : Hid (w9.heap[tg]? = w3.heap[tg]?) := hide ((hgr.block tg (by have := unhide HTL; simp; omega) (fun e => by have := unhide HNB _ e.symm; have := unhide HTG; omega)).trans ((((Below.refl W2.heap.size W2).alloc (Nat.le_refl _) _).block tg (by have := unhide HTL; omega)).trans (unhide HT2)))
            have HB9 : Hid (Below w.heap.size w w9) := hide (((unhide HB2).alloc (unhide HB2).size _).grown hgr (by have := (unhide HB2).size; simp; omega) (fun q hq => by have := unhide HNB q hq; omega))
            have hz9 : w3.heap.size ≤ w9.heap.size := by have := hgr.size; simp at this; omega
            clear hown hgr hfr y0 y1 y2 z0 z1 z2
            go_wp2
            go_roundw
            case rel => exact ⟨m + 1, t1 + 1, t2 + 1, t3 + 1, L2m ++ [keptT (t1, t2, t3)], by omega, by go_num, unhide KF9, unhide HT9, unhide HO, unhide HB9, hz9, fun _ => unhide HMID hlt, fun h => by omega, by rw [List.length_append]; simp; omega⟩
            case measure => simp [intOf]; omega
          · have hlti : ¬ (m : Int) < (T.length : Int) + 1 - 1 := by omega
            have hlti2 : ¬ (m : Int) < (T.length : Int) := by omega
            go_wp2
            go_roundw
            case rel => exact ⟨m + 1, t1 + 1, t2 + 1, t3 + 1, L2m, by omega, by go_num, unhide KF2, unhide HT2, unhide HR2, unhide HB2, by omega, fun h => by omega, fun _ => unhide HFIN (by omega), by omega⟩
            case measure => simp [intOf]; omega
    · have hme : m = T.length + 1 := by omega
      have HF : Hid (Lm = full) := hide (hS.fin hme)
      have HR : Hid (RPartsV wr w.heap.size (.slice uq un uc) full) := hide (by have := owns_mono hS.row hz3; rw [← unhide HF]; exact this)
      have HB := hide hS.bl
      have hpi : ¬ (m : Int) < (T.length : Int) + 1 := by omega
      clear hS HS hme HF
      go_wp2
      go_ret
      exact ⟨_, rfl, unhide HR, unhide HB⟩
end Go.Proofs.YtbabmkilbbbmoaaDoor
