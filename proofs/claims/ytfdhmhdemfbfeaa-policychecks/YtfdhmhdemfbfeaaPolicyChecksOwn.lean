/-
  For every policy the law PolicyChecks answers true: whether it is right, or which error it has, is the document's answer, and the plain policy is the one that is told; and the argument reads as it did.
-/
import Derived.Test.YtfdhmhdemfbfeaaWRc
import Derived.Test.YtfdhmhdemfbfeaaWRp
import Derived.Test.YtfdhmhdemfbfeaaWSc
import Derived.Test.YtfdhmhdemfbfeaaPTx
import Derived.Deep.RegionHeld
import Derived.Test.YtfdhmhdemfbfeaaOPo
import Derived.ProofKit
import Derived.Carry
import Derived.OpenShut
import Derived.ShutString
import Derived.ChangeOld
import Derived.Below

/-
  'rectolaw16.PolicyChecks' (made by mk_lwc.py).
-/
namespace Go.Proofs.Ytfdhmhdemfbfeaa
open Go.RowKit
set_option linter.unusedVariables false
set_option linter.unusedSimpArgs false

def KeepC (j : Nat) (a1 a2 : Option Addr) (n1 c1 n2 c2 : Nat) (ot st : Int) (W : World) : Prop :=
  W.cell? ⟨j, 0, none⟩ = some (.slice a1 n1 c1) ∧ W.cell? ⟨j, 1, none⟩ = some (.slice a2 n2 c2) ∧ W.cell? ⟨j, 2, none⟩ = some (.int .i64 ot) ∧ W.cell? ⟨j, 3, none⟩ = some (.int .i64 st)
theorem KeepC.of {j : Nat} {a1 a2 : Option Addr} {n1 c1 n2 c2 : Nat} {ot st : Int} {W : World} {t : TypeId} (h : Blk W j #[.slice a1 n1 c1, .slice a2 n2 c2, .int .i64 ot, .int .i64 st] t) : KeepC j a1 a2 n1 c1 n2 c2 ot st W := ⟨h.cell 0, h.cell 1, h.cell 2, h.cell 3⟩
/-- The plain policy's value. -/
theorem plain_val {W : World} {v : Value} (h : PolV W v plainP) : ∃ q1 e1 q2 e2, v = .agg #[.slice q1 31 e1, .slice q2 3 e2, .int .i64 2, .int .i64 3] ∧ (∃ b off, q1 = some ⟨b, off, none⟩ ∧ ∀ i, i < 31 → RulAt W b (off + i * 4) (plainP.rs.getD i noR)) ∧ View W (.slice q2 3 e2) plainP.sc := by
  obtain ⟨x, y, rfl, ⟨_, q1, e1, rfl, hr⟩, g2⟩ := h
  obtain ⟨q2, e2, rfl⟩ := g2.slice
  obtain ⟨b, off, rfl, hc⟩ := hr (by decide)
  exact ⟨_, e1, q2, e2, rfl, ⟨b, off, rfl, hc⟩, g2⟩

set_option maxHeartbeats 8000000 in
set_option maxRecDepth 20000 in
theorem policyChecks_walk (v : Value) (p : PPol) (w : World) (hv : PolV w v p) (ho : PolOk p) :
    Calls Try.prog 3 #[v] w fun e w' => e = .returned (.bool true) ∧ Below w.heap.size w w' := by
  have CL := hide (fun W hW => large16_any v p W (hv.below (w := w) hW) ho)
  have CS := hide script_any
  have CP := hide plain16_any
  have CQ := hide (fun v' W (hp : PolV W v' plainP) => refP_any v' plainP W hp (by decide))
  have CRP := hide rplain16_any
  have CX := hide (fun va vb ta W ha hb => texts_any va vb ta ta W ha hb)
  have CR := hide (fun W hW h80 => refP_any v p W (hv.below (w := w) hW) h80)
  have CC := hide (fun v' W (hp : PolV W v' p) hc => rcheck_any v' p W hp hc ho)
  rw [chk_is] at CC
  have CK := hide (fun W hW => check_any v p W (hv.below (w := w) hW) ho)
  have HLG := hide (@lg_parts p)
  obtain ⟨vr, vs, rfl, h1, h2⟩ := hv
  obtain ⟨a2, c2, rfl⟩ := h2.slice
  obtain ⟨hrl, a1, c1, rfl, _⟩ := h1
  have HSL : Hid (∀ W v', PolV W v' p → ∃ q1 e1 q2 e2, v' = .agg #[.slice q1 p.rs.length e1, .slice q2 p.sc.length e2, .int .i64 p.ot, .int .i64 p.st]) := hide (fun W v' h => by
    obtain ⟨x, y, rfl, ⟨_, q1, e1, rfl, _⟩, g2⟩ := h
    obtain ⟨q2, e2, rfl⟩ := g2.slice
    exact ⟨q1, e1, q2, e2, rfl⟩)
  unfold polC at *
  clear h2 ho
  try dsimp only at *
  generalize hlg : lgP p = lg at *
  generalize chkP p = ch at *
  have h80 : lg = false → p.rs.length ≤ 80 := fun h => (unhide HLG h).1
  have H80 := hide h80
  generalize p.rs.length = n1 at *
  generalize p.sc.length = n2 at *
  generalize p.ot = ot at *
  generalize p.st = st at *
  clear hlg HLG h80
  have al := (Below.refl w.heap.size w).alloc (Nat.le_refl _) (Obj.cells #[.slice a1 n1 c1, .slice a2 n2 c2, .int .i64 ot, .int .i64 st] 25)
  have K := hide (Blk.new w #[.slice a1 n1 c1, .slice a2 n2 c2, .int .i64 ot, .int .i64 st] 25)
  have CL0 := hide (unhide CL _ al)
  clear CL al
  cases lg with
  | true =>
    go_enter Try.func3, Try.ntmps3
    go_wp2_with fail
    refine (unhide CL0).mono ?_
    rintro e1 w1 ⟨rfl, hb1⟩
    have HB1 := hide (bel_of hb1)
    go_wp2_with fail
    refine (unhide CS _).mono ?_
    rintro e1 w2 ⟨rfl, hb2⟩
    go_wp2
    go_ret
    exact ⟨rfl, tr2 (unhide HB1) hb2⟩
  | false =>
  go_enter Try.func3, Try.ntmps3
  go_wp2_with fail
  refine (unhide CL0).mono ?_
  rintro x1 w1 ⟨rfl, hb1⟩
  have HB1 := hide (bel_of hb1)
  have K1 := hide ((unhide K).later hb1)
  clear hb1 K CL0
  go_wp2_with fail
  refine (unhide CP _).mono ?_
  rintro x1 w2 ⟨⟨v2, rfl, hv2⟩, hb2⟩
  have HB2 := hide (tr2 (unhide HB1) hb2)
  have K2 := hide ((unhide K1).later hb2)
  have CQ2 := hide (unhide CQ v2 w2 hv2)
  obtain ⟨_, _, _, _, rfl, _, _⟩ := plain_val hv2
  clear hb2 K1 HB1 CQ CP hv2
  go_wp2_with fail
  refine (unhide CQ2).mono ?_
  rintro x1 w3 ⟨⟨v3, rfl, hv3, _⟩, hb3⟩
  have HB3 := hide (tr2 (unhide HB2) hb3)
  have K3 := hide ((unhide K2).later hb3)
  obtain ⟨b1, e1, b2, e2, rfl, ⟨ab, ao, rfl, hca⟩, hsa⟩ := plain_val hv3
  have HCA := hide hca
  have HSA := hide hsa
  generalize hb1g : (some ⟨ab, ao, none⟩ : Option Addr) = b1 at *
  have HB1G := hide hb1g
  have alA := (Below.refl w3.heap.size w3).alloc (Nat.le_refl _) (Obj.cells #[.slice b1 31 e1, .slice b2 3 e2, .int .i64 2, .int .i64 3] 30)
  have HB3a := hide (tr2 (unhide HB3) alA)
  have K3a := hide ((unhide K3).later alA)
  have KA := hide (Blk.new w3 #[.slice b1 31 e1, .slice b2 3 e2, .int .i64 2, .int .i64 3] 30)
  have HALA := hide alA
  clear hb3 K2 HB2 CQ2 hv3 hca hsa alA hb1g
  go_wp2_with fail
  refine (unhide CRP _).mono ?_
  rintro x1 w4 ⟨⟨v4, rfl, hv4⟩, hb4⟩
  have HB4 := hide (tr2 (unhide HB3a) hb4)
  have K4 := hide ((unhide K3a).later hb4)
  have KA4 := hide ((unhide KA).later hb4)
  have HA4 := hide ((unhide HALA).trans (hb4.mono (unhide HALA).size))
  obtain ⟨d1, g1, d2, g2, rfl, ⟨bb, bo, rfl, hcb⟩, hsb⟩ := plain_val hv4
  have HCB := hide hcb
  have HSB := hide hsb
  generalize hd1g : (some ⟨bb, bo, none⟩ : Option Addr) = d1 at *
  have HD1G := hide hd1g
  have alB := (Below.refl w4.heap.size w4).alloc (Nat.le_refl _) (Obj.cells #[.slice d1 31 g1, .slice d2 3 g2, .int .i64 2, .int .i64 3] 30)
  have HB5 := hide (tr2 (unhide HB4) alB)
  have K5 := hide ((unhide K4).later alB)
  have KA5 := hide ((unhide KA4).later alB)
  have KB5 := hide (Blk.new w4 #[.slice d1 31 g1, .slice d2 3 g2, .int .i64 2, .int .i64 3] 30)
  have HA5 := hide ((unhide HA4).trans (alB.mono (unhide HA4).size))
  have HALB := hide alB
  have hltA : w3.heap.size < w4.heap.size := (unhide KA4).lt
  have CX5 := hide (unhide CX (.slice b2 3 e2) (.slice d2 3 g2) plainP.sc _ (view_below (unhide HSA) (unhide HA5)) (view_below (unhide HSB) alB))
  rw [sameT_refl] at CX5
  clear hb4 K3a K4 HB3a HB4 KA HALA CRP hv4 hcb hsb alB hd1g HA4
  have s0 : w4.cell? ⟨w3.heap.size, 0, none⟩ = some (.slice b1 31 e1) := (unhide KA4).cell 0
  have s1 : w4.cell? ⟨w3.heap.size, 1, none⟩ = some (.slice b2 3 e2) := (unhide KA4).cell 1
  have s2 : w4.cell? ⟨w3.heap.size, 2, none⟩ = some (.int .i64 2) := (unhide KA4).cell 2
  have s3 : w4.cell? ⟨w3.heap.size, 3, none⟩ = some (.int .i64 3) := (unhide KA4).cell 3
  go_wp2_with fail
  refine (unhide CX5).mono ?_
  rintro x1 w6 ⟨rfl, hb6⟩
  clear s0 s1 s2 s3 KA4 CX5
  have HB6 := hide (tr2 (unhide HB5) hb6)
  have K6 := hide ((unhide K5).later hb6)
  have KA6 := hide ((unhide KA5).later hb6)
  have KB6 := hide ((unhide KB5).later hb6)
  have HA6 := hide ((unhide HA5).trans (hb6.mono (unhide HA5).size))
  have HBB6 := hide ((unhide HALB).trans (hb6.mono (unhide HALB).size))
  clear hb6 K5 KA5 KB5 HB5 HA5 HALB
  have s0 : w6.cell? ⟨w3.heap.size, 0, none⟩ = some (.slice b1 31 e1) := (unhide KA6).cell 0
  have s1 : w6.cell? ⟨w3.heap.size, 1, none⟩ = some (.slice b2 3 e2) := (unhide KA6).cell 1
  have s2 : w6.cell? ⟨w3.heap.size, 2, none⟩ = some (.int .i64 2) := (unhide KA6).cell 2
  have s3 : w6.cell? ⟨w3.heap.size, 3, none⟩ = some (.int .i64 3) := (unhide KA6).cell 3
  have t0 : w6.cell? ⟨w4.heap.size, 0, none⟩ = some (.slice d1 31 g1) := (unhide KB6).cell 0
  have t1 : w6.cell? ⟨w4.heap.size, 1, none⟩ = some (.slice d2 3 g2) := (unhide KB6).cell 1
  have t2 : w6.cell? ⟨w4.heap.size, 2, none⟩ = some (.int .i64 2) := (unhide KB6).cell 2
  have t3 : w6.cell? ⟨w4.heap.size, 3, none⟩ = some (.int .i64 3) := (unhide KB6).cell 3
  go_wp2
  go_loopw [46] (fun i wr => ∃ k : Nat, k ≤ 31 ∧ i = .int .i64 k ∧ Below w6.heap.size w6 wr) (fun i _ => 31 - (intOf i).toNat)
  case atStart => exact ⟨0, Nat.zero_le _, rfl, Below.refl _ _⟩
  case round =>
    obtain ⟨k, hk, rfl, hbw⟩ := hrel
    clear s0 s1 s2 s3 t0 t1 t2 t3
    have hsz := hbw.size
    have KAw := hide ((unhide KA6).later hbw)
    have KBw := hide ((unhide KB6).later hbw)
    have Kw := hide ((unhide K6).later hbw)
    have hlA : w3.heap.size < wr.heap.size := (unhide KAw).lt
    have hlB : w4.heap.size < wr.heap.size := (unhide KBw).lt
    by_cases hp : k < 31
    · have hpi : (k : Int) < 31 := by omega
      have s0 : wr.cell? ⟨w3.heap.size, 0, none⟩ = some (.slice b1 31 e1) := (unhide KAw).cell 0
      have t0 : wr.cell? ⟨w4.heap.size, 0, none⟩ = some (.slice d1 31 g1) := (unhide KBw).cell 0
      have hAw := (unhide HA6).trans (hbw.mono (unhide HA6).size)
      have hBw := (unhide HBB6).trans (hbw.mono (unhide HBB6).size)
      obtain ⟨va, vl, f0, f1, f2, f3, hva, hvl⟩ := (unhide HCA k hp).below hAw
      obtain ⟨va', vl', f0', f1', f2', f3', hva', hvl'⟩ := (unhide HCB k hp).below hBw
      have hltab := cell_lt f0
      have hltbb := cell_lt f0'
      rw [← unhide HB1G] at s0
      rw [← unhide HD1G] at t0
      have alX : Below wr.heap.size wr ((wr.alloc (Obj.cells (rulC (plainP.rs.getD k noR) va vl) 36)).alloc (Obj.cells (rulC (plainP.rs.getD k noR) va' vl') 36)) := ((Below.refl _ _).alloc (Nat.le_refl _) _).alloc (by simp) _
      have C1 := hide (unhide CX va va' (plainP.rs.getD k noR).ats _ (view_below hva.1 alX) (view_below hva'.1 alX))
      have HC2 : Hid (∀ W, Below wr.heap.size wr W → Calls Try.prog 12 #[vl, vl'] W fun e w' => e = .returned (.bool (sameT (plainP.rs.getD k noR).lks (plainP.rs.getD k noR).lks)) ∧ Below W.heap.size W w') := hide (fun W hW => unhide CX vl vl' (plainP.rs.getD k noR).lks W (view_below hvl.1 hW) (view_below hvl'.1 hW))
      rw [sameT_refl] at C1 HC2
      have KX : Hid (Blk ((wr.alloc (Obj.cells (rulC (plainP.rs.getD k noR) va vl) 36)).alloc (Obj.cells (rulC (plainP.rs.getD k noR) va' vl') 36)) wr.heap.size (rulC (plainP.rs.getD k noR) va vl) 36) := hide ((Blk.new wr _ _).alloc _)
      have KY : Hid (Blk ((wr.alloc (Obj.cells (rulC (plainP.rs.getD k noR) va vl) 36)).alloc (Obj.cells (rulC (plainP.rs.getD k noR) va' vl') 36)) (wr.heap.size + 1) (rulC (plainP.rs.getD k noR) va' vl') 36) := hide (blk_next (by simp))
      have HALX := hide alX
      have HBX := hide (hbw.trans (alX.mono hsz))
      obtain ⟨q1, m1, hq1⟩ := hva.1.slice
      obtain ⟨q2, m2, hq2⟩ := hvl.1.slice
      obtain ⟨q3, m3, hq3⟩ := hva'.1.slice
      obtain ⟨q4, m4, hq4⟩ := hvl'.1.slice
      subst hq1 hq2 hq3 hq4
      unfold rulC at C1 KX KY HALX HBX
      clear hva hvl hva' hvl' alX hAw hBw hbw
      generalize plainP.rs.getD k noR = r at *
      obtain ⟨rn, ac, rats, rlks⟩ := r
      dsimp only at *
      generalize rats.length = l1 at *
      generalize rlks.length = l2 at *
      have hrr := beq_yes (rfl : rn = rn)
      have hrr' : (rn.toList != rn.toList) = false := by simp
      have hac : (ac == ac) = true := beq_self_eq_true _
      have hac' : (ac != ac) = false := by simp
      go_wp2_with fail
      refine (unhide C1).mono ?_
      rintro x1 w7 ⟨rfl, hb7⟩
      have x3 : w7.cell? ⟨wr.heap.size, 3, none⟩ = some (.slice q2 l2 m2) := ((unhide KX).later hb7).cell 3
      have y3 : w7.cell? ⟨wr.heap.size + 1, 3, none⟩ = some (.slice q4 l2 m4) := ((unhide KY).later hb7).cell 3
      have hb7' := (unhide HALX).trans (hb7.mono (unhide HALX).size)
      have C2 := hide (unhide HC2 w7 hb7')
      have HB7 := hide ((unhide HBX).trans (hb7.mono (unhide HBX).size))
      clear hb7 hb7' C1 HC2 KX KY
      go_wp2_with fail
      refine (unhide C2).mono ?_
      rintro x1 w8 ⟨rfl, hb8⟩
      have HB8 := hide ((unhide HB7).trans (hb8.mono (unhide HB7).size))
      clear hb8 C2
      go_wp2
      go_roundw
      case rel => exact ⟨k + 1, by omega, by go_num, unhide HB8⟩
      case measure => simp [intOf]; omega
    · have hkn : k = 31 := by omega
      subst hkn
      have HBz := hide ((unhide HB6).trans (hbw.mono (unhide HB6).size))
      have hD : Below wr.heap.size wr wr.drew := below_draws _ 1
      have HBD := hide (tr2 (unhide HBz) hD)
      have KD := hide ((unhide Kw).later hD)
      clear hbw hD KA6 KB6 KAw KBw
      go_wp2
      have hSa := KeepC.of (unhide KD)
      refine wp_region_held (S := KeepC w.heap.size a1 a2 n1 c1 n2 c2 ot st) (by kernel_rfl) ?_
      change wpAnyH _ _ _ _ _ _ _ _ (World.drew _)
      refine wpAnyH_take (i := 0) (oi := { dst := some 88, op := _, type := _, pos := _, after := _, guard := _ }) (v := ?va0_1) rfl (by kernel_rfl) (by kernel_rfl) (by kernel_rfl) (fun _ _ _ h => h) (Or.inl ⟨by kernel_rfl, ?ha0_1⟩) hSa ?ra0_1
      case ha0_1 => first | (intro w hSw; obtain ⟨s0, s1, s2, s3⟩ := hSw; go_simp; done) | (intro w hSw; obtain ⟨s0, s1, s2, s3⟩ := hSw; go_simp; with_reducible rfl)
      try simp only [Act.put, List.setIfInBounds_toArray, List.set_cons_zero, List.set_cons_succ]
      refine wpAnyH_take (i := 2) (oi := { dst := some 90, op := _, type := _, pos := _, after := _, guard := _ }) (v := ?va2_2) rfl (by kernel_rfl) (by kernel_rfl) (by kernel_rfl) (fun _ _ _ h => h) (Or.inl ⟨by kernel_rfl, ?ha2_2⟩) hSa ?ra2_2
      case ha2_2 => first | (intro w hSw; obtain ⟨s0, s1, s2, s3⟩ := hSw; go_simp; done) | (intro w hSw; obtain ⟨s0, s1, s2, s3⟩ := hSw; go_simp; with_reducible rfl)
      try simp only [Act.put, List.setIfInBounds_toArray, List.set_cons_zero, List.set_cons_succ]
      refine wpAnyH_ready (rs := [1]) (by kernel_rfl) (by simp) ?_
      refine AllReadyH.cons rfl (fun K hK => ?_) AllReadyH.nil
      go_simp
      refine (unhide CK _ (unhide HBD)).mono ?_
      rintro x1 w9 ⟨rfl, hb⟩
      have HB9 := hide (tr2 (unhide HBD) hb)
      have K9 := hide ((unhide KD).later hb)
      have hSa' := KeepC.of (unhide K9)
      clear hb
      refine hK _ _ hSa' (fun _ => ?_)
      clear hK K hSa
      have hSa := hSa'
      clear hSa'
      refine wpAnyH_ready (rs := [3]) (by kernel_rfl) (by simp) ?_
      refine AllReadyH.cons rfl (fun K hK => ?_) AllReadyH.nil
      go_simp
      refine (unhide CR _ (unhide HB9) (unhide H80 (by first | rfl | trivial))).mono ?_
      rintro x1 w10 ⟨⟨v10, rfl, hv10, hc10⟩, hb⟩
      have HB10 := hide (tr2 (unhide HB9) hb)
      have K10 := hide ((unhide K9).later hb)
      have HV10 := hide hv10
      have HC10 := hide hc10
      obtain ⟨y1, z1, y2, z2, rfl⟩ := unhide HSL w10 v10 hv10
      have hSa' := KeepC.of (unhide K10)
      clear hb hv10 hc10
      refine hK _ _ hSa' (fun _ => ?_)
      clear hK K hSa
      have hSa := hSa'
      clear hSa'
      refine wpAnyH_ready (rs := [4]) (by kernel_rfl) (by simp) ?_
      refine AllReadyH.cons rfl (fun K hK => ?_) AllReadyH.nil
      go_simp
      refine (unhide CC _ _ (unhide HV10) (unhide HC10)).mono ?_
      rintro x1 w11 ⟨rfl, hb⟩
      have HB11 := hide (tr2 (unhide HB10) hb)
      have K11 := hide ((unhide K10).later hb)
      have hSa' := KeepC.of (unhide K11)
      clear hb
      refine hK _ _ hSa' (fun _ => ?_)
      clear hK K hSa
      have hSa := hSa'
      clear hSa'
      refine wpAnyH_take (i := 5) (oi := { dst := some 93, op := _, type := _, pos := _, after := _, guard := _ }) (v := ?va5_3) rfl (by kernel_rfl) (by kernel_rfl) (by kernel_rfl) (fun _ _ _ h => h) (Or.inl ⟨by kernel_rfl, ?ha5_3⟩) hSa ?ra5_3
      case ha5_3 => first | (intro w hSw; obtain ⟨s0, s1, s2, s3⟩ := hSw; go_simp; done) | (intro w hSw; obtain ⟨s0, s1, s2, s3⟩ := hSw; go_simp; with_reducible rfl)
      try simp only [Act.put, List.setIfInBounds_toArray, List.set_cons_zero, List.set_cons_succ]
      refine wpAnyH_take (i := 6) (oi := { dst := some 94, op := _, type := _, pos := _, after := _, guard := _ }) (v := ?va6_4) rfl (by kernel_rfl) (by kernel_rfl) (by kernel_rfl) (fun _ _ _ h => h) (Or.inl ⟨by kernel_rfl, ?ha6_4⟩) hSa ?ra6_4
      case ha6_4 => first | (intro w hSw; obtain ⟨s0, s1, s2, s3⟩ := hSw; go_simp; done) | (intro w hSw; obtain ⟨s0, s1, s2, s3⟩ := hSw; go_simp; with_reducible rfl)
      try simp only [Act.put, List.setIfInBounds_toArray, List.set_cons_zero, List.set_cons_succ]
      refine wpAnyH_ready (rs := [7]) (by kernel_rfl) (by simp) ?_
      refine AllReadyH.cons rfl (fun K hK => ?_) AllReadyH.nil
      go_simp
      refine (unhide CS _).mono ?_
      rintro x1 w12 ⟨rfl, hb⟩
      have HB12 := hide (tr2 (unhide HB11) hb)
      have K12 := hide ((unhide K11).later hb)
      have hSa' := KeepC.of (unhide K12)
      clear hb
      refine hK _ _ hSa' (fun _ => ?_)
      clear hK K hSa
      have hSa := hSa'
      clear hSa'
      refine wpAnyH_take (i := 8) (oi := { dst := some 96, op := _, type := _, pos := _, after := _, guard := _ }) (v := ?va8_5) rfl (by kernel_rfl) (by kernel_rfl) (by kernel_rfl) (fun _ _ _ h => h) (Or.inl ⟨by kernel_rfl, ?ha8_5⟩) hSa ?ra8_5
      case ha8_5 => first | (intro w hSw; obtain ⟨s0, s1, s2, s3⟩ := hSw; go_simp; done) | (intro w hSw; obtain ⟨s0, s1, s2, s3⟩ := hSw; go_simp; with_reducible rfl)
      try simp only [Act.put, List.setIfInBounds_toArray, List.set_cons_zero, List.set_cons_succ]
      refine wpAnyH_take (i := 9) (oi := { dst := some 2, op := _, type := _, pos := _, after := _, guard := _ }) (v := ?va9_6) rfl (by kernel_rfl) (by kernel_rfl) (by kernel_rfl) (fun _ _ _ h => h) (Or.inl ⟨by kernel_rfl, ?ha9_6⟩) hSa ?ra9_6
      case ha9_6 => first | (intro w hSw; obtain ⟨s0, s1, s2, s3⟩ := hSw; go_simp; done) | (intro w hSw; obtain ⟨s0, s1, s2, s3⟩ := hSw; go_simp; with_reducible rfl)
      try simp only [Act.put, List.setIfInBounds_toArray, List.set_cons_zero, List.set_cons_succ]
      refine wpAnyH_done (by kernel_rfl) ?_ _
      clear hSa
      go_wp2
      go_ret
      exact ⟨by simp, unhide HB12⟩
end Go.Proofs.Ytfdhmhdemfbfeaa

namespace Go.Proofs.Ytfdhmhdemfbfeaa.policychecksF
open Go.ChangeShapes Go.WideShapes Go.ChangeAt Go.RowKit
open Go.ChangeMaps (open_string shut_string)
set_option linter.unusedVariables false

theorem own : ownKnob Try.prog.godebug = none := by kernel_rfl
theorem laidOut : laidOutB Try.prog = true := by kernel_rfl

set_option maxRecDepth 100000 in
theorem lifted (os : Os) (started : os.Started) (H : Type) (enc : TypeId × Value → H) :
    ReturnsInHanded {} Try.checked os 3 .any (Rows.policyChecksSpec.pre6 enc Try.prog Try.f3 Rows.policyChecksRow.domain false) (Rows.policyChecksSpec.post enc Try.prog Try.f3 false true false false) := by
  refine returnsInHanded_of_change (C := Try.checked) own started (by kernel_rfl) Try.func3
    (ChangeSpec.witness6 (enc := enc) (C := Try.checked) false ⟨#[], #[.agg #[.slice none 0 0, .slice none 0 0, .int .i64 0, .int .i64 0]], []⟩ 8 (by kernel_rfl) (by kernel_rfl) (by kernel_rfl) (by kernel_rfl)) ?_
  intro W base args ds gs before hval0 hW hcnd _
  have hval : ∀ (j : Nat) t v, Try.f3.params[j]? = some t → args[j]? = some v → Value.okWide Try.prog W .any base t v := hval0
  have hW' := hW
  obtain ⟨p, q, hA0, hV, rfl, hfz, hnd⟩ := hW
  have hA : DataW.TrodAll enc Try.prog W 0 (fun _ => true) true Try.f3.params.toList args.toList ds p := hA0
  rw [Try.params3] at hA hval
  obtain ⟨v0, vs0, d0, ds0, p0, q0, hargs, rfl, rfl, h0, r0⟩ := trodAll_cons hA
  obtain ⟨rfl, rfl, rfl⟩ := trodAll_nil r0
  obtain rfl : args = #[v0] := by cases args; simp_all
  obtain ⟨rfl, rfl⟩ := trodVars_none hV
  have k0 := h0
  have lt0 : ∀ x ∈ p0, x.block < W.heap.size := by obtain ⟨m, hm⟩ := k0; exact DataW.trod_lt m _ _ _ hm
  obtain ⟨P0, w0, o0⟩ := open_policy (hval 0 25 v0 rfl rfl) h0
  clear hA0 hval0
  refine (policyChecks_walk v0 P0 W w0 o0).mono fun e W' ⟨he, bel⟩ => ?_
  subst he
  exact ⟨_, rfl, _, _, _, [], _, [], hW', trodAll_mk1 (shut_bool Try.underlying4 _), (trodAll_cons_mk (Below.trod laidOut (by kernel_rfl) (of_decide_eq_true (by kernel_rfl)) k0 bel lt0) trodAll_mk0), rfl, bel.frame _, fun h => by cases h⟩

theorem over : Rows.policyChecksRow.holds Try.pinned (OpenSpec.ofChange Rows.policyChecksSpec) :=
  OpenClaim.holds_of_wide 3 Try.f3 rfl rfl rfl rfl rfl rfl rfl ⟨rfl, rfl, rfl, rfl, rfl⟩ rfl rfl rfl rfl rfl (by kernel_rfl) Try.func3 (by kernel_rfl)
    (of_decide_eq_true (by kernel_rfl)) (by unfold Func.isWrapper; first | (rw [if_pos (by decide +kernel)]; kernel_rfl) | (rw [if_neg (by decide +kernel)]; exact ⟨rfl, rfl⟩))
    (fun os started H enc _ => lifted os started H enc)
end Go.Proofs.Ytfdhmhdemfbfeaa.policychecksF

namespace Go.Proofs.Ytfdhmhdemfbfeaa
theorem policyChecks_holds : Rows.PolicyChecksSaid := policychecksF.over
end Go.Proofs.Ytfdhmhdemfbfeaa
