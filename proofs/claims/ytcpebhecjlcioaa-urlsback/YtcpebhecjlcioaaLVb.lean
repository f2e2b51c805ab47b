/-
  The law UrlsBack walked (made by mk_lvb.py).
-/
import Derived.Test.YtcpebhecjlcioaaLVj
import Derived.Test.YtcpebhecjlcioaaVBk
namespace Go.Proofs.Ytcpebhecjlcioaa
open Go.RowKit
set_option linter.unusedVariables false
set_option linter.unusedSimpArgs false

set_option maxHeartbeats 4000000 in
set_option maxRecDepth 100000 in
theorem back_core (s X Y SC Y4 Y5 Y3 Y2 TT YP : ByteArray) (D1 D4 D2 D3 : Bool) (w : World) (hi : ¬ (2000 : Int) < (s.size : Int))
    (CJ : Hid (∀ w, Calls Try.prog 8 #[] w fun e w' => e = .returned (.bool true) ∧ Below w.heap.size w w'))
    (C1 : Hid (∀ w, Calls Try.prog 9 #[.string s] w fun e w' => e = .returned (.agg (ptC SC Y4 Y5 Y3 Y2 D1 D4 D2 D3)) ∧ Below w.heap.size w w'))
    (C2 : Hid (∀ w, Calls Try.prog 15 #[.agg (ptC SC Y4 Y5 Y3 Y2 D1 D4 D2 D3)] w fun e w' => e = .returned (.string X) ∧ Below w.heap.size w w'))
    (C3 : Hid (∀ w, Calls Try.prog 11 #[.string s] w fun e w' => e = .returned (.string Y) ∧ Below w.heap.size w w'))
    (C4 : Hid (∀ w, Calls Try.prog 19 #[.string YP] w fun e w' => e = .returned (.string SC) ∧ Below w.heap.size w w'))
    (C5 : Hid (∀ w, Calls Try.prog 11 #[.string Y] w fun e w' => e = .returned (.string Y) ∧ Below w.heap.size w w'))
    (C6 : Hid (∀ w, Calls Try.prog 9 #[.string X] w fun e w' => e = .returned (.agg (ptC SC Y4 Y5 Y3 Y2 D1 D4 D2 D3)) ∧ Below w.heap.size w w'))
    (n1 : ((X.size : Int) == (Y.size : Int)) = true) (n2 : ((X.size : Int) != (Y.size : Int)) = false) (n3 : (X.size == Y.size) = true) (n4 : (X.size != Y.size) = false)
    (b1 : (SC.size : Int) ≤ (X.size : Int)) (b2 : (SC.size : Int) ≤ (Y.size : Int)) (b0 : (0 : Int) ≤ (SC.size : Int))
    (e1 : X.extract SC.size X.size = TT) (e2 : Y.extract SC.size Y.size = TT) (e3 : Y.extract 0 SC.size = YP) (e4 : X.extract 0 SC.size = SC) :
    Calls Try.prog 6 #[.string s] w fun e w' => e = .returned (.bool true) ∧ Below w.heap.size w w' := by
  have q1 := beq_yes (rfl : TT = TT)
  have q2 := beq_yes (rfl : SC = SC)
  have q3 := beq_yes (rfl : Y = Y)
  have KK : Hid (∀ W : World, Blk (W.alloc (Obj.cells (ptC SC Y4 Y5 Y3 Y2 D1 D4 D2 D3) 24)) W.heap.size (ptC SC Y4 Y5 Y3 Y2 D1 D4 D2 D3) 24) := hide (fun W => Blk.new W _ _)
  unfold ptC at C1 C2 C6 KK
  go_enter Try.func6, Try.ntmps6
  go_wp2_with fail
  refine (unhide C1 _).mono ?_
  rintro e w1 ⟨rfl, hb1⟩
  have K1 := hide (unhide KK w1)
  have HBp := hide (hb1.alloc hb1.size (Obj.cells #[.string SC, .string Y4, .string Y5, .string Y3, .string Y2, .bool D1, .bool D4, .bool D2, .bool D3] 24))
  clear hb1 KK
  go_wp2_with fail
  refine (unhide C2 _).mono ?_
  rintro e w2 ⟨rfl, hb2⟩
  have K2 := hide ((unhide K1).later hb2)
  have HB2 := hide (tr2 (unhide HBp) hb2)
  clear hb2 K1 HBp
  go_wp2_with fail
  refine (unhide C3 _).mono ?_
  rintro e w3 ⟨rfl, hb3⟩
  have K3 := hide ((unhide K2).later hb3)
  have HB3 := hide (tr2 (unhide HB2) hb3)
  clear hb3 K2 HB2
  have c0 : w3.cell? ⟨w1.heap.size, 0, none⟩ = some (.string SC) := (unhide K3).cell 0
  have hD : Below w3.heap.size w3 w3.drew := below_draws w3 1
  have HK4 := hide ((unhide K3).later hD)
  have HB4 := hide (tr2 (unhide HB3) hD)
  clear hD
  go_wp2_with fail
  clear c0
  have hSa := KeepP.of (show Blk w3.drew w1.heap.size (ptC SC Y4 Y5 Y3 Y2 D1 D4 D2 D3) _ from unhide HK4)
  refine wp_region_held (S := KeepP w1.heap.size SC Y4 Y5 Y3 Y2 D1 D4 D2 D3) (by kernel_rfl) ?_
  change wpAnyH _ _ _ _ _ _ _ _ (World.drew _)
  refine wpAnyH_take (i := 0) (oi := { dst := some 20, op := _, type := _, pos := _, after := _, guard := _ }) (v := ?va0_1) rfl (by kernel_rfl) (by kernel_rfl) (by kernel_rfl) (fun _ _ _ h => h) (Or.inl ⟨by kernel_rfl, ?ha0_1⟩) hSa ?ra0_1
  case ha0_1 => first | (intro w hSw; obtain ⟨s0, s1, s2, s3, s4, s5, s6, s7, s8⟩ := hSw; go_simp; done) | (intro w hSw; obtain ⟨s0, s1, s2, s3, s4, s5, s6, s7, s8⟩ := hSw; go_simp; with_reducible rfl)
  try simp only [Act.put, List.setIfInBounds_toArray, List.set_cons_zero, List.set_cons_succ]
  refine wpAnyH_take (i := 1) (oi := { dst := some 21, op := _, type := _, pos := _, after := _, guard := _ }) (v := ?va1_2) rfl (by kernel_rfl) (by kernel_rfl) (by kernel_rfl) (fun _ _ _ h => h) (Or.inl ⟨by kernel_rfl, ?ha1_2⟩) hSa ?ra1_2
  case ha1_2 => first | (intro w hSw; obtain ⟨s0, s1, s2, s3, s4, s5, s6, s7, s8⟩ := hSw; go_simp; done) | (intro w hSw; obtain ⟨s0, s1, s2, s3, s4, s5, s6, s7, s8⟩ := hSw; go_simp; with_reducible rfl)
  try simp only [Act.put, List.setIfInBounds_toArray, List.set_cons_zero, List.set_cons_succ]
  refine wpAnyH_take (i := 2) (oi := { dst := some 22, op := _, type := _, pos := _, after := _, guard := _ }) (v := ?va2_3) rfl (by kernel_rfl) (by kernel_rfl) (by kernel_rfl) (fun _ _ _ h => h) (Or.inl ⟨by kernel_rfl, ?ha2_3⟩) hSa ?ra2_3
  case ha2_3 => first | (intro w hSw; obtain ⟨s0, s1, s2, s3, s4, s5, s6, s7, s8⟩ := hSw; go_simp; done) | (intro w hSw; obtain ⟨s0, s1, s2, s3, s4, s5, s6, s7, s8⟩ := hSw; go_simp; with_reducible rfl)
  try simp only [Act.put, List.setIfInBounds_toArray, List.set_cons_zero, List.set_cons_succ]
  refine wpAnyH_take (i := 3) (oi := { dst := some 23, op := _, type := _, pos := _, after := _, guard := _ }) (v := ?va3_4) rfl (by kernel_rfl) (by kernel_rfl) (by kernel_rfl) (fun _ _ _ h => h) (Or.inl ⟨by kernel_rfl, ?ha3_4⟩) hSa ?ra3_4
  case ha3_4 => first | (intro w hSw; obtain ⟨s0, s1, s2, s3, s4, s5, s6, s7, s8⟩ := hSw; go_simp; done) | (intro w hSw; obtain ⟨s0, s1, s2, s3, s4, s5, s6, s7, s8⟩ := hSw; go_simp; with_reducible rfl)
  try simp only [Act.put, List.setIfInBounds_toArray, List.set_cons_zero, List.set_cons_succ]
  refine wpAnyH_take (i := 4) (oi := { dst := some 24, op := _, type := _, pos := _, after := _, guard := _ }) (v := ?va4_5) rfl (by kernel_rfl) (by kernel_rfl) (by kernel_rfl) (fun _ _ _ h => h) (Or.inl ⟨by kernel_rfl, ?ha4_5⟩) hSa ?ra4_5
  case ha4_5 => first | (intro w hSw; obtain ⟨s0, s1, s2, s3, s4, s5, s6, s7, s8⟩ := hSw; go_simp; done) | (intro w hSw; obtain ⟨s0, s1, s2, s3, s4, s5, s6, s7, s8⟩ := hSw; go_simp; with_reducible rfl)
  try simp only [Act.put, List.setIfInBounds_toArray, List.set_cons_zero, List.set_cons_succ]
  refine wpAnyH_take (i := 5) (oi := { dst := some 25, op := _, type := _, pos := _, after := _, guard := _ }) (v := ?va5_6) rfl (by kernel_rfl) (by kernel_rfl) (by kernel_rfl) (fun _ _ _ h => h) (Or.inl ⟨by kernel_rfl, ?ha5_6⟩) hSa ?ra5_6
  case ha5_6 => first | (intro w hSw; obtain ⟨s0, s1, s2, s3, s4, s5, s6, s7, s8⟩ := hSw; go_simp; done) | (intro w hSw; obtain ⟨s0, s1, s2, s3, s4, s5, s6, s7, s8⟩ := hSw; go_simp; with_reducible rfl)
  try simp only [Act.put, List.setIfInBounds_toArray, List.set_cons_zero, List.set_cons_succ]
  refine wpAnyH_take (i := 6) (oi := { dst := some 26, op := _, type := _, pos := _, after := _, guard := _ }) (v := ?va6_7) rfl (by kernel_rfl) (by kernel_rfl) (by kernel_rfl) (fun _ _ _ h => h) (Or.inl ⟨by kernel_rfl, ?ha6_7⟩) hSa ?ra6_7
  case ha6_7 => first | (intro w hSw; obtain ⟨s0, s1, s2, s3, s4, s5, s6, s7, s8⟩ := hSw; go_simp; done) | (intro w hSw; obtain ⟨s0, s1, s2, s3, s4, s5, s6, s7, s8⟩ := hSw; go_simp; with_reducible rfl)
  try simp only [Act.put, List.setIfInBounds_toArray, List.set_cons_zero, List.set_cons_succ]
  refine wpAnyH_take (i := 7) (oi := { dst := some 27, op := _, type := _, pos := _, after := _, guard := _ }) (v := ?va7_8) rfl (by kernel_rfl) (by kernel_rfl) (by kernel_rfl) (fun _ _ _ h => h) (Or.inl ⟨by kernel_rfl, ?ha7_8⟩) hSa ?ra7_8
  case ha7_8 => first | (intro w hSw; obtain ⟨s0, s1, s2, s3, s4, s5, s6, s7, s8⟩ := hSw; go_simp; done) | (intro w hSw; obtain ⟨s0, s1, s2, s3, s4, s5, s6, s7, s8⟩ := hSw; go_simp; with_reducible rfl)
  try simp only [Act.put, List.setIfInBounds_toArray, List.set_cons_zero, List.set_cons_succ]
  refine wpAnyH_take (i := 8) (oi := { dst := some 28, op := _, type := _, pos := _, after := _, guard := _ }) (v := ?va8_9) rfl (by kernel_rfl) (by kernel_rfl) (by kernel_rfl) (fun _ _ _ h => h) (Or.inl ⟨by kernel_rfl, ?ha8_9⟩) hSa ?ra8_9
  case ha8_9 => first | (intro w hSw; obtain ⟨s0, s1, s2, s3, s4, s5, s6, s7, s8⟩ := hSw; go_simp; done) | (intro w hSw; obtain ⟨s0, s1, s2, s3, s4, s5, s6, s7, s8⟩ := hSw; go_simp; with_reducible rfl)
  try simp only [Act.put, List.setIfInBounds_toArray, List.set_cons_zero, List.set_cons_succ]
  refine wpAnyH_take (i := 9) (oi := { dst := some 29, op := _, type := _, pos := _, after := _, guard := _ }) (v := ?va9_10) rfl (by kernel_rfl) (by kernel_rfl) (by kernel_rfl) (fun _ _ _ h => h) (Or.inl ⟨by kernel_rfl, ?ha9_10⟩) hSa ?ra9_10
  case ha9_10 => first | (intro w hSw; obtain ⟨s0, s1, s2, s3, s4, s5, s6, s7, s8⟩ := hSw; go_simp; done) | (intro w hSw; obtain ⟨s0, s1, s2, s3, s4, s5, s6, s7, s8⟩ := hSw; go_simp; with_reducible rfl)
  try simp only [Act.put, List.setIfInBounds_toArray, List.set_cons_zero, List.set_cons_succ]
  refine wpAnyH_take (i := 10) (oi := { dst := some 30, op := _, type := _, pos := _, after := _, guard := _ }) (v := ?va10_11) rfl (by kernel_rfl) (by kernel_rfl) (by kernel_rfl) (fun _ _ _ h => h) (Or.inl ⟨by kernel_rfl, ?ha10_11⟩) hSa ?ra10_11
  case ha10_11 => first | (intro w hSw; obtain ⟨s0, s1, s2, s3, s4, s5, s6, s7, s8⟩ := hSw; go_simp; done) | (intro w hSw; obtain ⟨s0, s1, s2, s3, s4, s5, s6, s7, s8⟩ := hSw; go_simp; with_reducible rfl)
  try simp only [Act.put, List.setIfInBounds_toArray, List.set_cons_zero, List.set_cons_succ]
  refine wpAnyH_take (i := 11) (oi := { dst := some 31, op := _, type := _, pos := _, after := _, guard := _ }) (v := ?va11_12) rfl (by kernel_rfl) (by kernel_rfl) (by kernel_rfl) (fun _ _ _ h => h) (Or.inl ⟨by kernel_rfl, ?ha11_12⟩) hSa ?ra11_12
  case ha11_12 => first | (intro w hSw; obtain ⟨s0, s1, s2, s3, s4, s5, s6, s7, s8⟩ := hSw; go_simp; done) | (intro w hSw; obtain ⟨s0, s1, s2, s3, s4, s5, s6, s7, s8⟩ := hSw; go_simp; with_reducible rfl)
  try simp only [Act.put, List.setIfInBounds_toArray, List.set_cons_zero, List.set_cons_succ]
  refine wpAnyH_take (i := 12) (oi := { dst := some 32, op := _, type := _, pos := _, after := _, guard := _ }) (v := ?va12_13) rfl (by kernel_rfl) (by kernel_rfl) (by kernel_rfl) (fun _ _ _ h => h) (Or.inl ⟨by kernel_rfl, ?ha12_13⟩) hSa ?ra12_13
  case ha12_13 => first | (intro w hSw; obtain ⟨s0, s1, s2, s3, s4, s5, s6, s7, s8⟩ := hSw; go_simp; done) | (intro w hSw; obtain ⟨s0, s1, s2, s3, s4, s5, s6, s7, s8⟩ := hSw; go_simp; with_reducible rfl)
  try simp only [Act.put, List.setIfInBounds_toArray, List.set_cons_zero, List.set_cons_succ]
  refine wpAnyH_take (i := 13) (oi := { dst := some 33, op := _, type := _, pos := _, after := _, guard := _ }) (v := ?va13_14) rfl (by kernel_rfl) (by kernel_rfl) (by kernel_rfl) (fun _ _ _ h => h) (Or.inl ⟨by kernel_rfl, ?ha13_14⟩) hSa ?ra13_14
  case ha13_14 => first | (intro w hSw; obtain ⟨s0, s1, s2, s3, s4, s5, s6, s7, s8⟩ := hSw; go_simp; done) | (intro w hSw; obtain ⟨s0, s1, s2, s3, s4, s5, s6, s7, s8⟩ := hSw; go_simp; with_reducible rfl)
  try simp only [Act.put, List.setIfInBounds_toArray, List.set_cons_zero, List.set_cons_succ]
  refine wpAnyH_take (i := 14) (oi := { dst := some 34, op := _, type := _, pos := _, after := _, guard := _ }) (v := ?va14_15) rfl (by kernel_rfl) (by kernel_rfl) (by kernel_rfl) (fun _ _ _ h => h) (Or.inl ⟨by kernel_rfl, ?ha14_15⟩) hSa ?ra14_15
  case ha14_15 => first | (intro w hSw; obtain ⟨s0, s1, s2, s3, s4, s5, s6, s7, s8⟩ := hSw; go_simp; done) | (intro w hSw; obtain ⟨s0, s1, s2, s3, s4, s5, s6, s7, s8⟩ := hSw; go_simp; with_reducible rfl)
  try simp only [Act.put, List.setIfInBounds_toArray, List.set_cons_zero, List.set_cons_succ]
  refine wpAnyH_take (i := 15) (oi := { dst := some 35, op := _, type := _, pos := _, after := _, guard := _ }) (v := ?va15_16) rfl (by kernel_rfl) (by kernel_rfl) (by kernel_rfl) (fun _ _ _ h => h) (Or.inl ⟨by kernel_rfl, ?ha15_16⟩) hSa ?ra15_16
  case ha15_16 => first | (intro w hSw; obtain ⟨s0, s1, s2, s3, s4, s5, s6, s7, s8⟩ := hSw; go_simp; done) | (intro w hSw; obtain ⟨s0, s1, s2, s3, s4, s5, s6, s7, s8⟩ := hSw; go_simp; with_reducible rfl)
  try simp only [Act.put, List.setIfInBounds_toArray, List.set_cons_zero, List.set_cons_succ]
  refine wpAnyH_take (i := 16) (oi := { dst := some 36, op := _, type := _, pos := _, after := _, guard := _ }) (v := ?va16_17) rfl (by kernel_rfl) (by kernel_rfl) (by kernel_rfl) (fun _ _ _ h => h) (Or.inl ⟨by kernel_rfl, ?ha16_17⟩) hSa ?ra16_17
  case ha16_17 => first | (intro w hSw; obtain ⟨s0, s1, s2, s3, s4, s5, s6, s7, s8⟩ := hSw; go_simp; done) | (intro w hSw; obtain ⟨s0, s1, s2, s3, s4, s5, s6, s7, s8⟩ := hSw; go_simp; with_reducible rfl)
  try simp only [Act.put, List.setIfInBounds_toArray, List.set_cons_zero, List.set_cons_succ]
  refine wpAnyH_take (i := 17) (oi := { dst := some 37, op := _, type := _, pos := _, after := _, guard := _ }) (v := ?va17_18) rfl (by kernel_rfl) (by kernel_rfl) (by kernel_rfl) (fun _ _ _ h => h) (Or.inl ⟨by kernel_rfl, ?ha17_18⟩) hSa ?ra17_18
  case ha17_18 => first | (intro w hSw; obtain ⟨s0, s1, s2, s3, s4, s5, s6, s7, s8⟩ := hSw; go_simp; done) | (intro w hSw; obtain ⟨s0, s1, s2, s3, s4, s5, s6, s7, s8⟩ := hSw; go_simp; with_reducible rfl)
  try simp only [Act.put, List.setIfInBounds_toArray, List.set_cons_zero, List.set_cons_succ]
  refine wpAnyH_take (i := 19) (oi := { dst := some 39, op := _, type := _, pos := _, after := _, guard := _ }) (v := ?va19_19) rfl (by kernel_rfl) (by kernel_rfl) (by kernel_rfl) (fun _ _ _ h => h) (Or.inl ⟨by kernel_rfl, ?ha19_19⟩) hSa ?ra19_19
  case ha19_19 => first | (intro w hSw; obtain ⟨s0, s1, s2, s3, s4, s5, s6, s7, s8⟩ := hSw; go_simp; done) | (intro w hSw; obtain ⟨s0, s1, s2, s3, s4, s5, s6, s7, s8⟩ := hSw; go_simp; with_reducible rfl)
  try simp only [Act.put, List.setIfInBounds_toArray, List.set_cons_zero, List.set_cons_succ]
  refine wpAnyH_take (i := 20) (oi := { dst := some 40, op := _, type := _, pos := _, after := _, guard := _ }) (v := ?va20_20) rfl (by kernel_rfl) (by kernel_rfl) (by kernel_rfl) (fun _ _ _ h => h) (Or.inl ⟨by kernel_rfl, ?ha20_20⟩) hSa ?ra20_20
  case ha20_20 => first | (intro w hSw; obtain ⟨s0, s1, s2, s3, s4, s5, s6, s7, s8⟩ := hSw; go_simp; done) | (intro w hSw; obtain ⟨s0, s1, s2, s3, s4, s5, s6, s7, s8⟩ := hSw; go_simp; with_reducible rfl)
  try simp only [Act.put, List.setIfInBounds_toArray, List.set_cons_zero, List.set_cons_succ]
  refine wpAnyH_take (i := 21) (oi := { dst := some 41, op := _, type := _, pos := _, after := _, guard := _ }) (v := ?va21_21) rfl (by kernel_rfl) (by kernel_rfl) (by kernel_rfl) (fun _ _ _ h => h) (Or.inl ⟨by kernel_rfl, ?ha21_21⟩) hSa ?ra21_21
  case ha21_21 => first | (intro w hSw; obtain ⟨s0, s1, s2, s3, s4, s5, s6, s7, s8⟩ := hSw; go_simp; done) | (intro w hSw; obtain ⟨s0, s1, s2, s3, s4, s5, s6, s7, s8⟩ := hSw; go_simp; with_reducible rfl)
  try simp only [Act.put, List.setIfInBounds_toArray, List.set_cons_zero, List.set_cons_succ]
  refine wpAnyH_ready (rs := [18]) (by kernel_rfl) (by simp) ?_
  refine AllReadyH.cons rfl (fun K hK => ?_) AllReadyH.nil
  go_simp
  refine (unhide C4 _).mono ?_
  rintro e w5 ⟨rfl, hb⟩
  have HK5 := hide ((unhide HK4).later hb)
  have HB5 := hide (tr2 (unhide HB4) hb)
  have hSa' := KeepP.of (show Blk w5 w1.heap.size (ptC SC Y4 Y5 Y3 Y2 D1 D4 D2 D3) _ from unhide HK5)
  clear hb
  refine hK _ _ hSa' (fun _ => ?_)
  clear hK K hSa
  have hSa := hSa'
  clear hSa'
  refine wpAnyH_take (i := 22) (oi := { dst := some 42, op := _, type := _, pos := _, after := _, guard := _ }) (v := ?va22_22) rfl (by kernel_rfl) (by kernel_rfl) (by kernel_rfl) (fun _ _ _ h => h) (Or.inl ⟨by kernel_rfl, ?ha22_22⟩) hSa ?ra22_22
  case ha22_22 => first | (intro w hSw; obtain ⟨s0, s1, s2, s3, s4, s5, s6, s7, s8⟩ := hSw; go_simp; done) | (intro w hSw; obtain ⟨s0, s1, s2, s3, s4, s5, s6, s7, s8⟩ := hSw; go_simp; with_reducible rfl)
  try simp only [Act.put, List.setIfInBounds_toArray, List.set_cons_zero, List.set_cons_succ]
  refine wpAnyH_take (i := 23) (oi := { dst := some 43, op := _, type := _, pos := _, after := _, guard := _ }) (v := ?va23_23) rfl (by kernel_rfl) (by kernel_rfl) (by kernel_rfl) (fun _ _ _ h => h) (Or.inl ⟨by kernel_rfl, ?ha23_23⟩) hSa ?ra23_23
  case ha23_23 => first | (intro w hSw; obtain ⟨s0, s1, s2, s3, s4, s5, s6, s7, s8⟩ := hSw; go_simp; done) | (intro w hSw; obtain ⟨s0, s1, s2, s3, s4, s5, s6, s7, s8⟩ := hSw; go_simp; with_reducible rfl)
  try simp only [Act.put, List.setIfInBounds_toArray, List.set_cons_zero, List.set_cons_succ]
  refine wpAnyH_done (by kernel_rfl) ?_ _
  clear hSa
  have hD : Below w5.heap.size w5 w5.drew := below_draws w5 1
  have HK6 := hide ((unhide HK5).later hD)
  have HB6 := hide (tr2 (unhide HB5) hD)
  clear hD
  go_wp2_with fail
  have hSa := KeepP.of (show Blk w5.drew w1.heap.size (ptC SC Y4 Y5 Y3 Y2 D1 D4 D2 D3) _ from unhide HK6)
  refine wp_region_held (S := KeepP w1.heap.size SC Y4 Y5 Y3 Y2 D1 D4 D2 D3) (by kernel_rfl) ?_
  change wpAnyH _ _ _ _ _ _ _ _ (World.drew _)
  refine wpAnyH_take (i := 0) (oi := { dst := some 44, op := _, type := _, pos := _, after := _, guard := _ }) (v := ?va0_24) rfl (by kernel_rfl) (by kernel_rfl) (by kernel_rfl) (fun _ _ _ h => h) (Or.inl ⟨by kernel_rfl, ?ha0_24⟩) hSa ?ra0_24
  case ha0_24 => first | (intro w hSw; obtain ⟨s0, s1, s2, s3, s4, s5, s6, s7, s8⟩ := hSw; go_simp; done) | (intro w hSw; obtain ⟨s0, s1, s2, s3, s4, s5, s6, s7, s8⟩ := hSw; go_simp; with_reducible rfl)
  try simp only [Act.put, List.setIfInBounds_toArray, List.set_cons_zero, List.set_cons_succ]
  refine wpAnyH_take (i := 2) (oi := { dst := some 46, op := _, type := _, pos := _, after := _, guard := _ }) (v := ?va2_25) rfl (by kernel_rfl) (by kernel_rfl) (by kernel_rfl) (fun _ _ _ h => h) (Or.inl ⟨by kernel_rfl, ?ha2_25⟩) hSa ?ra2_25
  case ha2_25 => first | (intro w hSw; obtain ⟨s0, s1, s2, s3, s4, s5, s6, s7, s8⟩ := hSw; go_simp; done) | (intro w hSw; obtain ⟨s0, s1, s2, s3, s4, s5, s6, s7, s8⟩ := hSw; go_simp; with_reducible rfl)
  try simp only [Act.put, List.setIfInBounds_toArray, List.set_cons_zero, List.set_cons_succ]
  refine wpAnyH_ready (rs := [1]) (by kernel_rfl) (by simp) ?_
  refine AllReadyH.cons rfl (fun K hK => ?_) AllReadyH.nil
  go_simp
  refine (unhide C5 _).mono ?_
  rintro e w7 ⟨rfl, hb⟩
  have HK7 := hide ((unhide HK6).later hb)
  have HB7 := hide (tr2 (unhide HB6) hb)
  have hSa' := KeepP.of (show Blk w7 w1.heap.size (ptC SC Y4 Y5 Y3 Y2 D1 D4 D2 D3) _ from unhide HK7)
  clear hb
  refine hK _ _ hSa' (fun _ => ?_)
  clear hK K hSa
  have hSa := hSa'
  clear hSa'
  refine wpAnyH_take (i := 3) (oi := { dst := some 47, op := _, type := _, pos := _, after := _, guard := _ }) (v := ?va3_26) rfl (by kernel_rfl) (by kernel_rfl) (by kernel_rfl) (fun _ _ _ h => h) (Or.inl ⟨by kernel_rfl, ?ha3_26⟩) hSa ?ra3_26
  case ha3_26 => first | (intro w hSw; obtain ⟨s0, s1, s2, s3, s4, s5, s6, s7, s8⟩ := hSw; go_simp; done) | (intro w hSw; obtain ⟨s0, s1, s2, s3, s4, s5, s6, s7, s8⟩ := hSw; go_simp; with_reducible rfl)
  try simp only [Act.put, List.setIfInBounds_toArray, List.set_cons_zero, List.set_cons_succ]
  refine wpAnyH_take (i := 4) (oi := { dst := some 48, op := _, type := _, pos := _, after := _, guard := _ }) (v := ?va4_27) rfl (by kernel_rfl) (by kernel_rfl) (by kernel_rfl) (fun _ _ _ h => h) (Or.inl ⟨by kernel_rfl, ?ha4_27⟩) hSa ?ra4_27
  case ha4_27 => first | (intro w hSw; obtain ⟨s0, s1, s2, s3, s4, s5, s6, s7, s8⟩ := hSw; go_simp; done) | (intro w hSw; obtain ⟨s0, s1, s2, s3, s4, s5, s6, s7, s8⟩ := hSw; go_simp; with_reducible rfl)
  try simp only [Act.put, List.setIfInBounds_toArray, List.set_cons_zero, List.set_cons_succ]
  refine wpAnyH_take (i := 5) (oi := { dst := some 49, op := _, type := _, pos := _, after := _, guard := _ }) (v := ?va5_28) rfl (by kernel_rfl) (by kernel_rfl) (by kernel_rfl) (fun _ _ _ h => h) (Or.inl ⟨by kernel_rfl, ?ha5_28⟩) hSa ?ra5_28
  case ha5_28 => first | (intro w hSw; obtain ⟨s0, s1, s2, s3, s4, s5, s6, s7, s8⟩ := hSw; go_simp; done) | (intro w hSw; obtain ⟨s0, s1, s2, s3, s4, s5, s6, s7, s8⟩ := hSw; go_simp; with_reducible rfl)
  try simp only [Act.put, List.setIfInBounds_toArray, List.set_cons_zero, List.set_cons_succ]
  refine wpAnyH_take (i := 7) (oi := { dst := some 51, op := _, type := _, pos := _, after := _, guard := _ }) (v := ?va7_29) rfl (by kernel_rfl) (by kernel_rfl) (by kernel_rfl) (fun _ _ _ h => h) (Or.inl ⟨by kernel_rfl, ?ha7_29⟩) hSa ?ra7_29
  case ha7_29 => first | (intro w hSw; obtain ⟨s0, s1, s2, s3, s4, s5, s6, s7, s8⟩ := hSw; go_simp; done) | (intro w hSw; obtain ⟨s0, s1, s2, s3, s4, s5, s6, s7, s8⟩ := hSw; go_simp; with_reducible rfl)
  try simp only [Act.put, List.setIfInBounds_toArray, List.set_cons_zero, List.set_cons_succ]
  refine wpAnyH_ready (rs := [6]) (by kernel_rfl) (by simp) ?_
  refine AllReadyH.cons rfl (fun K hK => ?_) AllReadyH.nil
  go_simp
  refine (unhide C6 _).mono ?_
  rintro e w8 ⟨rfl, hb⟩
  have HK8 := hide ((unhide HK7).later hb)
  have HB8 := hide (tr2 (unhide HB7) hb)
  have hSa' := KeepP.of (show Blk w8 w1.heap.size (ptC SC Y4 Y5 Y3 Y2 D1 D4 D2 D3) _ from unhide HK8)
  clear hb
  refine hK _ _ hSa' (fun _ => ?_)
  clear hK K hSa
  have hSa := hSa'
  clear hSa'
  refine wpAnyH_take (i := 8) (oi := { dst := some 52, op := _, type := _, pos := _, after := _, guard := _ }) (v := ?va8_30) rfl (by kernel_rfl) (by kernel_rfl) (by kernel_rfl) (fun _ _ _ h => h) (Or.inl ⟨by kernel_rfl, ?ha8_30⟩) hSa ?ra8_30
  case ha8_30 => first | (intro w hSw; obtain ⟨s0, s1, s2, s3, s4, s5, s6, s7, s8⟩ := hSw; go_simp; done) | (intro w hSw; obtain ⟨s0, s1, s2, s3, s4, s5, s6, s7, s8⟩ := hSw; go_simp; with_reducible rfl)
  try simp only [Act.put, List.setIfInBounds_toArray, List.set_cons_zero, List.set_cons_succ]
  refine wpAnyH_take (i := 9) (oi := { dst := some 53, op := _, type := _, pos := _, after := _, guard := _ }) (v := ?va9_31) rfl (by kernel_rfl) (by kernel_rfl) (by kernel_rfl) (fun _ _ _ h => h) (Or.inl ⟨by kernel_rfl, ?ha9_31⟩) hSa ?ra9_31
  case ha9_31 => first | (intro w hSw; obtain ⟨s0, s1, s2, s3, s4, s5, s6, s7, s8⟩ := hSw; go_simp; done) | (intro w hSw; obtain ⟨s0, s1, s2, s3, s4, s5, s6, s7, s8⟩ := hSw; go_simp; with_reducible rfl)
  try simp only [Act.put, List.setIfInBounds_toArray, List.set_cons_zero, List.set_cons_succ]
  refine wpAnyH_take (i := 10) (oi := { dst := some 54, op := _, type := _, pos := _, after := _, guard := _ }) (v := ?va10_32) rfl (by kernel_rfl) (by kernel_rfl) (by kernel_rfl) (fun _ _ _ h => h) (Or.inl ⟨by kernel_rfl, ?ha10_32⟩) hSa ?ra10_32
  case ha10_32 => first | (intro w hSw; obtain ⟨s0, s1, s2, s3, s4, s5, s6, s7, s8⟩ := hSw; go_simp; done) | (intro w hSw; obtain ⟨s0, s1, s2, s3, s4, s5, s6, s7, s8⟩ := hSw; go_simp; with_reducible rfl)
  try simp only [Act.put, List.setIfInBounds_toArray, List.set_cons_zero, List.set_cons_succ]
  refine wpAnyH_ready (rs := [11]) (by kernel_rfl) (by simp) ?_
  refine AllReadyH.cons rfl (fun K hK => ?_) AllReadyH.nil
  go_simp
  refine (unhide CJ _).mono ?_
  rintro e w9 ⟨rfl, hb⟩
  have HK9 := hide ((unhide HK8).later hb)
  have HB9 := hide (tr2 (unhide HB8) hb)
  have hSa' := KeepP.of (show Blk w9 w1.heap.size (ptC SC Y4 Y5 Y3 Y2 D1 D4 D2 D3) _ from unhide HK9)
  clear hb
  refine hK _ _ hSa' (fun _ => ?_)
  clear hK K hSa
  have hSa := hSa'
  clear hSa'
  refine wpAnyH_take (i := 12) (oi := { dst := some 56, op := _, type := _, pos := _, after := _, guard := _ }) (v := ?va12_33) rfl (by kernel_rfl) (by kernel_rfl) (by kernel_rfl) (fun _ _ _ h => h) (Or.inl ⟨by kernel_rfl, ?ha12_33⟩) hSa ?ra12_33
  case ha12_33 => first | (intro w hSw; obtain ⟨s0, s1, s2, s3, s4, s5, s6, s7, s8⟩ := hSw; go_simp; done) | (intro w hSw; obtain ⟨s0, s1, s2, s3, s4, s5, s6, s7, s8⟩ := hSw; go_simp; with_reducible rfl)
  try simp only [Act.put, List.setIfInBounds_toArray, List.set_cons_zero, List.set_cons_succ]
  refine wpAnyH_take (i := 13) (oi := { dst := some 2, op := _, type := _, pos := _, after := _, guard := _ }) (v := ?va13_34) rfl (by kernel_rfl) (by kernel_rfl) (by kernel_rfl) (fun _ _ _ h => h) (Or.inl ⟨by kernel_rfl, ?ha13_34⟩) hSa ?ra13_34
  case ha13_34 => first | (intro w hSw; obtain ⟨s0, s1, s2, s3, s4, s5, s6, s7, s8⟩ := hSw; go_simp; done) | (intro w hSw; obtain ⟨s0, s1, s2, s3, s4, s5, s6, s7, s8⟩ := hSw; go_simp; with_reducible rfl)
  try simp only [Act.put, List.setIfInBounds_toArray, List.set_cons_zero, List.set_cons_succ]
  refine wpAnyH_done (by kernel_rfl) ?_ _
  clear hSa
  go_wp2
  go_ret
  exact ⟨rfl, unhide HB9⟩

theorem urlsBack_walk (s : ByteArray) (w : World) (hs : s.size ≤ 9223372036854775807) :
    Calls Try.prog 6 #[.string s] w fun e w' => e = .returned (.bool true) ∧ Below w.heap.size w w' := by
  by_cases h1 : 2000 < s.size
  · have hi : (2000 : Int) < (s.size : Int) := by omega
    have CJ := hide java_any
    go_enter Try.func6, Try.ntmps6
    go_wp2_with fail
    refine (unhide CJ _).mono ?_
    rintro e w2 ⟨rfl, hb2⟩
    go_wp2
    go_ret
    exact ⟨rfl, hb2⟩
  have hi : ¬ (2000 : Int) < (s.size : Int) := by omega
  have hpl := plL_len s.data.toList
  rw [data_len] at hpl
  have C1 := fun w => split_any s w (by omega)
  have C3 := fun w => plain_any s w (by omega)
  have hfix := pl_pl s.data.toList
  have hjp := jn_plain s.data.toList
  generalize plL s.data.toList = x at *
  have hjl := jn_len x
  have hsl := sch_le x
  have hscl := sc_len x
  have C5 := fun w => plain_any (bs x) w (by rw [bs_size]; omega)
  rw [bs_toList, hfix] at C5
  have C6 := fun w => split_any (bs (jnL x)) w (by rw [bs_size]; omega)
  rw [bs_toList, hjp, jn_parts] at C6
  have hcat := jn_is x
  have z : ∀ l : List UInt8, l.length ≤ 2000 → (bs l).size ≤ 100000 := fun l h => by rw [bs_size]; omega
  have l1 : (s1 x).length ≤ 2000 := s1_sz (by omega)
  have l2 : (s2 x).length ≤ 2000 := take_sz l1
  have l3 : (s3 x).length ≤ 2000 := take_sz l2
  have lh : (hoL (s3 x)).length ≤ 2000 := by
    unfold hoL; split
    · exact take_sz (drop_sz l3)
    · simp
  have lp : (paL (s3 x)).length ≤ 2000 := by
    unfold paL; split
    · exact drop_sz (drop_sz l3)
    · exact l3
  have C2 := fun w => join_any (bs (sSc x)) (bs (hoL (s3 x))) (bs (paL (s3 x))) (bs (sQu x)) (bs (sMa x)) (decide (0 < schN x)) (hstB (s3 x)) (decide (sQ x < (s2 x).length)) (decide (sM x < (s1 x).length)) w (z _ (by omega)) (z _ lh) (z _ lp) (z _ (drop_sz l2)) (z _ (drop_sz l1))
  have hJ : jnB (bs (sSc x)) (bs (hoL (s3 x))) (bs (paL (s3 x))) (bs (sQu x)) (bs (sMa x)) (decide (0 < schN x)) (hstB (s3 x)) (decide (sQ x < (s2 x).length)) (decide (sM x < (s1 x).length)) = bs (jnL x) := by
    rw [jnL, bs_self]
  rw [hJ] at C2
  have C4 := fun w => lower_any (bs (x.take (schN x))) w (by rw [bs_size, List.length_take]; omega)
  have hsc : lowL (x.take (schN x)) = sSc x := by
    unfold sSc; split
    · rfl
    · rename_i h; have h0 : schN x = 0 := by omega
      rw [h0]; rfl
  rw [bs_toList, hsc] at C4
  have hz1 : (bs (sSc x)).size = schN x := by rw [bs_size, hscl]
  have hz2 : (bs (jnL x)).size = (bs x).size := by rw [bs_size, bs_size, hjl]
  refine back_core s (bs (jnL x)) (bs x) (bs (sSc x)) _ _ _ _ (bs (x.drop (schN x))) (bs (x.take (schN x))) _ _ _ _ w hi (hide java_any) (hide C1) (hide C2) (hide C3) (hide C4) (hide C5) (hide C6) ?_ ?_ ?_ ?_ ?_ ?_ ?_ ?_ ?_ ?_ ?_
  · rw [hz2]; simp
  · rw [hz2]; simp
  · rw [hz2]; simp
  · rw [hz2]; simp
  · rw [hz1, bs_size, hjl]; omega
  · rw [hz1, bs_size]; omega
  · omega
  · rw [hz1, ← bs_self (ByteArray.extract _ _ _), Lib.extract_to_end, bs_toList]
    have := jn_back x 0
    rw [Nat.add_zero] at this
    rw [this]
  · rw [hz1, ← bs_self (ByteArray.extract _ _ _), Lib.extract_to_end, bs_toList]
  · rw [hz1, ← bs_self (ByteArray.extract _ _ _), Lib.Pa.extract_upto_list, bs_toList]
  · rw [hz1, ← bs_self (ByteArray.extract _ _ _), Lib.Pa.extract_upto_list, bs_toList, jn_front, hsc]
end Go.Proofs.Ytcpebhecjlcioaa
