/-
  The law UrlsJoins walked (made by mk_lvj.py).
-/
import Derived.Test.YtcpebhecjlcioaaVSf
import Derived.Test.YtcpebhecjlcioaaVJn
import Derived.Deep.RegionHeld
namespace Go.Proofs.Ytcpebhecjlcioaa
open Go.RowKit
set_option linter.unusedVariables false
set_option linter.unusedSimpArgs false

def KeepP (b : Nat) (sc ho pa qu ma : ByteArray) (hs hh hq hm : Bool) (W : World) : Prop :=
  W.cell? ⟨b, 0, none⟩ = some (.string sc) ∧ W.cell? ⟨b, 1, none⟩ = some (.string ho) ∧ W.cell? ⟨b, 2, none⟩ = some (.string pa) ∧ W.cell? ⟨b, 3, none⟩ = some (.string qu) ∧ W.cell? ⟨b, 4, none⟩ = some (.string ma) ∧
  W.cell? ⟨b, 5, none⟩ = some (.bool hs) ∧ W.cell? ⟨b, 6, none⟩ = some (.bool hh) ∧ W.cell? ⟨b, 7, none⟩ = some (.bool hq) ∧ W.cell? ⟨b, 8, none⟩ = some (.bool hm)
theorem KeepP.of {b : Nat} {sc ho pa qu ma : ByteArray} {hs hh hq hm : Bool} {W : World} {t : TypeId} (h : Blk W b (ptC sc ho pa qu ma hs hh hq hm) t) : KeepP b sc ho pa qu ma hs hh hq hm W :=
  ⟨h.cell 0, h.cell 1, h.cell 2, h.cell 3, h.cell 4, h.cell 5, h.cell 6, h.cell 7, h.cell 8⟩

set_option maxHeartbeats 2000000 in
set_option maxRecDepth 100000 in
theorem urlsJoins_walk (sc ho pa qu ma : ByteArray) (hs hh hq hm : Bool) (w : World) (z1 : sc.size ≤ 4000000000000000000) (z2 : ho.size ≤ 4000000000000000000) (z3 : pa.size ≤ 4000000000000000000) (z4 : qu.size ≤ 4000000000000000000) (z5 : ma.size ≤ 4000000000000000000) :
    Calls Try.prog 4 #[.agg (ptC sc ho pa qu ma hs hh hq hm)] w fun e w' => e = .returned (.bool true) ∧ Below w.heap.size w w' := by
  have CJ := hide java_any
  have hzz : (sc.size : Int) + (ho.size : Int) ≤ 9000000000000000000 := by omega
  have HKa := hide (Blk.new w (ptC sc ho pa qu ma hs hh hq hm) 24)
  have HBa := hide ((Below.refl w.heap.size w).alloc (Nat.le_refl _) (Obj.cells (ptC sc ho pa qu ma hs hh hq hm) 24))
  by_cases h0 : 2000 < sc.size + ho.size
  · have i0 : (2000 : Int) < (sc.size : Int) + (ho.size : Int) := by omega
    unfold ptC at *
    go_enter Try.func4, Try.ntmps4
    go_wp2_with fail
    refine (unhide CJ _).mono ?_
    rintro e w2 ⟨rfl, hb2⟩
    go_wp2
    go_ret
    exact ⟨rfl, bel_of hb2⟩
  have i0 : ¬ (2000 : Int) < (sc.size : Int) + (ho.size : Int) := by omega
  by_cases h1 : 2000 < pa.size
  · have i1 : (2000 : Int) < (pa.size : Int) := by omega
    unfold ptC at *
    go_enter Try.func4, Try.ntmps4
    go_wp2_with fail
    refine (unhide CJ _).mono ?_
    rintro e w2 ⟨rfl, hb2⟩
    go_wp2
    go_ret
    exact ⟨rfl, bel_of hb2⟩
  have i1 : ¬ (2000 : Int) < (pa.size : Int) := by omega
  by_cases h2 : 2000 < qu.size
  · have i2 : (2000 : Int) < (qu.size : Int) := by omega
    unfold ptC at *
    go_enter Try.func4, Try.ntmps4
    go_wp2_with fail
    refine (unhide CJ _).mono ?_
    rintro e w2 ⟨rfl, hb2⟩
    go_wp2
    go_ret
    exact ⟨rfl, bel_of hb2⟩
  have i2 : ¬ (2000 : Int) < (qu.size : Int) := by omega
  by_cases h3 : 2000 < ma.size
  · have i3 : (2000 : Int) < (ma.size : Int) := by omega
    unfold ptC at *
    go_enter Try.func4, Try.ntmps4
    go_wp2_with fail
    refine (unhide CJ _).mono ?_
    rintro e w2 ⟨rfl, hb2⟩
    go_wp2
    go_ret
    exact ⟨rfl, bel_of hb2⟩
  have i3 : ¬ (2000 : Int) < (ma.size : Int) := by omega
  have C1 := hide (fun w => join_any sc ho pa qu ma hs hh hq hm w (by omega) (by omega) (by omega) (by omega) (by omega))
  have C2 := hide (fun w => refp_any sc ho pa qu ma hs hh hq hm w)
  have C3 := hide (fun w => rjoin_any sc ho pa qu ma hs hh hq hm w (by omega) (by omega) (by omega) (by omega) (by omega))
  generalize jnB sc ho pa qu ma hs hh hq hm = J at *
  have eJ := beq_yes (rfl : J = J)
  clear h0 h1 h2 h3
  have hD : Below (w.alloc (Obj.cells (ptC sc ho pa qu ma hs hh hq hm) 24)).heap.size (w.alloc (Obj.cells (ptC sc ho pa qu ma hs hh hq hm) 24)) (w.alloc (Obj.cells (ptC sc ho pa qu ma hs hh hq hm) 24)).drew := below_draws _ 1
  have HK1 := hide ((unhide HKa).later hD)
  have HB1 := hide ((unhide HBa).trans (hD.mono (by simp)))
  clear hD HKa HBa
  have hSa := KeepP.of (unhide HK1)
  unfold ptC at C1 C2 C3 HK1 HB1 hSa
  unfold ptC
  go_enter Try.func4, Try.ntmps4
  go_wp2_with fail
  refine wp_region_held (S := KeepP w.heap.size sc ho pa qu ma hs hh hq hm) (by kernel_rfl) ?_
  change wpAnyH _ _ _ _ _ _ _ _ (World.drew _)
  refine wpAnyH_take (i := 0) (oi := { dst := some 30, op := _, type := _, pos := _, after := _, guard := _ }) (v := ?va0_1) rfl (by kernel_rfl) (by kernel_rfl) (by kernel_rfl) (fun _ _ _ h => h) (Or.inl ⟨by kernel_rfl, ?ha0_1⟩) hSa ?ra0_1
  case ha0_1 => first | (intro w hSw; obtain ⟨s0, s1, s2, s3, s4, s5, s6, s7, s8⟩ := hSw; go_simp; done) | (intro w hSw; obtain ⟨s0, s1, s2, s3, s4, s5, s6, s7, s8⟩ := hSw; go_simp; with_reducible rfl)
  try simp only [Act.put, List.setIfInBounds_toArray, List.set_cons_zero, List.set_cons_succ]
  refine wpAnyH_take (i := 2) (oi := { dst := some 32, op := _, type := _, pos := _, after := _, guard := _ }) (v := ?va2_2) rfl (by kernel_rfl) (by kernel_rfl) (by kernel_rfl) (fun _ _ _ h => h) (Or.inl ⟨by kernel_rfl, ?ha2_2⟩) hSa ?ra2_2
  case ha2_2 => first | (intro w hSw; obtain ⟨s0, s1, s2, s3, s4, s5, s6, s7, s8⟩ := hSw; go_simp; done) | (intro w hSw; obtain ⟨s0, s1, s2, s3, s4, s5, s6, s7, s8⟩ := hSw; go_simp; with_reducible rfl)
  try simp only [Act.put, List.setIfInBounds_toArray, List.set_cons_zero, List.set_cons_succ]
  refine wpAnyH_ready (rs := [1]) (by kernel_rfl) (by simp) ?_
  refine AllReadyH.cons rfl (fun K hK => ?_) AllReadyH.nil
  go_simp
  refine (unhide C1 _).mono ?_
  rintro e w2 ⟨rfl, hb⟩
  have HK2 := hide ((unhide HK1).later hb)
  have HB2 := hide ((unhide HB1).trans (hb.mono (unhide HB1).size))
  have hSa' := KeepP.of (show Blk w2 w.heap.size (ptC sc ho pa qu ma hs hh hq hm) _ from unhide HK2)
  clear hb
  refine hK _ _ hSa' (fun _ => ?_)
  clear hK K hSa
  have hSa := hSa'
  clear hSa'
  refine wpAnyH_ready (rs := [3]) (by kernel_rfl) (by simp) ?_
  refine AllReadyH.cons rfl (fun K hK => ?_) AllReadyH.nil
  go_simp
  refine (unhide C2 _).mono ?_
  rintro e w3 ⟨rfl, hb⟩
  have HK3 := hide ((unhide HK2).later hb)
  have HB3 := hide ((unhide HB2).trans (hb.mono (unhide HB2).size))
  have hSa' := KeepP.of (show Blk w3 w.heap.size (ptC sc ho pa qu ma hs hh hq hm) _ from unhide HK3)
  clear hb
  refine hK _ _ hSa' (fun _ => ?_)
  clear hK K hSa
  have hSa := hSa'
  clear hSa'
  refine wpAnyH_ready (rs := [4]) (by kernel_rfl) (by simp) ?_
  refine AllReadyH.cons rfl (fun K hK => ?_) AllReadyH.nil
  go_simp
  refine (unhide C3 _).mono ?_
  rintro e w4 ⟨rfl, hb⟩
  have HK4 := hide ((unhide HK3).later hb)
  have HB4 := hide ((unhide HB3).trans (hb.mono (unhide HB3).size))
  have hSa' := KeepP.of (show Blk w4 w.heap.size (ptC sc ho pa qu ma hs hh hq hm) _ from unhide HK4)
  clear hb
  refine hK _ _ hSa' (fun _ => ?_)
  clear hK K hSa
  have hSa := hSa'
  clear hSa'
  refine wpAnyH_take (i := 5) (oi := { dst := some 35, op := _, type := _, pos := _, after := _, guard := _ }) (v := ?va5_3) rfl (by kernel_rfl) (by kernel_rfl) (by kernel_rfl) (fun _ _ _ h => h) (Or.inl ⟨by kernel_rfl, ?ha5_3⟩) hSa ?ra5_3
  case ha5_3 => first | (intro w hSw; obtain ⟨s0, s1, s2, s3, s4, s5, s6, s7, s8⟩ := hSw; go_simp; done) | (intro w hSw; obtain ⟨s0, s1, s2, s3, s4, s5, s6, s7, s8⟩ := hSw; go_simp; with_reducible rfl)
  try simp only [Act.put, List.setIfInBounds_toArray, List.set_cons_zero, List.set_cons_succ]
  refine wpAnyH_take (i := 6) (oi := { dst := some 36, op := _, type := _, pos := _, after := _, guard := _ }) (v := ?va6_4) rfl (by kernel_rfl) (by kernel_rfl) (by kernel_rfl) (fun _ _ _ h => h) (Or.inl ⟨by kernel_rfl, ?ha6_4⟩) hSa ?ra6_4
  case ha6_4 => first | (intro w hSw; obtain ⟨s0, s1, s2, s3, s4, s5, s6, s7, s8⟩ := hSw; go_simp; done) | (intro w hSw; obtain ⟨s0, s1, s2, s3, s4, s5, s6, s7, s8⟩ := hSw; go_simp; with_reducible rfl)
  try simp only [Act.put, List.setIfInBounds_toArray, List.set_cons_zero, List.set_cons_succ]
  refine wpAnyH_ready (rs := [7]) (by kernel_rfl) (by simp) ?_
  refine AllReadyH.cons rfl (fun K hK => ?_) AllReadyH.nil
  go_simp
  refine (unhide CJ _).mono ?_
  rintro e w5 ⟨rfl, hb⟩
  have HK5 := hide ((unhide HK4).later hb)
  have HB5 := hide ((unhide HB4).trans (hb.mono (unhide HB4).size))
  have hSa' := KeepP.of (show Blk w5 w.heap.size (ptC sc ho pa qu ma hs hh hq hm) _ from unhide HK5)
  clear hb
  refine hK _ _ hSa' (fun _ => ?_)
  clear hK K hSa
  have hSa := hSa'
  clear hSa'
  refine wpAnyH_take (i := 8) (oi := { dst := some 38, op := _, type := _, pos := _, after := _, guard := _ }) (v := ?va8_5) rfl (by kernel_rfl) (by kernel_rfl) (by kernel_rfl) (fun _ _ _ h => h) (Or.inl ⟨by kernel_rfl, ?ha8_5⟩) hSa ?ra8_5
  case ha8_5 => first | (intro w hSw; obtain ⟨s0, s1, s2, s3, s4, s5, s6, s7, s8⟩ := hSw; go_simp; done) | (intro w hSw; obtain ⟨s0, s1, s2, s3, s4, s5, s6, s7, s8⟩ := hSw; go_simp; with_reducible rfl)
  try simp only [Act.put, List.setIfInBounds_toArray, List.set_cons_zero, List.set_cons_succ]
  refine wpAnyH_take (i := 9) (oi := { dst := some 2, op := _, type := _, pos := _, after := _, guard := _ }) (v := ?va9_6) rfl (by kernel_rfl) (by kernel_rfl) (by kernel_rfl) (fun _ _ _ h => h) (Or.inl ⟨by kernel_rfl, ?ha9_6⟩) hSa ?ra9_6
  case ha9_6 => first | (intro w hSw; obtain ⟨s0, s1, s2, s3, s4, s5, s6, s7, s8⟩ := hSw; go_simp; done) | (intro w hSw; obtain ⟨s0, s1, s2, s3, s4, s5, s6, s7, s8⟩ := hSw; go_simp; with_reducible rfl)
  try simp only [Act.put, List.setIfInBounds_toArray, List.set_cons_zero, List.set_cons_succ]
  refine wpAnyH_done (by kernel_rfl) ?_ _
  clear hSa
  go_wp2
  go_ret
  exact ⟨rfl, unhide HB5⟩
end Go.Proofs.Ytcpebhecjlcioaa
