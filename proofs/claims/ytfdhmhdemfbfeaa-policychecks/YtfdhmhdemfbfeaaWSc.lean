/-
  The small case 'script' of layer 16.
-/
import Derived.Test.YtfdhmhdemfbfeaaWPn
namespace Go.Proofs.Ytfdhmhdemfbfeaa
open Go.RowKit
set_option linter.unusedVariables false
set_option linter.unusedSimpArgs false

theorem sameS_is (a b : ByteArray) : sameS a b = (a.data.toList == b.data.toList) := by unfold sameS; rw [Lib.toList_data, Lib.toList_data]
theorem pl_chk : chkP plainP = 0 := by kernel_rfl
theorem pl_a1 : actP plainP 0 ⟨#[115, 99, 114, 105, 112, 116]⟩ = 3 := by kernel_rfl
theorem pl_a2 : actP plainP 0 ⟨#[102, 111, 110, 116]⟩ = 2 := by kernel_rfl
theorem pl_a3 : actP plainP 0 ⟨#[112]⟩ = 1 := by kernel_rfl
theorem pl_s1 : stP plainP ⟨#[97]⟩ ⟨#[104, 114, 101, 102]⟩ ⟨#[106, 97, 118, 97, 115, 99, 114, 105, 112, 116, 58, 120]⟩ = false := by kernel_rfl
theorem pl_s2 : stP plainP ⟨#[97]⟩ ⟨#[104, 114, 101, 102]⟩ ⟨#[47, 120]⟩ = true := by kernel_rfl
theorem pl_ok : PolOk plainP := by
  constructor
  · intro r hr
    have : ((plainP.rs).all fun r => decide (r.nm.size ≤ 100) && (r.ats.all (fun s => decide (s.size ≤ 100)) && (r.lks.all (fun s => decide (s.size ≤ 100)) && (decide (r.ats.length ≤ 100) && decide (r.lks.length ≤ 100))))) = true := by kernel_rfl
    have h := List.all_eq_true.1 this r hr
    simp only [Bool.and_eq_true, decide_eq_true_eq, List.all_eq_true] at h
    exact ⟨by omega, fun s hs => by have := h.2.1 s hs; omega, fun s hs => by have := h.2.2.1 s hs; omega, by omega, by omega⟩
  · intro s hs
    have : ((plainP.sc).all fun s => decide (s.size ≤ 100)) = true := by kernel_rfl
    have h := List.all_eq_true.1 this s hs
    have := of_decide_eq_true h
    omega

set_option maxHeartbeats 4000000 in
set_option maxRecDepth 20000 in
theorem script_any (w : World) : Calls Try.prog 8 #[] w fun e w' => e = .returned (.bool true) ∧ Below w.heap.size w w' := by
  have CP := hide plain16_any
  have CC := hide (fun v W hv => check_any v plainP W hv pl_ok)
  rw [pl_chk] at CC
  have C1 := hide (fun v W hv => pact_any v plainP 0 ⟨#[115, 99, 114, 105, 112, 116]⟩ W hv pl_ok)
  rw [pl_a1] at C1
  have C2 := hide (fun v W hv => pact_any v plainP 0 ⟨#[102, 111, 110, 116]⟩ W hv pl_ok)
  rw [pl_a2] at C2
  have C3 := hide (fun v W hv => pact_any v plainP 0 ⟨#[112]⟩ W hv pl_ok)
  rw [pl_a3] at C3
  have C4 := hide (fun v W hv => pstays_any v plainP ⟨#[97]⟩ ⟨#[104, 114, 101, 102]⟩ ⟨#[106, 97, 118, 97, 115, 99, 114, 105, 112, 116, 58, 120]⟩ W hv pl_ok (by decide))
  rw [pl_s1] at C4
  have C5 := hide (fun v W hv => pstays_any v plainP ⟨#[97]⟩ ⟨#[104, 114, 101, 102]⟩ ⟨#[47, 120]⟩ W hv pl_ok (by decide))
  rw [pl_s2] at C5
  go_enter Try.func8, Try.ntmps8
  go_wp2_with fail
  refine (unhide CP _).mono ?_
  rintro e1 w1 ⟨⟨v, rfl, hv⟩, hb1⟩
  have HV1 := hide hv
  obtain ⟨vr, vs, rfl, h1, h2⟩ := hv
  obtain ⟨a2, c2, hvs⟩ := h2.slice
  obtain ⟨hrl, a1, c1, hvr, _⟩ := h1
  subst hvs hvr
  unfold polC at *
  generalize plainP.rs.length = n1 at *
  generalize plainP.sc.length = n2 at *
  have e3 : plainP.ot = 2 := rfl
  have e4 : plainP.st = 3 := rfl
  rw [e3, e4] at *
  clear h2 e3 e4
  have al : Below w1.heap.size w1 ((w1.alloc (Obj.cells #[.slice a1 n1 c1, .slice a2 n2 c2, .int .i64 2, .int .i64 3] 25)).alloc (Obj.cells #[.string ⟨#[104, 114, 101, 102]⟩, .string ⟨#[106, 97, 118, 97, 115, 99, 114, 105, 112, 116, 58, 120]⟩] 45)) := ((Below.refl _ _).alloc (Nat.le_refl _) _).alloc (by simp) _
  have K0 : Hid (Blk ((w1.alloc (Obj.cells #[.slice a1 n1 c1, .slice a2 n2 c2, .int .i64 2, .int .i64 3] 25)).alloc (Obj.cells #[.string ⟨#[104, 114, 101, 102]⟩, .string ⟨#[106, 97, 118, 97, 115, 99, 114, 105, 112, 116, 58, 120]⟩] 45)) w1.heap.size #[.slice a1 n1 c1, .slice a2 n2 c2, .int .i64 2, .int .i64 3] 25) := hide ((Blk.new w1 _ _).alloc _)
  have L0 : Hid (Blk ((w1.alloc (Obj.cells #[.slice a1 n1 c1, .slice a2 n2 c2, .int .i64 2, .int .i64 3] 25)).alloc (Obj.cells #[.string ⟨#[104, 114, 101, 102]⟩, .string ⟨#[106, 97, 118, 97, 115, 99, 114, 105, 112, 116, 58, 120]⟩] 45)) (w1.heap.size + 1) #[.string ⟨#[104, 114, 101, 102]⟩, .string ⟨#[106, 97, 118, 97, 115, 99, 114, 105, 112, 116, 58, 120]⟩] 45) := hide (blk_next (by simp))
  have HB0 := hide (tr2 hb1 al)
  have HV0 := hide ((unhide HV1).below al)
  clear hb1 al HV1
  go_wp2_with fail
  refine (unhide CC _ _ (unhide HV0)).mono ?_
  rintro e1 x1 ⟨rfl, hb⟩
  have HV1 := hide ((unhide HV0).below hb)
  have K1 := hide ((unhide K0).later hb)
  have L1 := hide ((unhide L0).later hb)
  have HB1 := hide (tr2 (unhide HB0) hb)
  have q0 : x1.cell? ⟨w1.heap.size, 0, none⟩ = some (.slice a1 n1 c1) := (unhide K1).cell 0
  have q1 : x1.cell? ⟨w1.heap.size, 1, none⟩ = some (.slice a2 n2 c2) := (unhide K1).cell 1
  have q2 : x1.cell? ⟨w1.heap.size, 2, none⟩ = some (.int .i64 2) := (unhide K1).cell 2
  have q3 : x1.cell? ⟨w1.heap.size, 3, none⟩ = some (.int .i64 3) := (unhide K1).cell 3
  have r0 : x1.cell? ⟨w1.heap.size + 1, 0, none⟩ = some (.string ⟨#[104, 114, 101, 102]⟩) := (unhide L1).cell 0
  have r1 : x1.cell? ⟨w1.heap.size + 1, 1, none⟩ = some (.string ⟨#[106, 97, 118, 97, 115, 99, 114, 105, 112, 116, 58, 120]⟩) := (unhide L1).cell 1
  clear hb K0 L0 HV0 HB0
  go_wp2_with fail
  refine (unhide C1 _ _ (unhide HV1)).mono ?_
  rintro e1 x2 ⟨rfl, hb⟩
  have HV2 := hide ((unhide HV1).below hb)
  have K2 := hide ((unhide K1).later hb)
  have L2 := hide ((unhide L1).later hb)
  have HB2 := hide (tr2 (unhide HB1) hb)
  clear q0 q1 q2 q3 r0 r1
  have q0 : x2.cell? ⟨w1.heap.size, 0, none⟩ = some (.slice a1 n1 c1) := (unhide K2).cell 0
  have q1 : x2.cell? ⟨w1.heap.size, 1, none⟩ = some (.slice a2 n2 c2) := (unhide K2).cell 1
  have q2 : x2.cell? ⟨w1.heap.size, 2, none⟩ = some (.int .i64 2) := (unhide K2).cell 2
  have q3 : x2.cell? ⟨w1.heap.size, 3, none⟩ = some (.int .i64 3) := (unhide K2).cell 3
  have r0 : x2.cell? ⟨w1.heap.size + 1, 0, none⟩ = some (.string ⟨#[104, 114, 101, 102]⟩) := (unhide L2).cell 0
  have r1 : x2.cell? ⟨w1.heap.size + 1, 1, none⟩ = some (.string ⟨#[106, 97, 118, 97, 115, 99, 114, 105, 112, 116, 58, 120]⟩) := (unhide L2).cell 1
  clear hb K1 L1 HV1 HB1
  go_wp2_with fail
  refine (unhide C2 _ _ (unhide HV2)).mono ?_
  rintro e1 x3 ⟨rfl, hb⟩
  have HV3 := hide ((unhide HV2).below hb)
  have K3 := hide ((unhide K2).later hb)
  have L3 := hide ((unhide L2).later hb)
  have HB3 := hide (tr2 (unhide HB2) hb)
  clear q0 q1 q2 q3 r0 r1
  have q0 : x3.cell? ⟨w1.heap.size, 0, none⟩ = some (.slice a1 n1 c1) := (unhide K3).cell 0
  have q1 : x3.cell? ⟨w1.heap.size, 1, none⟩ = some (.slice a2 n2 c2) := (unhide K3).cell 1
  have q2 : x3.cell? ⟨w1.heap.size, 2, none⟩ = some (.int .i64 2) := (unhide K3).cell 2
  have q3 : x3.cell? ⟨w1.heap.size, 3, none⟩ = some (.int .i64 3) := (unhide K3).cell 3
  have r0 : x3.cell? ⟨w1.heap.size + 1, 0, none⟩ = some (.string ⟨#[104, 114, 101, 102]⟩) := (unhide L3).cell 0
  have r1 : x3.cell? ⟨w1.heap.size + 1, 1, none⟩ = some (.string ⟨#[106, 97, 118, 97, 115, 99, 114, 105, 112, 116, 58, 120]⟩) := (unhide L3).cell 1
  clear hb K2 L2 HV2 HB2
  go_wp2_with fail
  refine (unhide C3 _ _ (unhide HV3)).mono ?_
  rintro e1 x4 ⟨rfl, hb⟩
  have HV4 := hide ((unhide HV3).below hb)
  have K4 := hide ((unhide K3).later hb)
  have L4 := hide ((unhide L3).later hb)
  have HB4 := hide (tr2 (unhide HB3) hb)
  clear q0 q1 q2 q3 r0 r1
  have q0 : x4.cell? ⟨w1.heap.size, 0, none⟩ = some (.slice a1 n1 c1) := (unhide K4).cell 0
  have q1 : x4.cell? ⟨w1.heap.size, 1, none⟩ = some (.slice a2 n2 c2) := (unhide K4).cell 1
  have q2 : x4.cell? ⟨w1.heap.size, 2, none⟩ = some (.int .i64 2) := (unhide K4).cell 2
  have q3 : x4.cell? ⟨w1.heap.size, 3, none⟩ = some (.int .i64 3) := (unhide K4).cell 3
  have r0 : x4.cell? ⟨w1.heap.size + 1, 0, none⟩ = some (.string ⟨#[104, 114, 101, 102]⟩) := (unhide L4).cell 0
  have r1 : x4.cell? ⟨w1.heap.size + 1, 1, none⟩ = some (.string ⟨#[106, 97, 118, 97, 115, 99, 114, 105, 112, 116, 58, 120]⟩) := (unhide L4).cell 1
  clear hb K3 L3 HV3 HB3
  go_wp2_with fail
  refine (unhide C4 _ _ (unhide HV4)).mono ?_
  rintro e1 x5 ⟨rfl, hb⟩
  have HV5 := hide ((unhide HV4).below hb)
  have K5 := hide ((unhide K4).later hb)
  have L5 := hide ((unhide L4).later hb)
  have HB5 := hide (tr2 (unhide HB4) hb)
  clear q0 q1 q2 q3 r0 r1
  have q0 : x5.cell? ⟨w1.heap.size, 0, none⟩ = some (.slice a1 n1 c1) := (unhide K5).cell 0
  have q1 : x5.cell? ⟨w1.heap.size, 1, none⟩ = some (.slice a2 n2 c2) := (unhide K5).cell 1
  have q2 : x5.cell? ⟨w1.heap.size, 2, none⟩ = some (.int .i64 2) := (unhide K5).cell 2
  have q3 : x5.cell? ⟨w1.heap.size, 3, none⟩ = some (.int .i64 3) := (unhide K5).cell 3
  have r0 : x5.cell? ⟨w1.heap.size + 1, 0, none⟩ = some (.string ⟨#[104, 114, 101, 102]⟩) := (unhide L5).cell 0
  have r1 : x5.cell? ⟨w1.heap.size + 1, 1, none⟩ = some (.string ⟨#[106, 97, 118, 97, 115, 99, 114, 105, 112, 116, 58, 120]⟩) := (unhide L5).cell 1
  clear hb K4 L4 HV4 HB4
  go_wp2_with fail
  refine (unhide C5 _ _ (unhide HV5)).mono ?_
  rintro e1 x6 ⟨rfl, hb⟩
  have HV6 := hide ((unhide HV5).below hb)
  have K6 := hide ((unhide K5).later hb)
  have L6 := hide ((unhide L5).later hb)
  have HB6 := hide (tr2 (unhide HB5) hb)
  clear q0 q1 q2 q3 r0 r1
  have q0 : x6.cell? ⟨w1.heap.size, 0, none⟩ = some (.slice a1 n1 c1) := (unhide K6).cell 0
  have q1 : x6.cell? ⟨w1.heap.size, 1, none⟩ = some (.slice a2 n2 c2) := (unhide K6).cell 1
  have q2 : x6.cell? ⟨w1.heap.size, 2, none⟩ = some (.int .i64 2) := (unhide K6).cell 2
  have q3 : x6.cell? ⟨w1.heap.size, 3, none⟩ = some (.int .i64 3) := (unhide K6).cell 3
  have r0 : x6.cell? ⟨w1.heap.size + 1, 0, none⟩ = some (.string ⟨#[104, 114, 101, 102]⟩) := (unhide L6).cell 0
  have r1 : x6.cell? ⟨w1.heap.size + 1, 1, none⟩ = some (.string ⟨#[106, 97, 118, 97, 115, 99, 114, 105, 112, 116, 58, 120]⟩) := (unhide L6).cell 1
  clear hb K5 L5 HV5 HB5
  go_wp2
  go_ret
  exact ⟨rfl, unhide HB6⟩
end Go.Proofs.Ytfdhmhdemfbfeaa
