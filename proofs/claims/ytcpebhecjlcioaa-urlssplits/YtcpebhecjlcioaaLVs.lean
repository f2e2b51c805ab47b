/-
  The law UrlsSplits walked.
-/
import Derived.Test.YtcpebhecjlcioaaVSf
import Derived.Test.YtcpebhecjlcioaaVJn
import Derived.Test.YtcpebhecjlcioaaVRt
namespace Go.Proofs.Ytcpebhecjlcioaa
open Go.RowKit
set_option linter.unusedVariables false

set_option maxHeartbeats 1000000 in
theorem urlsSplits_walk (s : ByteArray) (w : World) (hs : s.size ≤ 9223372036854775807) :
    Calls Try.prog 3 #[.string s] w fun e w' => e = .returned (.bool true) ∧ Below w.heap.size w w' := by
  have CJ := hide java_any
  by_cases h1 : 2000 < s.size
  · have hi : (2000 : Int) < (s.size : Int) := by omega
    go_enter Try.func3, Try.ntmps3
    go_wp2_with fail
    refine (unhide CJ _).mono ?_
    rintro e w2 ⟨rfl, hb2⟩
    go_wp2
    go_ret
    exact ⟨rfl, hb2⟩
  have hi : ¬ (2000 : Int) < (s.size : Int) := by omega
  have C1 := hide (fun w => split_any s w (by omega))
  have C2 := hide (fun w => schm_any s w (by omega))
  have C3 := hide (fun w => plain_any s w (by omega))
  have C4 := hide (fun w => rplain_any s w (by omega))
  have C5 := hide (fun w => rsplit_any s w (by omega))
  unfold spC at C1 C5
  have C6 := hide (fun sc ho pa qu ma hs hh hq hm w => refp_any sc ho pa qu ma hs hh hq hm w)
  unfold ptC at C1 C5 C6
  generalize plL s.data.toList = x at *
  generalize decide (0 < schN x) = D1 at *
  generalize decide (sQ x < (s2 x).length) = D2 at *
  generalize decide (sM x < (s1 x).length) = D3 at *
  generalize hstB (s3 x) = D4 at *
  generalize bs (sSc x) = Y1 at *
  generalize bs (sMa x) = Y2 at *
  generalize bs (sQu x) = Y3 at *
  generalize bs (hoL (s3 x)) = Y4 at *
  generalize bs (paL (s3 x)) = Y5 at *
  generalize bs x = X at *
  have e1 := beq_yes (rfl : X = X)
  have e2 := beq_yes (rfl : Y1 = Y1)
  have e3 : (D1 == D1) = true := by cases D1 <;> rfl
  go_enter Try.func3, Try.ntmps3
  go_wp2_with fail
  refine (unhide C1 _).mono ?_
  rintro e w1 ⟨rfl, hb1⟩
  go_wp2_with fail
  refine (unhide C2 _).mono ?_
  rintro e w2 ⟨rfl, hb2⟩
  have K2 := hide ((Blk.new w1 _ _).later hb2)
  have hb12 := tr2 hb1 (bel_of hb2)
  clear hb1 hb2
  go_wp2_with fail
  refine (unhide C3 _).mono ?_
  rintro e w3 ⟨rfl, hb3⟩
  have K3 := hide ((unhide K2).later hb3)
  have hb13 := tr2 hb12 hb3
  clear hb12 hb3 K2
  go_wp2_with fail
  refine (unhide C4 _).mono ?_
  rintro e w4 ⟨rfl, hb4⟩
  have K4 := hide ((unhide K3).later hb4)
  have hb14 := tr2 hb13 hb4
  clear hb13 hb4 K3
  have p0 : w4.cell? ⟨w1.heap.size, 0, none⟩ = some (.string Y1) := (unhide K4).cell 0
  have p1 : w4.cell? ⟨w1.heap.size, 1, none⟩ = some (.string Y4) := (unhide K4).cell 1
  have p2 : w4.cell? ⟨w1.heap.size, 2, none⟩ = some (.string Y5) := (unhide K4).cell 2
  have p3 : w4.cell? ⟨w1.heap.size, 3, none⟩ = some (.string Y3) := (unhide K4).cell 3
  have p4 : w4.cell? ⟨w1.heap.size, 4, none⟩ = some (.string Y2) := (unhide K4).cell 4
  have p5 : w4.cell? ⟨w1.heap.size, 5, none⟩ = some (.bool D1) := (unhide K4).cell 5
  have p6 : w4.cell? ⟨w1.heap.size, 6, none⟩ = some (.bool D4) := (unhide K4).cell 6
  have p7 : w4.cell? ⟨w1.heap.size, 7, none⟩ = some (.bool D2) := (unhide K4).cell 7
  have p8 : w4.cell? ⟨w1.heap.size, 8, none⟩ = some (.bool D3) := (unhide K4).cell 8
  go_wp2_with fail
  refine (unhide C6 _ _ _ _ _ _ _ _ _ _).mono ?_
  rintro e w5 ⟨rfl, hb5⟩
  have K5 := hide ((unhide K4).later hb5)
  have hb15 := tr2 hb14 hb5
  clear hb14 hb5 K4 p0 p1 p2 p3 p4 p5 p6 p7 p8
  go_wp2_with fail
  refine (unhide C5 _).mono ?_
  rintro e w6 ⟨rfl, hb6⟩
  have K6 := hide ((unhide K5).later hb6)
  have hb16 := tr2 hb15 hb6
  clear hb15 hb6 K5
  have p0 : w6.cell? ⟨w1.heap.size, 0, none⟩ = some (.string Y1) := (unhide K6).cell 0
  have p5 : w6.cell? ⟨w1.heap.size, 5, none⟩ = some (.bool D1) := (unhide K6).cell 5
  go_wp2_with fail
  refine (unhide CJ _).mono ?_
  rintro e w7 ⟨rfl, hb7⟩
  go_wp2
  go_ret
  exact ⟨rfl, tr2 hb16 hb7⟩
end Go.Proofs.Ytcpebhecjlcioaa
