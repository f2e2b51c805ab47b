/-
  The law UrlsSafe walked.
-/
import Derived.Test.YtcpebhecjlcioaaVSf
import Derived.Test.YtcpebhecjlcioaaVRt
namespace Go.Proofs.Ytcpebhecjlcioaa
open Go.RowKit
set_option linter.unusedVariables false

set_option maxHeartbeats 1000000 in
theorem rsafe_any (s : ByteArray) (v : Value) (zs : List ByteArray) (w : World) (hs : s.size ≤ 100000) (hv : View w v zs) :
    Calls Try.prog 18 #[.string s, v] w fun e w' => e = .returned (.bool (safeB (plL s.data.toList) zs)) ∧ Below w.heap.size w w' := by
  have C := hide (fun w => rsplit_any s w hs)
  unfold spC ptC at C
  unfold safeB
  have HV := hide (fun w1 hb => @view_below w w1 v zs hv hb)
  generalize plL s.data.toList = x at *
  have CC := hide (fun w h => in_any v zs (bs (sSc x)) w h)
  generalize decide (sQ x < (s2 x).length) = D2 at *
  generalize decide (sM x < (s1 x).length) = D3 at *
  generalize hstB (s3 x) = D4 at *
  generalize bs (sMa x) = Y2 at *
  generalize bs (sQu x) = Y3 at *
  generalize bs (hoL (s3 x)) = Y4 at *
  generalize bs (paL (s3 x)) = Y5 at *
  generalize bs (sSc x) = Y at *
  generalize isIn Y zs = D at *
  obtain ⟨hl, a, cap, rfl, hc⟩ := hv
  clear hc
  cases hD : decide (0 < schN x) with
  | false =>
    rw [hD] at C
    clear hD
    go_enter Try.func18, Try.ntmps18
    go_wp2_with fail
    refine (unhide C _).mono ?_
    rintro e1 w1 ⟨rfl, hb⟩
    go_wp2
    go_ret
    exact ⟨by simp, hb.alloc hb.size _⟩
  | true =>
    rw [hD] at C
    clear hD
    go_enter Try.func18, Try.ntmps18
    go_wp2_with fail
    refine (unhide C _).mono ?_
    rintro e1 w1 ⟨rfl, hb⟩
    go_wp2_with fail
    refine (unhide CC _ (unhide HV _ (hb.alloc hb.size _))).mono ?_
    rintro e1 w2 ⟨rfl, hw2⟩
    subst hw2
    go_wp2
    go_ret
    exact ⟨by simp, hb.alloc hb.size _⟩

set_option maxHeartbeats 1000000 in
theorem urlsSafe_walk (s : ByteArray) (v : Value) (zs : List ByteArray) (w : World) (hs : s.size ≤ 9223372036854775807) (hv : View w v zs) :
    Calls Try.prog 5 #[.string s, v] w fun e w' => e = .returned (.bool true) ∧ Below w.heap.size w w' := by
  have CJ := hide java_any
  have HV := hide (fun w1 hb => @view_below w w1 v zs hv hb)
  have C1 := hide (fun h => safe_any s v zs w h hv)
  have C2 := hide (fun w h h' => rsafe_any s v zs w h h')
  obtain ⟨hl, a, cap, rfl, hc⟩ := hv
  clear hc
  by_cases h1 : 2000 < s.size
  · have hi : (2000 : Int) < (s.size : Int) := by omega
    go_enter Try.func5, Try.ntmps5
    go_wp2_with fail
    refine (unhide CJ _).mono ?_
    rintro e w2 ⟨rfl, hb2⟩
    go_wp2
    go_ret
    exact ⟨rfl, hb2⟩
  have hi : ¬ (2000 : Int) < (s.size : Int) := by omega
  by_cases h2 : 50 < zs.length
  · have hi2 : (50 : Int) < (zs.length : Int) := by omega
    go_enter Try.func5, Try.ntmps5
    go_wp2_with fail
    refine (unhide CJ _).mono ?_
    rintro e w2 ⟨rfl, hb2⟩
    go_wp2
    go_ret
    exact ⟨rfl, hb2⟩
  have hi2 : ¬ (50 : Int) < (zs.length : Int) := by omega
  have C1' := hide (unhide C1 (by omega))
  have C2' := hide (fun w h' => unhide C2 w (by omega) h')
  clear C1 C2
  generalize safeB (plL s.data.toList) zs = D at *
  have eD : (D == D) = true := by cases D <;> rfl
  go_enter Try.func5, Try.ntmps5
  go_wp2_with fail
  refine (unhide C1').mono ?_
  rintro e w1 ⟨rfl, hb1⟩
  go_wp2_with fail
  refine (unhide C2' _ (unhide HV _ hb1)).mono ?_
  rintro e w2 ⟨rfl, hb2⟩
  go_wp2_with fail
  refine (unhide CJ _).mono ?_
  rintro e w3 ⟨rfl, hb3⟩
  go_wp2
  go_ret
  exact ⟨rfl, tr3 hb1 hb2 hb3⟩
end Go.Proofs.Ytcpebhecjlcioaa
