/-
  The law UrlsSafe walked.
-/
import Derived.Test.YtfdhmhdemfbfeaaVSf
import Derived.Test.YtfdhmhdemfbfeaaMgG
namespace Go.Proofs.Ytfdhmhdemfbfeaa
open Go.RowKit
set_option linter.unusedVariables false

set_option maxHeartbeats 1000000 in
theorem rsafe_any (s : ByteArray) (v : Value) (zs : List ByteArray) (w : World) (hs : s.size ≤ 100000) (hv : View w v zs) :
    Calls Try.prog 32 #[.string s, v] w fun e w' => e = .returned (.bool (safeB (plL s.data.toList) zs)) ∧ Below w.heap.size w w' := by
  have C := hide (fun w => rsplit_any s w hs)
  unfold spC ptC at C
  unfold safeB
  have HV := hide (fun w1 hb => @view_below w w1 v zs hv hb)
  generalize plL s.data.toList = x at *
  have CC := hide (fun w h => vin_any v zs (bs (sSc x)) w h)
  generalize decide (sQ x < (s2 x).length) = D2 at *
  generalize decide (sM x < (s1 x).length) = D3 at *
  generalize hstB (s3 x) = D4 at *
  generalize bs (sMa x) = Y2 at *
  generalize bs (sQu x) = Y3 at *
  generalize bs (hoL (s3 x)) = Y4 at *
  generalize bs (paL (s3 x)) = Y5 at *
  generalize bs (sSc x) = Y at *
  generalize isIn Y zs = D at *
  obtain ⟨hl, a, cap, rfl, hc⟩ := hv
  clear hc
  cases hD : decide (0 < schN x) with
  | false =>
    rw [hD] at C
    clear hD
    go_enter Try.func32, Try.ntmps32
    go_wp2_with fail
    refine (unhide C _).mono ?_
    rintro e1 w1 ⟨rfl, hb⟩
    go_wp2
    go_ret
    exact ⟨by simp, hb.alloc hb.size _⟩
  | true =>
    rw [hD] at C
    clear hD
    go_enter Try.func32, Try.ntmps32
    go_wp2_with fail
    refine (unhide C _).mono ?_
    rintro e1 w1 ⟨rfl, hb⟩
    go_wp2_with fail
    refine (unhide CC _ (unhide HV _ (hb.alloc hb.size _))).mono ?_
    rintro e1 w2 ⟨rfl, hw2⟩
    subst hw2
    go_wp2
    go_ret
    exact ⟨by simp, hb.alloc hb.size _⟩

end Go.Proofs.Ytfdhmhdemfbfeaa
