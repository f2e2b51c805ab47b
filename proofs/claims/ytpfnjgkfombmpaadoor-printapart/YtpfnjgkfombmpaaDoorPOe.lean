/-
  What 'pen.Open' tells where something is wrong, and on the whole.
-/
import Derived.Test.YtpfnjgkfombmpaaDoorMgC
namespace Go.Proofs.YtpfnjgkfombmpaaDoor
open Go.RowKit
set_option linter.unusedVariables false

set_option maxHeartbeats 4000000 in
theorem popen_any (n : ByteArray) (ats : List (ByteArray × ByteArray)) (g o cap : Nat) (w : World) (ht : Tabs w) (hc : Cells2 g o ats w) (hf : Fits ats) (hn : n.size ≤ 10000) :
    Calls Tryd.prog 104 #[.string n, .slice (some ⟨g, o, none⟩) ats.length cap] w fun e w' => e = .returned (openV n.data.toList ats) ∧ Below w.heap.size w w' := by
  have HT := hide ht
  have HC := hide hc
  have CN := hide (fun w => pname_any n w (by omega))
  have CR := hide (fun w ht hc => allRight_any ats g o cap w ht hc hf)
  have CT := hide (fun w hc => hasTwice_any ats g o cap w hc hf)
  cases h1 : nameB n.data.toList with
  | false =>
    have hw := wrong_1 (ats := ats) h1
    rw [openV_1 (by rw [hw]; decide), hw]
    rw [h1] at CN
    clear ht hc hf h1 hw
    go_enter Tryd.func104, Tryd.ntmps104
    go_wp2_with fail
    refine (unhide CN _).mono ?_
    rintro e w1 ⟨rfl, hb1⟩
    go_wp2
    go_ret2
    exact ⟨rfl, hb1⟩
  | true =>
    cases h2 : rightAs ats with
    | false =>
      have hw := wrong_2 (n := n.data.toList) h2
      rw [openV_1 (by rw [hw]; decide), hw]
      rw [h1] at CN
      rw [h2] at CR
      clear ht hc hf h1 h2 hw
      go_enter Tryd.func104, Tryd.ntmps104
      go_wp2_with fail
      refine (unhide CN _).mono ?_
      rintro e w1 ⟨rfl, hb1⟩
      go_wp2_with fail
      refine (unhide CR _ ((unhide HT).below hb1) ((unhide HC).below hb1)).mono ?_
      rintro e w2 ⟨rfl, hb2⟩
      go_wp2
      go_ret2
      exact ⟨rfl, tr2 hb1 hb2⟩
    | true =>
      by_cases h3 : diffN ats < ats.length
      · have hw := wrong_3 h1 h2 (by rw [diff_dup]; exact decide_eq_true h3)
        rw [openV_1 (by rw [hw]; decide), hw]
        rw [h1] at CN
        rw [h2] at CR
        rw [decide_eq_true h3] at CT
        clear ht hc hf h1 h2 h3 hw
        go_enter Tryd.func104, Tryd.ntmps104
        go_wp2_with fail
        refine (unhide CN _).mono ?_
        rintro e w1 ⟨rfl, hb1⟩
        go_wp2_with fail
        refine (unhide CR _ ((unhide HT).below hb1) ((unhide HC).below hb1)).mono ?_
        rintro e w2 ⟨rfl, hb2⟩
        have hb12 := tr2 hb1 hb2
        go_wp2_with fail
        refine (unhide CT _ ((unhide HC).below hb12)).mono ?_
        rintro e w3 ⟨rfl, hb3⟩
        go_wp2
        go_ret2
        exact ⟨rfl, tr2 hb12 hb3⟩
      · have hd : dupF ats ats.length = false := by rw [diff_dup]; exact decide_eq_false h3
        by_cases h4 : 12 < ats.length
        · have hw := wrong_4 h1 h2 hd h4
          rw [openV_1 (by rw [hw]; decide), hw]
          rw [h1] at CN
          rw [h2] at CR
          rw [decide_eq_false h3] at CT
          have h4i : (12 : Int) < (ats.length : Int) := by omega
          clear ht hc hf h1 h2 h3 hw hd h4
          go_enter Tryd.func104, Tryd.ntmps104
          go_wp2_with fail
          refine (unhide CN _).mono ?_
          rintro e w1 ⟨rfl, hb1⟩
          go_wp2_with fail
          refine (unhide CR _ ((unhide HT).below hb1) ((unhide HC).below hb1)).mono ?_
          rintro e w2 ⟨rfl, hb2⟩
          have hb12 := tr2 hb1 hb2
          go_wp2_with fail
          refine (unhide CT _ ((unhide HC).below hb12)).mono ?_
          rintro e w3 ⟨rfl, hb3⟩
          go_wp2
          go_ret2
          exact ⟨rfl, tr2 hb12 hb3⟩
        · rw [openV_0 (wrong_0 h1 h2 hd h4)]
          exact popen_ok n ats g o cap w ht hc hf hn h1 h2 h3 h4
end Go.Proofs.YtpfnjgkfombmpaaDoor
