/-
  The law WordsTexts.
-/
import Derived.Test.YtfbgpodcdgmpjaaRXt
import Derived.Test.YtfbgpodcdgmpjaaPTx
namespace Go.Proofs.Ytfbgpodcdgmpjaa
open Go.RowKit
set_option linter.unusedVariables false
set_option linter.unusedSimpArgs false

set_option maxHeartbeats 1000000 in
theorem wordsTexts_great (a b : ByteArray) (w : World) (h : 1000 < a.size ∨ 1000 < b.size) :
    Calls Try.prog 3 #[.string a, .string b] w fun e w' => e = .returned (.bool true) ∧ Below w.heap.size w w' := by
  have CA := hide abc_any
  by_cases h1 : 1000 < a.size
  · have h1i : (1000 : Int) < (a.size : Int) := by omega
    go_enter Try.func3, Try.ntmps3
    go_wp2_with fail
    refine Calls.mono (unhide CA _) ?_
    rintro e w1 ⟨rfl, hb⟩
    go_wp2
    go_ret
    exact ⟨rfl, hb⟩
  · have h1i : ¬ (1000 : Int) < (a.size : Int) := by omega
    have h2 : 1000 < b.size := by omega
    have h2i : (1000 : Int) < (b.size : Int) := by omega
    go_enter Try.func3, Try.ntmps3
    go_wp2_with fail
    refine Calls.mono (unhide CA _) ?_
    rintro e w1 ⟨rfl, hb⟩
    go_wp2
    go_ret
    exact ⟨rfl, hb⟩
set_option maxHeartbeats 4000000 in
theorem wordsTexts_small (a b : ByteArray) (w : World) (ha : a.size ≤ 1000) (hb : b.size ≤ 1000) :
    Calls Try.prog 3 #[.string a, .string b] w fun e w' => e = .returned (.bool true) ∧ Below w.heap.size w w' := by
  have CA := hide abc_any
  have h1i : ¬ (1000 : Int) < (a.size : Int) := by omega
  have h2i : ¬ (1000 : Int) < (b.size : Int) := by omega
  have CS := hide (split_any a w (by omega))
  have CR := hide (fun (W : World) => rsplit_any a W (by omega))
  unfold SplitSaid at CS CR
  have CT := hide (fun (W : World) => wtexts_any a b W (by omega) (by omega))
  have CU := hide (fun (W : World) => rtexts_any a b W (by omega) (by omega))
  unfold TxSaid at CT
  unfold RtxSaid at CU
  rw [refJ_jn _ (jok_rw a b)] at CU
  have hjl := jnP_len _ (rwP a b) (Nat.le_refl _)
  have hsm := (rwP_small a b (by omega) (by omega)).1
  have hT2 : (jnP (rwP a b)).length ≤ 1000000 := by omega
  have C4 := hide (fun (q1 q2 : Option Addr) (c1 c2 : Nat) (W : World) h1 h2 => same24_yes q1 q2 c1 c2 (jnP (rwP a b)) W h1 h2 hT2)
  generalize jnP (rwP a b) = L at *
  generalize bsL (grp a.data.toList) = ga at *
  clear hjl hsm hT2
  go_enter Try.func3, Try.ntmps3
  go_wp2_with fail
  refine Calls.mono (unhide CS) ?_
  rintro e w1 ⟨v1, rfl, hv1, hb1⟩
  have HB1 := hide hb1
  have HV1 := hide (view_of_owns hv1)
  obtain ⟨q1, c1, hq1, _⟩ := owns_cap hv1
  subst hq1
  clear hv1 hb1 CS
  go_wp2_with fail
  refine Calls.mono (unhide CR _) ?_
  rintro e w2 ⟨v2, rfl, hv2, hb2⟩
  have HB2 := hide (tr2 (unhide HB1) hb2)
  have HV12 := hide (view_below (unhide HV1) hb2)
  have HV2 := hide (view_of_owns hv2)
  obtain ⟨q2, c2, hq2, _⟩ := owns_cap hv2
  subst hq2
  have CX := hide (texts_any _ _ ga ga w2 (unhide HV12) (unhide HV2))
  rw [sameT_refl] at CX
  clear hv2 hb2 CR HV1 HV12 HV2
  go_wp2_with fail
  refine Calls.mono (unhide CX) ?_
  rintro e w3 ⟨rfl, hb3⟩
  have HB3 := hide (tr2 (unhide HB2) hb3)
  clear hb3 CX
  go_wp2_with fail
  refine Calls.mono (unhide CT _) ?_
  rintro e w4 ⟨v4, rfl, hv4, hb4⟩
  have HB4 := hide (tr2 (unhide HB3) hb4)
  obtain ⟨q4, c4, hq4, _, hp4⟩ := hv4.read
  subst hq4
  have HP4 := hide hp4
  clear hv4 hb4 hp4 CT
  go_wp2_with fail
  refine Calls.mono (unhide CU _) ?_
  rintro e w5 ⟨v5, rfl, hv5, hb5⟩
  have HB5 := hide (tr2 (unhide HB4) hb5)
  obtain ⟨q5, c5, hq5, _, hp5⟩ := hv5.read
  subst hq5
  have HP5 := hide hp5
  have HP45 := hide ((unhide HP4).below hb5)
  clear hv5 hb5 hp5 CU
  go_wp2_with fail
  refine Calls.mono (unhide C4 q4 q5 c4 c5 w5 (unhide HP45) (unhide HP5)) ?_
  rintro e w6 ⟨rfl, hb6⟩
  have HB6 := hide (tr2 (unhide HB5) hb6)
  clear hb6
  go_wp2_with fail
  refine Calls.mono (unhide CA _) ?_
  rintro e w7 ⟨rfl, hb7⟩
  go_wp2
  go_ret
  exact ⟨rfl, tr2 (unhide HB6) hb7⟩
theorem wordsTexts_walk (a b : ByteArray) (w : World) :
    Calls Try.prog 3 #[.string a, .string b] w fun e w' => e = .returned (.bool true) ∧ Below w.heap.size w w' := by
  by_cases h : 1000 < a.size ∨ 1000 < b.size
  · exact wordsTexts_great a b w h
  · exact wordsTexts_small a b w (by omega) (by omega)
end Go.Proofs.Ytfbgpodcdgmpjaa
