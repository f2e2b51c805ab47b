/-
  The law BlendOne.
-/
import Derived.Test.YtbaoomkdlbjhlaaZFo
import Derived.Test.YtbaoomkdlbjhlaaZJo
import Derived.Test.YtbaoomkdlbjhlaaZOp
import Derived.Deep.RegionWith
namespace Go.Proofs.Ytbaoomkdlbjhlaa
open Go.RowKit
set_option linter.unusedVariables false
set_option linter.unusedSimpArgs false

set_option maxHeartbeats 2000000 in
theorem blendOne_great (qo : Option Addr) (co : Nat) (o : List ByteArray) (qa : Option Addr) (ca : Nat) (a : List ByteArray) (w : World) (lo : o.length ≤ 9223372036854775807) (la : a.length ≤ 9223372036854775807) (h : 40 < o.length ∨ 40 < a.length) :
    Calls Try.prog 5 #[.slice qo o.length co, .slice qa a.length ca] w fun e w' => e = .returned (.bool true) ∧ Below w.heap.size w w' := by
  have CF := hide (fun W => four_any W)
  have Co := hide (fun W => long25_any qo o.length co W lo)
  have Ca := hide (fun W => long25_any qa a.length ca W la)
  by_cases go : 40 < o.length
  · rw [decide_eq_true go] at Co
    go_enter Try.func5, Try.ntmps5
    go_wp2_with fail
    refine (unhide Co _).mono ?_
    rintro e w1 ⟨rfl, hb1⟩
    have HB1 := hide hb1
    clear hb1
    go_wp2_with fail
    refine (unhide CF _).mono ?_
    rintro e w9 ⟨rfl, hb9⟩
    have HB9 := hide (tr2 (unhide HB1) hb9)
    clear hb9
    go_wp2
    go_ret
    exact ⟨rfl, unhide HB9⟩
  · have ga : 40 < a.length := by omega
    rw [decide_eq_false go] at Co
    rw [decide_eq_true ga] at Ca
    go_enter Try.func5, Try.ntmps5
    go_wp2_with fail
    refine (unhide Co _).mono ?_
    rintro e w1 ⟨rfl, hb1⟩
    have HB1 := hide hb1
    clear hb1
    go_wp2_with fail
    refine (unhide Ca _).mono ?_
    rintro e w2 ⟨rfl, hb2⟩
    have HB2 := hide (tr2 (unhide HB1) hb2)
    clear hb2
    go_wp2_with fail
    refine (unhide CF _).mono ?_
    rintro e w9 ⟨rfl, hb9⟩
    have HB9 := hide (tr2 (unhide HB2) hb9)
    clear hb9
    go_wp2
    go_ret
    exact ⟨rfl, unhide HB9⟩
set_option maxHeartbeats 4000000 in
set_option maxRecDepth 100000 in
theorem blendOne_small (qo qa : Option Addr) (co ca : Nat) (o a : List ByteArray) (w : World) (ho : ArgV w qo co o) (ha : ArgV w qa ca a) (so : SzT o) (sa : SzT a) (lo : o.length ≤ 40) (la : a.length ≤ 40) :
    Calls Try.prog 5 #[.slice qo o.length co, .slice qa a.length ca] w fun e w' => e = .returned (.bool true) ∧ Below w.heap.size w w' := by
  have CF := hide (fun W => four_any W)
  have Co := hide (fun W => long25_any qo o.length co W (by omega))
  rw [decide_eq_false (by omega)] at Co
  have Ca := hide (fun W => long25_any qa a.length ca W (by omega))
  rw [decide_eq_false (by omega)] at Ca
  have J1 := hide (fun W (hW : Below w.heap.size w W) => bjoin_any qo qo qa co co ca o o a W (ho.below hW) (ho.below hW) (ha.below hW) so so sa (by omega) (by omega) (by omega))
  have J2 := hide (fun W (hW : Below w.heap.size w W) => bjoin_any qo qa qo co ca co o a o W (ho.below hW) (ha.below hW) (ho.below hW) so sa so (by omega) (by omega) (by omega))
  have J3 := hide (fun W (hW : Below w.heap.size w W) => bjoin_any qo qa qa co ca ca o a a W (ho.below hW) (ha.below hW) (ha.below hW) so sa sa (by omega) (by omega) (by omega))
  rw [(one_ooa o a).1, (one_ooa o a).2] at J1
  rw [(one_oao o a).1, (one_oao o a).2] at J2
  rw [(one_oaa o a).1, (one_oaa o a).2] at J3
  have HA := hide ha
  have TX := hide (fun W u (hW : Below w.heap.size w W) (hu : View W u a) => texts_any u (.slice qa a.length ca) a a W hu (ha.below hW).1)
  rw [sameT_refl] at TX
  clear ho ha
  go_enter Try.func5, Try.ntmps5
  go_wp2_with fail
  refine (unhide Co _).mono ?_
  rintro e w1 ⟨rfl, hb1⟩
  have HB1 := hide hb1
  clear hb1 Co
  go_wp2_with fail
  refine (unhide Ca _).mono ?_
  rintro e w2 ⟨rfl, hb2⟩
  have HB2 := hide (tr2 (unhide HB1) hb2)
  clear hb2 Ca
  go_wp2_with fail
  refine (unhide J1 _ (unhide HB2)).mono ?_
  rintro e w3 ⟨u1, rfl, hu1, hb3⟩
  obtain ⟨p1, e1, rfl, huv1⟩ : ∃ p e, u1 = .slice p a.length e ∧ View w3 (.slice p a.length e) a := by
    have hv := view_of_owns hu1
    obtain ⟨_, x, y, e, _⟩ := hv
    exact ⟨x, y, e, by rw [← e]; exact view_of_owns hu1⟩
  have HU1 := hide huv1
  have HB3 := hide (tr2 (unhide HB2) hb3)
  clear hu1 hb3 huv1 J1
  go_wp2_with fail
  refine (unhide J2 _ (unhide HB3)).mono ?_
  rintro e w4 ⟨u2, rfl, hu2, hb4⟩
  obtain ⟨p2, e2, rfl, huv2⟩ : ∃ p e, u2 = .slice p a.length e ∧ View w4 (.slice p a.length e) a := by
    have hv := view_of_owns hu2
    obtain ⟨_, x, y, e, _⟩ := hv
    exact ⟨x, y, e, by rw [← e]; exact view_of_owns hu2⟩
  have HU2 := hide huv2
  have HB4 := hide (tr2 (unhide HB3) hb4)
  have HUn1 := hide (view_below (unhide HU1) hb4)
  clear HU1
  have HU1 := HUn1
  clear HUn1
  clear hu2 hb4 huv2 J2
  go_wp2_with fail
  refine (unhide J3 _ (unhide HB4)).mono ?_
  rintro e w5 ⟨u3, rfl, hu3, hb5⟩
  obtain ⟨p3, e3, rfl, huv3⟩ : ∃ p e, u3 = .slice p a.length e ∧ View w5 (.slice p a.length e) a := by
    have hv := view_of_owns hu3
    obtain ⟨_, x, y, e, _⟩ := hv
    exact ⟨x, y, e, by rw [← e]; exact view_of_owns hu3⟩
  have HU3 := hide huv3
  have HB5 := hide (tr2 (unhide HB4) hb5)
  have HUn1 := hide (view_below (unhide HU1) hb5)
  clear HU1
  have HU1 := HUn1
  clear HUn1
  have HUn2 := hide (view_below (unhide HU2) hb5)
  clear HU2
  have HU2 := HUn2
  clear HUn2
  clear hu3 hb5 huv3 J3
  go_wp2_with fail
  refine (unhide TX _ _ (unhide HB5) (unhide HU1)).mono ?_
  rintro e w6 ⟨rfl, hb6⟩
  have HB6 := hide (tr2 (unhide HB5) hb6)
  have HUn2 := hide (view_below (unhide HU2) hb6)
  clear HU2
  have HU2 := HUn2
  clear HUn2
  have HUn3 := hide (view_below (unhide HU3) hb6)
  clear HU3
  have HU3 := HUn3
  clear HUn3
  clear hb6
  go_wp2_with fail
  refine (unhide TX _ _ (unhide HB6) (unhide HU2)).mono ?_
  rintro e w7 ⟨rfl, hb7⟩
  have HB7 := hide (tr2 (unhide HB6) hb7)
  have HUn3 := hide (view_below (unhide HU3) hb7)
  clear HU3
  have HU3 := HUn3
  clear HUn3
  clear hb7
  go_wp2_with fail
  refine (unhide TX _ _ (unhide HB7) (unhide HU3)).mono ?_
  rintro e w8 ⟨rfl, hb8⟩
  have HB8 := hide (tr2 (unhide HB7) hb8)
  clear hb8
  go_wp2_with fail
  refine (unhide CF _).mono ?_
  rintro e w9 ⟨rfl, hb9⟩
  have HB9 := hide (tr2 (unhide HB8) hb9)
  clear hb9
  go_wp2
  go_ret
  exact ⟨rfl, unhide HB9⟩
theorem blendOne_law (q0 q1 : Option Addr) (n0 n1 c0 c1 : Nat) (z0 z1 : List ByteArray) (w : World) (w0 : View w (.slice q0 n0 c0) z0) (w1 : View w (.slice q1 n1 c1) z1) (b0 : ∀ s ∈ z0, s.size ≤ 9223372036854775807) (b1 : ∀ s ∈ z1, s.size ≤ 9223372036854775807) (d0 : n0 ≤ c0 ∧ (q0 = none → c0 = 0)) (d1 : n1 ≤ c1 ∧ (q1 = none → c1 = 0)) :
    Calls Try.prog 5 #[.slice q0 n0 c0, .slice q1 n1 c1] w fun e w' => e = .returned (.bool true) ∧ Below w.heap.size w w' := by
  obtain ⟨rfl, h0⟩ := arg_of w0 d0
  obtain ⟨rfl, h1⟩ := arg_of w1 d1
  by_cases h : 40 < z0.length ∨ 40 < z1.length
  · exact blendOne_great q0 c0 z0 q1 c1 z1 w w0.1 w1.1 h
  · exact blendOne_small q0 q1 c0 c1 z0 z1 w h0 h1 (szT_small b0) (szT_small b1) (by omega) (by omega)
end Go.Proofs.Ytbaoomkdlbjhlaa
