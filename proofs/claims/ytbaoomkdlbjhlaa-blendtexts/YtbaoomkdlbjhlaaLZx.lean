/-
  The law BlendTexts.
-/
import Derived.Test.YtbaoomkdlbjhlaaZFo
import Derived.Test.YtbaoomkdlbjhlaaZRj
import Derived.Test.YtbaoomkdlbjhlaaZSm
import Derived.Deep.RegionWith
namespace Go.Proofs.Ytbaoomkdlbjhlaa
open Go.RowKit
set_option linter.unusedVariables false
set_option linter.unusedSimpArgs false

set_option maxHeartbeats 2000000 in
theorem blendTexts_great (qo : Option Addr) (co : Nat) (o : List ByteArray) (qa : Option Addr) (ca : Nat) (a : List ByteArray) (qb : Option Addr) (cb : Nat) (b : List ByteArray) (w : World) (lo : o.length ≤ 9223372036854775807) (la : a.length ≤ 9223372036854775807) (lb : b.length ≤ 9223372036854775807) (h : 40 < o.length ∨ 40 < a.length ∨ 40 < b.length) :
    Calls Try.prog 3 #[.slice qo o.length co, .slice qa a.length ca, .slice qb b.length cb] w fun e w' => e = .returned (.bool true) ∧ Below w.heap.size w w' := by
  have CF := hide (fun W => four_any W)
  have Co := hide (fun W => long25_any qo o.length co W lo)
  have Ca := hide (fun W => long25_any qa a.length ca W la)
  have Cb := hide (fun W => long25_any qb b.length cb W lb)
  by_cases go : 40 < o.length
  · rw [decide_eq_true go] at Co
    go_enter Try.func3, Try.ntmps3
    go_wp2_with fail
    refine (unhide Co _).mono ?_
    rintro e w1 ⟨rfl, hb1⟩
    have HB1 := hide hb1
    clear hb1
    go_wp2_with fail
    refine (unhide CF _).mono ?_
    rintro e w9 ⟨rfl, hb9⟩
    have HB9 := hide (tr2 (unhide HB1) hb9)
    clear hb9
    go_wp2
    go_ret
    exact ⟨rfl, unhide HB9⟩
  · by_cases ga : 40 < a.length
    · rw [decide_eq_false go] at Co
      rw [decide_eq_true ga] at Ca
      go_enter Try.func3, Try.ntmps3
      go_wp2_with fail
      refine (unhide Co _).mono ?_
      rintro e w1 ⟨rfl, hb1⟩
      have HB1 := hide hb1
      clear hb1
      go_wp2_with fail
      refine (unhide Ca _).mono ?_
      rintro e w2 ⟨rfl, hb2⟩
      have HB2 := hide (tr2 (unhide HB1) hb2)
      clear hb2
      go_wp2_with fail
      refine (unhide CF _).mono ?_
      rintro e w9 ⟨rfl, hb9⟩
      have HB9 := hide (tr2 (unhide HB2) hb9)
      clear hb9
      go_wp2
      go_ret
      exact ⟨rfl, unhide HB9⟩
    · have gb : 40 < b.length := by omega
      rw [decide_eq_false go] at Co
      rw [decide_eq_false ga] at Ca
      rw [decide_eq_true gb] at Cb
      go_enter Try.func3, Try.ntmps3
      go_wp2_with fail
      refine (unhide Co _).mono ?_
      rintro e w1 ⟨rfl, hb1⟩
      have HB1 := hide hb1
      clear hb1
      go_wp2_with fail
      refine (unhide Ca _).mono ?_
      rintro e w2 ⟨rfl, hb2⟩
      have HB2 := hide (tr2 (unhide HB1) hb2)
      clear hb2
      go_wp2_with fail
      refine (unhide Cb _).mono ?_
      rintro e w3 ⟨rfl, hb3⟩
      have HB3 := hide (tr2 (unhide HB2) hb3)
      clear hb3
      go_wp2_with fail
      refine (unhide CF _).mono ?_
      rintro e w9 ⟨rfl, hb9⟩
      have HB9 := hide (tr2 (unhide HB3) hb9)
      clear hb9
      go_wp2
      go_ret
      exact ⟨rfl, unhide HB9⟩
set_option maxHeartbeats 4000000 in
set_option maxRecDepth 100000 in
theorem blendTexts_small (qo qa qb : Option Addr) (co ca cb : Nat) (o a b : List ByteArray) (w : World) (ho : ArgV w qo co o) (ha : ArgV w qa ca a) (hb : ArgV w qb cb b) (so : SzT o) (sa : SzT a) (sb : SzT b) (lo : o.length ≤ 40) (la : a.length ≤ 40) (lb : b.length ≤ 40) :
    Calls Try.prog 3 #[.slice qo o.length co, .slice qa a.length ca, .slice qb b.length cb] w fun e w' => e = .returned (.bool true) ∧ Below w.heap.size w w' := by
  have CF := hide (fun W => four_any W)
  have Co := hide (fun W => long25_any qo o.length co W (by omega))
  rw [decide_eq_false (by omega)] at Co
  have Ca := hide (fun W => long25_any qa a.length ca W (by omega))
  rw [decide_eq_false (by omega)] at Ca
  have Cb := hide (fun W => long25_any qb b.length cb W (by omega))
  rw [decide_eq_false (by omega)] at Cb
  have CJ := hide (fun W (hW : Below w.heap.size w W) => bjoin_any qo qa qb co ca cb o a b W (ho.below hW) (ha.below hW) (hb.below hW) so sa sb (by omega) (by omega) (by omega))
  have CR := hide (fun W (hW : Below w.heap.size w W) => rjoin_any qo qa qb co ca cb o a b W (ho.below hW) (ha.below hW) (hb.below hW) (by omega) (by omega) (by omega))
  have CT := hide (fun W (hW : Below w.heap.size w W) => btexts_any qo qa qb co ca cb o a b W (ho.below hW) (ha.below hW) (hb.below hW) so sa sb (by omega) (by omega) (by omega))
  have CU := hide (fun W (hW : Below w.heap.size w W) => rtexts_any qo qa qb co ca cb o a b W (ho.below hW).1 (ha.below hW).1 (hb.below hW).1 ho.2.1 ha.2.1 hb.2.1 (by omega) (by omega) (by omega))
  have hIN := goP_in _ _ _ _ _ _ _ (allP_go o a b)
  have hPl := allP_len o a b
  have C5 := hide (fun q c W h => clean_any q c (allP o a b) W h (fun p hp => (hIN p hp).2.1) (by omega))
  have hcl := clF_le (allP o a b)
  generalize hJ : jnF o a b (allP o a b) = J at *
  generalize allP o a b = P at *
  generalize clF P = cn at *
  clear ho ha hb hIN hJ
  by_cases hc : cn = 0
  case' pos => have hci : ((cn : Int) == 0) = true := beq_iff_eq.2 (by omega)
  case' neg => have hci : ((cn : Int) == 0) = false := beq_eq_false_iff_ne.2 (by omega)
  case' pos => rw [decide_eq_true hc] at C5
  case' neg => rw [decide_eq_false hc] at C5
  all_goals (
    clear hc
    go_enter Try.func3, Try.ntmps3
    go_wp2_with fail
    refine (unhide Co _).mono ?_
    rintro e w1 ⟨rfl, hb1⟩
    have HB1 := hide hb1
    clear hb1 Co
    go_wp2_with fail
    refine (unhide Ca _).mono ?_
    rintro e w2 ⟨rfl, hb2⟩
    have HB2 := hide (tr2 (unhide HB1) hb2)
    clear hb2 Ca
    go_wp2_with fail
    refine (unhide Cb _).mono ?_
    rintro e w3 ⟨rfl, hb3⟩
    have HB3 := hide (tr2 (unhide HB2) hb3)
    clear hb3 Cb
    go_wp2_with fail
    refine (unhide CJ _ (unhide HB3)).mono ?_
    rintro e w4 ⟨u, rfl, hu, hb4⟩
    obtain ⟨uq, uc, rfl, huv⟩ : ∃ uq uc, u = .slice uq J.length uc ∧ View w4 (.slice uq J.length uc) J := by
      have hv := view_of_owns hu
      obtain ⟨_, x, y, e, _⟩ := hv
      exact ⟨x, y, e, by rw [← e]; exact view_of_owns hu⟩
    have HU := hide huv
    have HB4 := hide (tr2 (unhide HB3) hb4)
    clear hu huv hb4 CJ HB1 HB2 HB3
    go_wp2_with fail
    refine (unhide CR _ (unhide HB4)).mono ?_
    rintro e w5 ⟨v, rfl, hv, hb5⟩
    obtain ⟨vq, vc, rfl, hvv⟩ : ∃ vq vc, v = .slice vq J.length vc ∧ View w5 (.slice vq J.length vc) J := by
      have hv2 := view_of_owns hv
      obtain ⟨_, x, y, e, _⟩ := hv2
      exact ⟨x, y, e, by rw [← e]; exact view_of_owns hv⟩
    have HV := hide hvv
    have HB5 := hide (tr2 (unhide HB4) hb5)
    have HU5 := hide (view_below (unhide HU) hb5)
    clear hv hvv hb5 CR HU HB4
    have BX := hide (Blk.new w5 #[.slice vq J.length vc, .int .i64 (cn : Int)] 28)
    have HBx : Hid (Below w5.heap.size w5 (w5.alloc (Obj.cells #[.slice vq J.length vc, .int .i64 (cn : Int)] 28))) := hide ((Below.refl _ _).alloc (Nat.le_refl _) _)
    go_wp2_with fail
    refine (unhide CT _ (tr2 (unhide HB5) (unhide HBx))).mono ?_
    rintro e w6 ⟨p, rfl, hp, hb6⟩
    obtain ⟨pq, pc, rfl, hpa⟩ := parts_at hp
    have HPA := hide hpa
    have HB6 := hide (tr2 (tr2 (unhide HB5) (unhide HBx)) hb6)
    have K6 := hide ((unhide BX).later hb6)
    have HU6 := hide (view_below (view_below (unhide HU5) (unhide HBx)) hb6)
    have HV6 := hide (view_below (view_below (unhide HV) (unhide HBx)) hb6)
    clear hp hpa hb6 CT HU5 HV HB5 HBx BX
    go_wp2_with fail
    refine (unhide CU _ (unhide HB6)).mono ?_
    rintro e w7 ⟨r, rfl, hr, hb7⟩
    obtain ⟨rq, rc, rfl, hra⟩ := rparts_at hr
    have HB7 := hide (tr2 (unhide HB6) hb7)
    have CS := hide (same25_yes pq rq pc rc P w7 ((unhide HPA).below hb7) hra (by omega))
    have HPA7 := hide ((unhide HPA).below hb7)
    have K7 := hide ((unhide K6).later hb7)
    have HU7 := hide (view_below (unhide HU6) hb7)
    have HV7 := hide (view_below (unhide HV6) hb7)
    clear hr hra hb7 CU HPA K6 HU6 HV6 HB6
    go_wp2_with fail
    refine (unhide CS).mono ?_
    rintro e w8 ⟨rfl, hb8⟩
    have HB8 := hide (tr2 (unhide HB7) hb8)
    have K8 := hide ((unhide K7).later hb8)
    have CX := hide (texts_any _ _ J J w8 (view_below (unhide HU7) hb8) (view_below (unhide HV7) hb8))
    rw [sameT_refl] at CX
    have HPA8 := hide ((unhide HPA7).below hb8)
    clear hb8 CS HPA7 K7 HU7 HV7 HB7
    have y0 := (unhide K8).cell 0
    have y1 := (unhide K8).cell 1
    go_wp2_with fail
    refine (unhide CX).mono ?_
    rintro e w9 ⟨rfl, hb9⟩
    have HB9 := hide (tr2 (unhide HB8) hb9)
    have K9 := hide ((unhide K8).later hb9)
    have CC := hide (unhide C5 pq pc w9 ((unhide HPA8).below hb9))
    clear hb9 CX HPA8 K8 HB8 C5 y0 y1
    have y0 := (unhide K9).cell 0
    have y1 := (unhide K9).cell 1
    go_wp2_with fail
    refine (unhide CC).mono ?_
    rintro e x1 ⟨rfl, hb10⟩
    have HB10 := hide (tr2 (unhide HB9) hb10)
    clear hb10 CC y0 y1
    go_wp2_with fail
    refine (unhide CF _).mono ?_
    rintro e x2 ⟨rfl, hb11⟩
    have HB11 := hide (tr2 (unhide HB10) hb11)
    clear hb11
    go_wp2
    go_ret
    exact ⟨rfl, unhide HB11⟩)
theorem blendTexts_law (q0 q1 q2 : Option Addr) (n0 n1 n2 c0 c1 c2 : Nat) (z0 z1 z2 : List ByteArray) (w : World) (w0 : View w (.slice q0 n0 c0) z0) (w1 : View w (.slice q1 n1 c1) z1) (w2 : View w (.slice q2 n2 c2) z2) (b0 : ∀ s ∈ z0, s.size ≤ 9223372036854775807) (b1 : ∀ s ∈ z1, s.size ≤ 9223372036854775807) (b2 : ∀ s ∈ z2, s.size ≤ 9223372036854775807) (d0 : n0 ≤ c0 ∧ (q0 = none → c0 = 0)) (d1 : n1 ≤ c1 ∧ (q1 = none → c1 = 0)) (d2 : n2 ≤ c2 ∧ (q2 = none → c2 = 0)) :
    Calls Try.prog 3 #[.slice q0 n0 c0, .slice q1 n1 c1, .slice q2 n2 c2] w fun e w' => e = .returned (.bool true) ∧ Below w.heap.size w w' := by
  obtain ⟨rfl, h0⟩ := arg_of w0 d0
  obtain ⟨rfl, h1⟩ := arg_of w1 d1
  obtain ⟨rfl, h2⟩ := arg_of w2 d2
  by_cases h : 40 < z0.length ∨ 40 < z1.length ∨ 40 < z2.length
  · exact blendTexts_great q0 c0 z0 q1 c1 z1 q2 c2 z2 w w0.1 w1.1 w2.1 h
  · exact blendTexts_small q0 q1 q2 c0 c1 c2 z0 z1 z2 w h0 h1 h2 (szT_small b0) (szT_small b1) (szT_small b2) (by omega) (by omega) (by omega)
end Go.Proofs.Ytbaoomkdlbjhlaa
