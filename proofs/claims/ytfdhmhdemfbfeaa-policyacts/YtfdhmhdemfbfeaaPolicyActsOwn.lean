/-
  For every policy, every node and every attribute the law PolicyActs answers true: what the policy does with the element, and whether the attribute stays, is the document's answer; and each argument reads as it did.
-/
import Derived.Test.YtfdhmhdemfbfeaaWRc
import Derived.Test.YtfdhmhdemfbfeaaWOf
import Derived.Test.YtfdhmhdemfbfeaaWSc
import Derived.Test.YtfdhmhdemfbfeaaONd
import Derived.Test.YtfdhmhdemfbfeaaOPo
import Derived.ProofKit
import Derived.Carry
import Derived.OpenShut
import Derived.ShutString
import Derived.ChangeOld
import Derived.Below

/-
  'rectolaw16.PolicyActs' (made by mk_lwa.py).
-/
namespace Go.Proofs.Ytfdhmhdemfbfeaa
open Go.RowKit
set_option linter.unusedVariables false
set_option linter.unusedSimpArgs false

theorem actP_no {p : PPol} (h : ¬ chkP p = 0) (sp : Int) (nm : ByteArray) : actP p sp nm = 3 := if_neg h
theorem actP_yes {p : PPol} (h : chkP p = 0) (sp : Int) (nm : ByteArray) : actP p sp nm = (rulOf p sp nm).ac := if_pos h
theorem stP_no {p : PPol} (h : ¬ chkP p = 0) (nm an av : ByteArray) : stP p nm an av = false := by unfold stP; rw [decide_eq_false h]; rfl
theorem stP_yes {p : PPol} (h : chkP p = 0) (nm an av : ByteArray) : stP p nm an av = stB p (findR p.ot nm p.rs) an av := by unfold stP; rw [decide_eq_true h]; rfl

set_option maxHeartbeats 8000000 in
set_option maxRecDepth 20000 in
theorem policyActs_walk (v : Value) (p : PPol) (x : NdA) (an av : ByteArray) (w : World) (hv : PolV w v p) (ho : PolOk p) (ha : av.size ≤ 9223372036854775807) :
    Calls Try.prog 4 #[v, .agg x.cells, .agg #[.string an, .string av]] w fun e w' => e = .returned (.bool true) ∧ Below w.heap.size w w' := by
  have CL := hide (fun W hW => large16_any v p W (hv.below (w := w) hW) ho)
  have CS := hide script_any
  have CR := hide (fun W hW h80 => refP_any v p W (hv.below (w := w) hW) h80)
  have CA := hide (fun sp nm W hW => pact_any v p sp nm W (hv.below (w := w) hW) ho)
  have CT := hide (fun nm W hW hz => pstays_any v p nm an av W (hv.below (w := w) hW) ho hz)
  have CC := hide (fun v' W (hp : PolV W v' p) hc => rcheck_any v' p W hp hc ho)
  rw [chk_is] at CC
  have DA := hide (fun v' sp nm W (hp : PolV W v' p) => ract_any v' p sp nm W hp)
  have DT := hide (fun v' nm W (hp : PolV W v' p) hz => rstays_any v' p nm an av W hp hz)
  have HLG := hide (@lg_parts p)
  have HNA := hide (@actP_no p)
  have HNY := hide (@actP_yes p)
  have HTA := hide (@stP_no p)
  have HTY := hide (@stP_yes p)
  obtain ⟨vr, vs, rfl, h1, h2⟩ := hv
  obtain ⟨a2, c2, rfl⟩ := h2.slice
  obtain ⟨hrl, a1, c1, rfl, _⟩ := h1
  have HPE : Hid (∀ x y, polC p x y = #[x, y, .int .i64 p.ot, .int .i64 p.st]) := hide (fun _ _ => rfl)
  have HSL : Hid (∀ W v', PolV W v' p → ∃ q1 e1 q2 e2, v' = .agg #[.slice q1 p.rs.length e1, .slice q2 p.sc.length e2, .int .i64 p.ot, .int .i64 p.st]) := hide (fun W v' h => by
    obtain ⟨x, y, rfl, ⟨_, q1, e1, rfl, _⟩, g2⟩ := h
    obtain ⟨q2, e2, rfl⟩ := g2.slice
    exact ⟨q1, e1, q2, e2, rfl⟩)
  obtain ⟨nk, sp, nm, nats, tx, nkids, qa, ca, qk, ck⟩ := x
  unfold NdA.cells
  have CA' := hide (unhide CA sp nm)
  have CT' := hide (unhide CT nm)
  have DA' := hide (fun v' W hp => unhide DA v' sp nm W hp)
  have DT' := hide (fun v' W hp hz => unhide DT v' nm W hp hz)
  have HNA' := hide (fun h => unhide HNA h sp nm)
  have HNY' := hide (fun h => unhide HNY h sp nm)
  have HTA' := hide (fun h => unhide HTA h nm an av)
  have HTY' := hide (fun h => unhide HTY h nm an av)
  unfold polC at *
  clear h2 CA CT DA DT HNA HNY HTA HTY ho
  dsimp only at *
  generalize hlg : lgP p = lg at *
  generalize actP p sp nm = act at *
  generalize stP p nm an av = sta at *
  generalize (rulOf p sp nm).ac = ract at *
  generalize stB p (findR p.ot nm p.rs) an av = rsta at *
  generalize hch : chkP p = ch at *
  have h80 : lg = false → p.rs.length ≤ 80 := fun h => (unhide HLG h).1
  have H80 := hide h80
  have HRS : Hid (p.rs.length = p.rs.length) := hide rfl
  generalize p.rs.length = n1 at *
  generalize p.sc.length = n2 at *
  generalize p.ot = ot at *
  generalize p.st = st at *
  generalize nats.length = na at *
  generalize nkids.len = nkl at *
  clear hlg hch HLG h80 HPE
  have al : Below w.heap.size w (((w.alloc (Obj.cells #[.slice a1 n1 c1, .slice a2 n2 c2, .int .i64 ot, .int .i64 st] 25)).alloc (Obj.cells #[.int .i64 nk, .int .i64 sp, .string nm, .slice qa na ca, .string tx, .slice qk nkl ck] 43)).alloc (Obj.cells #[.string an, .string av] 45)) := (((Below.refl _ _).alloc (Nat.le_refl _) _).alloc (by simp) _).alloc (by simp; omega) _
  have K : Hid (Blk (((w.alloc (Obj.cells #[.slice a1 n1 c1, .slice a2 n2 c2, .int .i64 ot, .int .i64 st] 25)).alloc (Obj.cells #[.int .i64 nk, .int .i64 sp, .string nm, .slice qa na ca, .string tx, .slice qk nkl ck] 43)).alloc (Obj.cells #[.string an, .string av] 45)) w.heap.size #[.slice a1 n1 c1, .slice a2 n2 c2, .int .i64 ot, .int .i64 st] 25) := hide (((Blk.new w _ _).alloc _).alloc _)
  have KN : Hid (Blk (((w.alloc (Obj.cells #[.slice a1 n1 c1, .slice a2 n2 c2, .int .i64 ot, .int .i64 st] 25)).alloc (Obj.cells #[.int .i64 nk, .int .i64 sp, .string nm, .slice qa na ca, .string tx, .slice qk nkl ck] 43)).alloc (Obj.cells #[.string an, .string av] 45)) (w.heap.size + 1) #[.int .i64 nk, .int .i64 sp, .string nm, .slice qa na ca, .string tx, .slice qk nkl ck] 43) := hide ((show Blk ((w.alloc (Obj.cells #[.slice a1 n1 c1, .slice a2 n2 c2, .int .i64 ot, .int .i64 st] 25)).alloc (Obj.cells #[.int .i64 nk, .int .i64 sp, .string nm, .slice qa na ca, .string tx, .slice qk nkl ck] 43)) (w.heap.size + 1) #[.int .i64 nk, .int .i64 sp, .string nm, .slice qa na ca, .string tx, .slice qk nkl ck] 43 from blk_next (by simp)).alloc _)
  have KA : Hid (Blk (((w.alloc (Obj.cells #[.slice a1 n1 c1, .slice a2 n2 c2, .int .i64 ot, .int .i64 st] 25)).alloc (Obj.cells #[.int .i64 nk, .int .i64 sp, .string nm, .slice qa na ca, .string tx, .slice qk nkl ck] 43)).alloc (Obj.cells #[.string an, .string av] 45)) (w.heap.size + 1 + 1) #[.string an, .string av] 45) := hide (blk_next (by simp))
  have CL0 := hide (unhide CL _ al)
  have HAL := hide al
  clear CL al
  have hsz0 : (((w.alloc (Obj.cells #[.slice a1 n1 c1, .slice a2 n2 c2, .int .i64 ot, .int .i64 st] 25)).alloc (Obj.cells #[.int .i64 nk, .int .i64 sp, .string nm, .slice qa na ca, .string tx, .slice qk nkl ck] 43)).alloc (Obj.cells #[.string an, .string av] 45)).heap.size = w.heap.size + 3 := by simp
  have HSZ := hide hsz0
  clear hsz0
  cases lg with
  | true =>
    go_enter Try.func4, Try.ntmps4
    go_wp2_with fail
    refine (unhide CL0).mono ?_
    rintro e1 w1 ⟨rfl, hb1⟩
    have HB1 := hide ((unhide HAL).trans (hb1.mono (unhide HAL).size))
    go_wp2_with fail
    refine (unhide CS _).mono ?_
    rintro e1 w2 ⟨rfl, hb2⟩
    go_wp2
    go_ret
    exact ⟨rfl, tr2 (unhide HB1) hb2⟩
  | false =>
  go_enter Try.func4, Try.ntmps4
  go_wp2_with fail
  refine (unhide CL0).mono ?_
  rintro e1 w1 ⟨rfl, hb1⟩
  have HB1 := hide ((unhide HAL).trans (hb1.mono (unhide HAL).size))
  have K1 := hide ((unhide K).later hb1)
  have KN1 := hide ((unhide KN).later hb1)
  have KA1 := hide ((unhide KA).later hb1)
  have hlt1 : w.heap.size + 1 + 1 < w1.heap.size := (unhide KA1).lt
  clear hb1 K KN KA CL0 HAL HSZ
  have p0 : w1.cell? ⟨w.heap.size, 0, none⟩ = some (.slice a1 n1 c1) := (unhide K1).cell 0
  have p1 : w1.cell? ⟨w.heap.size, 1, none⟩ = some (.slice a2 n2 c2) := (unhide K1).cell 1
  have p2 : w1.cell? ⟨w.heap.size, 2, none⟩ = some (.int .i64 ot) := (unhide K1).cell 2
  have p3 : w1.cell? ⟨w.heap.size, 3, none⟩ = some (.int .i64 st) := (unhide K1).cell 3
  have s1 : w1.cell? ⟨w.heap.size + 1, 1, none⟩ = some (.int .i64 sp) := (unhide KN1).cell 1
  have s2 : w1.cell? ⟨w.heap.size + 1, 2, none⟩ = some (.string nm) := (unhide KN1).cell 2
  have t0 : w1.cell? ⟨w.heap.size + 1 + 1, 0, none⟩ = some (.string an) := (unhide KA1).cell 0
  have t1 : w1.cell? ⟨w.heap.size + 1 + 1, 1, none⟩ = some (.string av) := (unhide KA1).cell 1
  by_cases h1000 : 1000 < av.size
  · have i1000 : (1000 : Int) < (av.size : Int) := by omega
    go_wp2_with fail
    refine (unhide CS _).mono ?_
    rintro e1 w2 ⟨rfl, hb2⟩
    go_wp2
    go_ret
    exact ⟨rfl, tr2 (unhide HB1) hb2⟩
  have i1000 : ¬ (1000 : Int) < (av.size : Int) := by omega
  have HZ : Hid (av.size ≤ 100000) := hide (by omega)
  have CR1 := hide (unhide CR w1 (unhide HB1) (unhide H80 (by first | rfl | trivial)))
  go_wp2_with fail
  refine (unhide CR1).mono ?_
  rintro e1 w2 ⟨⟨v2, rfl, hpv, hcap⟩, hb2⟩
  have HPV := hide hpv
  have HCAP := hide hcap
  obtain ⟨b1, e1, b2, e2, rfl⟩ := unhide HSL w2 v2 hpv
  clear p0 p1 p2 p3 s1 s2 t0 t1
  clear i1000 h1000 hpv hcap CR CR1 HSL ha
  have alr := (Below.refl w2.heap.size w2).alloc (Nat.le_refl _) (Obj.cells #[.slice b1 n1 e1, .slice b2 n2 e2, .int .i64 ot, .int .i64 st] 30)
  have HB3 := hide ((tr2 (unhide HB1) hb2).trans (alr.mono (tr2 (unhide HB1) hb2).size))
  have K3 := hide (((unhide K1).later hb2).later alr)
  have KN3 := hide (((unhide KN1).later hb2).later alr)
  have KA3 := hide (((unhide KA1).later hb2).later alr)
  have KR3 := hide (Blk.new w2 #[.slice b1 n1 e1, .slice b2 n2 e2, .int .i64 ot, .int .i64 st] 30)
  have HPV3 := hide ((unhide HPV).below alr)
  have K2 := hide ((unhide K1).later hb2)
  have KN2 := hide ((unhide KN1).later hb2)
  have KA2 := hide ((unhide KA1).later hb2)
  have hlt2 : w.heap.size + 1 + 1 < w2.heap.size := (unhide KA2).lt
  have hlt2' : w.heap.size + 1 < w2.heap.size := by omega
  have hlt2'' : w.heap.size < w2.heap.size := by omega
  clear hb2 alr K1 KN1 KA1
  have CA3 := hide (unhide CA' _ (unhide HB3))
  have p0 : w2.cell? ⟨w.heap.size, 0, none⟩ = some (.slice a1 n1 c1) := (unhide K2).cell 0
  have p1 : w2.cell? ⟨w.heap.size, 1, none⟩ = some (.slice a2 n2 c2) := (unhide K2).cell 1
  have p2 : w2.cell? ⟨w.heap.size, 2, none⟩ = some (.int .i64 ot) := (unhide K2).cell 2
  have p3 : w2.cell? ⟨w.heap.size, 3, none⟩ = some (.int .i64 st) := (unhide K2).cell 3
  have s1 : w2.cell? ⟨w.heap.size + 1, 1, none⟩ = some (.int .i64 sp) := (unhide KN2).cell 1
  have s2 : w2.cell? ⟨w.heap.size + 1, 2, none⟩ = some (.string nm) := (unhide KN2).cell 2
  go_wp2_with fail
  refine (unhide CA3).mono ?_
  rintro e3 w3 ⟨rfl, hb3⟩
  clear p0 p1 p2 p3 s1 s2
  have HB4 := hide (tr2 (unhide HB3) hb3)
  have K4 := hide ((unhide K3).later hb3)
  have KN4 := hide ((unhide KN3).later hb3)
  have KA4 := hide ((unhide KA3).later hb3)
  have KR4 := hide ((unhide KR3).later hb3)
  have HPV4 := hide ((unhide HPV3).below hb3)
  have CT4 := hide (unhide CT' _ (unhide HB4) (unhide HZ))
  clear hb3 CA3 K3 KN3 KA3 KR3 K2 KN2 KA2 HPV3
  have p0 : w3.cell? ⟨w.heap.size, 0, none⟩ = some (.slice a1 n1 c1) := (unhide K4).cell 0
  have p1 : w3.cell? ⟨w.heap.size, 1, none⟩ = some (.slice a2 n2 c2) := (unhide K4).cell 1
  have p2 : w3.cell? ⟨w.heap.size, 2, none⟩ = some (.int .i64 ot) := (unhide K4).cell 2
  have p3 : w3.cell? ⟨w.heap.size, 3, none⟩ = some (.int .i64 st) := (unhide K4).cell 3
  have s1 : w3.cell? ⟨w.heap.size + 1, 1, none⟩ = some (.int .i64 sp) := (unhide KN4).cell 1
  have s2 : w3.cell? ⟨w.heap.size + 1, 2, none⟩ = some (.string nm) := (unhide KN4).cell 2
  have t0 : w3.cell? ⟨w.heap.size + 1 + 1, 0, none⟩ = some (.string an) := (unhide KA4).cell 0
  have t1 : w3.cell? ⟨w.heap.size + 1 + 1, 1, none⟩ = some (.string av) := (unhide KA4).cell 1
  go_wp2_with fail
  refine (unhide CT4).mono ?_
  rintro e3 w4 ⟨rfl, hb4⟩
  clear p0 p1 p2 p3 s1 s2 t0 t1
  have HB5 := hide (tr2 (unhide HB4) hb4)
  have KN5 := hide ((unhide KN4).later hb4)
  have KA5 := hide ((unhide KA4).later hb4)
  have KR5 := hide ((unhide KR4).later hb4)
  have HPV5 := hide ((unhide HPV4).below hb4)
  have CC5 := hide (unhide CC _ w4 (unhide HPV5) (unhide HCAP))
  clear hb4 CT4 K4 KN4 KA4 KR4 HPV4
  have r0 : w4.cell? ⟨w2.heap.size, 0, none⟩ = some (.slice b1 n1 e1) := (unhide KR5).cell 0
  have r1 : w4.cell? ⟨w2.heap.size, 1, none⟩ = some (.slice b2 n2 e2) := (unhide KR5).cell 1
  have r2 : w4.cell? ⟨w2.heap.size, 2, none⟩ = some (.int .i64 ot) := (unhide KR5).cell 2
  have r3 : w4.cell? ⟨w2.heap.size, 3, none⟩ = some (.int .i64 st) := (unhide KR5).cell 3
  go_wp2_with fail
  refine (unhide CC5).mono ?_
  rintro e3 w5 ⟨rfl, hb5⟩
  clear r0 r1 r2 r3
  have HB6 := hide (tr2 (unhide HB5) hb5)
  have KN6 := hide ((unhide KN5).later hb5)
  have KA6 := hide ((unhide KA5).later hb5)
  have KR6 := hide ((unhide KR5).later hb5)
  have HPV6 := hide ((unhide HPV5).below hb5)
  clear hb5 CC5 KN5 KA5 KR5 HPV5
  by_cases h0 : ch = 0
  · subst h0
    have ea := unhide HNY' rfl
    have et := unhide HTY' rfl
    subst ea et
    have DA6 := hide (unhide DA' _ w5 (unhide HPV6))
    have s1 : w5.cell? ⟨w.heap.size + 1, 1, none⟩ = some (.int .i64 sp) := (unhide KN6).cell 1
    have s2 : w5.cell? ⟨w.heap.size + 1, 2, none⟩ = some (.string nm) := (unhide KN6).cell 2
    have r0 : w5.cell? ⟨w2.heap.size, 0, none⟩ = some (.slice b1 n1 e1) := (unhide KR6).cell 0
    have r1 : w5.cell? ⟨w2.heap.size, 1, none⟩ = some (.slice b2 n2 e2) := (unhide KR6).cell 1
    have r2 : w5.cell? ⟨w2.heap.size, 2, none⟩ = some (.int .i64 ot) := (unhide KR6).cell 2
    have r3 : w5.cell? ⟨w2.heap.size, 3, none⟩ = some (.int .i64 st) := (unhide KR6).cell 3
    go_wp2_with fail
    refine (unhide DA6).mono ?_
    rintro e3 w6 ⟨rfl, hb6⟩
    clear r0 r1 r2 r3 s1 s2
    have HB7 := hide (tr2 (unhide HB6) hb6)
    have KN7 := hide ((unhide KN6).later hb6)
    have KA7 := hide ((unhide KA6).later hb6)
    have KR7 := hide ((unhide KR6).later hb6)
    have DT7 := hide (unhide DT' _ w6 ((unhide HPV6).below hb6) (unhide HZ))
    have hrr : (act == act) = true := beq_self_eq_true _
    clear hb6 DA6
    have s1 : w6.cell? ⟨w.heap.size + 1, 1, none⟩ = some (.int .i64 sp) := (unhide KN7).cell 1
    have s2 : w6.cell? ⟨w.heap.size + 1, 2, none⟩ = some (.string nm) := (unhide KN7).cell 2
    have t0 : w6.cell? ⟨w.heap.size + 1 + 1, 0, none⟩ = some (.string an) := (unhide KA7).cell 0
    have t1 : w6.cell? ⟨w.heap.size + 1 + 1, 1, none⟩ = some (.string av) := (unhide KA7).cell 1
    have r0 : w6.cell? ⟨w2.heap.size, 0, none⟩ = some (.slice b1 n1 e1) := (unhide KR7).cell 0
    have r1 : w6.cell? ⟨w2.heap.size, 1, none⟩ = some (.slice b2 n2 e2) := (unhide KR7).cell 1
    have r2 : w6.cell? ⟨w2.heap.size, 2, none⟩ = some (.int .i64 ot) := (unhide KR7).cell 2
    have r3 : w6.cell? ⟨w2.heap.size, 3, none⟩ = some (.int .i64 st) := (unhide KR7).cell 3
    go_wp2_with fail
    refine (unhide DT7).mono ?_
    rintro e3 w7 ⟨rfl, hb7⟩
    have HB8 := hide (tr2 (unhide HB7) hb7)
    have hss : (sta == sta) = true := beq_self_eq_true _
    clear hb7
    go_wp2_with fail
    refine (unhide CS _).mono ?_
    rintro e3 w8 ⟨rfl, hb8⟩
    go_wp2
    go_ret
    exact ⟨rfl, tr2 (unhide HB8) hb8⟩
  · obtain ⟨i0, i1⟩ := chk_ne h0
    have ea := unhide HNA' h0
    have et := unhide HTA' h0
    subst ea et
    clear h0
    go_wp2_with fail
    refine (unhide CS _).mono ?_
    rintro e3 w8 ⟨rfl, hb8⟩
    go_wp2
    go_ret
    exact ⟨rfl, tr2 (unhide HB6) hb8⟩
end Go.Proofs.Ytfdhmhdemfbfeaa

namespace Go.Proofs.Ytfdhmhdemfbfeaa.policyactsF
open Go.ChangeShapes Go.WideShapes Go.ChangeAt Go.RowKit
open Go.ChangeMaps (open_string shut_string)
set_option linter.unusedVariables false

theorem own : ownKnob Try.prog.godebug = none := by kernel_rfl
theorem laidOut : laidOutB Try.prog = true := by kernel_rfl

set_option maxRecDepth 100000 in
theorem lifted (os : Os) (started : os.Started) (H : Type) (enc : TypeId × Value → H) :
    ReturnsInHanded {} Try.checked os 4 .any (Rows.policyActsSpec.pre6 enc Try.prog Try.f4 Rows.policyActsRow.domain false) (Rows.policyActsSpec.post enc Try.prog Try.f4 false true false false) := by
  refine returnsInHanded_of_change (C := Try.checked) own started (by kernel_rfl) Try.func4
    (ChangeSpec.witness6 (enc := enc) (C := Try.checked) false ⟨#[], #[.agg #[.slice none 0 0, .slice none 0 0, .int .i64 0, .int .i64 0], .agg #[.int .i64 0, .int .i64 0, .string ⟨#[]⟩, .slice none 0 0, .string ⟨#[]⟩, .slice none 0 0], .agg #[.string ⟨#[]⟩, .string ⟨#[]⟩]], []⟩ 8 (by kernel_rfl) (by kernel_rfl) (by kernel_rfl) (by kernel_rfl)) ?_
  intro W base args ds gs before hval0 hW hcnd _
  have hval : ∀ (j : Nat) t v, Try.f4.params[j]? = some t → args[j]? = some v → Value.okWide Try.prog W .any base t v := hval0
  have hW' := hW
  obtain ⟨p, q, hA0, hV, rfl, hfz, hnd⟩ := hW
  have hA : DataW.TrodAll enc Try.prog W 0 (fun _ => true) true Try.f4.params.toList args.toList ds p := hA0
  rw [Try.params4] at hA hval
  obtain ⟨v0, vs0, d0, ds0, p0, q0, hargs, rfl, rfl, h0, r0⟩ := trodAll_cons hA
  obtain ⟨v1, vs1, d1, ds1, p1, q1, rfl, rfl, rfl, h1, r1⟩ := trodAll_cons r0
  obtain ⟨v2, vs2, d2, ds2, p2, q2, rfl, rfl, rfl, h2, r2⟩ := trodAll_cons r1
  obtain ⟨rfl, rfl, rfl⟩ := trodAll_nil r2
  obtain rfl : args = #[v0, v1, v2] := by cases args; simp_all
  obtain ⟨rfl, rfl⟩ := trodVars_none hV
  have k0 := h0
  have lt0 : ∀ x ∈ p0, x.block < W.heap.size := by obtain ⟨m, hm⟩ := k0; exact DataW.trod_lt m _ _ _ hm
  obtain ⟨P0, w0, o0⟩ := open_policy (hval 0 25 v0 rfl rfl) h0
  have k1 := h1
  have lt1 : ∀ x ∈ p1, x.block < W.heap.size := by obtain ⟨m, hm⟩ := k1; exact DataW.trod_lt m _ _ _ hm
  obtain ⟨n1, hv1, w1⟩ := open_node (hval 1 43 v1 rfl rfl) h1
  subst hv1
  have k2 := h2
  have lt2 : ∀ x ∈ p2, x.block < W.heap.size := by obtain ⟨m, hm⟩ := k2; exact DataW.trod_lt m _ _ _ hm
  obtain ⟨an2, av2, hv2, wa2, wb2⟩ := open_attr (hval 2 45 v2 rfl rfl) h2
  subst hv2
  clear hA0 hval0
  refine (policyActs_walk v0 P0 n1 an2 av2 W w0 o0 wb2).mono fun e W' ⟨he, bel⟩ => ?_
  subst he
  exact ⟨_, rfl, _, _, _, [], _, [], hW', trodAll_mk1 (shut_bool Try.underlying4 _), (trodAll_cons_mk (Below.trod laidOut (by kernel_rfl) (of_decide_eq_true (by kernel_rfl)) k0 bel lt0) (trodAll_cons_mk (Below.trod laidOut (by kernel_rfl) (of_decide_eq_true (by kernel_rfl)) k1 bel lt1) (trodAll_cons_mk (Below.trod laidOut (by kernel_rfl) (of_decide_eq_true (by kernel_rfl)) k2 bel lt2) trodAll_mk0))), rfl, bel.frame _, fun h => by cases h⟩

theorem over : Rows.policyActsRow.holds Try.pinned (OpenSpec.ofChange Rows.policyActsSpec) :=
  OpenClaim.holds_of_wide 4 Try.f4 rfl rfl rfl rfl rfl rfl rfl ⟨rfl, rfl, rfl, rfl, rfl⟩ rfl rfl rfl rfl rfl (by kernel_rfl) Try.func4 (by kernel_rfl)
    (of_decide_eq_true (by kernel_rfl)) (by unfold Func.isWrapper; first | (rw [if_pos (by decide +kernel)]; kernel_rfl) | (rw [if_neg (by decide +kernel)]; exact ⟨rfl, rfl⟩))
    (fun os started H enc _ => lifted os started H enc)
end Go.Proofs.Ytfdhmhdemfbfeaa.policyactsF

namespace Go.Proofs.Ytfdhmhdemfbfeaa
theorem policyActs_holds : Rows.PolicyActsSaid := policyactsF.over
end Go.Proofs.Ytfdhmhdemfbfeaa
