/-
  'policy.Stays' (made by mk_wss.py).
-/
import Derived.Test.YtfdhmhdemfbfeaaWSt
import Derived.Deep.RegionHeld
namespace Go.Proofs.Ytfdhmhdemfbfeaa
open Go.RowKit
set_option linter.unusedVariables false
set_option linter.unusedSimpArgs false

def stP (p : PPol) (nm an av : ByteArray) : Bool := decide (chkP p = 0) && stB p (findR p.ot nm p.rs) an av
def KeepJ (j b : Nat) (a1 a2 : Option Addr) (n1 c1 n2 c2 : Nat) (ot st : Int) (an av : ByteArray) (W : World) : Prop :=
  W.cell? ⟨j, 0, none⟩ = some (.slice a1 n1 c1) ∧ W.cell? ⟨j, 1, none⟩ = some (.slice a2 n2 c2) ∧ W.cell? ⟨j, 2, none⟩ = some (.int .i64 ot) ∧ W.cell? ⟨j, 3, none⟩ = some (.int .i64 st) ∧ W.cell? ⟨b, 0, none⟩ = some (.string an) ∧ W.cell? ⟨b, 1, none⟩ = some (.string av)
theorem KeepJ.of {j b : Nat} {a1 a2 : Option Addr} {n1 c1 n2 c2 : Nat} {ot st : Int} {an av : ByteArray} {W : World} {t t' : TypeId} (h : Blk W j #[.slice a1 n1 c1, .slice a2 n2 c2, .int .i64 ot, .int .i64 st] t) (h' : Blk W b #[.string an, .string av] t') : KeepJ j b a1 a2 n1 c1 n2 c2 ot st an av W :=
  ⟨h.cell 0, h.cell 1, h.cell 2, h.cell 3, h'.cell 0, h'.cell 1⟩

set_option maxHeartbeats 2000000 in
set_option maxRecDepth 20000 in
theorem pstays_any (v : Value) (p : PPol) (nm an av : ByteArray) (w : World) (hv : PolV w v p) (ho : PolOk p) (hz : av.size ≤ 100000) :
    Calls Try.prog 16 #[v, .string nm, .agg #[.string an, .string av]] w fun e w' => e = .returned (.bool (stP p nm an av)) ∧ Below w.heap.size w w' := by
  have C1 := hide (fun W hW => check_any v p W (hv.below hW) ho)
  have C2 := hide (fun W hW => rule_any v p 0 nm W (hv.below (w := w) hW))
  have C3 := hide (fun vr r W hW hr => jstays_any v vr p r an av W (hv.below (w := w) hW) hr hz)
  obtain ⟨vrs, vs, rfl, h1, h2⟩ := hv
  obtain ⟨a2, c2, rfl⟩ := h2.slice
  obtain ⟨hrl, a1, c1, rfl, _⟩ := h1
  have hru : rulOf p 0 nm = findR p.ot nm p.rs := rfl
  rw [hru] at C2
  unfold stP
  unfold polC at *
  clear h2 hru
  generalize chkP p = ch at *
  have C4 := hide (fun vr W hW hr => unhide C3 vr (findR p.ot nm p.rs) W hW hr)
  generalize stB p (findR p.ot nm p.rs) an av = D at *
  generalize findR p.ot nm p.rs = rr at *
  clear C3
  obtain ⟨rs, sc, ot, st⟩ := p
  dsimp only at *
  generalize rs.length = n1 at *
  generalize sc.length = n2 at *
  have al : Below w.heap.size w ((w.alloc (Obj.cells #[.slice a1 n1 c1, .slice a2 n2 c2, .int .i64 ot, .int .i64 st] 25)).alloc (Obj.cells #[.string an, .string av] 45)) := ((Below.refl _ _).alloc (Nat.le_refl _) _).alloc (by simp) _
  have K : Hid (Blk ((w.alloc (Obj.cells #[.slice a1 n1 c1, .slice a2 n2 c2, .int .i64 ot, .int .i64 st] 25)).alloc (Obj.cells #[.string an, .string av] 45)) w.heap.size #[.slice a1 n1 c1, .slice a2 n2 c2, .int .i64 ot, .int .i64 st] 25) := hide ((Blk.new w _ _).alloc _)
  have KA : Hid (Blk ((w.alloc (Obj.cells #[.slice a1 n1 c1, .slice a2 n2 c2, .int .i64 ot, .int .i64 st] 25)).alloc (Obj.cells #[.string an, .string av] 45)) (w.heap.size + 1) #[.string an, .string av] 45) := hide (blk_next (by simp))
  have C1' := hide (unhide C1 _ al)
  by_cases h0 : ch = 0
  · subst h0
    go_enter Try.func16, Try.ntmps16
    go_wp2_with fail
    refine (unhide C1').mono ?_
    rintro e1 w1 ⟨rfl, hb1⟩
    have K1 := hide ((unhide K).later hb1)
    have KA1 := hide ((unhide KA).later hb1)
    have HB1 := hide (al.trans (hb1.mono (by simp; omega)))
    have z0 : w1.cell? ⟨w.heap.size, 0, none⟩ = some (.slice a1 n1 c1) := (unhide K1).cell 0
    have z1 : w1.cell? ⟨w.heap.size, 1, none⟩ = some (.slice a2 n2 c2) := (unhide K1).cell 1
    have z2 : w1.cell? ⟨w.heap.size, 2, none⟩ = some (.int .i64 ot) := (unhide K1).cell 2
    have z3 : w1.cell? ⟨w.heap.size, 3, none⟩ = some (.int .i64 st) := (unhide K1).cell 3
    have KJ := hide (Blk.new w1 #[.slice a1 n1 c1, .slice a2 n2 c2, .int .i64 ot, .int .i64 st] 63)
    have KA2 := hide ((unhide KA1).alloc (Obj.cells #[.slice a1 n1 c1, .slice a2 n2 c2, .int .i64 ot, .int .i64 st] 63))
    have HB2 := hide ((unhide HB1).alloc (unhide HB1).size (Obj.cells #[.slice a1 n1 c1, .slice a2 n2 c2, .int .i64 ot, .int .i64 st] 63))
    have hD : Below (w1.alloc (Obj.cells #[.slice a1 n1 c1, .slice a2 n2 c2, .int .i64 ot, .int .i64 st] 63)).heap.size (w1.alloc (Obj.cells #[.slice a1 n1 c1, .slice a2 n2 c2, .int .i64 ot, .int .i64 st] 63)) (w1.alloc (Obj.cells #[.slice a1 n1 c1, .slice a2 n2 c2, .int .i64 ot, .int .i64 st] 63)).drew := below_draws _ 1
    have KJ3 := hide ((unhide KJ).later hD)
    have KA3 := hide ((unhide KA2).later hD)
    have HB3 := hide (tr2 (unhide HB2) hD)
    clear hb1 al C1 C1' hD KJ KA2 HB2
    go_wp2_with fail
    clear z0 z1 z2 z3
    have hSa := KeepJ.of (unhide KJ3) (unhide KA3)
    refine wp_region_held (S := KeepJ w1.heap.size (w.heap.size + 1) a1 a2 n1 c1 n2 c2 ot st an av) (by kernel_rfl) ?_
    change wpAnyH _ _ _ _ _ _ _ _ (World.drew _)
    refine wpAnyH_take (i := 0) (oi := { dst := some 13, op := _, type := _, pos := _, after := _, guard := _ }) (v := ?va0_1) rfl (by kernel_rfl) (by kernel_rfl) (by kernel_rfl) (fun _ _ _ h => h) (Or.inl ⟨by kernel_rfl, ?ha0_1⟩) hSa ?ra0_1
    case ha0_1 => first | (intro w hSw; obtain ⟨s0, s1, s2, s3, s4, s5⟩ := hSw; go_simp; done) | (intro w hSw; obtain ⟨s0, s1, s2, s3, s4, s5⟩ := hSw; go_simp; with_reducible rfl)
    try simp only [Act.put, List.setIfInBounds_toArray, List.set_cons_zero, List.set_cons_succ]
    refine wpAnyH_take (i := 1) (oi := { dst := some 14, op := _, type := _, pos := _, after := _, guard := _ }) (v := ?va1_2) rfl (by kernel_rfl) (by kernel_rfl) (by kernel_rfl) (fun _ _ _ h => h) (Or.inl ⟨by kernel_rfl, ?ha1_2⟩) hSa ?ra1_2
    case ha1_2 => first | (intro w hSw; obtain ⟨s0, s1, s2, s3, s4, s5⟩ := hSw; go_simp; done) | (intro w hSw; obtain ⟨s0, s1, s2, s3, s4, s5⟩ := hSw; go_simp; with_reducible rfl)
    try simp only [Act.put, List.setIfInBounds_toArray, List.set_cons_zero, List.set_cons_succ]
    refine wpAnyH_take (i := 2) (oi := { dst := some 15, op := _, type := _, pos := _, after := _, guard := _ }) (v := ?va2_3) rfl (by kernel_rfl) (by kernel_rfl) (by kernel_rfl) (fun _ _ _ h => h) (Or.inl ⟨by kernel_rfl, ?ha2_3⟩) hSa ?ra2_3
    case ha2_3 => first | (intro w hSw; obtain ⟨s0, s1, s2, s3, s4, s5⟩ := hSw; go_simp; done) | (intro w hSw; obtain ⟨s0, s1, s2, s3, s4, s5⟩ := hSw; go_simp; with_reducible rfl)
    try simp only [Act.put, List.setIfInBounds_toArray, List.set_cons_zero, List.set_cons_succ]
    refine wpAnyH_take (i := 4) (oi := { dst := some 17, op := _, type := _, pos := _, after := _, guard := _ }) (v := ?va4_4) rfl (by kernel_rfl) (by kernel_rfl) (by kernel_rfl) (fun _ _ _ h => h) (Or.inl ⟨by kernel_rfl, ?ha4_4⟩) hSa ?ra4_4
    case ha4_4 => first | (intro w hSw; obtain ⟨s0, s1, s2, s3, s4, s5⟩ := hSw; go_simp; done) | (intro w hSw; obtain ⟨s0, s1, s2, s3, s4, s5⟩ := hSw; go_simp; with_reducible rfl)
    try simp only [Act.put, List.setIfInBounds_toArray, List.set_cons_zero, List.set_cons_succ]
    refine wpAnyH_ready (rs := [3]) (by kernel_rfl) (by simp) ?_
    refine AllReadyH.cons rfl (fun K hK => ?_) AllReadyH.nil
    go_simp
    refine (unhide C2 _ (unhide HB3)).mono ?_
    rintro e w4 ⟨⟨v', rfl, hrv⟩, hb⟩
    have HRV := hide hrv
    obtain ⟨va, vl, rfl, _, _⟩ := hrv
    have KJ4 := hide ((unhide KJ3).later hb)
    have KA4 := hide ((unhide KA3).later hb)
    have HB4 := hide (tr2 (unhide HB3) hb)
    have hSa' := KeepJ.of (unhide KJ4) (unhide KA4)
    clear hb
    refine hK _ _ hSa' (fun _ => ?_)
    clear hK K hSa
    have hSa := hSa'
    clear hSa'
    refine wpAnyH_ready (rs := [5]) (by kernel_rfl) (by simp) ?_
    refine AllReadyH.cons rfl (fun K hK => ?_) AllReadyH.nil
    go_simp
    refine (unhide C4 _ _ (unhide HB4) (unhide HRV)).mono ?_
    rintro e w5 ⟨rfl, hb⟩
    have KJ5 := hide ((unhide KJ4).later hb)
    have KA5 := hide ((unhide KA4).later hb)
    have HB5 := hide (tr2 (unhide HB4) hb)
    have hSa' := KeepJ.of (unhide KJ5) (unhide KA5)
    clear hb
    refine hK _ _ hSa' (fun _ => ?_)
    clear hK K hSa
    have hSa := hSa'
    clear hSa'
    refine wpAnyH_take (i := 6) (oi := { dst := some 6, op := _, type := _, pos := _, after := _, guard := _ }) (v := ?va6_5) rfl (by kernel_rfl) (by kernel_rfl) (by kernel_rfl) (fun _ _ _ h => h) (Or.inl ⟨by kernel_rfl, ?ha6_5⟩) hSa ?ra6_5
    case ha6_5 => first | (intro w hSw; obtain ⟨s0, s1, s2, s3, s4, s5⟩ := hSw; go_simp; done) | (intro w hSw; obtain ⟨s0, s1, s2, s3, s4, s5⟩ := hSw; go_simp; with_reducible rfl)
    try simp only [Act.put, List.setIfInBounds_toArray, List.set_cons_zero, List.set_cons_succ]
    refine wpAnyH_done (by kernel_rfl) ?_ _
    clear hSa
    go_wp2
    go_ret
    exact ⟨by simp, unhide HB5⟩
  · obtain ⟨i0, i1⟩ := chk_ne h0
    rw [decide_eq_false h0]
    clear h0
    go_enter Try.func16, Try.ntmps16
    go_wp2_with fail
    refine (unhide C1').mono ?_
    rintro e1 w1 ⟨rfl, hb1⟩
    have HB1 := hide (al.trans (hb1.mono (by simp; omega)))
    go_wp2
    go_ret
    exact ⟨rfl, unhide HB1⟩
end Go.Proofs.Ytfdhmhdemfbfeaa
