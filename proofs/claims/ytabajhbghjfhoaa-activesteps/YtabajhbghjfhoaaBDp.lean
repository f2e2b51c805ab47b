/-
  The walk of a step: Add.
-/
import Derived.Test.YtabajhbghjfhoaaBTw
namespace Go.Proofs.Ytabajhbghjfhoaa
open Go.RowKit
set_option linter.unusedVariables false
set_option linter.unusedSimpArgs false

set_option maxHeartbeats 8000000 in
set_option maxRecDepth 100000 in
theorem does_add0 (A p r : Nat) (no : Int) (x : PEnt) (xq : Option Addr) (xl xc : Nat) (P : List PEnt) (w : World) (h : WayA A p r w P P w) (hN : P.length ≤ 100) (hqn : xq = none → xl = 0 ∧ xc = 0) (hats : AtsV xq xl x.ats w) (hq : ∀ a, xq = some a → 0 < xl → a.block < A) :
    Calls Try.prog 22 #[ptr p, ptr r, .agg (boxA 0 no x xq xl xc)] w (DoesA A p r w) := by
  obtain ⟨xm, xi, xn, ats⟩ := x
  have b2 : Below w.heap.size w (w.alloc (Obj.cells #[.int .i64 0, .int .i64 no, .bool xm, .int .i64 xi, .string xn, .slice xq xl xc] 60)) := (Below.refl _ _).alloc (Nat.le_refl _) _
  have b2d : Below w.heap.size w (w.alloc (Obj.cells #[.int .i64 0, .int .i64 no, .bool xm, .int .i64 xi, .string xn, .slice xq xl xc] 60)).drew := tr2 b2 (below_draws _ 1)
  have kX : Blk (w.alloc (Obj.cells #[.int .i64 0, .int .i64 no, .bool xm, .int .i64 xi, .string xn, .slice xq xl xc] 60)).drew w.heap.size (boxA 0 no ⟨xm, xi, xn, ats⟩ xq xl xc) 60 := (Blk.new w _ _).later (below_draws _ 1)
  have HW : Hid (WayA A p r (w.alloc (Obj.cells #[.int .i64 0, .int .i64 no, .bool xm, .int .i64 xi, .string xn, .slice xq xl xc] 60)).drew P P (w.alloc (Obj.cells #[.int .i64 0, .int .i64 no, .bool xm, .int .i64 xi, .string xn, .slice xq xl xc] 60)).drew) := hide ⟨(h.later b2d).lst, (h.later b2d).rlst, h.hp, Below.refl _ _, fun _ _ h => h, (h.later b2d).sz⟩
  have HW0 : Hid (WayA A p r w P P (w.alloc (Obj.cells #[.int .i64 0, .int .i64 no, .bool xm, .int .i64 xi, .string xn, .slice xq xl xc] 60)).drew) := hide (h.later b2d)
  have HZ := hide h.sz
  have HAT := hide (hats.below b2d)
  have CP : Hid (∀ W, WayA A p r (w.alloc (Obj.cells #[.int .i64 0, .int .i64 no, .bool xm, .int .i64 xi, .string xn, .slice xq xl xc] 60)).drew P P W → Calls Try.prog 33 #[ptr p, .agg #[.bool xm, .int .i64 xi, .string xn, .slice xq xl xc]] W fun e w' => e = .returned (.int .i64 (addR ⟨xm, xi, xn, ats⟩ P.length)) ∧ WayA A p r (w.alloc (Obj.cells #[.int .i64 0, .int .i64 no, .bool xm, .int .i64 xi, .string xn, .slice xq xl xc] 60)).drew (addP ⟨xm, xi, xn, ats⟩ P) P w') := hide fun W hW => hW.callP (fun v hs => add_p A p v P ⟨xm, xi, xn, ats⟩ xq xl xc W hs hW.sz hN hqn ((unhide HAT).belowA hq hW.bel) (fun a ha h0 => by obtain ⟨L, ls, _⟩ := hs; have := hq a ha h0; have := hW.hp; exact ⟨by omega, fun e => by have := (ls.2.1.lt _ e.symm).1; omega⟩))
  have CR : Hid (∀ W, WayA A p r (w.alloc (Obj.cells #[.int .i64 0, .int .i64 no, .bool xm, .int .i64 xi, .string xn, .slice xq xl xc] 60)).drew (addP ⟨xm, xi, xn, ats⟩ P) P W → Calls Try.prog 56 #[ptr r, .agg #[.bool xm, .int .i64 xi, .string xn, .slice xq xl xc]] W fun e w' => e = .returned (.int .i64 (addR ⟨xm, xi, xn, ats⟩ P.length)) ∧ WayA A p r (w.alloc (Obj.cells #[.int .i64 0, .int .i64 no, .bool xm, .int .i64 xi, .string xn, .slice xq xl xc] 60)).drew (addP ⟨xm, xi, xn, ats⟩ P) (addP ⟨xm, xi, xn, ats⟩ P) w') := hide fun W hW => hW.callR (fun u hs => radd_p A A r u P ⟨xm, xi, xn, ats⟩ xq xl xc W hs hW.sz ((unhide HAT).belowA hq hW.bel) hq)
  have CF := hide (fun W => aref_any xm xi xn xq xl xc W)
  have HL : Hid ((addP ⟨xm, xi, xn, ats⟩ P).length ≤ 100) := hide (addP_le ⟨xm, xi, xn, ats⟩ P hN)
  have HB2 := hide b2d
  have HK := hide kX
  have HS : Hid (BoxA w.heap.size 0 no xm xi xn xq xl xc (w.alloc (Obj.cells #[.int .i64 0, .int .i64 no, .bool xm, .int .i64 xi, .string xn, .slice xq xl xc] 60)).drew) := hide (BoxA.of kX)
  generalize (addP ⟨xm, xi, xn, ats⟩ P) = P2 at *
  generalize (((addR ⟨xm, xi, xn, ats⟩ P.length)) : Int) = N at *
  have enn : (N == N) = true := by simp
  clear h b2 b2d kX hats hqn hq HAT HW0
  unfold ptr boxA at *
  dsimp only at *
  go_enter Try.func22, Try.ntmps22
  go_wp2_with fail
  have hSa := unhide HS
  have HWn := HW
  refine wp_region_held (S := BoxA w.heap.size 0 no xm xi xn xq xl xc) (by kernel_rfl) ?_
  change wpAnyH _ _ _ _ _ _ _ _ (World.drew _)
  refine wpAnyH_take (i := 0) (oi := { dst := some 15, op := _, type := _, pos := _, after := _, guard := _ }) (v := ?va0_33) rfl (by kernel_rfl) (by kernel_rfl) (by kernel_rfl) (fun _ _ _ h => h) (Or.inl ⟨by kernel_rfl, ?ha0_33⟩) hSa ?ra0_33
  case ha0_33 => first | (intro w hSw; obtain ⟨s0, s1, s2, s3, s4, s5⟩ := hSw; go_simp; done) | (intro w hSw; obtain ⟨s0, s1, s2, s3, s4, s5⟩ := hSw; go_simp; with_reducible rfl)
  try simp only [Act.put, List.setIfInBounds_toArray, List.set_cons_zero, List.set_cons_succ]
  refine wpAnyH_take (i := 1) (oi := { dst := some 16, op := _, type := _, pos := _, after := _, guard := _ }) (v := ?va1_34) rfl (by kernel_rfl) (by kernel_rfl) (by kernel_rfl) (fun _ _ _ h => h) (Or.inl ⟨by kernel_rfl, ?ha1_34⟩) hSa ?ra1_34
  case ha1_34 => first | (intro w hSw; obtain ⟨s0, s1, s2, s3, s4, s5⟩ := hSw; go_simp; done) | (intro w hSw; obtain ⟨s0, s1, s2, s3, s4, s5⟩ := hSw; go_simp; with_reducible rfl)
  try simp only [Act.put, List.setIfInBounds_toArray, List.set_cons_zero, List.set_cons_succ]
  refine wpAnyH_take (i := 2) (oi := { dst := some 17, op := _, type := _, pos := _, after := _, guard := _ }) (v := ?va2_35) rfl (by kernel_rfl) (by kernel_rfl) (by kernel_rfl) (fun _ _ _ h => h) (Or.inl ⟨by kernel_rfl, ?ha2_35⟩) hSa ?ra2_35
  case ha2_35 => first | (intro w hSw; obtain ⟨s0, s1, s2, s3, s4, s5⟩ := hSw; go_simp; done) | (intro w hSw; obtain ⟨s0, s1, s2, s3, s4, s5⟩ := hSw; go_simp; with_reducible rfl)
  try simp only [Act.put, List.setIfInBounds_toArray, List.set_cons_zero, List.set_cons_succ]
  refine wpAnyH_take (i := 4) (oi := { dst := some 19, op := _, type := _, pos := _, after := _, guard := _ }) (v := ?va4_36) rfl (by kernel_rfl) (by kernel_rfl) (by kernel_rfl) (fun _ _ _ h => h) (Or.inl ⟨by kernel_rfl, ?ha4_36⟩) hSa ?ra4_36
  case ha4_36 => first | (intro w hSw; obtain ⟨s0, s1, s2, s3, s4, s5⟩ := hSw; go_simp; done) | (intro w hSw; obtain ⟨s0, s1, s2, s3, s4, s5⟩ := hSw; go_simp; with_reducible rfl)
  try simp only [Act.put, List.setIfInBounds_toArray, List.set_cons_zero, List.set_cons_succ]
  refine wpAnyH_take (i := 5) (oi := { dst := some 20, op := _, type := _, pos := _, after := _, guard := _ }) (v := ?va5_37) rfl (by kernel_rfl) (by kernel_rfl) (by kernel_rfl) (fun _ _ _ h => h) (Or.inl ⟨by kernel_rfl, ?ha5_37⟩) hSa ?ra5_37
  case ha5_37 => first | (intro w hSw; obtain ⟨s0, s1, s2, s3, s4, s5⟩ := hSw; go_simp; done) | (intro w hSw; obtain ⟨s0, s1, s2, s3, s4, s5⟩ := hSw; go_simp; with_reducible rfl)
  try simp only [Act.put, List.setIfInBounds_toArray, List.set_cons_zero, List.set_cons_succ]
  refine wpAnyH_take (i := 6) (oi := { dst := some 21, op := _, type := _, pos := _, after := _, guard := _ }) (v := ?va6_38) rfl (by kernel_rfl) (by kernel_rfl) (by kernel_rfl) (fun _ _ _ h => h) (Or.inl ⟨by kernel_rfl, ?ha6_38⟩) hSa ?ra6_38
  case ha6_38 => first | (intro w hSw; obtain ⟨s0, s1, s2, s3, s4, s5⟩ := hSw; go_simp; done) | (intro w hSw; obtain ⟨s0, s1, s2, s3, s4, s5⟩ := hSw; go_simp; with_reducible rfl)
  try simp only [Act.put, List.setIfInBounds_toArray, List.set_cons_zero, List.set_cons_succ]
  refine wpAnyH_ready (rs := [3]) (by kernel_rfl) (by simp) ?_
  refine AllReadyH.cons rfl (fun K hK => ?_) AllReadyH.nil
  go_simp
  refine (unhide CP _ (unhide HWn)).mono ?_
  rintro e w3 ⟨rfl, hw⟩
  replace HWn := hide hw
  clear hw
  have hSa' := BoxA.of ((unhide HWn).blk _ _ (unhide HK))
  refine hK _ _ hSa' (fun _ => ?_)
  clear hK K hSa
  have hSa := hSa'
  clear hSa'
  refine wpAnyH_ready (rs := [7]) (by kernel_rfl) (by simp) ?_
  refine AllReadyH.cons rfl (fun K hK => ?_) AllReadyH.nil
  go_simp
  refine (unhide CF _).mono ?_
  rintro e w4 ⟨rfl, hb⟩
  replace HWn := hide ((unhide HWn).later hb)
  clear hb
  have hSa' := BoxA.of ((unhide HWn).blk _ _ (unhide HK))
  refine hK _ _ hSa' (fun _ => ?_)
  clear hK K hSa
  have hSa := hSa'
  clear hSa'
  refine wpAnyH_ready (rs := [8]) (by kernel_rfl) (by simp) ?_
  refine AllReadyH.cons rfl (fun K hK => ?_) AllReadyH.nil
  go_simp
  refine (unhide CR _ (unhide HWn)).mono ?_
  rintro e w5 ⟨rfl, hw⟩
  replace HWn := hide hw
  clear hw
  have hSa' := BoxA.of ((unhide HWn).blk _ _ (unhide HK))
  refine hK _ _ hSa' (fun _ => ?_)
  clear hK K hSa
  have hSa := hSa'
  clear hSa'
  refine wpAnyH_take (i := 9) (oi := { dst := some 24, op := _, type := _, pos := _, after := _, guard := _ }) (v := ?va9_39) rfl (by kernel_rfl) (by kernel_rfl) (by kernel_rfl) (fun _ _ _ h => h) (Or.inl ⟨by kernel_rfl, ?ha9_39⟩) hSa ?ra9_39
  case ha9_39 => first | (intro w hSw; obtain ⟨s0, s1, s2, s3, s4, s5⟩ := hSw; go_simp; done) | (intro w hSw; obtain ⟨s0, s1, s2, s3, s4, s5⟩ := hSw; go_simp; with_reducible rfl)
  try simp only [Act.put, List.setIfInBounds_toArray, List.set_cons_zero, List.set_cons_succ]
  refine wpAnyH_take (i := 10) (oi := { dst := some 6, op := _, type := _, pos := _, after := _, guard := _ }) (v := ?va10_40) rfl (by kernel_rfl) (by kernel_rfl) (by kernel_rfl) (fun _ _ _ h => h) (Or.inl ⟨by kernel_rfl, ?ha10_40⟩) hSa ?ra10_40
  case ha10_40 => first | (intro w hSw; obtain ⟨s0, s1, s2, s3, s4, s5⟩ := hSw; go_simp; done) | (intro w hSw; obtain ⟨s0, s1, s2, s3, s4, s5⟩ := hSw; go_simp; with_reducible rfl)
  try simp only [Act.put, List.setIfInBounds_toArray, List.set_cons_zero, List.set_cons_succ]
  refine wpAnyH_done (by kernel_rfl) ?_ _
  clear hSa HS
  go_wp2
  go_ret
  exact ⟨rfl, _, unhide HL, (unhide HWn).ahead (unhide HB2) (unhide HZ)⟩
set_option maxHeartbeats 8000000 in
set_option maxRecDepth 100000 in
theorem does_add1 (A p r : Nat) (no : Int) (x : PEnt) (xq : Option Addr) (xl xc : Nat) (P : List PEnt) (w : World) (h : WayA A p r w P P w) (hN : P.length ≤ 100) (hqn : xq = none → xl = 0 ∧ xc = 0) (hats : AtsV xq xl x.ats w) (hq : ∀ a, xq = some a → 0 < xl → a.block < A) :
    Calls Try.prog 22 #[ptr p, ptr r, .agg (boxA 1 no x xq xl xc)] w (DoesA A p r w) := by
  obtain ⟨xm, xi, xn, ats⟩ := x
  have b2 : Below w.heap.size w (w.alloc (Obj.cells #[.int .i64 1, .int .i64 no, .bool xm, .int .i64 xi, .string xn, .slice xq xl xc] 60)) := (Below.refl _ _).alloc (Nat.le_refl _) _
  have b2d : Below w.heap.size w (w.alloc (Obj.cells #[.int .i64 1, .int .i64 no, .bool xm, .int .i64 xi, .string xn, .slice xq xl xc] 60)).drew := tr2 b2 (below_draws _ 1)
  have kX : Blk (w.alloc (Obj.cells #[.int .i64 1, .int .i64 no, .bool xm, .int .i64 xi, .string xn, .slice xq xl xc] 60)).drew w.heap.size (boxA 1 no ⟨xm, xi, xn, ats⟩ xq xl xc) 60 := (Blk.new w _ _).later (below_draws _ 1)
  have HW : Hid (WayA A p r (w.alloc (Obj.cells #[.int .i64 1, .int .i64 no, .bool xm, .int .i64 xi, .string xn, .slice xq xl xc] 60)).drew P P (w.alloc (Obj.cells #[.int .i64 1, .int .i64 no, .bool xm, .int .i64 xi, .string xn, .slice xq xl xc] 60)).drew) := hide ⟨(h.later b2d).lst, (h.later b2d).rlst, h.hp, Below.refl _ _, fun _ _ h => h, (h.later b2d).sz⟩
  have HW0 : Hid (WayA A p r w P P (w.alloc (Obj.cells #[.int .i64 1, .int .i64 no, .bool xm, .int .i64 xi, .string xn, .slice xq xl xc] 60)).drew) := hide (h.later b2d)
  have HZ := hide h.sz
  have HAT := hide (hats.below b2d)
  have CP : Hid (∀ W, WayA A p r (w.alloc (Obj.cells #[.int .i64 1, .int .i64 no, .bool xm, .int .i64 xi, .string xn, .slice xq xl xc] 60)).drew P P W → Calls Try.prog 33 #[ptr p, .agg #[.bool xm, .int .i64 xi, .string xn, .slice xq xl xc]] W fun e w' => e = .returned (.int .i64 (addR ⟨xm, xi, xn, ats⟩ P.length)) ∧ WayA A p r (w.alloc (Obj.cells #[.int .i64 1, .int .i64 no, .bool xm, .int .i64 xi, .string xn, .slice xq xl xc] 60)).drew (addP ⟨xm, xi, xn, ats⟩ P) P w') := hide fun W hW => hW.callP (fun v hs => add_p A p v P ⟨xm, xi, xn, ats⟩ xq xl xc W hs hW.sz hN hqn ((unhide HAT).belowA hq hW.bel) (fun a ha h0 => by obtain ⟨L, ls, _⟩ := hs; have := hq a ha h0; have := hW.hp; exact ⟨by omega, fun e => by have := (ls.2.1.lt _ e.symm).1; omega⟩))
  have CR : Hid (∀ W, WayA A p r (w.alloc (Obj.cells #[.int .i64 1, .int .i64 no, .bool xm, .int .i64 xi, .string xn, .slice xq xl xc] 60)).drew (addP ⟨xm, xi, xn, ats⟩ P) P W → Calls Try.prog 56 #[ptr r, .agg #[.bool xm, .int .i64 xi, .string xn, .slice xq xl xc]] W fun e w' => e = .returned (.int .i64 (addR ⟨xm, xi, xn, ats⟩ P.length)) ∧ WayA A p r (w.alloc (Obj.cells #[.int .i64 1, .int .i64 no, .bool xm, .int .i64 xi, .string xn, .slice xq xl xc] 60)).drew (addP ⟨xm, xi, xn, ats⟩ P) (addP ⟨xm, xi, xn, ats⟩ P) w') := hide fun W hW => hW.callR (fun u hs => radd_p A A r u P ⟨xm, xi, xn, ats⟩ xq xl xc W hs hW.sz ((unhide HAT).belowA hq hW.bel) hq)
  have CF := hide (fun W => aref_any xm xi xn xq xl xc W)
  have HL : Hid ((addP ⟨xm, xi, xn, ats⟩ P).length ≤ 100) := hide (addP_le ⟨xm, xi, xn, ats⟩ P hN)
  have HB2 := hide b2d
  have HK := hide kX
  have HS : Hid (BoxA w.heap.size 1 no xm xi xn xq xl xc (w.alloc (Obj.cells #[.int .i64 1, .int .i64 no, .bool xm, .int .i64 xi, .string xn, .slice xq xl xc] 60)).drew) := hide (BoxA.of kX)
  generalize (addP ⟨xm, xi, xn, ats⟩ P) = P2 at *
  generalize (((addR ⟨xm, xi, xn, ats⟩ P.length)) : Int) = N at *
  have enn : (N == N) = true := by simp
  clear h b2 b2d kX hats hqn hq HAT HW0
  unfold ptr boxA at *
  dsimp only at *
  go_enter Try.func22, Try.ntmps22
  go_wp2_with fail
  have hSa := unhide HS
  have HWn := HW
  refine wp_region_held (S := BoxA w.heap.size 1 no xm xi xn xq xl xc) (by kernel_rfl) ?_
  change wpAnyH _ _ _ _ _ _ _ _ (World.drew _)
  refine wpAnyH_take (i := 0) (oi := { dst := some 15, op := _, type := _, pos := _, after := _, guard := _ }) (v := ?va0_41) rfl (by kernel_rfl) (by kernel_rfl) (by kernel_rfl) (fun _ _ _ h => h) (Or.inl ⟨by kernel_rfl, ?ha0_41⟩) hSa ?ra0_41
  case ha0_41 => first | (intro w hSw; obtain ⟨s0, s1, s2, s3, s4, s5⟩ := hSw; go_simp; done) | (intro w hSw; obtain ⟨s0, s1, s2, s3, s4, s5⟩ := hSw; go_simp; with_reducible rfl)
  try simp only [Act.put, List.setIfInBounds_toArray, List.set_cons_zero, List.set_cons_succ]
  refine wpAnyH_take (i := 1) (oi := { dst := some 16, op := _, type := _, pos := _, after := _, guard := _ }) (v := ?va1_42) rfl (by kernel_rfl) (by kernel_rfl) (by kernel_rfl) (fun _ _ _ h => h) (Or.inl ⟨by kernel_rfl, ?ha1_42⟩) hSa ?ra1_42
  case ha1_42 => first | (intro w hSw; obtain ⟨s0, s1, s2, s3, s4, s5⟩ := hSw; go_simp; done) | (intro w hSw; obtain ⟨s0, s1, s2, s3, s4, s5⟩ := hSw; go_simp; with_reducible rfl)
  try simp only [Act.put, List.setIfInBounds_toArray, List.set_cons_zero, List.set_cons_succ]
  refine wpAnyH_take (i := 2) (oi := { dst := some 17, op := _, type := _, pos := _, after := _, guard := _ }) (v := ?va2_43) rfl (by kernel_rfl) (by kernel_rfl) (by kernel_rfl) (fun _ _ _ h => h) (Or.inl ⟨by kernel_rfl, ?ha2_43⟩) hSa ?ra2_43
  case ha2_43 => first | (intro w hSw; obtain ⟨s0, s1, s2, s3, s4, s5⟩ := hSw; go_simp; done) | (intro w hSw; obtain ⟨s0, s1, s2, s3, s4, s5⟩ := hSw; go_simp; with_reducible rfl)
  try simp only [Act.put, List.setIfInBounds_toArray, List.set_cons_zero, List.set_cons_succ]
  refine wpAnyH_take (i := 4) (oi := { dst := some 19, op := _, type := _, pos := _, after := _, guard := _ }) (v := ?va4_44) rfl (by kernel_rfl) (by kernel_rfl) (by kernel_rfl) (fun _ _ _ h => h) (Or.inl ⟨by kernel_rfl, ?ha4_44⟩) hSa ?ra4_44
  case ha4_44 => first | (intro w hSw; obtain ⟨s0, s1, s2, s3, s4, s5⟩ := hSw; go_simp; done) | (intro w hSw; obtain ⟨s0, s1, s2, s3, s4, s5⟩ := hSw; go_simp; with_reducible rfl)
  try simp only [Act.put, List.setIfInBounds_toArray, List.set_cons_zero, List.set_cons_succ]
  refine wpAnyH_take (i := 5) (oi := { dst := some 20, op := _, type := _, pos := _, after := _, guard := _ }) (v := ?va5_45) rfl (by kernel_rfl) (by kernel_rfl) (by kernel_rfl) (fun _ _ _ h => h) (Or.inl ⟨by kernel_rfl, ?ha5_45⟩) hSa ?ra5_45
  case ha5_45 => first | (intro w hSw; obtain ⟨s0, s1, s2, s3, s4, s5⟩ := hSw; go_simp; done) | (intro w hSw; obtain ⟨s0, s1, s2, s3, s4, s5⟩ := hSw; go_simp; with_reducible rfl)
  try simp only [Act.put, List.setIfInBounds_toArray, List.set_cons_zero, List.set_cons_succ]
  refine wpAnyH_take (i := 6) (oi := { dst := some 21, op := _, type := _, pos := _, after := _, guard := _ }) (v := ?va6_46) rfl (by kernel_rfl) (by kernel_rfl) (by kernel_rfl) (fun _ _ _ h => h) (Or.inl ⟨by kernel_rfl, ?ha6_46⟩) hSa ?ra6_46
  case ha6_46 => first | (intro w hSw; obtain ⟨s0, s1, s2, s3, s4, s5⟩ := hSw; go_simp; done) | (intro w hSw; obtain ⟨s0, s1, s2, s3, s4, s5⟩ := hSw; go_simp; with_reducible rfl)
  try simp only [Act.put, List.setIfInBounds_toArray, List.set_cons_zero, List.set_cons_succ]
  refine wpAnyH_ready (rs := [3]) (by kernel_rfl) (by simp) ?_
  refine AllReadyH.cons rfl (fun K hK => ?_) AllReadyH.nil
  go_simp
  refine (unhide CP _ (unhide HWn)).mono ?_
  rintro e w3 ⟨rfl, hw⟩
  replace HWn := hide hw
  clear hw
  have hSa' := BoxA.of ((unhide HWn).blk _ _ (unhide HK))
  refine hK _ _ hSa' (fun _ => ?_)
  clear hK K hSa
  have hSa := hSa'
  clear hSa'
  refine wpAnyH_ready (rs := [7]) (by kernel_rfl) (by simp) ?_
  refine AllReadyH.cons rfl (fun K hK => ?_) AllReadyH.nil
  go_simp
  refine (unhide CF _).mono ?_
  rintro e w4 ⟨rfl, hb⟩
  replace HWn := hide ((unhide HWn).later hb)
  clear hb
  have hSa' := BoxA.of ((unhide HWn).blk _ _ (unhide HK))
  refine hK _ _ hSa' (fun _ => ?_)
  clear hK K hSa
  have hSa := hSa'
  clear hSa'
  refine wpAnyH_ready (rs := [8]) (by kernel_rfl) (by simp) ?_
  refine AllReadyH.cons rfl (fun K hK => ?_) AllReadyH.nil
  go_simp
  refine (unhide CR _ (unhide HWn)).mono ?_
  rintro e w5 ⟨rfl, hw⟩
  replace HWn := hide hw
  clear hw
  have hSa' := BoxA.of ((unhide HWn).blk _ _ (unhide HK))
  refine hK _ _ hSa' (fun _ => ?_)
  clear hK K hSa
  have hSa := hSa'
  clear hSa'
  refine wpAnyH_take (i := 9) (oi := { dst := some 24, op := _, type := _, pos := _, after := _, guard := _ }) (v := ?va9_47) rfl (by kernel_rfl) (by kernel_rfl) (by kernel_rfl) (fun _ _ _ h => h) (Or.inl ⟨by kernel_rfl, ?ha9_47⟩) hSa ?ra9_47
  case ha9_47 => first | (intro w hSw; obtain ⟨s0, s1, s2, s3, s4, s5⟩ := hSw; go_simp; done) | (intro w hSw; obtain ⟨s0, s1, s2, s3, s4, s5⟩ := hSw; go_simp; with_reducible rfl)
  try simp only [Act.put, List.setIfInBounds_toArray, List.set_cons_zero, List.set_cons_succ]
  refine wpAnyH_take (i := 10) (oi := { dst := some 6, op := _, type := _, pos := _, after := _, guard := _ }) (v := ?va10_48) rfl (by kernel_rfl) (by kernel_rfl) (by kernel_rfl) (fun _ _ _ h => h) (Or.inl ⟨by kernel_rfl, ?ha10_48⟩) hSa ?ra10_48
  case ha10_48 => first | (intro w hSw; obtain ⟨s0, s1, s2, s3, s4, s5⟩ := hSw; go_simp; done) | (intro w hSw; obtain ⟨s0, s1, s2, s3, s4, s5⟩ := hSw; go_simp; with_reducible rfl)
  try simp only [Act.put, List.setIfInBounds_toArray, List.set_cons_zero, List.set_cons_succ]
  refine wpAnyH_done (by kernel_rfl) ?_ _
  clear hSa HS
  go_wp2
  go_ret
  exact ⟨rfl, _, unhide HL, (unhide HWn).ahead (unhide HB2) (unhide HZ)⟩
set_option maxHeartbeats 8000000 in
set_option maxRecDepth 100000 in
theorem does_add2 (A p r : Nat) (no : Int) (x : PEnt) (xq : Option Addr) (xl xc : Nat) (P : List PEnt) (w : World) (h : WayA A p r w P P w) (hN : P.length ≤ 100) (hqn : xq = none → xl = 0 ∧ xc = 0) (hats : AtsV xq xl x.ats w) (hq : ∀ a, xq = some a → 0 < xl → a.block < A) :
    Calls Try.prog 22 #[ptr p, ptr r, .agg (boxA 2 no x xq xl xc)] w (DoesA A p r w) := by
  obtain ⟨xm, xi, xn, ats⟩ := x
  have b2 : Below w.heap.size w (w.alloc (Obj.cells #[.int .i64 2, .int .i64 no, .bool xm, .int .i64 xi, .string xn, .slice xq xl xc] 60)) := (Below.refl _ _).alloc (Nat.le_refl _) _
  have b2d : Below w.heap.size w (w.alloc (Obj.cells #[.int .i64 2, .int .i64 no, .bool xm, .int .i64 xi, .string xn, .slice xq xl xc] 60)).drew := tr2 b2 (below_draws _ 1)
  have kX : Blk (w.alloc (Obj.cells #[.int .i64 2, .int .i64 no, .bool xm, .int .i64 xi, .string xn, .slice xq xl xc] 60)).drew w.heap.size (boxA 2 no ⟨xm, xi, xn, ats⟩ xq xl xc) 60 := (Blk.new w _ _).later (below_draws _ 1)
  have HW : Hid (WayA A p r (w.alloc (Obj.cells #[.int .i64 2, .int .i64 no, .bool xm, .int .i64 xi, .string xn, .slice xq xl xc] 60)).drew P P (w.alloc (Obj.cells #[.int .i64 2, .int .i64 no, .bool xm, .int .i64 xi, .string xn, .slice xq xl xc] 60)).drew) := hide ⟨(h.later b2d).lst, (h.later b2d).rlst, h.hp, Below.refl _ _, fun _ _ h => h, (h.later b2d).sz⟩
  have HW0 : Hid (WayA A p r w P P (w.alloc (Obj.cells #[.int .i64 2, .int .i64 no, .bool xm, .int .i64 xi, .string xn, .slice xq xl xc] 60)).drew) := hide (h.later b2d)
  have HZ := hide h.sz
  have HAT := hide (hats.below b2d)
  have CP : Hid (∀ W, WayA A p r (w.alloc (Obj.cells #[.int .i64 2, .int .i64 no, .bool xm, .int .i64 xi, .string xn, .slice xq xl xc] 60)).drew P P W → Calls Try.prog 33 #[ptr p, .agg #[.bool xm, .int .i64 xi, .string xn, .slice xq xl xc]] W fun e w' => e = .returned (.int .i64 (addR ⟨xm, xi, xn, ats⟩ P.length)) ∧ WayA A p r (w.alloc (Obj.cells #[.int .i64 2, .int .i64 no, .bool xm, .int .i64 xi, .string xn, .slice xq xl xc] 60)).drew (addP ⟨xm, xi, xn, ats⟩ P) P w') := hide fun W hW => hW.callP (fun v hs => add_p A p v P ⟨xm, xi, xn, ats⟩ xq xl xc W hs hW.sz hN hqn ((unhide HAT).belowA hq hW.bel) (fun a ha h0 => by obtain ⟨L, ls, _⟩ := hs; have := hq a ha h0; have := hW.hp; exact ⟨by omega, fun e => by have := (ls.2.1.lt _ e.symm).1; omega⟩))
  have CR : Hid (∀ W, WayA A p r (w.alloc (Obj.cells #[.int .i64 2, .int .i64 no, .bool xm, .int .i64 xi, .string xn, .slice xq xl xc] 60)).drew (addP ⟨xm, xi, xn, ats⟩ P) P W → Calls Try.prog 56 #[ptr r, .agg #[.bool xm, .int .i64 xi, .string xn, .slice xq xl xc]] W fun e w' => e = .returned (.int .i64 (addR ⟨xm, xi, xn, ats⟩ P.length)) ∧ WayA A p r (w.alloc (Obj.cells #[.int .i64 2, .int .i64 no, .bool xm, .int .i64 xi, .string xn, .slice xq xl xc] 60)).drew (addP ⟨xm, xi, xn, ats⟩ P) (addP ⟨xm, xi, xn, ats⟩ P) w') := hide fun W hW => hW.callR (fun u hs => radd_p A A r u P ⟨xm, xi, xn, ats⟩ xq xl xc W hs hW.sz ((unhide HAT).belowA hq hW.bel) hq)
  have CF := hide (fun W => aref_any xm xi xn xq xl xc W)
  have HL : Hid ((addP ⟨xm, xi, xn, ats⟩ P).length ≤ 100) := hide (addP_le ⟨xm, xi, xn, ats⟩ P hN)
  have HB2 := hide b2d
  have HK := hide kX
  have HS : Hid (BoxA w.heap.size 2 no xm xi xn xq xl xc (w.alloc (Obj.cells #[.int .i64 2, .int .i64 no, .bool xm, .int .i64 xi, .string xn, .slice xq xl xc] 60)).drew) := hide (BoxA.of kX)
  generalize (addP ⟨xm, xi, xn, ats⟩ P) = P2 at *
  generalize (((addR ⟨xm, xi, xn, ats⟩ P.length)) : Int) = N at *
  have enn : (N == N) = true := by simp
  clear h b2 b2d kX hats hqn hq HAT HW0
  unfold ptr boxA at *
  dsimp only at *
  go_enter Try.func22, Try.ntmps22
  go_wp2_with fail
  have hSa := unhide HS
  have HWn := HW
  refine wp_region_held (S := BoxA w.heap.size 2 no xm xi xn xq xl xc) (by kernel_rfl) ?_
  change wpAnyH _ _ _ _ _ _ _ _ (World.drew _)
  refine wpAnyH_take (i := 0) (oi := { dst := some 15, op := _, type := _, pos := _, after := _, guard := _ }) (v := ?va0_49) rfl (by kernel_rfl) (by kernel_rfl) (by kernel_rfl) (fun _ _ _ h => h) (Or.inl ⟨by kernel_rfl, ?ha0_49⟩) hSa ?ra0_49
  case ha0_49 => first | (intro w hSw; obtain ⟨s0, s1, s2, s3, s4, s5⟩ := hSw; go_simp; done) | (intro w hSw; obtain ⟨s0, s1, s2, s3, s4, s5⟩ := hSw; go_simp; with_reducible rfl)
  try simp only [Act.put, List.setIfInBounds_toArray, List.set_cons_zero, List.set_cons_succ]
  refine wpAnyH_take (i := 1) (oi := { dst := some 16, op := _, type := _, pos := _, after := _, guard := _ }) (v := ?va1_50) rfl (by kernel_rfl) (by kernel_rfl) (by kernel_rfl) (fun _ _ _ h => h) (Or.inl ⟨by kernel_rfl, ?ha1_50⟩) hSa ?ra1_50
  case ha1_50 => first | (intro w hSw; obtain ⟨s0, s1, s2, s3, s4, s5⟩ := hSw; go_simp; done) | (intro w hSw; obtain ⟨s0, s1, s2, s3, s4, s5⟩ := hSw; go_simp; with_reducible rfl)
  try simp only [Act.put, List.setIfInBounds_toArray, List.set_cons_zero, List.set_cons_succ]
  refine wpAnyH_take (i := 2) (oi := { dst := some 17, op := _, type := _, pos := _, after := _, guard := _ }) (v := ?va2_51) rfl (by kernel_rfl) (by kernel_rfl) (by kernel_rfl) (fun _ _ _ h => h) (Or.inl ⟨by kernel_rfl, ?ha2_51⟩) hSa ?ra2_51
  case ha2_51 => first | (intro w hSw; obtain ⟨s0, s1, s2, s3, s4, s5⟩ := hSw; go_simp; done) | (intro w hSw; obtain ⟨s0, s1, s2, s3, s4, s5⟩ := hSw; go_simp; with_reducible rfl)
  try simp only [Act.put, List.setIfInBounds_toArray, List.set_cons_zero, List.set_cons_succ]
  refine wpAnyH_take (i := 4) (oi := { dst := some 19, op := _, type := _, pos := _, after := _, guard := _ }) (v := ?va4_52) rfl (by kernel_rfl) (by kernel_rfl) (by kernel_rfl) (fun _ _ _ h => h) (Or.inl ⟨by kernel_rfl, ?ha4_52⟩) hSa ?ra4_52
  case ha4_52 => first | (intro w hSw; obtain ⟨s0, s1, s2, s3, s4, s5⟩ := hSw; go_simp; done) | (intro w hSw; obtain ⟨s0, s1, s2, s3, s4, s5⟩ := hSw; go_simp; with_reducible rfl)
  try simp only [Act.put, List.setIfInBounds_toArray, List.set_cons_zero, List.set_cons_succ]
  refine wpAnyH_take (i := 5) (oi := { dst := some 20, op := _, type := _, pos := _, after := _, guard := _ }) (v := ?va5_53) rfl (by kernel_rfl) (by kernel_rfl) (by kernel_rfl) (fun _ _ _ h => h) (Or.inl ⟨by kernel_rfl, ?ha5_53⟩) hSa ?ra5_53
  case ha5_53 => first | (intro w hSw; obtain ⟨s0, s1, s2, s3, s4, s5⟩ := hSw; go_simp; done) | (intro w hSw; obtain ⟨s0, s1, s2, s3, s4, s5⟩ := hSw; go_simp; with_reducible rfl)
  try simp only [Act.put, List.setIfInBounds_toArray, List.set_cons_zero, List.set_cons_succ]
  refine wpAnyH_take (i := 6) (oi := { dst := some 21, op := _, type := _, pos := _, after := _, guard := _ }) (v := ?va6_54) rfl (by kernel_rfl) (by kernel_rfl) (by kernel_rfl) (fun _ _ _ h => h) (Or.inl ⟨by kernel_rfl, ?ha6_54⟩) hSa ?ra6_54
  case ha6_54 => first | (intro w hSw; obtain ⟨s0, s1, s2, s3, s4, s5⟩ := hSw; go_simp; done) | (intro w hSw; obtain ⟨s0, s1, s2, s3, s4, s5⟩ := hSw; go_simp; with_reducible rfl)
  try simp only [Act.put, List.setIfInBounds_toArray, List.set_cons_zero, List.set_cons_succ]
  refine wpAnyH_ready (rs := [3]) (by kernel_rfl) (by simp) ?_
  refine AllReadyH.cons rfl (fun K hK => ?_) AllReadyH.nil
  go_simp
  refine (unhide CP _ (unhide HWn)).mono ?_
  rintro e w3 ⟨rfl, hw⟩
  replace HWn := hide hw
  clear hw
  have hSa' := BoxA.of ((unhide HWn).blk _ _ (unhide HK))
  refine hK _ _ hSa' (fun _ => ?_)
  clear hK K hSa
  have hSa := hSa'
  clear hSa'
  refine wpAnyH_ready (rs := [7]) (by kernel_rfl) (by simp) ?_
  refine AllReadyH.cons rfl (fun K hK => ?_) AllReadyH.nil
  go_simp
  refine (unhide CF _).mono ?_
  rintro e w4 ⟨rfl, hb⟩
  replace HWn := hide ((unhide HWn).later hb)
  clear hb
  have hSa' := BoxA.of ((unhide HWn).blk _ _ (unhide HK))
  refine hK _ _ hSa' (fun _ => ?_)
  clear hK K hSa
  have hSa := hSa'
  clear hSa'
  refine wpAnyH_ready (rs := [8]) (by kernel_rfl) (by simp) ?_
  refine AllReadyH.cons rfl (fun K hK => ?_) AllReadyH.nil
  go_simp
  refine (unhide CR _ (unhide HWn)).mono ?_
  rintro e w5 ⟨rfl, hw⟩
  replace HWn := hide hw
  clear hw
  have hSa' := BoxA.of ((unhide HWn).blk _ _ (unhide HK))
  refine hK _ _ hSa' (fun _ => ?_)
  clear hK K hSa
  have hSa := hSa'
  clear hSa'
  refine wpAnyH_take (i := 9) (oi := { dst := some 24, op := _, type := _, pos := _, after := _, guard := _ }) (v := ?va9_55) rfl (by kernel_rfl) (by kernel_rfl) (by kernel_rfl) (fun _ _ _ h => h) (Or.inl ⟨by kernel_rfl, ?ha9_55⟩) hSa ?ra9_55
  case ha9_55 => first | (intro w hSw; obtain ⟨s0, s1, s2, s3, s4, s5⟩ := hSw; go_simp; done) | (intro w hSw; obtain ⟨s0, s1, s2, s3, s4, s5⟩ := hSw; go_simp; with_reducible rfl)
  try simp only [Act.put, List.setIfInBounds_toArray, List.set_cons_zero, List.set_cons_succ]
  refine wpAnyH_take (i := 10) (oi := { dst := some 6, op := _, type := _, pos := _, after := _, guard := _ }) (v := ?va10_56) rfl (by kernel_rfl) (by kernel_rfl) (by kernel_rfl) (fun _ _ _ h => h) (Or.inl ⟨by kernel_rfl, ?ha10_56⟩) hSa ?ra10_56
  case ha10_56 => first | (intro w hSw; obtain ⟨s0, s1, s2, s3, s4, s5⟩ := hSw; go_simp; done) | (intro w hSw; obtain ⟨s0, s1, s2, s3, s4, s5⟩ := hSw; go_simp; with_reducible rfl)
  try simp only [Act.put, List.setIfInBounds_toArray, List.set_cons_zero, List.set_cons_succ]
  refine wpAnyH_done (by kernel_rfl) ?_ _
  clear hSa HS
  go_wp2
  go_ret
  exact ⟨rfl, _, unhide HL, (unhide HWn).ahead (unhide HB2) (unhide HZ)⟩
set_option maxHeartbeats 8000000 in
set_option maxRecDepth 100000 in
theorem does_add3 (A p r : Nat) (no : Int) (x : PEnt) (xq : Option Addr) (xl xc : Nat) (P : List PEnt) (w : World) (h : WayA A p r w P P w) (hN : P.length ≤ 100) (hqn : xq = none → xl = 0 ∧ xc = 0) (hats : AtsV xq xl x.ats w) (hq : ∀ a, xq = some a → 0 < xl → a.block < A) :
    Calls Try.prog 22 #[ptr p, ptr r, .agg (boxA 3 no x xq xl xc)] w (DoesA A p r w) := by
  obtain ⟨xm, xi, xn, ats⟩ := x
  have b2 : Below w.heap.size w (w.alloc (Obj.cells #[.int .i64 3, .int .i64 no, .bool xm, .int .i64 xi, .string xn, .slice xq xl xc] 60)) := (Below.refl _ _).alloc (Nat.le_refl _) _
  have b2d : Below w.heap.size w (w.alloc (Obj.cells #[.int .i64 3, .int .i64 no, .bool xm, .int .i64 xi, .string xn, .slice xq xl xc] 60)).drew := tr2 b2 (below_draws _ 1)
  have kX : Blk (w.alloc (Obj.cells #[.int .i64 3, .int .i64 no, .bool xm, .int .i64 xi, .string xn, .slice xq xl xc] 60)).drew w.heap.size (boxA 3 no ⟨xm, xi, xn, ats⟩ xq xl xc) 60 := (Blk.new w _ _).later (below_draws _ 1)
  have HW : Hid (WayA A p r (w.alloc (Obj.cells #[.int .i64 3, .int .i64 no, .bool xm, .int .i64 xi, .string xn, .slice xq xl xc] 60)).drew P P (w.alloc (Obj.cells #[.int .i64 3, .int .i64 no, .bool xm, .int .i64 xi, .string xn, .slice xq xl xc] 60)).drew) := hide ⟨(h.later b2d).lst, (h.later b2d).rlst, h.hp, Below.refl _ _, fun _ _ h => h, (h.later b2d).sz⟩
  have HW0 : Hid (WayA A p r w P P (w.alloc (Obj.cells #[.int .i64 3, .int .i64 no, .bool xm, .int .i64 xi, .string xn, .slice xq xl xc] 60)).drew) := hide (h.later b2d)
  have HZ := hide h.sz
  have HAT := hide (hats.below b2d)
  have CP : Hid (∀ W, WayA A p r (w.alloc (Obj.cells #[.int .i64 3, .int .i64 no, .bool xm, .int .i64 xi, .string xn, .slice xq xl xc] 60)).drew P P W → Calls Try.prog 33 #[ptr p, .agg #[.bool xm, .int .i64 xi, .string xn, .slice xq xl xc]] W fun e w' => e = .returned (.int .i64 (addR ⟨xm, xi, xn, ats⟩ P.length)) ∧ WayA A p r (w.alloc (Obj.cells #[.int .i64 3, .int .i64 no, .bool xm, .int .i64 xi, .string xn, .slice xq xl xc] 60)).drew (addP ⟨xm, xi, xn, ats⟩ P) P w') := hide fun W hW => hW.callP (fun v hs => add_p A p v P ⟨xm, xi, xn, ats⟩ xq xl xc W hs hW.sz hN hqn ((unhide HAT).belowA hq hW.bel) (fun a ha h0 => by obtain ⟨L, ls, _⟩ := hs; have := hq a ha h0; have := hW.hp; exact ⟨by omega, fun e => by have := (ls.2.1.lt _ e.symm).1; omega⟩))
  have CR : Hid (∀ W, WayA A p r (w.alloc (Obj.cells #[.int .i64 3, .int .i64 no, .bool xm, .int .i64 xi, .string xn, .slice xq xl xc] 60)).drew (addP ⟨xm, xi, xn, ats⟩ P) P W → Calls Try.prog 56 #[ptr r, .agg #[.bool xm, .int .i64 xi, .string xn, .slice xq xl xc]] W fun e w' => e = .returned (.int .i64 (addR ⟨xm, xi, xn, ats⟩ P.length)) ∧ WayA A p r (w.alloc (Obj.cells #[.int .i64 3, .int .i64 no, .bool xm, .int .i64 xi, .string xn, .slice xq xl xc] 60)).drew (addP ⟨xm, xi, xn, ats⟩ P) (addP ⟨xm, xi, xn, ats⟩ P) w') := hide fun W hW => hW.callR (fun u hs => radd_p A A r u P ⟨xm, xi, xn, ats⟩ xq xl xc W hs hW.sz ((unhide HAT).belowA hq hW.bel) hq)
  have CF := hide (fun W => aref_any xm xi xn xq xl xc W)
  have HL : Hid ((addP ⟨xm, xi, xn, ats⟩ P).length ≤ 100) := hide (addP_le ⟨xm, xi, xn, ats⟩ P hN)
  have HB2 := hide b2d
  have HK := hide kX
  have HS : Hid (BoxA w.heap.size 3 no xm xi xn xq xl xc (w.alloc (Obj.cells #[.int .i64 3, .int .i64 no, .bool xm, .int .i64 xi, .string xn, .slice xq xl xc] 60)).drew) := hide (BoxA.of kX)
  generalize (addP ⟨xm, xi, xn, ats⟩ P) = P2 at *
  generalize (((addR ⟨xm, xi, xn, ats⟩ P.length)) : Int) = N at *
  have enn : (N == N) = true := by simp
  clear h b2 b2d kX hats hqn hq HAT HW0
  unfold ptr boxA at *
  dsimp only at *
  go_enter Try.func22, Try.ntmps22
  go_wp2_with fail
  have hSa := unhide HS
  have HWn := HW
  refine wp_region_held (S := BoxA w.heap.size 3 no xm xi xn xq xl xc) (by kernel_rfl) ?_
  change wpAnyH _ _ _ _ _ _ _ _ (World.drew _)
  refine wpAnyH_take (i := 0) (oi := { dst := some 15, op := _, type := _, pos := _, after := _, guard := _ }) (v := ?va0_57) rfl (by kernel_rfl) (by kernel_rfl) (by kernel_rfl) (fun _ _ _ h => h) (Or.inl ⟨by kernel_rfl, ?ha0_57⟩) hSa ?ra0_57
  case ha0_57 => first | (intro w hSw; obtain ⟨s0, s1, s2, s3, s4, s5⟩ := hSw; go_simp; done) | (intro w hSw; obtain ⟨s0, s1, s2, s3, s4, s5⟩ := hSw; go_simp; with_reducible rfl)
  try simp only [Act.put, List.setIfInBounds_toArray, List.set_cons_zero, List.set_cons_succ]
  refine wpAnyH_take (i := 1) (oi := { dst := some 16, op := _, type := _, pos := _, after := _, guard := _ }) (v := ?va1_58) rfl (by kernel_rfl) (by kernel_rfl) (by kernel_rfl) (fun _ _ _ h => h) (Or.inl ⟨by kernel_rfl, ?ha1_58⟩) hSa ?ra1_58
  case ha1_58 => first | (intro w hSw; obtain ⟨s0, s1, s2, s3, s4, s5⟩ := hSw; go_simp; done) | (intro w hSw; obtain ⟨s0, s1, s2, s3, s4, s5⟩ := hSw; go_simp; with_reducible rfl)
  try simp only [Act.put, List.setIfInBounds_toArray, List.set_cons_zero, List.set_cons_succ]
  refine wpAnyH_take (i := 2) (oi := { dst := some 17, op := _, type := _, pos := _, after := _, guard := _ }) (v := ?va2_59) rfl (by kernel_rfl) (by kernel_rfl) (by kernel_rfl) (fun _ _ _ h => h) (Or.inl ⟨by kernel_rfl, ?ha2_59⟩) hSa ?ra2_59
  case ha2_59 => first | (intro w hSw; obtain ⟨s0, s1, s2, s3, s4, s5⟩ := hSw; go_simp; done) | (intro w hSw; obtain ⟨s0, s1, s2, s3, s4, s5⟩ := hSw; go_simp; with_reducible rfl)
  try simp only [Act.put, List.setIfInBounds_toArray, List.set_cons_zero, List.set_cons_succ]
  refine wpAnyH_take (i := 4) (oi := { dst := some 19, op := _, type := _, pos := _, after := _, guard := _ }) (v := ?va4_60) rfl (by kernel_rfl) (by kernel_rfl) (by kernel_rfl) (fun _ _ _ h => h) (Or.inl ⟨by kernel_rfl, ?ha4_60⟩) hSa ?ra4_60
  case ha4_60 => first | (intro w hSw; obtain ⟨s0, s1, s2, s3, s4, s5⟩ := hSw; go_simp; done) | (intro w hSw; obtain ⟨s0, s1, s2, s3, s4, s5⟩ := hSw; go_simp; with_reducible rfl)
  try simp only [Act.put, List.setIfInBounds_toArray, List.set_cons_zero, List.set_cons_succ]
  refine wpAnyH_take (i := 5) (oi := { dst := some 20, op := _, type := _, pos := _, after := _, guard := _ }) (v := ?va5_61) rfl (by kernel_rfl) (by kernel_rfl) (by kernel_rfl) (fun _ _ _ h => h) (Or.inl ⟨by kernel_rfl, ?ha5_61⟩) hSa ?ra5_61
  case ha5_61 => first | (intro w hSw; obtain ⟨s0, s1, s2, s3, s4, s5⟩ := hSw; go_simp; done) | (intro w hSw; obtain ⟨s0, s1, s2, s3, s4, s5⟩ := hSw; go_simp; with_reducible rfl)
  try simp only [Act.put, List.setIfInBounds_toArray, List.set_cons_zero, List.set_cons_succ]
  refine wpAnyH_take (i := 6) (oi := { dst := some 21, op := _, type := _, pos := _, after := _, guard := _ }) (v := ?va6_62) rfl (by kernel_rfl) (by kernel_rfl) (by kernel_rfl) (fun _ _ _ h => h) (Or.inl ⟨by kernel_rfl, ?ha6_62⟩) hSa ?ra6_62
  case ha6_62 => first | (intro w hSw; obtain ⟨s0, s1, s2, s3, s4, s5⟩ := hSw; go_simp; done) | (intro w hSw; obtain ⟨s0, s1, s2, s3, s4, s5⟩ := hSw; go_simp; with_reducible rfl)
  try simp only [Act.put, List.setIfInBounds_toArray, List.set_cons_zero, List.set_cons_succ]
  refine wpAnyH_ready (rs := [3]) (by kernel_rfl) (by simp) ?_
  refine AllReadyH.cons rfl (fun K hK => ?_) AllReadyH.nil
  go_simp
  refine (unhide CP _ (unhide HWn)).mono ?_
  rintro e w3 ⟨rfl, hw⟩
  replace HWn := hide hw
  clear hw
  have hSa' := BoxA.of ((unhide HWn).blk _ _ (unhide HK))
  refine hK _ _ hSa' (fun _ => ?_)
  clear hK K hSa
  have hSa := hSa'
  clear hSa'
  refine wpAnyH_ready (rs := [7]) (by kernel_rfl) (by simp) ?_
  refine AllReadyH.cons rfl (fun K hK => ?_) AllReadyH.nil
  go_simp
  refine (unhide CF _).mono ?_
  rintro e w4 ⟨rfl, hb⟩
  replace HWn := hide ((unhide HWn).later hb)
  clear hb
  have hSa' := BoxA.of ((unhide HWn).blk _ _ (unhide HK))
  refine hK _ _ hSa' (fun _ => ?_)
  clear hK K hSa
  have hSa := hSa'
  clear hSa'
  refine wpAnyH_ready (rs := [8]) (by kernel_rfl) (by simp) ?_
  refine AllReadyH.cons rfl (fun K hK => ?_) AllReadyH.nil
  go_simp
  refine (unhide CR _ (unhide HWn)).mono ?_
  rintro e w5 ⟨rfl, hw⟩
  replace HWn := hide hw
  clear hw
  have hSa' := BoxA.of ((unhide HWn).blk _ _ (unhide HK))
  refine hK _ _ hSa' (fun _ => ?_)
  clear hK K hSa
  have hSa := hSa'
  clear hSa'
  refine wpAnyH_take (i := 9) (oi := { dst := some 24, op := _, type := _, pos := _, after := _, guard := _ }) (v := ?va9_63) rfl (by kernel_rfl) (by kernel_rfl) (by kernel_rfl) (fun _ _ _ h => h) (Or.inl ⟨by kernel_rfl, ?ha9_63⟩) hSa ?ra9_63
  case ha9_63 => first | (intro w hSw; obtain ⟨s0, s1, s2, s3, s4, s5⟩ := hSw; go_simp; done) | (intro w hSw; obtain ⟨s0, s1, s2, s3, s4, s5⟩ := hSw; go_simp; with_reducible rfl)
  try simp only [Act.put, List.setIfInBounds_toArray, List.set_cons_zero, List.set_cons_succ]
  refine wpAnyH_take (i := 10) (oi := { dst := some 6, op := _, type := _, pos := _, after := _, guard := _ }) (v := ?va10_64) rfl (by kernel_rfl) (by kernel_rfl) (by kernel_rfl) (fun _ _ _ h => h) (Or.inl ⟨by kernel_rfl, ?ha10_64⟩) hSa ?ra10_64
  case ha10_64 => first | (intro w hSw; obtain ⟨s0, s1, s2, s3, s4, s5⟩ := hSw; go_simp; done) | (intro w hSw; obtain ⟨s0, s1, s2, s3, s4, s5⟩ := hSw; go_simp; with_reducible rfl)
  try simp only [Act.put, List.setIfInBounds_toArray, List.set_cons_zero, List.set_cons_succ]
  refine wpAnyH_done (by kernel_rfl) ?_ _
  clear hSa HS
  go_wp2
  go_ret
  exact ⟨rfl, _, unhide HL, (unhide HWn).ahead (unhide HB2) (unhide HZ)⟩
set_option maxHeartbeats 8000000 in
set_option maxRecDepth 100000 in
theorem does_add4 (A p r : Nat) (no : Int) (x : PEnt) (xq : Option Addr) (xl xc : Nat) (P : List PEnt) (w : World) (h : WayA A p r w P P w) (hN : P.length ≤ 100) (hqn : xq = none → xl = 0 ∧ xc = 0) (hats : AtsV xq xl x.ats w) (hq : ∀ a, xq = some a → 0 < xl → a.block < A) :
    Calls Try.prog 22 #[ptr p, ptr r, .agg (boxA 4 no x xq xl xc)] w (DoesA A p r w) := by
  obtain ⟨xm, xi, xn, ats⟩ := x
  have b2 : Below w.heap.size w (w.alloc (Obj.cells #[.int .i64 4, .int .i64 no, .bool xm, .int .i64 xi, .string xn, .slice xq xl xc] 60)) := (Below.refl _ _).alloc (Nat.le_refl _) _
  have b2d : Below w.heap.size w (w.alloc (Obj.cells #[.int .i64 4, .int .i64 no, .bool xm, .int .i64 xi, .string xn, .slice xq xl xc] 60)).drew := tr2 b2 (below_draws _ 1)
  have kX : Blk (w.alloc (Obj.cells #[.int .i64 4, .int .i64 no, .bool xm, .int .i64 xi, .string xn, .slice xq xl xc] 60)).drew w.heap.size (boxA 4 no ⟨xm, xi, xn, ats⟩ xq xl xc) 60 := (Blk.new w _ _).later (below_draws _ 1)
  have HW : Hid (WayA A p r (w.alloc (Obj.cells #[.int .i64 4, .int .i64 no, .bool xm, .int .i64 xi, .string xn, .slice xq xl xc] 60)).drew P P (w.alloc (Obj.cells #[.int .i64 4, .int .i64 no, .bool xm, .int .i64 xi, .string xn, .slice xq xl xc] 60)).drew) := hide ⟨(h.later b2d).lst, (h.later b2d).rlst, h.hp, Below.refl _ _, fun _ _ h => h, (h.later b2d).sz⟩
  have HW0 : Hid (WayA A p r w P P (w.alloc (Obj.cells #[.int .i64 4, .int .i64 no, .bool xm, .int .i64 xi, .string xn, .slice xq xl xc] 60)).drew) := hide (h.later b2d)
  have HZ := hide h.sz
  have HAT := hide (hats.below b2d)
  have CP : Hid (∀ W, WayA A p r (w.alloc (Obj.cells #[.int .i64 4, .int .i64 no, .bool xm, .int .i64 xi, .string xn, .slice xq xl xc] 60)).drew P P W → Calls Try.prog 33 #[ptr p, .agg #[.bool xm, .int .i64 xi, .string xn, .slice xq xl xc]] W fun e w' => e = .returned (.int .i64 (addR ⟨xm, xi, xn, ats⟩ P.length)) ∧ WayA A p r (w.alloc (Obj.cells #[.int .i64 4, .int .i64 no, .bool xm, .int .i64 xi, .string xn, .slice xq xl xc] 60)).drew (addP ⟨xm, xi, xn, ats⟩ P) P w') := hide fun W hW => hW.callP (fun v hs => add_p A p v P ⟨xm, xi, xn, ats⟩ xq xl xc W hs hW.sz hN hqn ((unhide HAT).belowA hq hW.bel) (fun a ha h0 => by obtain ⟨L, ls, _⟩ := hs; have := hq a ha h0; have := hW.hp; exact ⟨by omega, fun e => by have := (ls.2.1.lt _ e.symm).1; omega⟩))
  have CR : Hid (∀ W, WayA A p r (w.alloc (Obj.cells #[.int .i64 4, .int .i64 no, .bool xm, .int .i64 xi, .string xn, .slice xq xl xc] 60)).drew (addP ⟨xm, xi, xn, ats⟩ P) P W → Calls Try.prog 56 #[ptr r, .agg #[.bool xm, .int .i64 xi, .string xn, .slice xq xl xc]] W fun e w' => e = .returned (.int .i64 (addR ⟨xm, xi, xn, ats⟩ P.length)) ∧ WayA A p r (w.alloc (Obj.cells #[.int .i64 4, .int .i64 no, .bool xm, .int .i64 xi, .string xn, .slice xq xl xc] 60)).drew (addP ⟨xm, xi, xn, ats⟩ P) (addP ⟨xm, xi, xn, ats⟩ P) w') := hide fun W hW => hW.callR (fun u hs => radd_p A A r u P ⟨xm, xi, xn, ats⟩ xq xl xc W hs hW.sz ((unhide HAT).belowA hq hW.bel) hq)
  have CF := hide (fun W => aref_any xm xi xn xq xl xc W)
  have HL : Hid ((addP ⟨xm, xi, xn, ats⟩ P).length ≤ 100) := hide (addP_le ⟨xm, xi, xn, ats⟩ P hN)
  have HB2 := hide b2d
  have HK := hide kX
  have HS : Hid (BoxA w.heap.size 4 no xm xi xn xq xl xc (w.alloc (Obj.cells #[.int .i64 4, .int .i64 no, .bool xm, .int .i64 xi, .string xn, .slice xq xl xc] 60)).drew) := hide (BoxA.of kX)
  generalize (addP ⟨xm, xi, xn, ats⟩ P) = P2 at *
  generalize (((addR ⟨xm, xi, xn, ats⟩ P.length)) : Int) = N at *
  have enn : (N == N) = true := by simp
  clear h b2 b2d kX hats hqn hq HAT HW0
  unfold ptr boxA at *
  dsimp only at *
  go_enter Try.func22, Try.ntmps22
  go_wp2_with fail
  have hSa := unhide HS
  have HWn := HW
  refine wp_region_held (S := BoxA w.heap.size 4 no xm xi xn xq xl xc) (by kernel_rfl) ?_
  change wpAnyH _ _ _ _ _ _ _ _ (World.drew _)
  refine wpAnyH_take (i := 0) (oi := { dst := some 15, op := _, type := _, pos := _, after := _, guard := _ }) (v := ?va0_65) rfl (by kernel_rfl) (by kernel_rfl) (by kernel_rfl) (fun _ _ _ h => h) (Or.inl ⟨by kernel_rfl, ?ha0_65⟩) hSa ?ra0_65
  case ha0_65 => first | (intro w hSw; obtain ⟨s0, s1, s2, s3, s4, s5⟩ := hSw; go_simp; done) | (intro w hSw; obtain ⟨s0, s1, s2, s3, s4, s5⟩ := hSw; go_simp; with_reducible rfl)
  try simp only [Act.put, List.setIfInBounds_toArray, List.set_cons_zero, List.set_cons_succ]
  refine wpAnyH_take (i := 1) (oi := { dst := some 16, op := _, type := _, pos := _, after := _, guard := _ }) (v := ?va1_66) rfl (by kernel_rfl) (by kernel_rfl) (by kernel_rfl) (fun _ _ _ h => h) (Or.inl ⟨by kernel_rfl, ?ha1_66⟩) hSa ?ra1_66
  case ha1_66 => first | (intro w hSw; obtain ⟨s0, s1, s2, s3, s4, s5⟩ := hSw; go_simp; done) | (intro w hSw; obtain ⟨s0, s1, s2, s3, s4, s5⟩ := hSw; go_simp; with_reducible rfl)
  try simp only [Act.put, List.setIfInBounds_toArray, List.set_cons_zero, List.set_cons_succ]
  refine wpAnyH_take (i := 2) (oi := { dst := some 17, op := _, type := _, pos := _, after := _, guard := _ }) (v := ?va2_67) rfl (by kernel_rfl) (by kernel_rfl) (by kernel_rfl) (fun _ _ _ h => h) (Or.inl ⟨by kernel_rfl, ?ha2_67⟩) hSa ?ra2_67
  case ha2_67 => first | (intro w hSw; obtain ⟨s0, s1, s2, s3, s4, s5⟩ := hSw; go_simp; done) | (intro w hSw; obtain ⟨s0, s1, s2, s3, s4, s5⟩ := hSw; go_simp; with_reducible rfl)
  try simp only [Act.put, List.setIfInBounds_toArray, List.set_cons_zero, List.set_cons_succ]
  refine wpAnyH_take (i := 4) (oi := { dst := some 19, op := _, type := _, pos := _, after := _, guard := _ }) (v := ?va4_68) rfl (by kernel_rfl) (by kernel_rfl) (by kernel_rfl) (fun _ _ _ h => h) (Or.inl ⟨by kernel_rfl, ?ha4_68⟩) hSa ?ra4_68
  case ha4_68 => first | (intro w hSw; obtain ⟨s0, s1, s2, s3, s4, s5⟩ := hSw; go_simp; done) | (intro w hSw; obtain ⟨s0, s1, s2, s3, s4, s5⟩ := hSw; go_simp; with_reducible rfl)
  try simp only [Act.put, List.setIfInBounds_toArray, List.set_cons_zero, List.set_cons_succ]
  refine wpAnyH_take (i := 5) (oi := { dst := some 20, op := _, type := _, pos := _, after := _, guard := _ }) (v := ?va5_69) rfl (by kernel_rfl) (by kernel_rfl) (by kernel_rfl) (fun _ _ _ h => h) (Or.inl ⟨by kernel_rfl, ?ha5_69⟩) hSa ?ra5_69
  case ha5_69 => first | (intro w hSw; obtain ⟨s0, s1, s2, s3, s4, s5⟩ := hSw; go_simp; done) | (intro w hSw; obtain ⟨s0, s1, s2, s3, s4, s5⟩ := hSw; go_simp; with_reducible rfl)
  try simp only [Act.put, List.setIfInBounds_toArray, List.set_cons_zero, List.set_cons_succ]
  refine wpAnyH_take (i := 6) (oi := { dst := some 21, op := _, type := _, pos := _, after := _, guard := _ }) (v := ?va6_70) rfl (by kernel_rfl) (by kernel_rfl) (by kernel_rfl) (fun _ _ _ h => h) (Or.inl ⟨by kernel_rfl, ?ha6_70⟩) hSa ?ra6_70
  case ha6_70 => first | (intro w hSw; obtain ⟨s0, s1, s2, s3, s4, s5⟩ := hSw; go_simp; done) | (intro w hSw; obtain ⟨s0, s1, s2, s3, s4, s5⟩ := hSw; go_simp; with_reducible rfl)
  try simp only [Act.put, List.setIfInBounds_toArray, List.set_cons_zero, List.set_cons_succ]
  refine wpAnyH_ready (rs := [3]) (by kernel_rfl) (by simp) ?_
  refine AllReadyH.cons rfl (fun K hK => ?_) AllReadyH.nil
  go_simp
  refine (unhide CP _ (unhide HWn)).mono ?_
  rintro e w3 ⟨rfl, hw⟩
  replace HWn := hide hw
  clear hw
  have hSa' := BoxA.of ((unhide HWn).blk _ _ (unhide HK))
  refine hK _ _ hSa' (fun _ => ?_)
  clear hK K hSa
  have hSa := hSa'
  clear hSa'
  refine wpAnyH_ready (rs := [7]) (by kernel_rfl) (by simp) ?_
  refine AllReadyH.cons rfl (fun K hK => ?_) AllReadyH.nil
  go_simp
  refine (unhide CF _).mono ?_
  rintro e w4 ⟨rfl, hb⟩
  replace HWn := hide ((unhide HWn).later hb)
  clear hb
  have hSa' := BoxA.of ((unhide HWn).blk _ _ (unhide HK))
  refine hK _ _ hSa' (fun _ => ?_)
  clear hK K hSa
  have hSa := hSa'
  clear hSa'
  refine wpAnyH_ready (rs := [8]) (by kernel_rfl) (by simp) ?_
  refine AllReadyH.cons rfl (fun K hK => ?_) AllReadyH.nil
  go_simp
  refine (unhide CR _ (unhide HWn)).mono ?_
  rintro e w5 ⟨rfl, hw⟩
  replace HWn := hide hw
  clear hw
  have hSa' := BoxA.of ((unhide HWn).blk _ _ (unhide HK))
  refine hK _ _ hSa' (fun _ => ?_)
  clear hK K hSa
  have hSa := hSa'
  clear hSa'
  refine wpAnyH_take (i := 9) (oi := { dst := some 24, op := _, type := _, pos := _, after := _, guard := _ }) (v := ?va9_71) rfl (by kernel_rfl) (by kernel_rfl) (by kernel_rfl) (fun _ _ _ h => h) (Or.inl ⟨by kernel_rfl, ?ha9_71⟩) hSa ?ra9_71
  case ha9_71 => first | (intro w hSw; obtain ⟨s0, s1, s2, s3, s4, s5⟩ := hSw; go_simp; done) | (intro w hSw; obtain ⟨s0, s1, s2, s3, s4, s5⟩ := hSw; go_simp; with_reducible rfl)
  try simp only [Act.put, List.setIfInBounds_toArray, List.set_cons_zero, List.set_cons_succ]
  refine wpAnyH_take (i := 10) (oi := { dst := some 6, op := _, type := _, pos := _, after := _, guard := _ }) (v := ?va10_72) rfl (by kernel_rfl) (by kernel_rfl) (by kernel_rfl) (fun _ _ _ h => h) (Or.inl ⟨by kernel_rfl, ?ha10_72⟩) hSa ?ra10_72
  case ha10_72 => first | (intro w hSw; obtain ⟨s0, s1, s2, s3, s4, s5⟩ := hSw; go_simp; done) | (intro w hSw; obtain ⟨s0, s1, s2, s3, s4, s5⟩ := hSw; go_simp; with_reducible rfl)
  try simp only [Act.put, List.setIfInBounds_toArray, List.set_cons_zero, List.set_cons_succ]
  refine wpAnyH_done (by kernel_rfl) ?_ _
  clear hSa HS
  go_wp2
  go_ret
  exact ⟨rfl, _, unhide HL, (unhide HWn).ahead (unhide HB2) (unhide HZ)⟩
end Go.Proofs.Ytabajhbghjfhoaa
