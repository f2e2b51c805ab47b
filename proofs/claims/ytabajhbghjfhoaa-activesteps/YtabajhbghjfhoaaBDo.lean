/-
  The walk of a step: what looks, Mark, Clear, Remove, Swap, Insert.
-/
import Derived.Test.YtabajhbghjfhoaaBTw
namespace Go.Proofs.Ytabajhbghjfhoaa
open Go.RowKit
set_option linter.unusedVariables false
set_option linter.unusedSimpArgs false

set_option maxHeartbeats 8000000 in
set_option maxRecDepth 100000 in
theorem does_otherA (A p r : Nat) (wh no : Int) (x : PEnt) (xq : Option Addr) (xl xc : Nat) (P : List PEnt) (w : World) (h : WayA A p r w P P w) (hN : P.length ≤ 100) (hqn : xq = none → xl = 0 ∧ xc = 0) (hats : AtsV xq xl x.ats w) (hq : ∀ a, xq = some a → 0 < xl → a.block < A) (ho : (wh == 0) = false ∧ (wh == 1) = false ∧ (wh == 2) = false ∧ (wh == 3) = false ∧ (wh == 4) = false ∧ (wh == 5) = false ∧ (wh == 6) = false ∧ (wh == 7) = false ∧ (wh == 8) = false ∧ (wh == 9) = false) :
    Calls Try.prog 22 #[ptr p, ptr r, .agg (boxA wh no x xq xl xc)] w (DoesA A p r w) := by
  obtain ⟨o0, o1, o2, o3, o4, o5, o6, o7, o8, o9⟩ := ho
  obtain ⟨xm, xi, xn, ats⟩ := x
  have b2 : Below w.heap.size w (w.alloc (Obj.cells #[.int .i64 wh, .int .i64 no, .bool xm, .int .i64 xi, .string xn, .slice xq xl xc] 60)) := (Below.refl _ _).alloc (Nat.le_refl _) _
  have HE : Hid (WayA A p r w P P (w.alloc (Obj.cells #[.int .i64 wh, .int .i64 no, .bool xm, .int .i64 xi, .string xn, .slice xq xl xc] 60))) := hide (h.later b2)
  clear h b2 hats hqn hq
  unfold ptr boxA at *
  dsimp only at *
  go_enter Try.func22, Try.ntmps22
  go_wp2
  go_ret
  exact ⟨rfl, P, hN, unhide HE⟩
set_option maxHeartbeats 8000000 in
set_option maxRecDepth 100000 in
theorem does_mark (A p r : Nat) (no : Int) (x : PEnt) (xq : Option Addr) (xl xc : Nat) (P : List PEnt) (w : World) (h : WayA A p r w P P w) (hN : P.length ≤ 100) (hqn : xq = none → xl = 0 ∧ xc = 0) (hats : AtsV xq xl x.ats w) (hq : ∀ a, xq = some a → 0 < xl → a.block < A) :
    Calls Try.prog 22 #[ptr p, ptr r, .agg (boxA 5 no x xq xl xc)] w (DoesA A p r w) := by
  obtain ⟨xm, xi, xn, ats⟩ := x
  have b2 : Below w.heap.size w (w.alloc (Obj.cells #[.int .i64 5, .int .i64 no, .bool xm, .int .i64 xi, .string xn, .slice xq xl xc] 60)) := (Below.refl _ _).alloc (Nat.le_refl _) _
  have b2d : Below w.heap.size w (w.alloc (Obj.cells #[.int .i64 5, .int .i64 no, .bool xm, .int .i64 xi, .string xn, .slice xq xl xc] 60)) := b2
  have kX : Blk (w.alloc (Obj.cells #[.int .i64 5, .int .i64 no, .bool xm, .int .i64 xi, .string xn, .slice xq xl xc] 60)) w.heap.size (boxA 5 no ⟨xm, xi, xn, ats⟩ xq xl xc) 60 := Blk.new w _ _
  have HW : Hid (WayA A p r (w.alloc (Obj.cells #[.int .i64 5, .int .i64 no, .bool xm, .int .i64 xi, .string xn, .slice xq xl xc] 60)) P P (w.alloc (Obj.cells #[.int .i64 5, .int .i64 no, .bool xm, .int .i64 xi, .string xn, .slice xq xl xc] 60))) := hide ⟨(h.later b2d).lst, (h.later b2d).rlst, h.hp, Below.refl _ _, fun _ _ h => h, (h.later b2d).sz⟩
  have HW0 : Hid (WayA A p r w P P (w.alloc (Obj.cells #[.int .i64 5, .int .i64 no, .bool xm, .int .i64 xi, .string xn, .slice xq xl xc] 60))) := hide (h.later b2d)
  have HZ := hide h.sz
  have HAT := hide (hats.below b2d)
  have CP : Hid (∀ W, WayA A p r (w.alloc (Obj.cells #[.int .i64 5, .int .i64 no, .bool xm, .int .i64 xi, .string xn, .slice xq xl xc] 60)) P P W → Calls Try.prog 32 #[ptr p] W fun e w' => e = .returned (.int .i64 (if 100 ≤ P.length then 5 else 0)) ∧ WayA A p r (w.alloc (Obj.cells #[.int .i64 5, .int .i64 no, .bool xm, .int .i64 xi, .string xn, .slice xq xl xc] 60)) (if 100 ≤ P.length then P else P ++ [pMk]) P w') := hide fun W hW => hW.callP (fun v hs => mark_p A p v P W hs hW.sz)
  have CR : Hid (∀ W, WayA A p r (w.alloc (Obj.cells #[.int .i64 5, .int .i64 no, .bool xm, .int .i64 xi, .string xn, .slice xq xl xc] 60)) (if 100 ≤ P.length then P else P ++ [pMk]) P W → Calls Try.prog 57 #[ptr r] W fun e w' => e = .returned (.int .i64 (if 100 ≤ P.length then 5 else 0)) ∧ WayA A p r (w.alloc (Obj.cells #[.int .i64 5, .int .i64 no, .bool xm, .int .i64 xi, .string xn, .slice xq xl xc] 60)) (if 100 ≤ P.length then P else P ++ [pMk]) (if 100 ≤ P.length then P else P ++ [pMk]) w') := hide fun W hW => hW.callR (fun u hs => rmark_p A A r u P W hs hW.sz)
  have CF := hide (fun W => aref_any xm xi xn xq xl xc W)
  have HL : Hid ((if 100 ≤ P.length then P else P ++ [pMk]).length ≤ 100) := hide (markP_le P hN)
  have HB2 := hide b2d
  have HK := hide kX
  have HS : Hid (BoxA w.heap.size 5 no xm xi xn xq xl xc (w.alloc (Obj.cells #[.int .i64 5, .int .i64 no, .bool xm, .int .i64 xi, .string xn, .slice xq xl xc] 60))) := hide (BoxA.of kX)
  generalize (if 100 ≤ P.length then P else P ++ [pMk]) = P2 at *
  generalize (((if 100 ≤ P.length then 5 else 0)) : Int) = N at *
  have enn : (N == N) = true := by simp
  clear h b2 b2d kX hats hqn hq HAT HW0
  unfold ptr boxA at *
  dsimp only at *
  go_enter Try.func22, Try.ntmps22
  go_wp2_with fail
  refine (unhide CP _ (unhide HW)).mono ?_
  rintro e w3 ⟨rfl, hw⟩
  have HWn := hide hw
  clear hw
  go_wp2_with fail
  refine (unhide CR _ (unhide HWn)).mono ?_
  rintro e w4 ⟨rfl, hw⟩
  replace HWn := hide hw
  clear hw
  go_wp2
  go_ret
  exact ⟨rfl, _, unhide HL, (unhide HWn).ahead (unhide HB2) (unhide HZ)⟩
set_option maxHeartbeats 8000000 in
set_option maxRecDepth 100000 in
theorem does_clear (A p r : Nat) (no : Int) (x : PEnt) (xq : Option Addr) (xl xc : Nat) (P : List PEnt) (w : World) (h : WayA A p r w P P w) (hN : P.length ≤ 100) (hqn : xq = none → xl = 0 ∧ xc = 0) (hats : AtsV xq xl x.ats w) (hq : ∀ a, xq = some a → 0 < xl → a.block < A) :
    Calls Try.prog 22 #[ptr p, ptr r, .agg (boxA 6 no x xq xl xc)] w (DoesA A p r w) := by
  obtain ⟨xm, xi, xn, ats⟩ := x
  have b2 : Below w.heap.size w (w.alloc (Obj.cells #[.int .i64 6, .int .i64 no, .bool xm, .int .i64 xi, .string xn, .slice xq xl xc] 60)) := (Below.refl _ _).alloc (Nat.le_refl _) _
  have b2d : Below w.heap.size w (w.alloc (Obj.cells #[.int .i64 6, .int .i64 no, .bool xm, .int .i64 xi, .string xn, .slice xq xl xc] 60)) := b2
  have kX : Blk (w.alloc (Obj.cells #[.int .i64 6, .int .i64 no, .bool xm, .int .i64 xi, .string xn, .slice xq xl xc] 60)) w.heap.size (boxA 6 no ⟨xm, xi, xn, ats⟩ xq xl xc) 60 := Blk.new w _ _
  have HW : Hid (WayA A p r (w.alloc (Obj.cells #[.int .i64 6, .int .i64 no, .bool xm, .int .i64 xi, .string xn, .slice xq xl xc] 60)) P P (w.alloc (Obj.cells #[.int .i64 6, .int .i64 no, .bool xm, .int .i64 xi, .string xn, .slice xq xl xc] 60))) := hide ⟨(h.later b2d).lst, (h.later b2d).rlst, h.hp, Below.refl _ _, fun _ _ h => h, (h.later b2d).sz⟩
  have HW0 : Hid (WayA A p r w P P (w.alloc (Obj.cells #[.int .i64 6, .int .i64 no, .bool xm, .int .i64 xi, .string xn, .slice xq xl xc] 60))) := hide (h.later b2d)
  have HZ := hide h.sz
  have HAT := hide (hats.below b2d)
  have CP : Hid (∀ W, WayA A p r (w.alloc (Obj.cells #[.int .i64 6, .int .i64 no, .bool xm, .int .i64 xi, .string xn, .slice xq xl xc] 60)) P P W → Calls Try.prog 58 #[ptr p] W fun e w' => e = .returned (.tuple #[]) ∧ WayA A p r (w.alloc (Obj.cells #[.int .i64 6, .int .i64 no, .bool xm, .int .i64 xi, .string xn, .slice xq xl xc] 60)) (P.take (clearN P)) P w') := hide fun W hW => hW.callP (fun v hs => clear_p A p v P W hs)
  have CR : Hid (∀ W, WayA A p r (w.alloc (Obj.cells #[.int .i64 6, .int .i64 no, .bool xm, .int .i64 xi, .string xn, .slice xq xl xc] 60)) (P.take (clearN P)) P W → Calls Try.prog 59 #[ptr r] W fun e w' => e = .returned (.tuple #[]) ∧ WayA A p r (w.alloc (Obj.cells #[.int .i64 6, .int .i64 no, .bool xm, .int .i64 xi, .string xn, .slice xq xl xc] 60)) (P.take (clearN P)) (P.take (clearN P)) w') := hide fun W hW => hW.callR (fun u hs => rclear_p A A r u P W hs hW.sz (by omega))
  have CF := hide (fun W => aref_any xm xi xn xq xl xc W)
  have HL : Hid ((P.take (clearN P)).length ≤ 100) := hide (by rw [List.length_take]; omega)
  have HB2 := hide b2d
  have HK := hide kX
  have HS : Hid (BoxA w.heap.size 6 no xm xi xn xq xl xc (w.alloc (Obj.cells #[.int .i64 6, .int .i64 no, .bool xm, .int .i64 xi, .string xn, .slice xq xl xc] 60))) := hide (BoxA.of kX)
  generalize (P.take (clearN P)) = P2 at *
  clear h b2 b2d kX hats hqn hq HAT HW0
  unfold ptr boxA at *
  dsimp only at *
  go_enter Try.func22, Try.ntmps22
  go_wp2_with fail
  refine (unhide CP _ (unhide HW)).mono ?_
  rintro e w3 ⟨rfl, hw⟩
  have HWn := hide hw
  clear hw
  go_wp2_with fail
  refine (unhide CR _ (unhide HWn)).mono ?_
  rintro e w4 ⟨rfl, hw⟩
  replace HWn := hide hw
  clear hw
  go_wp2
  go_ret
  exact ⟨rfl, _, unhide HL, (unhide HWn).ahead (unhide HB2) (unhide HZ)⟩
set_option maxHeartbeats 8000000 in
set_option maxRecDepth 100000 in
theorem does_removeA (A p r : Nat) (no : Int) (x : PEnt) (xq : Option Addr) (xl xc : Nat) (P : List PEnt) (w : World) (h : WayA A p r w P P w) (hN : P.length ≤ 100) (hqn : xq = none → xl = 0 ∧ xc = 0) (hats : AtsV xq xl x.ats w) (hq : ∀ a, xq = some a → 0 < xl → a.block < A) :
    Calls Try.prog 22 #[ptr p, ptr r, .agg (boxA 7 no x xq xl xc)] w (DoesA A p r w) := by
  obtain ⟨xm, xi, xn, ats⟩ := x
  have b2 : Below w.heap.size w (w.alloc (Obj.cells #[.int .i64 7, .int .i64 no, .bool xm, .int .i64 xi, .string xn, .slice xq xl xc] 60)) := (Below.refl _ _).alloc (Nat.le_refl _) _
  have b2d : Below w.heap.size w (w.alloc (Obj.cells #[.int .i64 7, .int .i64 no, .bool xm, .int .i64 xi, .string xn, .slice xq xl xc] 60)).drew := tr2 b2 (below_draws _ 1)
  have kX : Blk (w.alloc (Obj.cells #[.int .i64 7, .int .i64 no, .bool xm, .int .i64 xi, .string xn, .slice xq xl xc] 60)).drew w.heap.size (boxA 7 no ⟨xm, xi, xn, ats⟩ xq xl xc) 60 := (Blk.new w _ _).later (below_draws _ 1)
  have HW : Hid (WayA A p r (w.alloc (Obj.cells #[.int .i64 7, .int .i64 no, .bool xm, .int .i64 xi, .string xn, .slice xq xl xc] 60)).drew P P (w.alloc (Obj.cells #[.int .i64 7, .int .i64 no, .bool xm, .int .i64 xi, .string xn, .slice xq xl xc] 60)).drew) := hide ⟨(h.later b2d).lst, (h.later b2d).rlst, h.hp, Below.refl _ _, fun _ _ h => h, (h.later b2d).sz⟩
  have HW0 : Hid (WayA A p r w P P (w.alloc (Obj.cells #[.int .i64 7, .int .i64 no, .bool xm, .int .i64 xi, .string xn, .slice xq xl xc] 60)).drew) := hide (h.later b2d)
  have HZ := hide h.sz
  have HAT := hide (hats.below b2d)
  have CP : Hid (∀ W, WayA A p r (w.alloc (Obj.cells #[.int .i64 7, .int .i64 no, .bool xm, .int .i64 xi, .string xn, .slice xq xl xc] 60)).drew P P W → Calls Try.prog 60 #[ptr p, .int .i64 no] W fun e w' => e = .returned (.bool (decide (0 ≤ findP no P))) ∧ WayA A p r (w.alloc (Obj.cells #[.int .i64 7, .int .i64 no, .bool xm, .int .i64 xi, .string xn, .slice xq xl xc] 60)).drew (removeP no P) P w') := hide fun W hW => hW.callP (fun v hs => remove_p A p v no P W hs)
  have CR : Hid (∀ W, WayA A p r (w.alloc (Obj.cells #[.int .i64 7, .int .i64 no, .bool xm, .int .i64 xi, .string xn, .slice xq xl xc] 60)).drew (removeP no P) P W → Calls Try.prog 61 #[ptr r, .int .i64 no] W fun e w' => e = .returned (.bool (decide (0 ≤ findP no P))) ∧ WayA A p r (w.alloc (Obj.cells #[.int .i64 7, .int .i64 no, .bool xm, .int .i64 xi, .string xn, .slice xq xl xc] 60)).drew (removeP no P) (removeP no P) w') := hide fun W hW => hW.callR (fun u hs => rremove_p A A r u no P W hs hW.sz (by omega))
  have CF := hide (fun W => aref_any xm xi xn xq xl xc W)
  have HL : Hid ((removeP no P).length ≤ 100) := hide (removeP_le no P hN)
  have HB2 := hide b2d
  have HK := hide kX
  have HS : Hid (BoxA w.heap.size 7 no xm xi xn xq xl xc (w.alloc (Obj.cells #[.int .i64 7, .int .i64 no, .bool xm, .int .i64 xi, .string xn, .slice xq xl xc] 60)).drew) := hide (BoxA.of kX)
  generalize (removeP no P) = P2 at *
  generalize ((decide (0 ≤ findP no P))) = N at *
  have enn : (N == N) = true := by simp
  clear h b2 b2d kX hats hqn hq HAT HW0
  unfold ptr boxA at *
  dsimp only at *
  go_enter Try.func22, Try.ntmps22
  go_wp2_with fail
  have hSa := unhide HS
  have HWn := HW
  refine wp_region_held (S := BoxA w.heap.size 7 no xm xi xn xq xl xc) (by kernel_rfl) ?_
  change wpAnyH _ _ _ _ _ _ _ _ (World.drew _)
  refine wpAnyH_take (i := 0) (oi := { dst := some 40, op := _, type := _, pos := _, after := _, guard := _ }) (v := ?va0_1) rfl (by kernel_rfl) (by kernel_rfl) (by kernel_rfl) (fun _ _ _ h => h) (Or.inl ⟨by kernel_rfl, ?ha0_1⟩) hSa ?ra0_1
  case ha0_1 => first | (intro w hSw; obtain ⟨s0, s1, s2, s3, s4, s5⟩ := hSw; go_simp; done) | (intro w hSw; obtain ⟨s0, s1, s2, s3, s4, s5⟩ := hSw; go_simp; with_reducible rfl)
  try simp only [Act.put, List.setIfInBounds_toArray, List.set_cons_zero, List.set_cons_succ]
  refine wpAnyH_take (i := 1) (oi := { dst := some 41, op := _, type := _, pos := _, after := _, guard := _ }) (v := ?va1_2) rfl (by kernel_rfl) (by kernel_rfl) (by kernel_rfl) (fun _ _ _ h => h) (Or.inl ⟨by kernel_rfl, ?ha1_2⟩) hSa ?ra1_2
  case ha1_2 => first | (intro w hSw; obtain ⟨s0, s1, s2, s3, s4, s5⟩ := hSw; go_simp; done) | (intro w hSw; obtain ⟨s0, s1, s2, s3, s4, s5⟩ := hSw; go_simp; with_reducible rfl)
  try simp only [Act.put, List.setIfInBounds_toArray, List.set_cons_zero, List.set_cons_succ]
  refine wpAnyH_take (i := 2) (oi := { dst := some 42, op := _, type := _, pos := _, after := _, guard := _ }) (v := ?va2_3) rfl (by kernel_rfl) (by kernel_rfl) (by kernel_rfl) (fun _ _ _ h => h) (Or.inl ⟨by kernel_rfl, ?ha2_3⟩) hSa ?ra2_3
  case ha2_3 => first | (intro w hSw; obtain ⟨s0, s1, s2, s3, s4, s5⟩ := hSw; go_simp; done) | (intro w hSw; obtain ⟨s0, s1, s2, s3, s4, s5⟩ := hSw; go_simp; with_reducible rfl)
  try simp only [Act.put, List.setIfInBounds_toArray, List.set_cons_zero, List.set_cons_succ]
  refine wpAnyH_take (i := 4) (oi := { dst := some 44, op := _, type := _, pos := _, after := _, guard := _ }) (v := ?va4_4) rfl (by kernel_rfl) (by kernel_rfl) (by kernel_rfl) (fun _ _ _ h => h) (Or.inl ⟨by kernel_rfl, ?ha4_4⟩) hSa ?ra4_4
  case ha4_4 => first | (intro w hSw; obtain ⟨s0, s1, s2, s3, s4, s5⟩ := hSw; go_simp; done) | (intro w hSw; obtain ⟨s0, s1, s2, s3, s4, s5⟩ := hSw; go_simp; with_reducible rfl)
  try simp only [Act.put, List.setIfInBounds_toArray, List.set_cons_zero, List.set_cons_succ]
  refine wpAnyH_take (i := 5) (oi := { dst := some 45, op := _, type := _, pos := _, after := _, guard := _ }) (v := ?va5_5) rfl (by kernel_rfl) (by kernel_rfl) (by kernel_rfl) (fun _ _ _ h => h) (Or.inl ⟨by kernel_rfl, ?ha5_5⟩) hSa ?ra5_5
  case ha5_5 => first | (intro w hSw; obtain ⟨s0, s1, s2, s3, s4, s5⟩ := hSw; go_simp; done) | (intro w hSw; obtain ⟨s0, s1, s2, s3, s4, s5⟩ := hSw; go_simp; with_reducible rfl)
  try simp only [Act.put, List.setIfInBounds_toArray, List.set_cons_zero, List.set_cons_succ]
  refine wpAnyH_take (i := 6) (oi := { dst := some 46, op := _, type := _, pos := _, after := _, guard := _ }) (v := ?va6_6) rfl (by kernel_rfl) (by kernel_rfl) (by kernel_rfl) (fun _ _ _ h => h) (Or.inl ⟨by kernel_rfl, ?ha6_6⟩) hSa ?ra6_6
  case ha6_6 => first | (intro w hSw; obtain ⟨s0, s1, s2, s3, s4, s5⟩ := hSw; go_simp; done) | (intro w hSw; obtain ⟨s0, s1, s2, s3, s4, s5⟩ := hSw; go_simp; with_reducible rfl)
  try simp only [Act.put, List.setIfInBounds_toArray, List.set_cons_zero, List.set_cons_succ]
  refine wpAnyH_ready (rs := [3]) (by kernel_rfl) (by simp) ?_
  refine AllReadyH.cons rfl (fun K hK => ?_) AllReadyH.nil
  go_simp
  refine (unhide CP _ (unhide HWn)).mono ?_
  rintro e w3 ⟨rfl, hw⟩
  replace HWn := hide hw
  clear hw
  have hSa' := BoxA.of ((unhide HWn).blk _ _ (unhide HK))
  refine hK _ _ hSa' (fun _ => ?_)
  clear hK K hSa
  have hSa := hSa'
  clear hSa'
  refine wpAnyH_ready (rs := [7]) (by kernel_rfl) (by simp) ?_
  refine AllReadyH.cons rfl (fun K hK => ?_) AllReadyH.nil
  go_simp
  refine (unhide CR _ (unhide HWn)).mono ?_
  rintro e w4 ⟨rfl, hw⟩
  replace HWn := hide hw
  clear hw
  have hSa' := BoxA.of ((unhide HWn).blk _ _ (unhide HK))
  refine hK _ _ hSa' (fun _ => ?_)
  clear hK K hSa
  have hSa := hSa'
  clear hSa'
  refine wpAnyH_take (i := 8) (oi := { dst := some 48, op := _, type := _, pos := _, after := _, guard := _ }) (v := ?va8_7) rfl (by kernel_rfl) (by kernel_rfl) (by kernel_rfl) (fun _ _ _ h => h) (Or.inl ⟨by kernel_rfl, ?ha8_7⟩) hSa ?ra8_7
  case ha8_7 => first | (intro w hSw; obtain ⟨s0, s1, s2, s3, s4, s5⟩ := hSw; go_simp; done) | (intro w hSw; obtain ⟨s0, s1, s2, s3, s4, s5⟩ := hSw; go_simp; with_reducible rfl)
  try simp only [Act.put, List.setIfInBounds_toArray, List.set_cons_zero, List.set_cons_succ]
  refine wpAnyH_take (i := 9) (oi := { dst := some 6, op := _, type := _, pos := _, after := _, guard := _ }) (v := ?va9_8) rfl (by kernel_rfl) (by kernel_rfl) (by kernel_rfl) (fun _ _ _ h => h) (Or.inl ⟨by kernel_rfl, ?ha9_8⟩) hSa ?ra9_8
  case ha9_8 => first | (intro w hSw; obtain ⟨s0, s1, s2, s3, s4, s5⟩ := hSw; go_simp; done) | (intro w hSw; obtain ⟨s0, s1, s2, s3, s4, s5⟩ := hSw; go_simp; with_reducible rfl)
  try simp only [Act.put, List.setIfInBounds_toArray, List.set_cons_zero, List.set_cons_succ]
  refine wpAnyH_done (by kernel_rfl) ?_ _
  clear hSa HS
  go_wp2
  go_ret
  exact ⟨rfl, _, unhide HL, (unhide HWn).ahead (unhide HB2) (unhide HZ)⟩
set_option maxHeartbeats 8000000 in
set_option maxRecDepth 100000 in
theorem does_swapA (A p r : Nat) (no : Int) (x : PEnt) (xq : Option Addr) (xl xc : Nat) (P : List PEnt) (w : World) (h : WayA A p r w P P w) (hN : P.length ≤ 100) (hqn : xq = none → xl = 0 ∧ xc = 0) (hats : AtsV xq xl x.ats w) (hq : ∀ a, xq = some a → 0 < xl → a.block < A) :
    Calls Try.prog 22 #[ptr p, ptr r, .agg (boxA 8 no x xq xl xc)] w (DoesA A p r w) := by
  obtain ⟨xm, xi, xn, ats⟩ := x
  have b2 : Below w.heap.size w (w.alloc (Obj.cells #[.int .i64 8, .int .i64 no, .bool xm, .int .i64 xi, .string xn, .slice xq xl xc] 60)) := (Below.refl _ _).alloc (Nat.le_refl _) _
  have b2d : Below w.heap.size w (w.alloc (Obj.cells #[.int .i64 8, .int .i64 no, .bool xm, .int .i64 xi, .string xn, .slice xq xl xc] 60)).drew := tr2 b2 (below_draws _ 1)
  have kX : Blk (w.alloc (Obj.cells #[.int .i64 8, .int .i64 no, .bool xm, .int .i64 xi, .string xn, .slice xq xl xc] 60)).drew w.heap.size (boxA 8 no ⟨xm, xi, xn, ats⟩ xq xl xc) 60 := (Blk.new w _ _).later (below_draws _ 1)
  have HW : Hid (WayA A p r (w.alloc (Obj.cells #[.int .i64 8, .int .i64 no, .bool xm, .int .i64 xi, .string xn, .slice xq xl xc] 60)).drew P P (w.alloc (Obj.cells #[.int .i64 8, .int .i64 no, .bool xm, .int .i64 xi, .string xn, .slice xq xl xc] 60)).drew) := hide ⟨(h.later b2d).lst, (h.later b2d).rlst, h.hp, Below.refl _ _, fun _ _ h => h, (h.later b2d).sz⟩
  have HW0 : Hid (WayA A p r w P P (w.alloc (Obj.cells #[.int .i64 8, .int .i64 no, .bool xm, .int .i64 xi, .string xn, .slice xq xl xc] 60)).drew) := hide (h.later b2d)
  have HZ := hide h.sz
  have HAT := hide (hats.below b2d)
  have CP : Hid (∀ W, WayA A p r (w.alloc (Obj.cells #[.int .i64 8, .int .i64 no, .bool xm, .int .i64 xi, .string xn, .slice xq xl xc] 60)).drew P P W → Calls Try.prog 62 #[ptr p, .int .i64 no, .agg #[.bool xm, .int .i64 xi, .string xn, .slice xq xl xc]] W fun e w' => e = .returned (.bool (swapR no ⟨xm, xi, xn, ats⟩ P)) ∧ WayA A p r (w.alloc (Obj.cells #[.int .i64 8, .int .i64 no, .bool xm, .int .i64 xi, .string xn, .slice xq xl xc] 60)).drew (swapP no ⟨xm, xi, xn, ats⟩ P) P w') := hide fun W hW => hW.callP (fun v hs => swap_p A p v P no ⟨xm, xi, xn, ats⟩ xq xl xc W hs hW.sz (by omega) hqn ((unhide HAT).belowA hq hW.bel))
  have CR : Hid (∀ W, WayA A p r (w.alloc (Obj.cells #[.int .i64 8, .int .i64 no, .bool xm, .int .i64 xi, .string xn, .slice xq xl xc] 60)).drew (swapP no ⟨xm, xi, xn, ats⟩ P) P W → Calls Try.prog 63 #[ptr r, .int .i64 no, .agg #[.bool xm, .int .i64 xi, .string xn, .slice xq xl xc]] W fun e w' => e = .returned (.bool (swapR no ⟨xm, xi, xn, ats⟩ P)) ∧ WayA A p r (w.alloc (Obj.cells #[.int .i64 8, .int .i64 no, .bool xm, .int .i64 xi, .string xn, .slice xq xl xc] 60)).drew (swapP no ⟨xm, xi, xn, ats⟩ P) (swapP no ⟨xm, xi, xn, ats⟩ P) w') := hide fun W hW => hW.callR (fun u hs => rswap_p A A r u P no ⟨xm, xi, xn, ats⟩ xq xl xc W hs hW.sz (by omega) ((unhide HAT).belowA hq hW.bel) hq)
  have CF := hide (fun W => aref_any xm xi xn xq xl xc W)
  have HL : Hid ((swapP no ⟨xm, xi, xn, ats⟩ P).length ≤ 100) := hide (swapP_le no ⟨xm, xi, xn, ats⟩ P hN)
  have HB2 := hide b2d
  have HK := hide kX
  have HS : Hid (BoxA w.heap.size 8 no xm xi xn xq xl xc (w.alloc (Obj.cells #[.int .i64 8, .int .i64 no, .bool xm, .int .i64 xi, .string xn, .slice xq xl xc] 60)).drew) := hide (BoxA.of kX)
  generalize (swapP no ⟨xm, xi, xn, ats⟩ P) = P2 at *
  generalize ((swapR no ⟨xm, xi, xn, ats⟩ P)) = N at *
  have enn : (N == N) = true := by simp
  clear h b2 b2d kX hats hqn hq HAT HW0
  unfold ptr boxA at *
  dsimp only at *
  go_enter Try.func22, Try.ntmps22
  go_wp2_with fail
  have hSa := unhide HS
  have HWn := HW
  refine wp_region_held (S := BoxA w.heap.size 8 no xm xi xn xq xl xc) (by kernel_rfl) ?_
  change wpAnyH _ _ _ _ _ _ _ _ (World.drew _)
  refine wpAnyH_take (i := 0) (oi := { dst := some 51, op := _, type := _, pos := _, after := _, guard := _ }) (v := ?va0_9) rfl (by kernel_rfl) (by kernel_rfl) (by kernel_rfl) (fun _ _ _ h => h) (Or.inl ⟨by kernel_rfl, ?ha0_9⟩) hSa ?ra0_9
  case ha0_9 => first | (intro w hSw; obtain ⟨s0, s1, s2, s3, s4, s5⟩ := hSw; go_simp; done) | (intro w hSw; obtain ⟨s0, s1, s2, s3, s4, s5⟩ := hSw; go_simp; with_reducible rfl)
  try simp only [Act.put, List.setIfInBounds_toArray, List.set_cons_zero, List.set_cons_succ]
  refine wpAnyH_take (i := 1) (oi := { dst := some 52, op := _, type := _, pos := _, after := _, guard := _ }) (v := ?va1_10) rfl (by kernel_rfl) (by kernel_rfl) (by kernel_rfl) (fun _ _ _ h => h) (Or.inl ⟨by kernel_rfl, ?ha1_10⟩) hSa ?ra1_10
  case ha1_10 => first | (intro w hSw; obtain ⟨s0, s1, s2, s3, s4, s5⟩ := hSw; go_simp; done) | (intro w hSw; obtain ⟨s0, s1, s2, s3, s4, s5⟩ := hSw; go_simp; with_reducible rfl)
  try simp only [Act.put, List.setIfInBounds_toArray, List.set_cons_zero, List.set_cons_succ]
  refine wpAnyH_take (i := 2) (oi := { dst := some 53, op := _, type := _, pos := _, after := _, guard := _ }) (v := ?va2_11) rfl (by kernel_rfl) (by kernel_rfl) (by kernel_rfl) (fun _ _ _ h => h) (Or.inl ⟨by kernel_rfl, ?ha2_11⟩) hSa ?ra2_11
  case ha2_11 => first | (intro w hSw; obtain ⟨s0, s1, s2, s3, s4, s5⟩ := hSw; go_simp; done) | (intro w hSw; obtain ⟨s0, s1, s2, s3, s4, s5⟩ := hSw; go_simp; with_reducible rfl)
  try simp only [Act.put, List.setIfInBounds_toArray, List.set_cons_zero, List.set_cons_succ]
  refine wpAnyH_take (i := 3) (oi := { dst := some 54, op := _, type := _, pos := _, after := _, guard := _ }) (v := ?va3_12) rfl (by kernel_rfl) (by kernel_rfl) (by kernel_rfl) (fun _ _ _ h => h) (Or.inl ⟨by kernel_rfl, ?ha3_12⟩) hSa ?ra3_12
  case ha3_12 => first | (intro w hSw; obtain ⟨s0, s1, s2, s3, s4, s5⟩ := hSw; go_simp; done) | (intro w hSw; obtain ⟨s0, s1, s2, s3, s4, s5⟩ := hSw; go_simp; with_reducible rfl)
  try simp only [Act.put, List.setIfInBounds_toArray, List.set_cons_zero, List.set_cons_succ]
  refine wpAnyH_take (i := 4) (oi := { dst := some 55, op := _, type := _, pos := _, after := _, guard := _ }) (v := ?va4_13) rfl (by kernel_rfl) (by kernel_rfl) (by kernel_rfl) (fun _ _ _ h => h) (Or.inl ⟨by kernel_rfl, ?ha4_13⟩) hSa ?ra4_13
  case ha4_13 => first | (intro w hSw; obtain ⟨s0, s1, s2, s3, s4, s5⟩ := hSw; go_simp; done) | (intro w hSw; obtain ⟨s0, s1, s2, s3, s4, s5⟩ := hSw; go_simp; with_reducible rfl)
  try simp only [Act.put, List.setIfInBounds_toArray, List.set_cons_zero, List.set_cons_succ]
  refine wpAnyH_take (i := 6) (oi := { dst := some 57, op := _, type := _, pos := _, after := _, guard := _ }) (v := ?va6_14) rfl (by kernel_rfl) (by kernel_rfl) (by kernel_rfl) (fun _ _ _ h => h) (Or.inl ⟨by kernel_rfl, ?ha6_14⟩) hSa ?ra6_14
  case ha6_14 => first | (intro w hSw; obtain ⟨s0, s1, s2, s3, s4, s5⟩ := hSw; go_simp; done) | (intro w hSw; obtain ⟨s0, s1, s2, s3, s4, s5⟩ := hSw; go_simp; with_reducible rfl)
  try simp only [Act.put, List.setIfInBounds_toArray, List.set_cons_zero, List.set_cons_succ]
  refine wpAnyH_take (i := 7) (oi := { dst := some 58, op := _, type := _, pos := _, after := _, guard := _ }) (v := ?va7_15) rfl (by kernel_rfl) (by kernel_rfl) (by kernel_rfl) (fun _ _ _ h => h) (Or.inl ⟨by kernel_rfl, ?ha7_15⟩) hSa ?ra7_15
  case ha7_15 => first | (intro w hSw; obtain ⟨s0, s1, s2, s3, s4, s5⟩ := hSw; go_simp; done) | (intro w hSw; obtain ⟨s0, s1, s2, s3, s4, s5⟩ := hSw; go_simp; with_reducible rfl)
  try simp only [Act.put, List.setIfInBounds_toArray, List.set_cons_zero, List.set_cons_succ]
  refine wpAnyH_take (i := 8) (oi := { dst := some 59, op := _, type := _, pos := _, after := _, guard := _ }) (v := ?va8_16) rfl (by kernel_rfl) (by kernel_rfl) (by kernel_rfl) (fun _ _ _ h => h) (Or.inl ⟨by kernel_rfl, ?ha8_16⟩) hSa ?ra8_16
  case ha8_16 => first | (intro w hSw; obtain ⟨s0, s1, s2, s3, s4, s5⟩ := hSw; go_simp; done) | (intro w hSw; obtain ⟨s0, s1, s2, s3, s4, s5⟩ := hSw; go_simp; with_reducible rfl)
  try simp only [Act.put, List.setIfInBounds_toArray, List.set_cons_zero, List.set_cons_succ]
  refine wpAnyH_take (i := 9) (oi := { dst := some 60, op := _, type := _, pos := _, after := _, guard := _ }) (v := ?va9_17) rfl (by kernel_rfl) (by kernel_rfl) (by kernel_rfl) (fun _ _ _ h => h) (Or.inl ⟨by kernel_rfl, ?ha9_17⟩) hSa ?ra9_17
  case ha9_17 => first | (intro w hSw; obtain ⟨s0, s1, s2, s3, s4, s5⟩ := hSw; go_simp; done) | (intro w hSw; obtain ⟨s0, s1, s2, s3, s4, s5⟩ := hSw; go_simp; with_reducible rfl)
  try simp only [Act.put, List.setIfInBounds_toArray, List.set_cons_zero, List.set_cons_succ]
  refine wpAnyH_take (i := 10) (oi := { dst := some 61, op := _, type := _, pos := _, after := _, guard := _ }) (v := ?va10_18) rfl (by kernel_rfl) (by kernel_rfl) (by kernel_rfl) (fun _ _ _ h => h) (Or.inl ⟨by kernel_rfl, ?ha10_18⟩) hSa ?ra10_18
  case ha10_18 => first | (intro w hSw; obtain ⟨s0, s1, s2, s3, s4, s5⟩ := hSw; go_simp; done) | (intro w hSw; obtain ⟨s0, s1, s2, s3, s4, s5⟩ := hSw; go_simp; with_reducible rfl)
  try simp only [Act.put, List.setIfInBounds_toArray, List.set_cons_zero, List.set_cons_succ]
  refine wpAnyH_ready (rs := [5]) (by kernel_rfl) (by simp) ?_
  refine AllReadyH.cons rfl (fun K hK => ?_) AllReadyH.nil
  go_simp
  refine (unhide CP _ (unhide HWn)).mono ?_
  rintro e w3 ⟨rfl, hw⟩
  replace HWn := hide hw
  clear hw
  have hSa' := BoxA.of ((unhide HWn).blk _ _ (unhide HK))
  refine hK _ _ hSa' (fun _ => ?_)
  clear hK K hSa
  have hSa := hSa'
  clear hSa'
  refine wpAnyH_ready (rs := [11]) (by kernel_rfl) (by simp) ?_
  refine AllReadyH.cons rfl (fun K hK => ?_) AllReadyH.nil
  go_simp
  refine (unhide CF _).mono ?_
  rintro e w4 ⟨rfl, hb⟩
  replace HWn := hide ((unhide HWn).later hb)
  clear hb
  have hSa' := BoxA.of ((unhide HWn).blk _ _ (unhide HK))
  refine hK _ _ hSa' (fun _ => ?_)
  clear hK K hSa
  have hSa := hSa'
  clear hSa'
  refine wpAnyH_ready (rs := [12]) (by kernel_rfl) (by simp) ?_
  refine AllReadyH.cons rfl (fun K hK => ?_) AllReadyH.nil
  go_simp
  refine (unhide CR _ (unhide HWn)).mono ?_
  rintro e w5 ⟨rfl, hw⟩
  replace HWn := hide hw
  clear hw
  have hSa' := BoxA.of ((unhide HWn).blk _ _ (unhide HK))
  refine hK _ _ hSa' (fun _ => ?_)
  clear hK K hSa
  have hSa := hSa'
  clear hSa'
  refine wpAnyH_take (i := 13) (oi := { dst := some 64, op := _, type := _, pos := _, after := _, guard := _ }) (v := ?va13_19) rfl (by kernel_rfl) (by kernel_rfl) (by kernel_rfl) (fun _ _ _ h => h) (Or.inl ⟨by kernel_rfl, ?ha13_19⟩) hSa ?ra13_19
  case ha13_19 => first | (intro w hSw; obtain ⟨s0, s1, s2, s3, s4, s5⟩ := hSw; go_simp; done) | (intro w hSw; obtain ⟨s0, s1, s2, s3, s4, s5⟩ := hSw; go_simp; with_reducible rfl)
  try simp only [Act.put, List.setIfInBounds_toArray, List.set_cons_zero, List.set_cons_succ]
  refine wpAnyH_take (i := 14) (oi := { dst := some 6, op := _, type := _, pos := _, after := _, guard := _ }) (v := ?va14_20) rfl (by kernel_rfl) (by kernel_rfl) (by kernel_rfl) (fun _ _ _ h => h) (Or.inl ⟨by kernel_rfl, ?ha14_20⟩) hSa ?ra14_20
  case ha14_20 => first | (intro w hSw; obtain ⟨s0, s1, s2, s3, s4, s5⟩ := hSw; go_simp; done) | (intro w hSw; obtain ⟨s0, s1, s2, s3, s4, s5⟩ := hSw; go_simp; with_reducible rfl)
  try simp only [Act.put, List.setIfInBounds_toArray, List.set_cons_zero, List.set_cons_succ]
  refine wpAnyH_done (by kernel_rfl) ?_ _
  clear hSa HS
  go_wp2
  go_ret
  exact ⟨rfl, _, unhide HL, (unhide HWn).ahead (unhide HB2) (unhide HZ)⟩
set_option maxHeartbeats 8000000 in
set_option maxRecDepth 100000 in
theorem does_insertA (A p r : Nat) (no : Int) (x : PEnt) (xq : Option Addr) (xl xc : Nat) (P : List PEnt) (w : World) (h : WayA A p r w P P w) (hN : P.length ≤ 100) (hqn : xq = none → xl = 0 ∧ xc = 0) (hats : AtsV xq xl x.ats w) (hq : ∀ a, xq = some a → 0 < xl → a.block < A) :
    Calls Try.prog 22 #[ptr p, ptr r, .agg (boxA 9 no x xq xl xc)] w (DoesA A p r w) := by
  obtain ⟨xm, xi, xn, ats⟩ := x
  have b2 : Below w.heap.size w (w.alloc (Obj.cells #[.int .i64 9, .int .i64 no, .bool xm, .int .i64 xi, .string xn, .slice xq xl xc] 60)) := (Below.refl _ _).alloc (Nat.le_refl _) _
  have b2d : Below w.heap.size w (w.alloc (Obj.cells #[.int .i64 9, .int .i64 no, .bool xm, .int .i64 xi, .string xn, .slice xq xl xc] 60)).drew := tr2 b2 (below_draws _ 1)
  have kX : Blk (w.alloc (Obj.cells #[.int .i64 9, .int .i64 no, .bool xm, .int .i64 xi, .string xn, .slice xq xl xc] 60)).drew w.heap.size (boxA 9 no ⟨xm, xi, xn, ats⟩ xq xl xc) 60 := (Blk.new w _ _).later (below_draws _ 1)
  have HW : Hid (WayA A p r (w.alloc (Obj.cells #[.int .i64 9, .int .i64 no, .bool xm, .int .i64 xi, .string xn, .slice xq xl xc] 60)).drew P P (w.alloc (Obj.cells #[.int .i64 9, .int .i64 no, .bool xm, .int .i64 xi, .string xn, .slice xq xl xc] 60)).drew) := hide ⟨(h.later b2d).lst, (h.later b2d).rlst, h.hp, Below.refl _ _, fun _ _ h => h, (h.later b2d).sz⟩
  have HW0 : Hid (WayA A p r w P P (w.alloc (Obj.cells #[.int .i64 9, .int .i64 no, .bool xm, .int .i64 xi, .string xn, .slice xq xl xc] 60)).drew) := hide (h.later b2d)
  have HZ := hide h.sz
  have HAT := hide (hats.below b2d)
  have CP : Hid (∀ W, WayA A p r (w.alloc (Obj.cells #[.int .i64 9, .int .i64 no, .bool xm, .int .i64 xi, .string xn, .slice xq xl xc] 60)).drew P P W → Calls Try.prog 38 #[ptr p, .int .i64 no, .agg #[.bool xm, .int .i64 xi, .string xn, .slice xq xl xc]] W fun e w' => e = .returned (.int .i64 (insR no ⟨xm, xi, xn, ats⟩ P.length)) ∧ WayA A p r (w.alloc (Obj.cells #[.int .i64 9, .int .i64 no, .bool xm, .int .i64 xi, .string xn, .slice xq xl xc] 60)).drew (insP no ⟨xm, xi, xn, ats⟩ P) P w') := hide fun W hW => hW.callP (fun v hs => insert_p A p v P no ⟨xm, xi, xn, ats⟩ xq xl xc W hs hW.sz hN hqn ((unhide HAT).belowA hq hW.bel))
  have CR : Hid (∀ W, WayA A p r (w.alloc (Obj.cells #[.int .i64 9, .int .i64 no, .bool xm, .int .i64 xi, .string xn, .slice xq xl xc] 60)).drew (insP no ⟨xm, xi, xn, ats⟩ P) P W → Calls Try.prog 64 #[ptr r, .int .i64 no, .agg #[.bool xm, .int .i64 xi, .string xn, .slice xq xl xc]] W fun e w' => e = .returned (.int .i64 (insR no ⟨xm, xi, xn, ats⟩ P.length)) ∧ WayA A p r (w.alloc (Obj.cells #[.int .i64 9, .int .i64 no, .bool xm, .int .i64 xi, .string xn, .slice xq xl xc] 60)).drew (insP no ⟨xm, xi, xn, ats⟩ P) (insP no ⟨xm, xi, xn, ats⟩ P) w') := hide fun W hW => hW.callR (fun u hs => rinsert_p A A r u P no ⟨xm, xi, xn, ats⟩ xq xl xc W hs hW.sz ((unhide HAT).belowA hq hW.bel) hq)
  have CF := hide (fun W => aref_any xm xi xn xq xl xc W)
  have HL : Hid ((insP no ⟨xm, xi, xn, ats⟩ P).length ≤ 100) := hide (insP_le no ⟨xm, xi, xn, ats⟩ P hN)
  have HB2 := hide b2d
  have HK := hide kX
  have HS : Hid (BoxA w.heap.size 9 no xm xi xn xq xl xc (w.alloc (Obj.cells #[.int .i64 9, .int .i64 no, .bool xm, .int .i64 xi, .string xn, .slice xq xl xc] 60)).drew) := hide (BoxA.of kX)
  generalize (insP no ⟨xm, xi, xn, ats⟩ P) = P2 at *
  generalize (((insR no ⟨xm, xi, xn, ats⟩ P.length)) : Int) = N at *
  have enn : (N == N) = true := by simp
  clear h b2 b2d kX hats hqn hq HAT HW0
  unfold ptr boxA at *
  dsimp only at *
  go_enter Try.func22, Try.ntmps22
  go_wp2_with fail
  have hSa := unhide HS
  have HWn := HW
  refine wp_region_held (S := BoxA w.heap.size 9 no xm xi xn xq xl xc) (by kernel_rfl) ?_
  change wpAnyH _ _ _ _ _ _ _ _ (World.drew _)
  refine wpAnyH_take (i := 0) (oi := { dst := some 67, op := _, type := _, pos := _, after := _, guard := _ }) (v := ?va0_21) rfl (by kernel_rfl) (by kernel_rfl) (by kernel_rfl) (fun _ _ _ h => h) (Or.inl ⟨by kernel_rfl, ?ha0_21⟩) hSa ?ra0_21
  case ha0_21 => first | (intro w hSw; obtain ⟨s0, s1, s2, s3, s4, s5⟩ := hSw; go_simp; done) | (intro w hSw; obtain ⟨s0, s1, s2, s3, s4, s5⟩ := hSw; go_simp; with_reducible rfl)
  try simp only [Act.put, List.setIfInBounds_toArray, List.set_cons_zero, List.set_cons_succ]
  refine wpAnyH_take (i := 1) (oi := { dst := some 68, op := _, type := _, pos := _, after := _, guard := _ }) (v := ?va1_22) rfl (by kernel_rfl) (by kernel_rfl) (by kernel_rfl) (fun _ _ _ h => h) (Or.inl ⟨by kernel_rfl, ?ha1_22⟩) hSa ?ra1_22
  case ha1_22 => first | (intro w hSw; obtain ⟨s0, s1, s2, s3, s4, s5⟩ := hSw; go_simp; done) | (intro w hSw; obtain ⟨s0, s1, s2, s3, s4, s5⟩ := hSw; go_simp; with_reducible rfl)
  try simp only [Act.put, List.setIfInBounds_toArray, List.set_cons_zero, List.set_cons_succ]
  refine wpAnyH_take (i := 2) (oi := { dst := some 69, op := _, type := _, pos := _, after := _, guard := _ }) (v := ?va2_23) rfl (by kernel_rfl) (by kernel_rfl) (by kernel_rfl) (fun _ _ _ h => h) (Or.inl ⟨by kernel_rfl, ?ha2_23⟩) hSa ?ra2_23
  case ha2_23 => first | (intro w hSw; obtain ⟨s0, s1, s2, s3, s4, s5⟩ := hSw; go_simp; done) | (intro w hSw; obtain ⟨s0, s1, s2, s3, s4, s5⟩ := hSw; go_simp; with_reducible rfl)
  try simp only [Act.put, List.setIfInBounds_toArray, List.set_cons_zero, List.set_cons_succ]
  refine wpAnyH_take (i := 3) (oi := { dst := some 70, op := _, type := _, pos := _, after := _, guard := _ }) (v := ?va3_24) rfl (by kernel_rfl) (by kernel_rfl) (by kernel_rfl) (fun _ _ _ h => h) (Or.inl ⟨by kernel_rfl, ?ha3_24⟩) hSa ?ra3_24
  case ha3_24 => first | (intro w hSw; obtain ⟨s0, s1, s2, s3, s4, s5⟩ := hSw; go_simp; done) | (intro w hSw; obtain ⟨s0, s1, s2, s3, s4, s5⟩ := hSw; go_simp; with_reducible rfl)
  try simp only [Act.put, List.setIfInBounds_toArray, List.set_cons_zero, List.set_cons_succ]
  refine wpAnyH_take (i := 4) (oi := { dst := some 71, op := _, type := _, pos := _, after := _, guard := _ }) (v := ?va4_25) rfl (by kernel_rfl) (by kernel_rfl) (by kernel_rfl) (fun _ _ _ h => h) (Or.inl ⟨by kernel_rfl, ?ha4_25⟩) hSa ?ra4_25
  case ha4_25 => first | (intro w hSw; obtain ⟨s0, s1, s2, s3, s4, s5⟩ := hSw; go_simp; done) | (intro w hSw; obtain ⟨s0, s1, s2, s3, s4, s5⟩ := hSw; go_simp; with_reducible rfl)
  try simp only [Act.put, List.setIfInBounds_toArray, List.set_cons_zero, List.set_cons_succ]
  refine wpAnyH_take (i := 6) (oi := { dst := some 73, op := _, type := _, pos := _, after := _, guard := _ }) (v := ?va6_26) rfl (by kernel_rfl) (by kernel_rfl) (by kernel_rfl) (fun _ _ _ h => h) (Or.inl ⟨by kernel_rfl, ?ha6_26⟩) hSa ?ra6_26
  case ha6_26 => first | (intro w hSw; obtain ⟨s0, s1, s2, s3, s4, s5⟩ := hSw; go_simp; done) | (intro w hSw; obtain ⟨s0, s1, s2, s3, s4, s5⟩ := hSw; go_simp; with_reducible rfl)
  try simp only [Act.put, List.setIfInBounds_toArray, List.set_cons_zero, List.set_cons_succ]
  refine wpAnyH_take (i := 7) (oi := { dst := some 74, op := _, type := _, pos := _, after := _, guard := _ }) (v := ?va7_27) rfl (by kernel_rfl) (by kernel_rfl) (by kernel_rfl) (fun _ _ _ h => h) (Or.inl ⟨by kernel_rfl, ?ha7_27⟩) hSa ?ra7_27
  case ha7_27 => first | (intro w hSw; obtain ⟨s0, s1, s2, s3, s4, s5⟩ := hSw; go_simp; done) | (intro w hSw; obtain ⟨s0, s1, s2, s3, s4, s5⟩ := hSw; go_simp; with_reducible rfl)
  try simp only [Act.put, List.setIfInBounds_toArray, List.set_cons_zero, List.set_cons_succ]
  refine wpAnyH_take (i := 8) (oi := { dst := some 75, op := _, type := _, pos := _, after := _, guard := _ }) (v := ?va8_28) rfl (by kernel_rfl) (by kernel_rfl) (by kernel_rfl) (fun _ _ _ h => h) (Or.inl ⟨by kernel_rfl, ?ha8_28⟩) hSa ?ra8_28
  case ha8_28 => first | (intro w hSw; obtain ⟨s0, s1, s2, s3, s4, s5⟩ := hSw; go_simp; done) | (intro w hSw; obtain ⟨s0, s1, s2, s3, s4, s5⟩ := hSw; go_simp; with_reducible rfl)
  try simp only [Act.put, List.setIfInBounds_toArray, List.set_cons_zero, List.set_cons_succ]
  refine wpAnyH_take (i := 9) (oi := { dst := some 76, op := _, type := _, pos := _, after := _, guard := _ }) (v := ?va9_29) rfl (by kernel_rfl) (by kernel_rfl) (by kernel_rfl) (fun _ _ _ h => h) (Or.inl ⟨by kernel_rfl, ?ha9_29⟩) hSa ?ra9_29
  case ha9_29 => first | (intro w hSw; obtain ⟨s0, s1, s2, s3, s4, s5⟩ := hSw; go_simp; done) | (intro w hSw; obtain ⟨s0, s1, s2, s3, s4, s5⟩ := hSw; go_simp; with_reducible rfl)
  try simp only [Act.put, List.setIfInBounds_toArray, List.set_cons_zero, List.set_cons_succ]
  refine wpAnyH_take (i := 10) (oi := { dst := some 77, op := _, type := _, pos := _, after := _, guard := _ }) (v := ?va10_30) rfl (by kernel_rfl) (by kernel_rfl) (by kernel_rfl) (fun _ _ _ h => h) (Or.inl ⟨by kernel_rfl, ?ha10_30⟩) hSa ?ra10_30
  case ha10_30 => first | (intro w hSw; obtain ⟨s0, s1, s2, s3, s4, s5⟩ := hSw; go_simp; done) | (intro w hSw; obtain ⟨s0, s1, s2, s3, s4, s5⟩ := hSw; go_simp; with_reducible rfl)
  try simp only [Act.put, List.setIfInBounds_toArray, List.set_cons_zero, List.set_cons_succ]
  refine wpAnyH_ready (rs := [5]) (by kernel_rfl) (by simp) ?_
  refine AllReadyH.cons rfl (fun K hK => ?_) AllReadyH.nil
  go_simp
  refine (unhide CP _ (unhide HWn)).mono ?_
  rintro e w3 ⟨rfl, hw⟩
  replace HWn := hide hw
  clear hw
  have hSa' := BoxA.of ((unhide HWn).blk _ _ (unhide HK))
  refine hK _ _ hSa' (fun _ => ?_)
  clear hK K hSa
  have hSa := hSa'
  clear hSa'
  refine wpAnyH_ready (rs := [11]) (by kernel_rfl) (by simp) ?_
  refine AllReadyH.cons rfl (fun K hK => ?_) AllReadyH.nil
  go_simp
  refine (unhide CF _).mono ?_
  rintro e w4 ⟨rfl, hb⟩
  replace HWn := hide ((unhide HWn).later hb)
  clear hb
  have hSa' := BoxA.of ((unhide HWn).blk _ _ (unhide HK))
  refine hK _ _ hSa' (fun _ => ?_)
  clear hK K hSa
  have hSa := hSa'
  clear hSa'
  refine wpAnyH_ready (rs := [12]) (by kernel_rfl) (by simp) ?_
  refine AllReadyH.cons rfl (fun K hK => ?_) AllReadyH.nil
  go_simp
  refine (unhide CR _ (unhide HWn)).mono ?_
  rintro e w5 ⟨rfl, hw⟩
  replace HWn := hide hw
  clear hw
  have hSa' := BoxA.of ((unhide HWn).blk _ _ (unhide HK))
  refine hK _ _ hSa' (fun _ => ?_)
  clear hK K hSa
  have hSa := hSa'
  clear hSa'
  refine wpAnyH_take (i := 13) (oi := { dst := some 80, op := _, type := _, pos := _, after := _, guard := _ }) (v := ?va13_31) rfl (by kernel_rfl) (by kernel_rfl) (by kernel_rfl) (fun _ _ _ h => h) (Or.inl ⟨by kernel_rfl, ?ha13_31⟩) hSa ?ra13_31
  case ha13_31 => first | (intro w hSw; obtain ⟨s0, s1, s2, s3, s4, s5⟩ := hSw; go_simp; done) | (intro w hSw; obtain ⟨s0, s1, s2, s3, s4, s5⟩ := hSw; go_simp; with_reducible rfl)
  try simp only [Act.put, List.setIfInBounds_toArray, List.set_cons_zero, List.set_cons_succ]
  refine wpAnyH_take (i := 14) (oi := { dst := some 6, op := _, type := _, pos := _, after := _, guard := _ }) (v := ?va14_32) rfl (by kernel_rfl) (by kernel_rfl) (by kernel_rfl) (fun _ _ _ h => h) (Or.inl ⟨by kernel_rfl, ?ha14_32⟩) hSa ?ra14_32
  case ha14_32 => first | (intro w hSw; obtain ⟨s0, s1, s2, s3, s4, s5⟩ := hSw; go_simp; done) | (intro w hSw; obtain ⟨s0, s1, s2, s3, s4, s5⟩ := hSw; go_simp; with_reducible rfl)
  try simp only [Act.put, List.setIfInBounds_toArray, List.set_cons_zero, List.set_cons_succ]
  refine wpAnyH_done (by kernel_rfl) ?_ _
  clear hSa HS
  go_wp2
  go_ret
  exact ⟨rfl, _, unhide HL, (unhide HWn).ahead (unhide HB2) (unhide HZ)⟩
end Go.Proofs.Ytabajhbghjfhoaa
