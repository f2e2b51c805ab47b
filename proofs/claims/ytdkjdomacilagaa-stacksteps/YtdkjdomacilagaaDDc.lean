/-
  The walk of a step: Implied, Remove, Insert.
-/
import Derived.Test.YtdkjdomacilagaaDDa
namespace Go.Proofs.Ytdkjdomacilagaa
open Go.RowKit
set_option linter.unusedVariables false
set_option linter.unusedSimpArgs false

set_option maxHeartbeats 8000000 in
set_option maxRecDepth 100000 in
theorem does_implied (base p r : Nat) (v u : Value) (at' id sp : Int) (nm na nb : ByteArray) (L : List Ent) (w : World) (h : TwoR base p v L r u L w) (hbase : base ≤ w.heap.size) (hN : L.length ≤ 200) :
    Calls Try.prog 11 #[ptr p, ptr r, .agg (stepA 7 at' id sp nm na nb)] w (DoesSaid base p r v u w) := by
  have b2 : Below w.heap.size w ((w.alloc (Obj.cells #[.int .i64 7, .int .i64 at', .int .i64 id, .int .i64 sp, .string nm, .string na, .string nb] 34)).alloc (Obj.cells #[.string na, .string nb] 9)) := (((Below.refl _ _).alloc (Nat.le_refl _) _).alloc (by simp) _)
  have kX : Blk ((w.alloc (Obj.cells #[.int .i64 7, .int .i64 at', .int .i64 id, .int .i64 sp, .string nm, .string na, .string nb] 34)).alloc (Obj.cells #[.string na, .string nb] 9)) w.heap.size (stepA 7 at' id sp nm na nb) 34 := ((Blk.new w _ _).alloc _)
  have kY : Blk ((w.alloc (Obj.cells #[.int .i64 7, .int .i64 at', .int .i64 id, .int .i64 sp, .string nm, .string na, .string nb] 34)).alloc (Obj.cells #[.string na, .string nb] 9)) (w.heap.size + 1) #[.string na, .string nb] 9 := Eq.mp (by simp) (Blk.new (w.alloc (Obj.cells #[.int .i64 7, .int .i64 at', .int .i64 id, .int .i64 sp, .string nm, .string na, .string nb] 34)) #[.string na, .string nb] 9)
  have mX : Mine p r v u ((w.alloc (Obj.cells #[.int .i64 7, .int .i64 at', .int .i64 id, .int .i64 sp, .string nm, .string na, .string nb] 34)).alloc (Obj.cells #[.string na, .string nb] 9)) w.heap.size := h.mine (Nat.le_refl _) (by simp; try omega)
  have mY : Mine p r v u ((w.alloc (Obj.cells #[.int .i64 7, .int .i64 at', .int .i64 id, .int .i64 sp, .string nm, .string na, .string nb] 34)).alloc (Obj.cells #[.string na, .string nb] 9)) (w.heap.size + 1) := h.mine (by omega) (by simp)
  have HW : Hid (Way base p r v u ((w.alloc (Obj.cells #[.int .i64 7, .int .i64 at', .int .i64 id, .int .i64 sp, .string nm, .string na, .string nb] 34)).alloc (Obj.cells #[.string na, .string nb] 9)) L L ((w.alloc (Obj.cells #[.int .i64 7, .int .i64 at', .int .i64 id, .int .i64 sp, .string nm, .string na, .string nb] 34)).alloc (Obj.cells #[.string na, .string nb] 9))) := hide (Way.start (h.later b2))
  have hz : base ≤ ((w.alloc (Obj.cells #[.int .i64 7, .int .i64 at', .int .i64 id, .int .i64 sp, .string nm, .string na, .string nb] 34)).alloc (Obj.cells #[.string na, .string nb] 9)).heap.size := Nat.le_trans hbase b2.size
  have CP : Hid (∀ W, Way base p r v u ((w.alloc (Obj.cells #[.int .i64 7, .int .i64 at', .int .i64 id, .int .i64 sp, .string nm, .string na, .string nb] 34)).alloc (Obj.cells #[.string na, .string nb] 9)) L L W → Calls Try.prog 39 #[ptr p, .string na] W fun e w' => e = .returned (.int .i64 ((offN (impB na) L : Nat) : Int)) ∧ Way base p r v u ((w.alloc (Obj.cells #[.int .i64 7, .int .i64 at', .int .i64 id, .int .i64 sp, .string nm, .string na, .string nb] 34)).alloc (Obj.cells #[.string na, .string nb] 9)) (L.take (L.length - offN (impB na) L)) L w') := hide fun W hW => hW.callP (fun v1 hs h1 => implied_any base p v1 na L W hs (by omega))
  have CR : Hid (∀ W, Way base p r v u ((w.alloc (Obj.cells #[.int .i64 7, .int .i64 at', .int .i64 id, .int .i64 sp, .string nm, .string na, .string nb] 34)).alloc (Obj.cells #[.string na, .string nb] 9)) (L.take (L.length - offN (impB na) L)) L W → Calls Try.prog 47 #[ptr r, .string na] W fun e w' => e = .returned (.int .i64 ((offN (impB na) L : Nat) : Int)) ∧ Way base p r v u ((w.alloc (Obj.cells #[.int .i64 7, .int .i64 at', .int .i64 id, .int .i64 sp, .string nm, .string na, .string nb] 34)).alloc (Obj.cells #[.string na, .string nb] 9)) (L.take (L.length - offN (impB na) L)) (L.take (L.length - offN (impB na) L)) w') := hide fun W hW => hW.callR (fun u1 hs h1 => rimplied_any base r u1 na L W hs (Nat.le_trans hz hW.size) (by omega))
  have CF := hide (fun W => ref_any ⟨id, sp, nm⟩ W)
  have hle : (L.take (L.length - offN (impB na) L)).length ≤ 200 := by rw [List.length_take]; omega
  have HL := hide hle
  have HB2 := hide b2
  have HK := hide (And.intro mX kX)
  have HWd : Hid (Way base p r v u ((w.alloc (Obj.cells #[.int .i64 7, .int .i64 at', .int .i64 id, .int .i64 sp, .string nm, .string na, .string nb] 34)).alloc (Obj.cells #[.string na, .string nb] 9)) L L ((w.alloc (Obj.cells #[.int .i64 7, .int .i64 at', .int .i64 id, .int .i64 sp, .string nm, .string na, .string nb] 34)).alloc (Obj.cells #[.string na, .string nb] 9)).drew) := hide ((unhide HW).later (below_draws _ 1))
  have HS : Hid (BoxS w.heap.size 7 at' id sp nm na nb ((w.alloc (Obj.cells #[.int .i64 7, .int .i64 at', .int .i64 id, .int .i64 sp, .string nm, .string na, .string nb] 34)).alloc (Obj.cells #[.string na, .string nb] 9)).drew) := hide (BoxS.of ((unhide HWd).blk mX kX))
  unfold entV at *
  dsimp only at *
  generalize L.take (L.length - offN (impB na) L) = L2 at *
  generalize offN (impB na) L = N at *
  clear h b2 kX kY mX mY hz hle HW
  unfold ptr stepA at *
  go_enter Try.func11, Try.ntmps11
  go_wp2_with fail
  have hSa := unhide HS
  have HWn := HWd
  refine wp_region_held (S := BoxS w.heap.size 7 at' id sp nm na nb) (by kernel_rfl) ?_
  change wpAnyH _ _ _ _ _ _ _ _ (World.drew _)
  refine wpAnyH_take (i := 0) (oi := { dst := some 102, op := _, type := _, pos := _, after := _, guard := _ }) (v := ?va0) rfl (by kernel_rfl) (by kernel_rfl) (by kernel_rfl) (fun _ _ _ h => h) (Or.inl ⟨by kernel_rfl, ?ha0⟩) hSa ?ra0
  case ha0 => first | (intro w hSw; obtain ⟨s0, s1, s2, s3, s4, s5, s6⟩ := hSw; go_simp; done) | (intro w hSw; obtain ⟨s0, s1, s2, s3, s4, s5, s6⟩ := hSw; go_simp; with_reducible rfl)
  try simp only [Act.put, List.setIfInBounds_toArray, List.set_cons_zero, List.set_cons_succ]
  refine wpAnyH_take (i := 1) (oi := { dst := some 103, op := _, type := _, pos := _, after := _, guard := _ }) (v := ?va1) rfl (by kernel_rfl) (by kernel_rfl) (by kernel_rfl) (fun _ _ _ h => h) (Or.inl ⟨by kernel_rfl, ?ha1⟩) hSa ?ra1
  case ha1 => first | (intro w hSw; obtain ⟨s0, s1, s2, s3, s4, s5, s6⟩ := hSw; go_simp; done) | (intro w hSw; obtain ⟨s0, s1, s2, s3, s4, s5, s6⟩ := hSw; go_simp; with_reducible rfl)
  try simp only [Act.put, List.setIfInBounds_toArray, List.set_cons_zero, List.set_cons_succ]
  refine wpAnyH_take (i := 2) (oi := { dst := some 104, op := _, type := _, pos := _, after := _, guard := _ }) (v := ?va2) rfl (by kernel_rfl) (by kernel_rfl) (by kernel_rfl) (fun _ _ _ h => h) (Or.inl ⟨by kernel_rfl, ?ha2⟩) hSa ?ra2
  case ha2 => first | (intro w hSw; obtain ⟨s0, s1, s2, s3, s4, s5, s6⟩ := hSw; go_simp; done) | (intro w hSw; obtain ⟨s0, s1, s2, s3, s4, s5, s6⟩ := hSw; go_simp; with_reducible rfl)
  try simp only [Act.put, List.setIfInBounds_toArray, List.set_cons_zero, List.set_cons_succ]
  refine wpAnyH_take (i := 4) (oi := { dst := some 106, op := _, type := _, pos := _, after := _, guard := _ }) (v := ?va4) rfl (by kernel_rfl) (by kernel_rfl) (by kernel_rfl) (fun _ _ _ h => h) (Or.inl ⟨by kernel_rfl, ?ha4⟩) hSa ?ra4
  case ha4 => first | (intro w hSw; obtain ⟨s0, s1, s2, s3, s4, s5, s6⟩ := hSw; go_simp; done) | (intro w hSw; obtain ⟨s0, s1, s2, s3, s4, s5, s6⟩ := hSw; go_simp; with_reducible rfl)
  try simp only [Act.put, List.setIfInBounds_toArray, List.set_cons_zero, List.set_cons_succ]
  refine wpAnyH_take (i := 5) (oi := { dst := some 107, op := _, type := _, pos := _, after := _, guard := _ }) (v := ?va5) rfl (by kernel_rfl) (by kernel_rfl) (by kernel_rfl) (fun _ _ _ h => h) (Or.inl ⟨by kernel_rfl, ?ha5⟩) hSa ?ra5
  case ha5 => first | (intro w hSw; obtain ⟨s0, s1, s2, s3, s4, s5, s6⟩ := hSw; go_simp; done) | (intro w hSw; obtain ⟨s0, s1, s2, s3, s4, s5, s6⟩ := hSw; go_simp; with_reducible rfl)
  try simp only [Act.put, List.setIfInBounds_toArray, List.set_cons_zero, List.set_cons_succ]
  refine wpAnyH_take (i := 6) (oi := { dst := some 108, op := _, type := _, pos := _, after := _, guard := _ }) (v := ?va6) rfl (by kernel_rfl) (by kernel_rfl) (by kernel_rfl) (fun _ _ _ h => h) (Or.inl ⟨by kernel_rfl, ?ha6⟩) hSa ?ra6
  case ha6 => first | (intro w hSw; obtain ⟨s0, s1, s2, s3, s4, s5, s6⟩ := hSw; go_simp; done) | (intro w hSw; obtain ⟨s0, s1, s2, s3, s4, s5, s6⟩ := hSw; go_simp; with_reducible rfl)
  try simp only [Act.put, List.setIfInBounds_toArray, List.set_cons_zero, List.set_cons_succ]
  refine wpAnyH_ready (rs := [3]) (by kernel_rfl) (by simp) ?_
  refine AllReadyH.cons rfl (fun K hK => ?_) AllReadyH.nil
  go_simp
  refine (unhide CP _ (unhide HWn)).mono ?_
  rintro e w3 ⟨rfl, hw⟩
  replace HWn := hide hw
  clear hw
  have hSa' := BoxS.of ((unhide HWn).blk (unhide HK).1 (unhide HK).2)
  refine hK _ _ hSa' (fun _ => ?_)
  clear hK K hSa
  have hSa := hSa'
  clear hSa'
  refine wpAnyH_ready (rs := [7]) (by kernel_rfl) (by simp) ?_
  refine AllReadyH.cons rfl (fun K hK => ?_) AllReadyH.nil
  go_simp
  refine (unhide CR _ (unhide HWn)).mono ?_
  rintro e w4 ⟨rfl, hw⟩
  replace HWn := hide hw
  clear hw
  have hSa' := BoxS.of ((unhide HWn).blk (unhide HK).1 (unhide HK).2)
  refine hK _ _ hSa' (fun _ => ?_)
  clear hK K hSa
  have hSa := hSa'
  clear hSa'
  refine wpAnyH_take (i := 8) (oi := { dst := some 110, op := _, type := _, pos := _, after := _, guard := _ }) (v := ?va8_3_7) rfl (by kernel_rfl) (by kernel_rfl) (by kernel_rfl) (fun _ _ _ h => h) (Or.inl ⟨by kernel_rfl, ?ha8_3_7⟩) hSa ?ra8_3_7
  case ha8_3_7 => first | (intro w hSw; obtain ⟨s0, s1, s2, s3, s4, s5, s6⟩ := hSw; go_simp; done) | (intro w hSw; obtain ⟨s0, s1, s2, s3, s4, s5, s6⟩ := hSw; go_simp; with_reducible rfl)
  try simp only [Act.put, List.setIfInBounds_toArray, List.set_cons_zero, List.set_cons_succ]
  refine wpAnyH_take (i := 9) (oi := { dst := some 6, op := _, type := _, pos := _, after := _, guard := _ }) (v := ?va9_3_7) rfl (by kernel_rfl) (by kernel_rfl) (by kernel_rfl) (fun _ _ _ h => h) (Or.inl ⟨by kernel_rfl, ?ha9_3_7⟩) hSa ?ra9_3_7
  case ha9_3_7 => first | (intro w hSw; obtain ⟨s0, s1, s2, s3, s4, s5, s6⟩ := hSw; go_simp; done) | (intro w hSw; obtain ⟨s0, s1, s2, s3, s4, s5, s6⟩ := hSw; go_simp; with_reducible rfl)
  try simp only [Act.put, List.setIfInBounds_toArray, List.set_cons_zero, List.set_cons_succ]
  refine wpAnyH_done (by kernel_rfl) ?_ _
  clear hSa HS
  go_wp2
  go_ret
  exact ⟨rfl, _, unhide HL, (unhide HWn).ahead (unhide HB2)⟩
set_option maxHeartbeats 8000000 in
set_option maxRecDepth 100000 in
theorem does_remove (base p r : Nat) (v u : Value) (at' id sp : Int) (nm na nb : ByteArray) (L : List Ent) (w : World) (h : TwoR base p v L r u L w) (hbase : base ≤ w.heap.size) (hN : L.length ≤ 200) :
    Calls Try.prog 11 #[ptr p, ptr r, .agg (stepA 8 at' id sp nm na nb)] w (DoesSaid base p r v u w) := by
  have b2 : Below w.heap.size w ((w.alloc (Obj.cells #[.int .i64 8, .int .i64 at', .int .i64 id, .int .i64 sp, .string nm, .string na, .string nb] 34)).alloc (Obj.cells #[.string na, .string nb] 9)) := (((Below.refl _ _).alloc (Nat.le_refl _) _).alloc (by simp) _)
  have kX : Blk ((w.alloc (Obj.cells #[.int .i64 8, .int .i64 at', .int .i64 id, .int .i64 sp, .string nm, .string na, .string nb] 34)).alloc (Obj.cells #[.string na, .string nb] 9)) w.heap.size (stepA 8 at' id sp nm na nb) 34 := ((Blk.new w _ _).alloc _)
  have kY : Blk ((w.alloc (Obj.cells #[.int .i64 8, .int .i64 at', .int .i64 id, .int .i64 sp, .string nm, .string na, .string nb] 34)).alloc (Obj.cells #[.string na, .string nb] 9)) (w.heap.size + 1) #[.string na, .string nb] 9 := Eq.mp (by simp) (Blk.new (w.alloc (Obj.cells #[.int .i64 8, .int .i64 at', .int .i64 id, .int .i64 sp, .string nm, .string na, .string nb] 34)) #[.string na, .string nb] 9)
  have mX : Mine p r v u ((w.alloc (Obj.cells #[.int .i64 8, .int .i64 at', .int .i64 id, .int .i64 sp, .string nm, .string na, .string nb] 34)).alloc (Obj.cells #[.string na, .string nb] 9)) w.heap.size := h.mine (Nat.le_refl _) (by simp; try omega)
  have mY : Mine p r v u ((w.alloc (Obj.cells #[.int .i64 8, .int .i64 at', .int .i64 id, .int .i64 sp, .string nm, .string na, .string nb] 34)).alloc (Obj.cells #[.string na, .string nb] 9)) (w.heap.size + 1) := h.mine (by omega) (by simp)
  have HW : Hid (Way base p r v u ((w.alloc (Obj.cells #[.int .i64 8, .int .i64 at', .int .i64 id, .int .i64 sp, .string nm, .string na, .string nb] 34)).alloc (Obj.cells #[.string na, .string nb] 9)) L L ((w.alloc (Obj.cells #[.int .i64 8, .int .i64 at', .int .i64 id, .int .i64 sp, .string nm, .string na, .string nb] 34)).alloc (Obj.cells #[.string na, .string nb] 9))) := hide (Way.start (h.later b2))
  have hz : base ≤ ((w.alloc (Obj.cells #[.int .i64 8, .int .i64 at', .int .i64 id, .int .i64 sp, .string nm, .string na, .string nb] 34)).alloc (Obj.cells #[.string na, .string nb] 9)).heap.size := Nat.le_trans hbase b2.size
  have CP : Hid (∀ W, Way base p r v u ((w.alloc (Obj.cells #[.int .i64 8, .int .i64 at', .int .i64 id, .int .i64 sp, .string nm, .string na, .string nb] 34)).alloc (Obj.cells #[.string na, .string nb] 9)) L L W → Calls Try.prog 48 #[ptr p, .int .i64 id] W fun e w' => e = .returned (.bool (decide (0 ≤ findE id L))) ∧ Way base p r v u ((w.alloc (Obj.cells #[.int .i64 8, .int .i64 at', .int .i64 id, .int .i64 sp, .string nm, .string na, .string nb] 34)).alloc (Obj.cells #[.string na, .string nb] 9)) (if 0 ≤ findE id L then L.eraseIdx (findE id L).toNat else L) L w') := hide fun W hW => hW.callP (fun v1 hs h1 => remove_any base p v1 id L W hs)
  have CR : Hid (∀ W, Way base p r v u ((w.alloc (Obj.cells #[.int .i64 8, .int .i64 at', .int .i64 id, .int .i64 sp, .string nm, .string na, .string nb] 34)).alloc (Obj.cells #[.string na, .string nb] 9)) (if 0 ≤ findE id L then L.eraseIdx (findE id L).toNat else L) L W → Calls Try.prog 49 #[ptr r, .int .i64 id] W fun e w' => e = .returned (.bool (decide (0 ≤ findE id L))) ∧ Way base p r v u ((w.alloc (Obj.cells #[.int .i64 8, .int .i64 at', .int .i64 id, .int .i64 sp, .string nm, .string na, .string nb] 34)).alloc (Obj.cells #[.string na, .string nb] 9)) (if 0 ≤ findE id L then L.eraseIdx (findE id L).toNat else L) (if 0 ≤ findE id L then L.eraseIdx (findE id L).toNat else L) w') := hide fun W hW => hW.callR (fun u1 hs h1 => rremove_any base r u1 id L W hs (Nat.le_trans hz hW.size) (by omega))
  have CF := hide (fun W => ref_any ⟨id, sp, nm⟩ W)
  have hle : (if 0 ≤ findE id L then L.eraseIdx (findE id L).toNat else L).length ≤ 200 := by split <;> first | exact hN | (have := List.length_eraseIdx_le L (findE id L).toNat; omega)
  have HL := hide hle
  have HB2 := hide b2
  have HK := hide (And.intro mX kX)
  have HWd : Hid (Way base p r v u ((w.alloc (Obj.cells #[.int .i64 8, .int .i64 at', .int .i64 id, .int .i64 sp, .string nm, .string na, .string nb] 34)).alloc (Obj.cells #[.string na, .string nb] 9)) L L ((w.alloc (Obj.cells #[.int .i64 8, .int .i64 at', .int .i64 id, .int .i64 sp, .string nm, .string na, .string nb] 34)).alloc (Obj.cells #[.string na, .string nb] 9)).drew) := hide ((unhide HW).later (below_draws _ 1))
  have HS : Hid (BoxS w.heap.size 8 at' id sp nm na nb ((w.alloc (Obj.cells #[.int .i64 8, .int .i64 at', .int .i64 id, .int .i64 sp, .string nm, .string na, .string nb] 34)).alloc (Obj.cells #[.string na, .string nb] 9)).drew) := hide (BoxS.of ((unhide HWd).blk mX kX))
  unfold entV at *
  dsimp only at *
  generalize (if 0 ≤ findE id L then L.eraseIdx (findE id L).toNat else L) = L2 at *
  generalize decide (0 ≤ findE id L) = N at *
  clear h b2 kX kY mX mY hz hle HW
  unfold ptr stepA at *
  go_enter Try.func11, Try.ntmps11
  go_wp2_with fail
  have hSa := unhide HS
  have HWn := HWd
  refine wp_region_held (S := BoxS w.heap.size 8 at' id sp nm na nb) (by kernel_rfl) ?_
  change wpAnyH _ _ _ _ _ _ _ _ (World.drew _)
  refine wpAnyH_take (i := 0) (oi := { dst := some 113, op := _, type := _, pos := _, after := _, guard := _ }) (v := ?va0) rfl (by kernel_rfl) (by kernel_rfl) (by kernel_rfl) (fun _ _ _ h => h) (Or.inl ⟨by kernel_rfl, ?ha0⟩) hSa ?ra0
  case ha0 => first | (intro w hSw; obtain ⟨s0, s1, s2, s3, s4, s5, s6⟩ := hSw; go_simp; done) | (intro w hSw; obtain ⟨s0, s1, s2, s3, s4, s5, s6⟩ := hSw; go_simp; with_reducible rfl)
  try simp only [Act.put, List.setIfInBounds_toArray, List.set_cons_zero, List.set_cons_succ]
  refine wpAnyH_take (i := 1) (oi := { dst := some 114, op := _, type := _, pos := _, after := _, guard := _ }) (v := ?va1) rfl (by kernel_rfl) (by kernel_rfl) (by kernel_rfl) (fun _ _ _ h => h) (Or.inl ⟨by kernel_rfl, ?ha1⟩) hSa ?ra1
  case ha1 => first | (intro w hSw; obtain ⟨s0, s1, s2, s3, s4, s5, s6⟩ := hSw; go_simp; done) | (intro w hSw; obtain ⟨s0, s1, s2, s3, s4, s5, s6⟩ := hSw; go_simp; with_reducible rfl)
  try simp only [Act.put, List.setIfInBounds_toArray, List.set_cons_zero, List.set_cons_succ]
  refine wpAnyH_take (i := 2) (oi := { dst := some 115, op := _, type := _, pos := _, after := _, guard := _ }) (v := ?va2) rfl (by kernel_rfl) (by kernel_rfl) (by kernel_rfl) (fun _ _ _ h => h) (Or.inl ⟨by kernel_rfl, ?ha2⟩) hSa ?ra2
  case ha2 => first | (intro w hSw; obtain ⟨s0, s1, s2, s3, s4, s5, s6⟩ := hSw; go_simp; done) | (intro w hSw; obtain ⟨s0, s1, s2, s3, s4, s5, s6⟩ := hSw; go_simp; with_reducible rfl)
  try simp only [Act.put, List.setIfInBounds_toArray, List.set_cons_zero, List.set_cons_succ]
  refine wpAnyH_take (i := 3) (oi := { dst := some 116, op := _, type := _, pos := _, after := _, guard := _ }) (v := ?va3) rfl (by kernel_rfl) (by kernel_rfl) (by kernel_rfl) (fun _ _ _ h => h) (Or.inl ⟨by kernel_rfl, ?ha3⟩) hSa ?ra3
  case ha3 => first | (intro w hSw; obtain ⟨s0, s1, s2, s3, s4, s5, s6⟩ := hSw; go_simp; done) | (intro w hSw; obtain ⟨s0, s1, s2, s3, s4, s5, s6⟩ := hSw; go_simp; with_reducible rfl)
  try simp only [Act.put, List.setIfInBounds_toArray, List.set_cons_zero, List.set_cons_succ]
  refine wpAnyH_take (i := 5) (oi := { dst := some 118, op := _, type := _, pos := _, after := _, guard := _ }) (v := ?va5) rfl (by kernel_rfl) (by kernel_rfl) (by kernel_rfl) (fun _ _ _ h => h) (Or.inl ⟨by kernel_rfl, ?ha5⟩) hSa ?ra5
  case ha5 => first | (intro w hSw; obtain ⟨s0, s1, s2, s3, s4, s5, s6⟩ := hSw; go_simp; done) | (intro w hSw; obtain ⟨s0, s1, s2, s3, s4, s5, s6⟩ := hSw; go_simp; with_reducible rfl)
  try simp only [Act.put, List.setIfInBounds_toArray, List.set_cons_zero, List.set_cons_succ]
  refine wpAnyH_take (i := 6) (oi := { dst := some 119, op := _, type := _, pos := _, after := _, guard := _ }) (v := ?va6) rfl (by kernel_rfl) (by kernel_rfl) (by kernel_rfl) (fun _ _ _ h => h) (Or.inl ⟨by kernel_rfl, ?ha6⟩) hSa ?ra6
  case ha6 => first | (intro w hSw; obtain ⟨s0, s1, s2, s3, s4, s5, s6⟩ := hSw; go_simp; done) | (intro w hSw; obtain ⟨s0, s1, s2, s3, s4, s5, s6⟩ := hSw; go_simp; with_reducible rfl)
  try simp only [Act.put, List.setIfInBounds_toArray, List.set_cons_zero, List.set_cons_succ]
  refine wpAnyH_take (i := 7) (oi := { dst := some 120, op := _, type := _, pos := _, after := _, guard := _ }) (v := ?va7) rfl (by kernel_rfl) (by kernel_rfl) (by kernel_rfl) (fun _ _ _ h => h) (Or.inl ⟨by kernel_rfl, ?ha7⟩) hSa ?ra7
  case ha7 => first | (intro w hSw; obtain ⟨s0, s1, s2, s3, s4, s5, s6⟩ := hSw; go_simp; done) | (intro w hSw; obtain ⟨s0, s1, s2, s3, s4, s5, s6⟩ := hSw; go_simp; with_reducible rfl)
  try simp only [Act.put, List.setIfInBounds_toArray, List.set_cons_zero, List.set_cons_succ]
  refine wpAnyH_take (i := 8) (oi := { dst := some 121, op := _, type := _, pos := _, after := _, guard := _ }) (v := ?va8) rfl (by kernel_rfl) (by kernel_rfl) (by kernel_rfl) (fun _ _ _ h => h) (Or.inl ⟨by kernel_rfl, ?ha8⟩) hSa ?ra8
  case ha8 => first | (intro w hSw; obtain ⟨s0, s1, s2, s3, s4, s5, s6⟩ := hSw; go_simp; done) | (intro w hSw; obtain ⟨s0, s1, s2, s3, s4, s5, s6⟩ := hSw; go_simp; with_reducible rfl)
  try simp only [Act.put, List.setIfInBounds_toArray, List.set_cons_zero, List.set_cons_succ]
  refine wpAnyH_ready (rs := [4]) (by kernel_rfl) (by simp) ?_
  refine AllReadyH.cons rfl (fun K hK => ?_) AllReadyH.nil
  go_simp
  refine (unhide CP _ (unhide HWn)).mono ?_
  rintro e w3 ⟨rfl, hw⟩
  replace HWn := hide hw
  clear hw
  have hSa' := BoxS.of ((unhide HWn).blk (unhide HK).1 (unhide HK).2)
  refine hK _ _ hSa' (fun _ => ?_)
  clear hK K hSa
  have hSa := hSa'
  clear hSa'
  refine wpAnyH_ready (rs := [9]) (by kernel_rfl) (by simp) ?_
  refine AllReadyH.cons rfl (fun K hK => ?_) AllReadyH.nil
  go_simp
  refine (unhide CR _ (unhide HWn)).mono ?_
  rintro e w4 ⟨rfl, hw⟩
  replace HWn := hide hw
  clear hw
  have hSa' := BoxS.of ((unhide HWn).blk (unhide HK).1 (unhide HK).2)
  refine hK _ _ hSa' (fun _ => ?_)
  clear hK K hSa
  have hSa := hSa'
  clear hSa'
  refine wpAnyH_take (i := 10) (oi := { dst := some 123, op := _, type := _, pos := _, after := _, guard := _ }) (v := ?va10_4_9) rfl (by kernel_rfl) (by kernel_rfl) (by kernel_rfl) (fun _ _ _ h => h) (Or.inl ⟨by kernel_rfl, ?ha10_4_9⟩) hSa ?ra10_4_9
  case ha10_4_9 => first | (intro w hSw; obtain ⟨s0, s1, s2, s3, s4, s5, s6⟩ := hSw; go_simp; done) | (intro w hSw; obtain ⟨s0, s1, s2, s3, s4, s5, s6⟩ := hSw; go_simp; with_reducible rfl)
  try simp only [Act.put, List.setIfInBounds_toArray, List.set_cons_zero, List.set_cons_succ]
  refine wpAnyH_take (i := 11) (oi := { dst := some 6, op := _, type := _, pos := _, after := _, guard := _ }) (v := ?va11_4_9) rfl (by kernel_rfl) (by kernel_rfl) (by kernel_rfl) (fun _ _ _ h => h) (Or.inl ⟨by kernel_rfl, ?ha11_4_9⟩) hSa ?ra11_4_9
  case ha11_4_9 => first | (intro w hSw; obtain ⟨s0, s1, s2, s3, s4, s5, s6⟩ := hSw; go_simp; done) | (intro w hSw; obtain ⟨s0, s1, s2, s3, s4, s5, s6⟩ := hSw; go_simp; with_reducible rfl)
  try simp only [Act.put, List.setIfInBounds_toArray, List.set_cons_zero, List.set_cons_succ]
  refine wpAnyH_done (by kernel_rfl) ?_ _
  clear hSa HS
  go_wp2
  go_ret
  exact ⟨rfl, _, unhide HL, (unhide HWn).ahead (unhide HB2)⟩
set_option maxHeartbeats 8000000 in
set_option maxRecDepth 100000 in
theorem does_insert (base p r : Nat) (v u : Value) (at' id sp : Int) (nm na nb : ByteArray) (L : List Ent) (w : World) (h : TwoR base p v L r u L w) (hbase : base ≤ w.heap.size) (hN : L.length ≤ 200) :
    Calls Try.prog 11 #[ptr p, ptr r, .agg (stepA 9 at' id sp nm na nb)] w (DoesSaid base p r v u w) := by
  have b2 : Below w.heap.size w ((w.alloc (Obj.cells #[.int .i64 9, .int .i64 at', .int .i64 id, .int .i64 sp, .string nm, .string na, .string nb] 34)).alloc (Obj.cells #[.string na, .string nb] 9)) := (((Below.refl _ _).alloc (Nat.le_refl _) _).alloc (by simp) _)
  have kX : Blk ((w.alloc (Obj.cells #[.int .i64 9, .int .i64 at', .int .i64 id, .int .i64 sp, .string nm, .string na, .string nb] 34)).alloc (Obj.cells #[.string na, .string nb] 9)) w.heap.size (stepA 9 at' id sp nm na nb) 34 := ((Blk.new w _ _).alloc _)
  have kY : Blk ((w.alloc (Obj.cells #[.int .i64 9, .int .i64 at', .int .i64 id, .int .i64 sp, .string nm, .string na, .string nb] 34)).alloc (Obj.cells #[.string na, .string nb] 9)) (w.heap.size + 1) #[.string na, .string nb] 9 := Eq.mp (by simp) (Blk.new (w.alloc (Obj.cells #[.int .i64 9, .int .i64 at', .int .i64 id, .int .i64 sp, .string nm, .string na, .string nb] 34)) #[.string na, .string nb] 9)
  have mX : Mine p r v u ((w.alloc (Obj.cells #[.int .i64 9, .int .i64 at', .int .i64 id, .int .i64 sp, .string nm, .string na, .string nb] 34)).alloc (Obj.cells #[.string na, .string nb] 9)) w.heap.size := h.mine (Nat.le_refl _) (by simp; try omega)
  have mY : Mine p r v u ((w.alloc (Obj.cells #[.int .i64 9, .int .i64 at', .int .i64 id, .int .i64 sp, .string nm, .string na, .string nb] 34)).alloc (Obj.cells #[.string na, .string nb] 9)) (w.heap.size + 1) := h.mine (by omega) (by simp)
  have HW : Hid (Way base p r v u ((w.alloc (Obj.cells #[.int .i64 9, .int .i64 at', .int .i64 id, .int .i64 sp, .string nm, .string na, .string nb] 34)).alloc (Obj.cells #[.string na, .string nb] 9)) L L ((w.alloc (Obj.cells #[.int .i64 9, .int .i64 at', .int .i64 id, .int .i64 sp, .string nm, .string na, .string nb] 34)).alloc (Obj.cells #[.string na, .string nb] 9))) := hide (Way.start (h.later b2))
  have hz : base ≤ ((w.alloc (Obj.cells #[.int .i64 9, .int .i64 at', .int .i64 id, .int .i64 sp, .string nm, .string na, .string nb] 34)).alloc (Obj.cells #[.string na, .string nb] 9)).heap.size := Nat.le_trans hbase b2.size
  have CP : Hid (∀ W, Way base p r v u ((w.alloc (Obj.cells #[.int .i64 9, .int .i64 at', .int .i64 id, .int .i64 sp, .string nm, .string na, .string nb] 34)).alloc (Obj.cells #[.string na, .string nb] 9)) L L W → Calls Try.prog 37 #[ptr p, .int .i64 at', entV ⟨id, sp, nm⟩] W fun e w' => e = .returned (.int .i64 (insE at' L.length)) ∧ Way base p r v u ((w.alloc (Obj.cells #[.int .i64 9, .int .i64 at', .int .i64 id, .int .i64 sp, .string nm, .string na, .string nb] 34)).alloc (Obj.cells #[.string na, .string nb] 9)) (insL at' ⟨id, sp, nm⟩ L) L w') := hide fun W hW => hW.callP (fun v1 hs h1 => insert_any base p v1 at' ⟨id, sp, nm⟩ L W hs (Nat.le_trans hz hW.size))
  have CR : Hid (∀ W, Way base p r v u ((w.alloc (Obj.cells #[.int .i64 9, .int .i64 at', .int .i64 id, .int .i64 sp, .string nm, .string na, .string nb] 34)).alloc (Obj.cells #[.string na, .string nb] 9)) (insL at' ⟨id, sp, nm⟩ L) L W → Calls Try.prog 40 #[ptr r, .int .i64 at', entV ⟨id, sp, nm⟩] W fun e w' => e = .returned (.int .i64 (insE at' L.length)) ∧ Way base p r v u ((w.alloc (Obj.cells #[.int .i64 9, .int .i64 at', .int .i64 id, .int .i64 sp, .string nm, .string na, .string nb] 34)).alloc (Obj.cells #[.string na, .string nb] 9)) (insL at' ⟨id, sp, nm⟩ L) (insL at' ⟨id, sp, nm⟩ L) w') := hide fun W hW => hW.callR (fun u1 hs h1 => rinsert_any base r u1 at' ⟨id, sp, nm⟩ L W hs (Nat.le_trans hz hW.size))
  have CF := hide (fun W => ref_any ⟨id, sp, nm⟩ W)
  have hle : (insL at' ⟨id, sp, nm⟩ L).length ≤ 200 := by exact insL_le _ _ _ hN
  have HL := hide hle
  have HB2 := hide b2
  have HK := hide (And.intro mX kX)
  have HWd : Hid (Way base p r v u ((w.alloc (Obj.cells #[.int .i64 9, .int .i64 at', .int .i64 id, .int .i64 sp, .string nm, .string na, .string nb] 34)).alloc (Obj.cells #[.string na, .string nb] 9)) L L ((w.alloc (Obj.cells #[.int .i64 9, .int .i64 at', .int .i64 id, .int .i64 sp, .string nm, .string na, .string nb] 34)).alloc (Obj.cells #[.string na, .string nb] 9)).drew) := hide ((unhide HW).later (below_draws _ 1))
  have HS : Hid (BoxS w.heap.size 9 at' id sp nm na nb ((w.alloc (Obj.cells #[.int .i64 9, .int .i64 at', .int .i64 id, .int .i64 sp, .string nm, .string na, .string nb] 34)).alloc (Obj.cells #[.string na, .string nb] 9)).drew) := hide (BoxS.of ((unhide HWd).blk mX kX))
  unfold entV at *
  dsimp only at *
  generalize insL at' ⟨id, sp, nm⟩ L = L2 at *
  generalize insE at' L.length = N at *
  clear h b2 kX kY mX mY hz hle HW
  unfold ptr stepA at *
  go_enter Try.func11, Try.ntmps11
  go_wp2_with fail
  have hSa := unhide HS
  have HWn := HWd
  refine wp_region_held (S := BoxS w.heap.size 9 at' id sp nm na nb) (by kernel_rfl) ?_
  change wpAnyH _ _ _ _ _ _ _ _ (World.drew _)
  refine wpAnyH_take (i := 0) (oi := { dst := some 126, op := _, type := _, pos := _, after := _, guard := _ }) (v := ?va0) rfl (by kernel_rfl) (by kernel_rfl) (by kernel_rfl) (fun _ _ _ h => h) (Or.inl ⟨by kernel_rfl, ?ha0⟩) hSa ?ra0
  case ha0 => first | (intro w hSw; obtain ⟨s0, s1, s2, s3, s4, s5, s6⟩ := hSw; go_simp; done) | (intro w hSw; obtain ⟨s0, s1, s2, s3, s4, s5, s6⟩ := hSw; go_simp; with_reducible rfl)
  try simp only [Act.put, List.setIfInBounds_toArray, List.set_cons_zero, List.set_cons_succ]
  refine wpAnyH_take (i := 1) (oi := { dst := some 127, op := _, type := _, pos := _, after := _, guard := _ }) (v := ?va1) rfl (by kernel_rfl) (by kernel_rfl) (by kernel_rfl) (fun _ _ _ h => h) (Or.inl ⟨by kernel_rfl, ?ha1⟩) hSa ?ra1
  case ha1 => first | (intro w hSw; obtain ⟨s0, s1, s2, s3, s4, s5, s6⟩ := hSw; go_simp; done) | (intro w hSw; obtain ⟨s0, s1, s2, s3, s4, s5, s6⟩ := hSw; go_simp; with_reducible rfl)
  try simp only [Act.put, List.setIfInBounds_toArray, List.set_cons_zero, List.set_cons_succ]
  refine wpAnyH_take (i := 2) (oi := { dst := some 128, op := _, type := _, pos := _, after := _, guard := _ }) (v := ?va2) rfl (by kernel_rfl) (by kernel_rfl) (by kernel_rfl) (fun _ _ _ h => h) (Or.inl ⟨by kernel_rfl, ?ha2⟩) hSa ?ra2
  case ha2 => first | (intro w hSw; obtain ⟨s0, s1, s2, s3, s4, s5, s6⟩ := hSw; go_simp; done) | (intro w hSw; obtain ⟨s0, s1, s2, s3, s4, s5, s6⟩ := hSw; go_simp; with_reducible rfl)
  try simp only [Act.put, List.setIfInBounds_toArray, List.set_cons_zero, List.set_cons_succ]
  refine wpAnyH_take (i := 3) (oi := { dst := some 129, op := _, type := _, pos := _, after := _, guard := _ }) (v := ?va3) rfl (by kernel_rfl) (by kernel_rfl) (by kernel_rfl) (fun _ _ _ h => h) (Or.inl ⟨by kernel_rfl, ?ha3⟩) hSa ?ra3
  case ha3 => first | (intro w hSw; obtain ⟨s0, s1, s2, s3, s4, s5, s6⟩ := hSw; go_simp; done) | (intro w hSw; obtain ⟨s0, s1, s2, s3, s4, s5, s6⟩ := hSw; go_simp; with_reducible rfl)
  try simp only [Act.put, List.setIfInBounds_toArray, List.set_cons_zero, List.set_cons_succ]
  refine wpAnyH_take (i := 4) (oi := { dst := some 130, op := _, type := _, pos := _, after := _, guard := _ }) (v := ?va4) rfl (by kernel_rfl) (by kernel_rfl) (by kernel_rfl) (fun _ _ _ h => h) (Or.inl ⟨by kernel_rfl, ?ha4⟩) hSa ?ra4
  case ha4 => first | (intro w hSw; obtain ⟨s0, s1, s2, s3, s4, s5, s6⟩ := hSw; go_simp; done) | (intro w hSw; obtain ⟨s0, s1, s2, s3, s4, s5, s6⟩ := hSw; go_simp; with_reducible rfl)
  try simp only [Act.put, List.setIfInBounds_toArray, List.set_cons_zero, List.set_cons_succ]
  refine wpAnyH_take (i := 6) (oi := { dst := some 132, op := _, type := _, pos := _, after := _, guard := _ }) (v := ?va6) rfl (by kernel_rfl) (by kernel_rfl) (by kernel_rfl) (fun _ _ _ h => h) (Or.inl ⟨by kernel_rfl, ?ha6⟩) hSa ?ra6
  case ha6 => first | (intro w hSw; obtain ⟨s0, s1, s2, s3, s4, s5, s6⟩ := hSw; go_simp; done) | (intro w hSw; obtain ⟨s0, s1, s2, s3, s4, s5, s6⟩ := hSw; go_simp; with_reducible rfl)
  try simp only [Act.put, List.setIfInBounds_toArray, List.set_cons_zero, List.set_cons_succ]
  refine wpAnyH_take (i := 7) (oi := { dst := some 133, op := _, type := _, pos := _, after := _, guard := _ }) (v := ?va7) rfl (by kernel_rfl) (by kernel_rfl) (by kernel_rfl) (fun _ _ _ h => h) (Or.inl ⟨by kernel_rfl, ?ha7⟩) hSa ?ra7
  case ha7 => first | (intro w hSw; obtain ⟨s0, s1, s2, s3, s4, s5, s6⟩ := hSw; go_simp; done) | (intro w hSw; obtain ⟨s0, s1, s2, s3, s4, s5, s6⟩ := hSw; go_simp; with_reducible rfl)
  try simp only [Act.put, List.setIfInBounds_toArray, List.set_cons_zero, List.set_cons_succ]
  refine wpAnyH_take (i := 8) (oi := { dst := some 134, op := _, type := _, pos := _, after := _, guard := _ }) (v := ?va8) rfl (by kernel_rfl) (by kernel_rfl) (by kernel_rfl) (fun _ _ _ h => h) (Or.inl ⟨by kernel_rfl, ?ha8⟩) hSa ?ra8
  case ha8 => first | (intro w hSw; obtain ⟨s0, s1, s2, s3, s4, s5, s6⟩ := hSw; go_simp; done) | (intro w hSw; obtain ⟨s0, s1, s2, s3, s4, s5, s6⟩ := hSw; go_simp; with_reducible rfl)
  try simp only [Act.put, List.setIfInBounds_toArray, List.set_cons_zero, List.set_cons_succ]
  refine wpAnyH_take (i := 9) (oi := { dst := some 135, op := _, type := _, pos := _, after := _, guard := _ }) (v := ?va9) rfl (by kernel_rfl) (by kernel_rfl) (by kernel_rfl) (fun _ _ _ h => h) (Or.inl ⟨by kernel_rfl, ?ha9⟩) hSa ?ra9
  case ha9 => first | (intro w hSw; obtain ⟨s0, s1, s2, s3, s4, s5, s6⟩ := hSw; go_simp; done) | (intro w hSw; obtain ⟨s0, s1, s2, s3, s4, s5, s6⟩ := hSw; go_simp; with_reducible rfl)
  try simp only [Act.put, List.setIfInBounds_toArray, List.set_cons_zero, List.set_cons_succ]
  refine wpAnyH_take (i := 10) (oi := { dst := some 136, op := _, type := _, pos := _, after := _, guard := _ }) (v := ?va10) rfl (by kernel_rfl) (by kernel_rfl) (by kernel_rfl) (fun _ _ _ h => h) (Or.inl ⟨by kernel_rfl, ?ha10⟩) hSa ?ra10
  case ha10 => first | (intro w hSw; obtain ⟨s0, s1, s2, s3, s4, s5, s6⟩ := hSw; go_simp; done) | (intro w hSw; obtain ⟨s0, s1, s2, s3, s4, s5, s6⟩ := hSw; go_simp; with_reducible rfl)
  try simp only [Act.put, List.setIfInBounds_toArray, List.set_cons_zero, List.set_cons_succ]
  refine wpAnyH_ready (rs := [5]) (by kernel_rfl) (by simp) ?_
  refine AllReadyH.cons rfl (fun K hK => ?_) AllReadyH.nil
  go_simp
  refine (unhide CP _ (unhide HWn)).mono ?_
  rintro e w3 ⟨rfl, hw⟩
  replace HWn := hide hw
  clear hw
  have hSa' := BoxS.of ((unhide HWn).blk (unhide HK).1 (unhide HK).2)
  refine hK _ _ hSa' (fun _ => ?_)
  clear hK K hSa
  have hSa := hSa'
  clear hSa'
  refine wpAnyH_ready (rs := [11]) (by kernel_rfl) (by simp) ?_
  refine AllReadyH.cons rfl (fun K hK => ?_) AllReadyH.nil
  go_simp
  refine (unhide CF _).mono ?_
  rintro e w4 ⟨rfl, hb⟩
  replace HWn := hide ((unhide HWn).later hb)
  clear hb
  have hSa' := BoxS.of ((unhide HWn).blk (unhide HK).1 (unhide HK).2)
  refine hK _ _ hSa' (fun _ => ?_)
  clear hK K hSa
  have hSa := hSa'
  clear hSa'
  refine wpAnyH_ready (rs := [12]) (by kernel_rfl) (by simp) ?_
  refine AllReadyH.cons rfl (fun K hK => ?_) AllReadyH.nil
  go_simp
  refine (unhide CR _ (unhide HWn)).mono ?_
  rintro e w5 ⟨rfl, hw⟩
  replace HWn := hide hw
  clear hw
  have hSa' := BoxS.of ((unhide HWn).blk (unhide HK).1 (unhide HK).2)
  refine hK _ _ hSa' (fun _ => ?_)
  clear hK K hSa
  have hSa := hSa'
  clear hSa'
  refine wpAnyH_take (i := 13) (oi := { dst := some 139, op := _, type := _, pos := _, after := _, guard := _ }) (v := ?va13_5_11_12) rfl (by kernel_rfl) (by kernel_rfl) (by kernel_rfl) (fun _ _ _ h => h) (Or.inl ⟨by kernel_rfl, ?ha13_5_11_12⟩) hSa ?ra13_5_11_12
  case ha13_5_11_12 => first | (intro w hSw; obtain ⟨s0, s1, s2, s3, s4, s5, s6⟩ := hSw; go_simp; done) | (intro w hSw; obtain ⟨s0, s1, s2, s3, s4, s5, s6⟩ := hSw; go_simp; with_reducible rfl)
  try simp only [Act.put, List.setIfInBounds_toArray, List.set_cons_zero, List.set_cons_succ]
  refine wpAnyH_take (i := 14) (oi := { dst := some 6, op := _, type := _, pos := _, after := _, guard := _ }) (v := ?va14_5_11_12) rfl (by kernel_rfl) (by kernel_rfl) (by kernel_rfl) (fun _ _ _ h => h) (Or.inl ⟨by kernel_rfl, ?ha14_5_11_12⟩) hSa ?ra14_5_11_12
  case ha14_5_11_12 => first | (intro w hSw; obtain ⟨s0, s1, s2, s3, s4, s5, s6⟩ := hSw; go_simp; done) | (intro w hSw; obtain ⟨s0, s1, s2, s3, s4, s5, s6⟩ := hSw; go_simp; with_reducible rfl)
  try simp only [Act.put, List.setIfInBounds_toArray, List.set_cons_zero, List.set_cons_succ]
  refine wpAnyH_done (by kernel_rfl) ?_ _
  clear hSa HS
  go_wp2
  go_ret
  exact ⟨rfl, _, unhide HL, (unhide HWn).ahead (unhide HB2)⟩
end Go.Proofs.Ytdkjdomacilagaa
