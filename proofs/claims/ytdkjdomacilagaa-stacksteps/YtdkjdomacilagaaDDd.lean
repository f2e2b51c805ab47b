/-
  The walk of a step: Push.
-/
import Derived.Test.YtdkjdomacilagaaDDa
namespace Go.Proofs.Ytdkjdomacilagaa
open Go.RowKit
set_option linter.unusedVariables false
set_option linter.unusedSimpArgs false

set_option maxHeartbeats 8000000 in
set_option maxRecDepth 100000 in
theorem does_push0 (base p r : Nat) (v u : Value) (at' id sp : Int) (nm na nb : ByteArray) (L : List Ent) (w : World) (h : TwoR base p v L r u L w) (hbase : base ≤ w.heap.size) (hN : L.length ≤ 200) :
    Calls Try.prog 11 #[ptr p, ptr r, .agg (stepA 0 at' id sp nm na nb)] w (DoesSaid base p r v u w) := by
  have b2 : Below w.heap.size w ((w.alloc (Obj.cells #[.int .i64 0, .int .i64 at', .int .i64 id, .int .i64 sp, .string nm, .string na, .string nb] 34)).alloc (Obj.cells #[.string na, .string nb] 9)) := (((Below.refl _ _).alloc (Nat.le_refl _) _).alloc (by simp) _)
  have kX : Blk ((w.alloc (Obj.cells #[.int .i64 0, .int .i64 at', .int .i64 id, .int .i64 sp, .string nm, .string na, .string nb] 34)).alloc (Obj.cells #[.string na, .string nb] 9)) w.heap.size (stepA 0 at' id sp nm na nb) 34 := ((Blk.new w _ _).alloc _)
  have kY : Blk ((w.alloc (Obj.cells #[.int .i64 0, .int .i64 at', .int .i64 id, .int .i64 sp, .string nm, .string na, .string nb] 34)).alloc (Obj.cells #[.string na, .string nb] 9)) (w.heap.size + 1) #[.string na, .string nb] 9 := Eq.mp (by simp) (Blk.new (w.alloc (Obj.cells #[.int .i64 0, .int .i64 at', .int .i64 id, .int .i64 sp, .string nm, .string na, .string nb] 34)) #[.string na, .string nb] 9)
  have mX : Mine p r v u ((w.alloc (Obj.cells #[.int .i64 0, .int .i64 at', .int .i64 id, .int .i64 sp, .string nm, .string na, .string nb] 34)).alloc (Obj.cells #[.string na, .string nb] 9)) w.heap.size := h.mine (Nat.le_refl _) (by simp; try omega)
  have mY : Mine p r v u ((w.alloc (Obj.cells #[.int .i64 0, .int .i64 at', .int .i64 id, .int .i64 sp, .string nm, .string na, .string nb] 34)).alloc (Obj.cells #[.string na, .string nb] 9)) (w.heap.size + 1) := h.mine (by omega) (by simp)
  have HW : Hid (Way base p r v u ((w.alloc (Obj.cells #[.int .i64 0, .int .i64 at', .int .i64 id, .int .i64 sp, .string nm, .string na, .string nb] 34)).alloc (Obj.cells #[.string na, .string nb] 9)) L L ((w.alloc (Obj.cells #[.int .i64 0, .int .i64 at', .int .i64 id, .int .i64 sp, .string nm, .string na, .string nb] 34)).alloc (Obj.cells #[.string na, .string nb] 9))) := hide (Way.start (h.later b2))
  have hz : base ≤ ((w.alloc (Obj.cells #[.int .i64 0, .int .i64 at', .int .i64 id, .int .i64 sp, .string nm, .string na, .string nb] 34)).alloc (Obj.cells #[.string na, .string nb] 9)).heap.size := Nat.le_trans hbase b2.size
  have CP : Hid (∀ W, Way base p r v u ((w.alloc (Obj.cells #[.int .i64 0, .int .i64 at', .int .i64 id, .int .i64 sp, .string nm, .string na, .string nb] 34)).alloc (Obj.cells #[.string na, .string nb] 9)) L L W → Calls Try.prog 36 #[ptr p, entV ⟨id, sp, nm⟩] W fun e w' => e = .returned (.int .i64 (if 200 ≤ L.length then 5 else 0)) ∧ Way base p r v u ((w.alloc (Obj.cells #[.int .i64 0, .int .i64 at', .int .i64 id, .int .i64 sp, .string nm, .string na, .string nb] 34)).alloc (Obj.cells #[.string na, .string nb] 9)) (if 200 ≤ L.length then L else L ++ [⟨id, sp, nm⟩]) L w') := hide fun W hW => hW.callP (fun v1 hs h1 => push_any base p v1 ⟨id, sp, nm⟩ L W hs (Nat.le_trans hz hW.size))
  have CR : Hid (∀ W, Way base p r v u ((w.alloc (Obj.cells #[.int .i64 0, .int .i64 at', .int .i64 id, .int .i64 sp, .string nm, .string na, .string nb] 34)).alloc (Obj.cells #[.string na, .string nb] 9)) (if 200 ≤ L.length then L else L ++ [⟨id, sp, nm⟩]) L W → Calls Try.prog 40 #[ptr r, .int .i64 (L.length : Int), entV ⟨id, sp, nm⟩] W fun e w' => e = .returned (.int .i64 (if 200 ≤ L.length then 5 else 0)) ∧ Way base p r v u ((w.alloc (Obj.cells #[.int .i64 0, .int .i64 at', .int .i64 id, .int .i64 sp, .string nm, .string na, .string nb] 34)).alloc (Obj.cells #[.string na, .string nb] 9)) (if 200 ≤ L.length then L else L ++ [⟨id, sp, nm⟩]) (if 200 ≤ L.length then L else L ++ [⟨id, sp, nm⟩]) w') := hide fun W hW => hW.callR (fun u1 hs h1 => by have := rinsert_any base r u1 (L.length : Int) ⟨id, sp, nm⟩ L W hs (Nat.le_trans hz hW.size); rw [(push_same ⟨id, sp, nm⟩ L).1, (push_same ⟨id, sp, nm⟩ L).2] at this; exact this)
  have CF := hide (fun W => ref_any ⟨id, sp, nm⟩ W)
  have hle : (if 200 ≤ L.length then L else L ++ [⟨id, sp, nm⟩]).length ≤ 200 := by split <;> first | exact hN | (simp; omega)
  have HL := hide hle
  have HB2 := hide b2
  have HK := hide (And.intro mX kX)
  have HWd : Hid (Way base p r v u ((w.alloc (Obj.cells #[.int .i64 0, .int .i64 at', .int .i64 id, .int .i64 sp, .string nm, .string na, .string nb] 34)).alloc (Obj.cells #[.string na, .string nb] 9)) L L ((w.alloc (Obj.cells #[.int .i64 0, .int .i64 at', .int .i64 id, .int .i64 sp, .string nm, .string na, .string nb] 34)).alloc (Obj.cells #[.string na, .string nb] 9)).drew) := hide ((unhide HW).later (below_draws _ 1))
  have HS : Hid (BoxS w.heap.size 0 at' id sp nm na nb ((w.alloc (Obj.cells #[.int .i64 0, .int .i64 at', .int .i64 id, .int .i64 sp, .string nm, .string na, .string nb] 34)).alloc (Obj.cells #[.string na, .string nb] 9)).drew) := hide (BoxS.of ((unhide HWd).blk mX kX))
  unfold entV at *
  dsimp only at *
  generalize (if 200 ≤ L.length then L else L ++ [⟨id, sp, nm⟩]) = L2 at *
  generalize (if 200 ≤ L.length then (5 : Int) else 0) = N at *
  clear h b2 kX kY mX mY hz hle HW
  unfold ptr stepA at *
  go_enter Try.func11, Try.ntmps11
  go_wp2_with fail
  have hSa := unhide HS
  have HWn := HWd
  refine wp_region_held (S := BoxS w.heap.size 0 at' id sp nm na nb) (by kernel_rfl) ?_
  change wpAnyH _ _ _ _ _ _ _ _ (World.drew _)
  refine wpAnyH_take (i := 0) (oi := { dst := some 23, op := _, type := _, pos := _, after := _, guard := _ }) (v := ?va0) rfl (by kernel_rfl) (by kernel_rfl) (by kernel_rfl) (fun _ _ _ h => h) (Or.inl ⟨by kernel_rfl, ?ha0⟩) hSa ?ra0
  case ha0 => first | (intro w hSw; obtain ⟨s0, s1, s2, s3, s4, s5, s6⟩ := hSw; go_simp; done) | (intro w hSw; obtain ⟨s0, s1, s2, s3, s4, s5, s6⟩ := hSw; go_simp; with_reducible rfl)
  try simp only [Act.put, List.setIfInBounds_toArray, List.set_cons_zero, List.set_cons_succ]
  refine wpAnyH_take (i := 1) (oi := { dst := some 24, op := _, type := _, pos := _, after := _, guard := _ }) (v := ?va1) rfl (by kernel_rfl) (by kernel_rfl) (by kernel_rfl) (fun _ _ _ h => h) (Or.inl ⟨by kernel_rfl, ?ha1⟩) hSa ?ra1
  case ha1 => first | (intro w hSw; obtain ⟨s0, s1, s2, s3, s4, s5, s6⟩ := hSw; go_simp; done) | (intro w hSw; obtain ⟨s0, s1, s2, s3, s4, s5, s6⟩ := hSw; go_simp; with_reducible rfl)
  try simp only [Act.put, List.setIfInBounds_toArray, List.set_cons_zero, List.set_cons_succ]
  refine wpAnyH_take (i := 2) (oi := { dst := some 25, op := _, type := _, pos := _, after := _, guard := _ }) (v := ?va2) rfl (by kernel_rfl) (by kernel_rfl) (by kernel_rfl) (fun _ _ _ h => h) (Or.inl ⟨by kernel_rfl, ?ha2⟩) hSa ?ra2
  case ha2 => first | (intro w hSw; obtain ⟨s0, s1, s2, s3, s4, s5, s6⟩ := hSw; go_simp; done) | (intro w hSw; obtain ⟨s0, s1, s2, s3, s4, s5, s6⟩ := hSw; go_simp; with_reducible rfl)
  try simp only [Act.put, List.setIfInBounds_toArray, List.set_cons_zero, List.set_cons_succ]
  refine wpAnyH_take (i := 4) (oi := { dst := some 27, op := _, type := _, pos := _, after := _, guard := _ }) (v := ?va4) rfl (by kernel_rfl) (by kernel_rfl) (by kernel_rfl) (fun _ _ _ h => h) (Or.inl ⟨by kernel_rfl, ?ha4⟩) hSa ?ra4
  case ha4 => first | (intro w hSw; obtain ⟨s0, s1, s2, s3, s4, s5, s6⟩ := hSw; go_simp; done) | (intro w hSw; obtain ⟨s0, s1, s2, s3, s4, s5, s6⟩ := hSw; go_simp; with_reducible rfl)
  try simp only [Act.put, List.setIfInBounds_toArray, List.set_cons_zero, List.set_cons_succ]
  refine wpAnyH_take (i := 5) (oi := { dst := some 28, op := _, type := _, pos := _, after := _, guard := _ }) (v := ?va5) rfl (by kernel_rfl) (by kernel_rfl) (by kernel_rfl) (fun _ _ _ h => h) (Or.inl ⟨by kernel_rfl, ?ha5⟩) hSa ?ra5
  case ha5 => first | (intro w hSw; obtain ⟨s0, s1, s2, s3, s4, s5, s6⟩ := hSw; go_simp; done) | (intro w hSw; obtain ⟨s0, s1, s2, s3, s4, s5, s6⟩ := hSw; go_simp; with_reducible rfl)
  try simp only [Act.put, List.setIfInBounds_toArray, List.set_cons_zero, List.set_cons_succ]
  refine wpAnyH_take (i := 6) (oi := { dst := some 29, op := _, type := _, pos := _, after := _, guard := _ }) (v := ?va6) rfl (by kernel_rfl) (by kernel_rfl) (by kernel_rfl) (fun _ _ _ h => h) (Or.inl ⟨by kernel_rfl, ?ha6⟩) hSa ?ra6
  case ha6 => first | (intro w hSw; obtain ⟨s0, s1, s2, s3, s4, s5, s6⟩ := hSw; go_simp; done) | (intro w hSw; obtain ⟨s0, s1, s2, s3, s4, s5, s6⟩ := hSw; go_simp; with_reducible rfl)
  try simp only [Act.put, List.setIfInBounds_toArray, List.set_cons_zero, List.set_cons_succ]
  refine wpAnyH_take (i := 7) (oi := { dst := some 30, op := _, type := _, pos := _, after := _, guard := _ }) (v := ?va7) rfl (by kernel_rfl) (by kernel_rfl) (by kernel_rfl) (fun _ _ _ h => h) (Or.inl ⟨by kernel_rfl, ?ha7⟩) hSa ?ra7
  case ha7 => first | (intro w hSw; obtain ⟨s0, s1, s2, s3, s4, s5, s6⟩ := hSw; go_simp; done) | (intro w hSw; obtain ⟨s0, s1, s2, s3, s4, s5, s6⟩ := hSw; go_simp; with_reducible rfl)
  try simp only [Act.put, List.setIfInBounds_toArray, List.set_cons_zero, List.set_cons_succ]
  refine wpAnyH_take (i := 10) (oi := { dst := some 33, op := _, type := _, pos := _, after := _, guard := _ }) (v := ?va10) rfl (by kernel_rfl) (by kernel_rfl) (by kernel_rfl) (fun _ _ _ h => h) (Or.inl ⟨by kernel_rfl, ?ha10⟩) hSa ?ra10
  case ha10 => first | (intro w hSw; obtain ⟨s0, s1, s2, s3, s4, s5, s6⟩ := hSw; go_simp; done) | (intro w hSw; obtain ⟨s0, s1, s2, s3, s4, s5, s6⟩ := hSw; go_simp; with_reducible rfl)
  try simp only [Act.put, List.setIfInBounds_toArray, List.set_cons_zero, List.set_cons_succ]
  refine wpAnyH_take (i := 11) (oi := { dst := some 34, op := _, type := _, pos := _, after := _, guard := _ }) (v := ?va11) rfl (by kernel_rfl) (by kernel_rfl) (by kernel_rfl) (fun _ _ _ h => h) (Or.inl ⟨by kernel_rfl, ?ha11⟩) hSa ?ra11
  case ha11 => first | (intro w hSw; obtain ⟨s0, s1, s2, s3, s4, s5, s6⟩ := hSw; go_simp; done) | (intro w hSw; obtain ⟨s0, s1, s2, s3, s4, s5, s6⟩ := hSw; go_simp; with_reducible rfl)
  try simp only [Act.put, List.setIfInBounds_toArray, List.set_cons_zero, List.set_cons_succ]
  refine wpAnyH_ready (rs := [3, 8]) (by kernel_rfl) (by simp) ?_
  refine AllReadyH.cons rfl (fun K hK => ?_) (AllReadyH.cons rfl (fun K hK => ?_) AllReadyH.nil)
  · go_simp
    refine (unhide CP _ (unhide HWn)).mono ?_
    rintro e w3 ⟨rfl, hw⟩
    replace HWn := hide hw
    clear hw
    have hSa' := BoxS.of ((unhide HWn).blk (unhide HK).1 (unhide HK).2)
    refine hK _ _ hSa' (fun _ => ?_)
    clear hK K hSa
    have hSa := hSa'
    clear hSa'
    refine wpAnyH_ready (rs := [8, 12]) (by kernel_rfl) (by simp) ?_
    refine AllReadyH.cons rfl (fun K hK => ?_) (AllReadyH.cons rfl (fun K hK => ?_) AllReadyH.nil)
    · obtain ⟨cq, cc, c0⟩ := (unhide HWn).cellR
      go_simp
      clear c0
      have hSa' := hSa
      refine hK _ _ hSa' (fun _ => ?_)
      clear hK K hSa
      have hSa := hSa'
      clear hSa'
      refine wpAnyH_take (i := 9) (oi := { dst := some 32, op := _, type := _, pos := _, after := _, guard := _ }) (v := ?va9_3_8) rfl (by kernel_rfl) (by kernel_rfl) (by kernel_rfl) (fun _ _ _ h => h) (Or.inl ⟨by kernel_rfl, ?ha9_3_8⟩) hSa ?ra9_3_8
      case ha9_3_8 => first | (intro w hSw; obtain ⟨s0, s1, s2, s3, s4, s5, s6⟩ := hSw; go_simp; done) | (intro w hSw; obtain ⟨s0, s1, s2, s3, s4, s5, s6⟩ := hSw; go_simp; with_reducible rfl)
      try simp only [Act.put, List.setIfInBounds_toArray, List.set_cons_zero, List.set_cons_succ]
      refine wpAnyH_ready (rs := [12]) (by kernel_rfl) (by simp) ?_
      refine AllReadyH.cons rfl (fun K hK => ?_) AllReadyH.nil
      go_simp
      refine (unhide CF _).mono ?_
      rintro e w5 ⟨rfl, hb⟩
      replace HWn := hide ((unhide HWn).later hb)
      clear hb
      have hSa' := BoxS.of ((unhide HWn).blk (unhide HK).1 (unhide HK).2)
      refine hK _ _ hSa' (fun _ => ?_)
      clear hK K hSa
      have hSa := hSa'
      clear hSa'
      refine wpAnyH_ready (rs := [13]) (by kernel_rfl) (by simp) ?_
      refine AllReadyH.cons rfl (fun K hK => ?_) AllReadyH.nil
      go_simp
      refine (unhide CR _ (unhide HWn)).mono ?_
      rintro e w6 ⟨rfl, hw⟩
      replace HWn := hide hw
      clear hw
      have hSa' := BoxS.of ((unhide HWn).blk (unhide HK).1 (unhide HK).2)
      refine hK _ _ hSa' (fun _ => ?_)
      clear hK K hSa
      have hSa := hSa'
      clear hSa'
      refine wpAnyH_take (i := 14) (oi := { dst := some 37, op := _, type := _, pos := _, after := _, guard := _ }) (v := ?va14_3_8_12_13) rfl (by kernel_rfl) (by kernel_rfl) (by kernel_rfl) (fun _ _ _ h => h) (Or.inl ⟨by kernel_rfl, ?ha14_3_8_12_13⟩) hSa ?ra14_3_8_12_13
      case ha14_3_8_12_13 => first | (intro w hSw; obtain ⟨s0, s1, s2, s3, s4, s5, s6⟩ := hSw; go_simp; done) | (intro w hSw; obtain ⟨s0, s1, s2, s3, s4, s5, s6⟩ := hSw; go_simp; with_reducible rfl)
      try simp only [Act.put, List.setIfInBounds_toArray, List.set_cons_zero, List.set_cons_succ]
      refine wpAnyH_take (i := 15) (oi := { dst := some 6, op := _, type := _, pos := _, after := _, guard := _ }) (v := ?va15_3_8_12_13) rfl (by kernel_rfl) (by kernel_rfl) (by kernel_rfl) (fun _ _ _ h => h) (Or.inl ⟨by kernel_rfl, ?ha15_3_8_12_13⟩) hSa ?ra15_3_8_12_13
      case ha15_3_8_12_13 => first | (intro w hSw; obtain ⟨s0, s1, s2, s3, s4, s5, s6⟩ := hSw; go_simp; done) | (intro w hSw; obtain ⟨s0, s1, s2, s3, s4, s5, s6⟩ := hSw; go_simp; with_reducible rfl)
      try simp only [Act.put, List.setIfInBounds_toArray, List.set_cons_zero, List.set_cons_succ]
      refine wpAnyH_done (by kernel_rfl) ?_ _
      clear hSa HS
      go_wp2
      go_ret
      exact ⟨rfl, _, unhide HL, (unhide HWn).ahead (unhide HB2)⟩
    · go_simp
      refine (unhide CF _).mono ?_
      rintro e w4 ⟨rfl, hb⟩
      replace HWn := hide ((unhide HWn).later hb)
      clear hb
      have hSa' := BoxS.of ((unhide HWn).blk (unhide HK).1 (unhide HK).2)
      refine hK _ _ hSa' (fun _ => ?_)
      clear hK K hSa
      have hSa := hSa'
      clear hSa'
      refine wpAnyH_ready (rs := [8]) (by kernel_rfl) (by simp) ?_
      refine AllReadyH.cons rfl (fun K hK => ?_) AllReadyH.nil
      obtain ⟨cq, cc, c0⟩ := (unhide HWn).cellR
      go_simp
      clear c0
      have hSa' := hSa
      refine hK _ _ hSa' (fun _ => ?_)
      clear hK K hSa
      have hSa := hSa'
      clear hSa'
      refine wpAnyH_take (i := 9) (oi := { dst := some 32, op := _, type := _, pos := _, after := _, guard := _ }) (v := ?va9_3_12_8) rfl (by kernel_rfl) (by kernel_rfl) (by kernel_rfl) (fun _ _ _ h => h) (Or.inl ⟨by kernel_rfl, ?ha9_3_12_8⟩) hSa ?ra9_3_12_8
      case ha9_3_12_8 => first | (intro w hSw; obtain ⟨s0, s1, s2, s3, s4, s5, s6⟩ := hSw; go_simp; done) | (intro w hSw; obtain ⟨s0, s1, s2, s3, s4, s5, s6⟩ := hSw; go_simp; with_reducible rfl)
      try simp only [Act.put, List.setIfInBounds_toArray, List.set_cons_zero, List.set_cons_succ]
      refine wpAnyH_ready (rs := [13]) (by kernel_rfl) (by simp) ?_
      refine AllReadyH.cons rfl (fun K hK => ?_) AllReadyH.nil
      go_simp
      refine (unhide CR _ (unhide HWn)).mono ?_
      rintro e w6 ⟨rfl, hw⟩
      replace HWn := hide hw
      clear hw
      have hSa' := BoxS.of ((unhide HWn).blk (unhide HK).1 (unhide HK).2)
      refine hK _ _ hSa' (fun _ => ?_)
      clear hK K hSa
      have hSa := hSa'
      clear hSa'
      refine wpAnyH_take (i := 14) (oi := { dst := some 37, op := _, type := _, pos := _, after := _, guard := _ }) (v := ?va14_3_12_8_13) rfl (by kernel_rfl) (by kernel_rfl) (by kernel_rfl) (fun _ _ _ h => h) (Or.inl ⟨by kernel_rfl, ?ha14_3_12_8_13⟩) hSa ?ra14_3_12_8_13
      case ha14_3_12_8_13 => first | (intro w hSw; obtain ⟨s0, s1, s2, s3, s4, s5, s6⟩ := hSw; go_simp; done) | (intro w hSw; obtain ⟨s0, s1, s2, s3, s4, s5, s6⟩ := hSw; go_simp; with_reducible rfl)
      try simp only [Act.put, List.setIfInBounds_toArray, List.set_cons_zero, List.set_cons_succ]
      refine wpAnyH_take (i := 15) (oi := { dst := some 6, op := _, type := _, pos := _, after := _, guard := _ }) (v := ?va15_3_12_8_13) rfl (by kernel_rfl) (by kernel_rfl) (by kernel_rfl) (fun _ _ _ h => h) (Or.inl ⟨by kernel_rfl, ?ha15_3_12_8_13⟩) hSa ?ra15_3_12_8_13
      case ha15_3_12_8_13 => first | (intro w hSw; obtain ⟨s0, s1, s2, s3, s4, s5, s6⟩ := hSw; go_simp; done) | (intro w hSw; obtain ⟨s0, s1, s2, s3, s4, s5, s6⟩ := hSw; go_simp; with_reducible rfl)
      try simp only [Act.put, List.setIfInBounds_toArray, List.set_cons_zero, List.set_cons_succ]
      refine wpAnyH_done (by kernel_rfl) ?_ _
      clear hSa HS
      go_wp2
      go_ret
      exact ⟨rfl, _, unhide HL, (unhide HWn).ahead (unhide HB2)⟩
  · obtain ⟨cq, cc, c0⟩ := (unhide HWn).cellR
    go_simp
    clear c0
    have hSa' := hSa
    refine hK _ _ hSa' (fun _ => ?_)
    clear hK K hSa
    have hSa := hSa'
    clear hSa'
    refine wpAnyH_take (i := 9) (oi := { dst := some 32, op := _, type := _, pos := _, after := _, guard := _ }) (v := ?va9_8) rfl (by kernel_rfl) (by kernel_rfl) (by kernel_rfl) (fun _ _ _ h => h) (Or.inl ⟨by kernel_rfl, ?ha9_8⟩) hSa ?ra9_8
    case ha9_8 => first | (intro w hSw; obtain ⟨s0, s1, s2, s3, s4, s5, s6⟩ := hSw; go_simp; done) | (intro w hSw; obtain ⟨s0, s1, s2, s3, s4, s5, s6⟩ := hSw; go_simp; with_reducible rfl)
    try simp only [Act.put, List.setIfInBounds_toArray, List.set_cons_zero, List.set_cons_succ]
    refine wpAnyH_ready (rs := [3]) (by kernel_rfl) (by simp) ?_
    refine AllReadyH.cons rfl (fun K hK => ?_) AllReadyH.nil
    go_simp
    refine (unhide CP _ (unhide HWn)).mono ?_
    rintro e w4 ⟨rfl, hw⟩
    replace HWn := hide hw
    clear hw
    have hSa' := BoxS.of ((unhide HWn).blk (unhide HK).1 (unhide HK).2)
    refine hK _ _ hSa' (fun _ => ?_)
    clear hK K hSa
    have hSa := hSa'
    clear hSa'
    refine wpAnyH_ready (rs := [12]) (by kernel_rfl) (by simp) ?_
    refine AllReadyH.cons rfl (fun K hK => ?_) AllReadyH.nil
    go_simp
    refine (unhide CF _).mono ?_
    rintro e w5 ⟨rfl, hb⟩
    replace HWn := hide ((unhide HWn).later hb)
    clear hb
    have hSa' := BoxS.of ((unhide HWn).blk (unhide HK).1 (unhide HK).2)
    refine hK _ _ hSa' (fun _ => ?_)
    clear hK K hSa
    have hSa := hSa'
    clear hSa'
    refine wpAnyH_ready (rs := [13]) (by kernel_rfl) (by simp) ?_
    refine AllReadyH.cons rfl (fun K hK => ?_) AllReadyH.nil
    go_simp
    refine (unhide CR _ (unhide HWn)).mono ?_
    rintro e w6 ⟨rfl, hw⟩
    replace HWn := hide hw
    clear hw
    have hSa' := BoxS.of ((unhide HWn).blk (unhide HK).1 (unhide HK).2)
    refine hK _ _ hSa' (fun _ => ?_)
    clear hK K hSa
    have hSa := hSa'
    clear hSa'
    refine wpAnyH_take (i := 14) (oi := { dst := some 37, op := _, type := _, pos := _, after := _, guard := _ }) (v := ?va14_8_3_12_13) rfl (by kernel_rfl) (by kernel_rfl) (by kernel_rfl) (fun _ _ _ h => h) (Or.inl ⟨by kernel_rfl, ?ha14_8_3_12_13⟩) hSa ?ra14_8_3_12_13
    case ha14_8_3_12_13 => first | (intro w hSw; obtain ⟨s0, s1, s2, s3, s4, s5, s6⟩ := hSw; go_simp; done) | (intro w hSw; obtain ⟨s0, s1, s2, s3, s4, s5, s6⟩ := hSw; go_simp; with_reducible rfl)
    try simp only [Act.put, List.setIfInBounds_toArray, List.set_cons_zero, List.set_cons_succ]
    refine wpAnyH_take (i := 15) (oi := { dst := some 6, op := _, type := _, pos := _, after := _, guard := _ }) (v := ?va15_8_3_12_13) rfl (by kernel_rfl) (by kernel_rfl) (by kernel_rfl) (fun _ _ _ h => h) (Or.inl ⟨by kernel_rfl, ?ha15_8_3_12_13⟩) hSa ?ra15_8_3_12_13
    case ha15_8_3_12_13 => first | (intro w hSw; obtain ⟨s0, s1, s2, s3, s4, s5, s6⟩ := hSw; go_simp; done) | (intro w hSw; obtain ⟨s0, s1, s2, s3, s4, s5, s6⟩ := hSw; go_simp; with_reducible rfl)
    try simp only [Act.put, List.setIfInBounds_toArray, List.set_cons_zero, List.set_cons_succ]
    refine wpAnyH_done (by kernel_rfl) ?_ _
    clear hSa HS
    go_wp2
    go_ret
    exact ⟨rfl, _, unhide HL, (unhide HWn).ahead (unhide HB2)⟩
set_option maxHeartbeats 8000000 in
set_option maxRecDepth 100000 in
theorem does_push1 (base p r : Nat) (v u : Value) (at' id sp : Int) (nm na nb : ByteArray) (L : List Ent) (w : World) (h : TwoR base p v L r u L w) (hbase : base ≤ w.heap.size) (hN : L.length ≤ 200) :
    Calls Try.prog 11 #[ptr p, ptr r, .agg (stepA 1 at' id sp nm na nb)] w (DoesSaid base p r v u w) := by
  have b2 : Below w.heap.size w ((w.alloc (Obj.cells #[.int .i64 1, .int .i64 at', .int .i64 id, .int .i64 sp, .string nm, .string na, .string nb] 34)).alloc (Obj.cells #[.string na, .string nb] 9)) := (((Below.refl _ _).alloc (Nat.le_refl _) _).alloc (by simp) _)
  have kX : Blk ((w.alloc (Obj.cells #[.int .i64 1, .int .i64 at', .int .i64 id, .int .i64 sp, .string nm, .string na, .string nb] 34)).alloc (Obj.cells #[.string na, .string nb] 9)) w.heap.size (stepA 1 at' id sp nm na nb) 34 := ((Blk.new w _ _).alloc _)
  have kY : Blk ((w.alloc (Obj.cells #[.int .i64 1, .int .i64 at', .int .i64 id, .int .i64 sp, .string nm, .string na, .string nb] 34)).alloc (Obj.cells #[.string na, .string nb] 9)) (w.heap.size + 1) #[.string na, .string nb] 9 := Eq.mp (by simp) (Blk.new (w.alloc (Obj.cells #[.int .i64 1, .int .i64 at', .int .i64 id, .int .i64 sp, .string nm, .string na, .string nb] 34)) #[.string na, .string nb] 9)
  have mX : Mine p r v u ((w.alloc (Obj.cells #[.int .i64 1, .int .i64 at', .int .i64 id, .int .i64 sp, .string nm, .string na, .string nb] 34)).alloc (Obj.cells #[.string na, .string nb] 9)) w.heap.size := h.mine (Nat.le_refl _) (by simp; try omega)
  have mY : Mine p r v u ((w.alloc (Obj.cells #[.int .i64 1, .int .i64 at', .int .i64 id, .int .i64 sp, .string nm, .string na, .string nb] 34)).alloc (Obj.cells #[.string na, .string nb] 9)) (w.heap.size + 1) := h.mine (by omega) (by simp)
  have HW : Hid (Way base p r v u ((w.alloc (Obj.cells #[.int .i64 1, .int .i64 at', .int .i64 id, .int .i64 sp, .string nm, .string na, .string nb] 34)).alloc (Obj.cells #[.string na, .string nb] 9)) L L ((w.alloc (Obj.cells #[.int .i64 1, .int .i64 at', .int .i64 id, .int .i64 sp, .string nm, .string na, .string nb] 34)).alloc (Obj.cells #[.string na, .string nb] 9))) := hide (Way.start (h.later b2))
  have hz : base ≤ ((w.alloc (Obj.cells #[.int .i64 1, .int .i64 at', .int .i64 id, .int .i64 sp, .string nm, .string na, .string nb] 34)).alloc (Obj.cells #[.string na, .string nb] 9)).heap.size := Nat.le_trans hbase b2.size
  have CP : Hid (∀ W, Way base p r v u ((w.alloc (Obj.cells #[.int .i64 1, .int .i64 at', .int .i64 id, .int .i64 sp, .string nm, .string na, .string nb] 34)).alloc (Obj.cells #[.string na, .string nb] 9)) L L W → Calls Try.prog 36 #[ptr p, entV ⟨id, sp, nm⟩] W fun e w' => e = .returned (.int .i64 (if 200 ≤ L.length then 5 else 0)) ∧ Way base p r v u ((w.alloc (Obj.cells #[.int .i64 1, .int .i64 at', .int .i64 id, .int .i64 sp, .string nm, .string na, .string nb] 34)).alloc (Obj.cells #[.string na, .string nb] 9)) (if 200 ≤ L.length then L else L ++ [⟨id, sp, nm⟩]) L w') := hide fun W hW => hW.callP (fun v1 hs h1 => push_any base p v1 ⟨id, sp, nm⟩ L W hs (Nat.le_trans hz hW.size))
  have CR : Hid (∀ W, Way base p r v u ((w.alloc (Obj.cells #[.int .i64 1, .int .i64 at', .int .i64 id, .int .i64 sp, .string nm, .string na, .string nb] 34)).alloc (Obj.cells #[.string na, .string nb] 9)) (if 200 ≤ L.length then L else L ++ [⟨id, sp, nm⟩]) L W → Calls Try.prog 40 #[ptr r, .int .i64 (L.length : Int), entV ⟨id, sp, nm⟩] W fun e w' => e = .returned (.int .i64 (if 200 ≤ L.length then 5 else 0)) ∧ Way base p r v u ((w.alloc (Obj.cells #[.int .i64 1, .int .i64 at', .int .i64 id, .int .i64 sp, .string nm, .string na, .string nb] 34)).alloc (Obj.cells #[.string na, .string nb] 9)) (if 200 ≤ L.length then L else L ++ [⟨id, sp, nm⟩]) (if 200 ≤ L.length then L else L ++ [⟨id, sp, nm⟩]) w') := hide fun W hW => hW.callR (fun u1 hs h1 => by have := rinsert_any base r u1 (L.length : Int) ⟨id, sp, nm⟩ L W hs (Nat.le_trans hz hW.size); rw [(push_same ⟨id, sp, nm⟩ L).1, (push_same ⟨id, sp, nm⟩ L).2] at this; exact this)
  have CF := hide (fun W => ref_any ⟨id, sp, nm⟩ W)
  have hle : (if 200 ≤ L.length then L else L ++ [⟨id, sp, nm⟩]).length ≤ 200 := by split <;> first | exact hN | (simp; omega)
  have HL := hide hle
  have HB2 := hide b2
  have HK := hide (And.intro mX kX)
  have HWd : Hid (Way base p r v u ((w.alloc (Obj.cells #[.int .i64 1, .int .i64 at', .int .i64 id, .int .i64 sp, .string nm, .string na, .string nb] 34)).alloc (Obj.cells #[.string na, .string nb] 9)) L L ((w.alloc (Obj.cells #[.int .i64 1, .int .i64 at', .int .i64 id, .int .i64 sp, .string nm, .string na, .string nb] 34)).alloc (Obj.cells #[.string na, .string nb] 9)).drew) := hide ((unhide HW).later (below_draws _ 1))
  have HS : Hid (BoxS w.heap.size 1 at' id sp nm na nb ((w.alloc (Obj.cells #[.int .i64 1, .int .i64 at', .int .i64 id, .int .i64 sp, .string nm, .string na, .string nb] 34)).alloc (Obj.cells #[.string na, .string nb] 9)).drew) := hide (BoxS.of ((unhide HWd).blk mX kX))
  unfold entV at *
  dsimp only at *
  generalize (if 200 ≤ L.length then L else L ++ [⟨id, sp, nm⟩]) = L2 at *
  generalize (if 200 ≤ L.length then (5 : Int) else 0) = N at *
  clear h b2 kX kY mX mY hz hle HW
  unfold ptr stepA at *
  go_enter Try.func11, Try.ntmps11
  go_wp2_with fail
  have hSa := unhide HS
  have HWn := HWd
  refine wp_region_held (S := BoxS w.heap.size 1 at' id sp nm na nb) (by kernel_rfl) ?_
  change wpAnyH _ _ _ _ _ _ _ _ (World.drew _)
  refine wpAnyH_take (i := 0) (oi := { dst := some 23, op := _, type := _, pos := _, after := _, guard := _ }) (v := ?va0) rfl (by kernel_rfl) (by kernel_rfl) (by kernel_rfl) (fun _ _ _ h => h) (Or.inl ⟨by kernel_rfl, ?ha0⟩) hSa ?ra0
  case ha0 => first | (intro w hSw; obtain ⟨s0, s1, s2, s3, s4, s5, s6⟩ := hSw; go_simp; done) | (intro w hSw; obtain ⟨s0, s1, s2, s3, s4, s5, s6⟩ := hSw; go_simp; with_reducible rfl)
  try simp only [Act.put, List.setIfInBounds_toArray, List.set_cons_zero, List.set_cons_succ]
  refine wpAnyH_take (i := 1) (oi := { dst := some 24, op := _, type := _, pos := _, after := _, guard := _ }) (v := ?va1) rfl (by kernel_rfl) (by kernel_rfl) (by kernel_rfl) (fun _ _ _ h => h) (Or.inl ⟨by kernel_rfl, ?ha1⟩) hSa ?ra1
  case ha1 => first | (intro w hSw; obtain ⟨s0, s1, s2, s3, s4, s5, s6⟩ := hSw; go_simp; done) | (intro w hSw; obtain ⟨s0, s1, s2, s3, s4, s5, s6⟩ := hSw; go_simp; with_reducible rfl)
  try simp only [Act.put, List.setIfInBounds_toArray, List.set_cons_zero, List.set_cons_succ]
  refine wpAnyH_take (i := 2) (oi := { dst := some 25, op := _, type := _, pos := _, after := _, guard := _ }) (v := ?va2) rfl (by kernel_rfl) (by kernel_rfl) (by kernel_rfl) (fun _ _ _ h => h) (Or.inl ⟨by kernel_rfl, ?ha2⟩) hSa ?ra2
  case ha2 => first | (intro w hSw; obtain ⟨s0, s1, s2, s3, s4, s5, s6⟩ := hSw; go_simp; done) | (intro w hSw; obtain ⟨s0, s1, s2, s3, s4, s5, s6⟩ := hSw; go_simp; with_reducible rfl)
  try simp only [Act.put, List.setIfInBounds_toArray, List.set_cons_zero, List.set_cons_succ]
  refine wpAnyH_take (i := 4) (oi := { dst := some 27, op := _, type := _, pos := _, after := _, guard := _ }) (v := ?va4) rfl (by kernel_rfl) (by kernel_rfl) (by kernel_rfl) (fun _ _ _ h => h) (Or.inl ⟨by kernel_rfl, ?ha4⟩) hSa ?ra4
  case ha4 => first | (intro w hSw; obtain ⟨s0, s1, s2, s3, s4, s5, s6⟩ := hSw; go_simp; done) | (intro w hSw; obtain ⟨s0, s1, s2, s3, s4, s5, s6⟩ := hSw; go_simp; with_reducible rfl)
  try simp only [Act.put, List.setIfInBounds_toArray, List.set_cons_zero, List.set_cons_succ]
  refine wpAnyH_take (i := 5) (oi := { dst := some 28, op := _, type := _, pos := _, after := _, guard := _ }) (v := ?va5) rfl (by kernel_rfl) (by kernel_rfl) (by kernel_rfl) (fun _ _ _ h => h) (Or.inl ⟨by kernel_rfl, ?ha5⟩) hSa ?ra5
  case ha5 => first | (intro w hSw; obtain ⟨s0, s1, s2, s3, s4, s5, s6⟩ := hSw; go_simp; done) | (intro w hSw; obtain ⟨s0, s1, s2, s3, s4, s5, s6⟩ := hSw; go_simp; with_reducible rfl)
  try simp only [Act.put, List.setIfInBounds_toArray, List.set_cons_zero, List.set_cons_succ]
  refine wpAnyH_take (i := 6) (oi := { dst := some 29, op := _, type := _, pos := _, after := _, guard := _ }) (v := ?va6) rfl (by kernel_rfl) (by kernel_rfl) (by kernel_rfl) (fun _ _ _ h => h) (Or.inl ⟨by kernel_rfl, ?ha6⟩) hSa ?ra6
  case ha6 => first | (intro w hSw; obtain ⟨s0, s1, s2, s3, s4, s5, s6⟩ := hSw; go_simp; done) | (intro w hSw; obtain ⟨s0, s1, s2, s3, s4, s5, s6⟩ := hSw; go_simp; with_reducible rfl)
  try simp only [Act.put, List.setIfInBounds_toArray, List.set_cons_zero, List.set_cons_succ]
  refine wpAnyH_take (i := 7) (oi := { dst := some 30, op := _, type := _, pos := _, after := _, guard := _ }) (v := ?va7) rfl (by kernel_rfl) (by kernel_rfl) (by kernel_rfl) (fun _ _ _ h => h) (Or.inl ⟨by kernel_rfl, ?ha7⟩) hSa ?ra7
  case ha7 => first | (intro w hSw; obtain ⟨s0, s1, s2, s3, s4, s5, s6⟩ := hSw; go_simp; done) | (intro w hSw; obtain ⟨s0, s1, s2, s3, s4, s5, s6⟩ := hSw; go_simp; with_reducible rfl)
  try simp only [Act.put, List.setIfInBounds_toArray, List.set_cons_zero, List.set_cons_succ]
  refine wpAnyH_take (i := 10) (oi := { dst := some 33, op := _, type := _, pos := _, after := _, guard := _ }) (v := ?va10) rfl (by kernel_rfl) (by kernel_rfl) (by kernel_rfl) (fun _ _ _ h => h) (Or.inl ⟨by kernel_rfl, ?ha10⟩) hSa ?ra10
  case ha10 => first | (intro w hSw; obtain ⟨s0, s1, s2, s3, s4, s5, s6⟩ := hSw; go_simp; done) | (intro w hSw; obtain ⟨s0, s1, s2, s3, s4, s5, s6⟩ := hSw; go_simp; with_reducible rfl)
  try simp only [Act.put, List.setIfInBounds_toArray, List.set_cons_zero, List.set_cons_succ]
  refine wpAnyH_take (i := 11) (oi := { dst := some 34, op := _, type := _, pos := _, after := _, guard := _ }) (v := ?va11) rfl (by kernel_rfl) (by kernel_rfl) (by kernel_rfl) (fun _ _ _ h => h) (Or.inl ⟨by kernel_rfl, ?ha11⟩) hSa ?ra11
  case ha11 => first | (intro w hSw; obtain ⟨s0, s1, s2, s3, s4, s5, s6⟩ := hSw; go_simp; done) | (intro w hSw; obtain ⟨s0, s1, s2, s3, s4, s5, s6⟩ := hSw; go_simp; with_reducible rfl)
  try simp only [Act.put, List.setIfInBounds_toArray, List.set_cons_zero, List.set_cons_succ]
  refine wpAnyH_ready (rs := [3, 8]) (by kernel_rfl) (by simp) ?_
  refine AllReadyH.cons rfl (fun K hK => ?_) (AllReadyH.cons rfl (fun K hK => ?_) AllReadyH.nil)
  · go_simp
    refine (unhide CP _ (unhide HWn)).mono ?_
    rintro e w3 ⟨rfl, hw⟩
    replace HWn := hide hw
    clear hw
    have hSa' := BoxS.of ((unhide HWn).blk (unhide HK).1 (unhide HK).2)
    refine hK _ _ hSa' (fun _ => ?_)
    clear hK K hSa
    have hSa := hSa'
    clear hSa'
    refine wpAnyH_ready (rs := [8, 12]) (by kernel_rfl) (by simp) ?_
    refine AllReadyH.cons rfl (fun K hK => ?_) (AllReadyH.cons rfl (fun K hK => ?_) AllReadyH.nil)
    · obtain ⟨cq, cc, c0⟩ := (unhide HWn).cellR
      go_simp
      clear c0
      have hSa' := hSa
      refine hK _ _ hSa' (fun _ => ?_)
      clear hK K hSa
      have hSa := hSa'
      clear hSa'
      refine wpAnyH_take (i := 9) (oi := { dst := some 32, op := _, type := _, pos := _, after := _, guard := _ }) (v := ?va9_3_8) rfl (by kernel_rfl) (by kernel_rfl) (by kernel_rfl) (fun _ _ _ h => h) (Or.inl ⟨by kernel_rfl, ?ha9_3_8⟩) hSa ?ra9_3_8
      case ha9_3_8 => first | (intro w hSw; obtain ⟨s0, s1, s2, s3, s4, s5, s6⟩ := hSw; go_simp; done) | (intro w hSw; obtain ⟨s0, s1, s2, s3, s4, s5, s6⟩ := hSw; go_simp; with_reducible rfl)
      try simp only [Act.put, List.setIfInBounds_toArray, List.set_cons_zero, List.set_cons_succ]
      refine wpAnyH_ready (rs := [12]) (by kernel_rfl) (by simp) ?_
      refine AllReadyH.cons rfl (fun K hK => ?_) AllReadyH.nil
      go_simp
      refine (unhide CF _).mono ?_
      rintro e w5 ⟨rfl, hb⟩
      replace HWn := hide ((unhide HWn).later hb)
      clear hb
      have hSa' := BoxS.of ((unhide HWn).blk (unhide HK).1 (unhide HK).2)
      refine hK _ _ hSa' (fun _ => ?_)
      clear hK K hSa
      have hSa := hSa'
      clear hSa'
      refine wpAnyH_ready (rs := [13]) (by kernel_rfl) (by simp) ?_
      refine AllReadyH.cons rfl (fun K hK => ?_) AllReadyH.nil
      go_simp
      refine (unhide CR _ (unhide HWn)).mono ?_
      rintro e w6 ⟨rfl, hw⟩
      replace HWn := hide hw
      clear hw
      have hSa' := BoxS.of ((unhide HWn).blk (unhide HK).1 (unhide HK).2)
      refine hK _ _ hSa' (fun _ => ?_)
      clear hK K hSa
      have hSa := hSa'
      clear hSa'
      refine wpAnyH_take (i := 14) (oi := { dst := some 37, op := _, type := _, pos := _, after := _, guard := _ }) (v := ?va14_3_8_12_13) rfl (by kernel_rfl) (by kernel_rfl) (by kernel_rfl) (fun _ _ _ h => h) (Or.inl ⟨by kernel_rfl, ?ha14_3_8_12_13⟩) hSa ?ra14_3_8_12_13
      case ha14_3_8_12_13 => first | (intro w hSw; obtain ⟨s0, s1, s2, s3, s4, s5, s6⟩ := hSw; go_simp; done) | (intro w hSw; obtain ⟨s0, s1, s2, s3, s4, s5, s6⟩ := hSw; go_simp; with_reducible rfl)
      try simp only [Act.put, List.setIfInBounds_toArray, List.set_cons_zero, List.set_cons_succ]
      refine wpAnyH_take (i := 15) (oi := { dst := some 6, op := _, type := _, pos := _, after := _, guard := _ }) (v := ?va15_3_8_12_13) rfl (by kernel_rfl) (by kernel_rfl) (by kernel_rfl) (fun _ _ _ h => h) (Or.inl ⟨by kernel_rfl, ?ha15_3_8_12_13⟩) hSa ?ra15_3_8_12_13
      case ha15_3_8_12_13 => first | (intro w hSw; obtain ⟨s0, s1, s2, s3, s4, s5, s6⟩ := hSw; go_simp; done) | (intro w hSw; obtain ⟨s0, s1, s2, s3, s4, s5, s6⟩ := hSw; go_simp; with_reducible rfl)
      try simp only [Act.put, List.setIfInBounds_toArray, List.set_cons_zero, List.set_cons_succ]
      refine wpAnyH_done (by kernel_rfl) ?_ _
      clear hSa HS
      go_wp2
      go_ret
      exact ⟨rfl, _, unhide HL, (unhide HWn).ahead (unhide HB2)⟩
    · go_simp
      refine (unhide CF _).mono ?_
      rintro e w4 ⟨rfl, hb⟩
      replace HWn := hide ((unhide HWn).later hb)
      clear hb
      have hSa' := BoxS.of ((unhide HWn).blk (unhide HK).1 (unhide HK).2)
      refine hK _ _ hSa' (fun _ => ?_)
      clear hK K hSa
      have hSa := hSa'
      clear hSa'
      refine wpAnyH_ready (rs := [8]) (by kernel_rfl) (by simp) ?_
      refine AllReadyH.cons rfl (fun K hK => ?_) AllReadyH.nil
      obtain ⟨cq, cc, c0⟩ := (unhide HWn).cellR
      go_simp
      clear c0
      have hSa' := hSa
      refine hK _ _ hSa' (fun _ => ?_)
      clear hK K hSa
      have hSa := hSa'
      clear hSa'
      refine wpAnyH_take (i := 9) (oi := { dst := some 32, op := _, type := _, pos := _, after := _, guard := _ }) (v := ?va9_3_12_8) rfl (by kernel_rfl) (by kernel_rfl) (by kernel_rfl) (fun _ _ _ h => h) (Or.inl ⟨by kernel_rfl, ?ha9_3_12_8⟩) hSa ?ra9_3_12_8
      case ha9_3_12_8 => first | (intro w hSw; obtain ⟨s0, s1, s2, s3, s4, s5, s6⟩ := hSw; go_simp; done) | (intro w hSw; obtain ⟨s0, s1, s2, s3, s4, s5, s6⟩ := hSw; go_simp; with_reducible rfl)
      try simp only [Act.put, List.setIfInBounds_toArray, List.set_cons_zero, List.set_cons_succ]
      refine wpAnyH_ready (rs := [13]) (by kernel_rfl) (by simp) ?_
      refine AllReadyH.cons rfl (fun K hK => ?_) AllReadyH.nil
      go_simp
      refine (unhide CR _ (unhide HWn)).mono ?_
      rintro e w6 ⟨rfl, hw⟩
      replace HWn := hide hw
      clear hw
      have hSa' := BoxS.of ((unhide HWn).blk (unhide HK).1 (unhide HK).2)
      refine hK _ _ hSa' (fun _ => ?_)
      clear hK K hSa
      have hSa := hSa'
      clear hSa'
      refine wpAnyH_take (i := 14) (oi := { dst := some 37, op := _, type := _, pos := _, after := _, guard := _ }) (v := ?va14_3_12_8_13) rfl (by kernel_rfl) (by kernel_rfl) (by kernel_rfl) (fun _ _ _ h => h) (Or.inl ⟨by kernel_rfl, ?ha14_3_12_8_13⟩) hSa ?ra14_3_12_8_13
      case ha14_3_12_8_13 => first | (intro w hSw; obtain ⟨s0, s1, s2, s3, s4, s5, s6⟩ := hSw; go_simp; done) | (intro w hSw; obtain ⟨s0, s1, s2, s3, s4, s5, s6⟩ := hSw; go_simp; with_reducible rfl)
      try simp only [Act.put, List.setIfInBounds_toArray, List.set_cons_zero, List.set_cons_succ]
      refine wpAnyH_take (i := 15) (oi := { dst := some 6, op := _, type := _, pos := _, after := _, guard := _ }) (v := ?va15_3_12_8_13) rfl (by kernel_rfl) (by kernel_rfl) (by kernel_rfl) (fun _ _ _ h => h) (Or.inl ⟨by kernel_rfl, ?ha15_3_12_8_13⟩) hSa ?ra15_3_12_8_13
      case ha15_3_12_8_13 => first | (intro w hSw; obtain ⟨s0, s1, s2, s3, s4, s5, s6⟩ := hSw; go_simp; done) | (intro w hSw; obtain ⟨s0, s1, s2, s3, s4, s5, s6⟩ := hSw; go_simp; with_reducible rfl)
      try simp only [Act.put, List.setIfInBounds_toArray, List.set_cons_zero, List.set_cons_succ]
      refine wpAnyH_done (by kernel_rfl) ?_ _
      clear hSa HS
      go_wp2
      go_ret
      exact ⟨rfl, _, unhide HL, (unhide HWn).ahead (unhide HB2)⟩
  · obtain ⟨cq, cc, c0⟩ := (unhide HWn).cellR
    go_simp
    clear c0
    have hSa' := hSa
    refine hK _ _ hSa' (fun _ => ?_)
    clear hK K hSa
    have hSa := hSa'
    clear hSa'
    refine wpAnyH_take (i := 9) (oi := { dst := some 32, op := _, type := _, pos := _, after := _, guard := _ }) (v := ?va9_8) rfl (by kernel_rfl) (by kernel_rfl) (by kernel_rfl) (fun _ _ _ h => h) (Or.inl ⟨by kernel_rfl, ?ha9_8⟩) hSa ?ra9_8
    case ha9_8 => first | (intro w hSw; obtain ⟨s0, s1, s2, s3, s4, s5, s6⟩ := hSw; go_simp; done) | (intro w hSw; obtain ⟨s0, s1, s2, s3, s4, s5, s6⟩ := hSw; go_simp; with_reducible rfl)
    try simp only [Act.put, List.setIfInBounds_toArray, List.set_cons_zero, List.set_cons_succ]
    refine wpAnyH_ready (rs := [3]) (by kernel_rfl) (by simp) ?_
    refine AllReadyH.cons rfl (fun K hK => ?_) AllReadyH.nil
    go_simp
    refine (unhide CP _ (unhide HWn)).mono ?_
    rintro e w4 ⟨rfl, hw⟩
    replace HWn := hide hw
    clear hw
    have hSa' := BoxS.of ((unhide HWn).blk (unhide HK).1 (unhide HK).2)
    refine hK _ _ hSa' (fun _ => ?_)
    clear hK K hSa
    have hSa := hSa'
    clear hSa'
    refine wpAnyH_ready (rs := [12]) (by kernel_rfl) (by simp) ?_
    refine AllReadyH.cons rfl (fun K hK => ?_) AllReadyH.nil
    go_simp
    refine (unhide CF _).mono ?_
    rintro e w5 ⟨rfl, hb⟩
    replace HWn := hide ((unhide HWn).later hb)
    clear hb
    have hSa' := BoxS.of ((unhide HWn).blk (unhide HK).1 (unhide HK).2)
    refine hK _ _ hSa' (fun _ => ?_)
    clear hK K hSa
    have hSa := hSa'
    clear hSa'
    refine wpAnyH_ready (rs := [13]) (by kernel_rfl) (by simp) ?_
    refine AllReadyH.cons rfl (fun K hK => ?_) AllReadyH.nil
    go_simp
    refine (unhide CR _ (unhide HWn)).mono ?_
    rintro e w6 ⟨rfl, hw⟩
    replace HWn := hide hw
    clear hw
    have hSa' := BoxS.of ((unhide HWn).blk (unhide HK).1 (unhide HK).2)
    refine hK _ _ hSa' (fun _ => ?_)
    clear hK K hSa
    have hSa := hSa'
    clear hSa'
    refine wpAnyH_take (i := 14) (oi := { dst := some 37, op := _, type := _, pos := _, after := _, guard := _ }) (v := ?va14_8_3_12_13) rfl (by kernel_rfl) (by kernel_rfl) (by kernel_rfl) (fun _ _ _ h => h) (Or.inl ⟨by kernel_rfl, ?ha14_8_3_12_13⟩) hSa ?ra14_8_3_12_13
    case ha14_8_3_12_13 => first | (intro w hSw; obtain ⟨s0, s1, s2, s3, s4, s5, s6⟩ := hSw; go_simp; done) | (intro w hSw; obtain ⟨s0, s1, s2, s3, s4, s5, s6⟩ := hSw; go_simp; with_reducible rfl)
    try simp only [Act.put, List.setIfInBounds_toArray, List.set_cons_zero, List.set_cons_succ]
    refine wpAnyH_take (i := 15) (oi := { dst := some 6, op := _, type := _, pos := _, after := _, guard := _ }) (v := ?va15_8_3_12_13) rfl (by kernel_rfl) (by kernel_rfl) (by kernel_rfl) (fun _ _ _ h => h) (Or.inl ⟨by kernel_rfl, ?ha15_8_3_12_13⟩) hSa ?ra15_8_3_12_13
    case ha15_8_3_12_13 => first | (intro w hSw; obtain ⟨s0, s1, s2, s3, s4, s5, s6⟩ := hSw; go_simp; done) | (intro w hSw; obtain ⟨s0, s1, s2, s3, s4, s5, s6⟩ := hSw; go_simp; with_reducible rfl)
    try simp only [Act.put, List.setIfInBounds_toArray, List.set_cons_zero, List.set_cons_succ]
    refine wpAnyH_done (by kernel_rfl) ?_ _
    clear hSa HS
    go_wp2
    go_ret
    exact ⟨rfl, _, unhide HL, (unhide HWn).ahead (unhide HB2)⟩
set_option maxHeartbeats 8000000 in
set_option maxRecDepth 100000 in
theorem does_push2 (base p r : Nat) (v u : Value) (at' id sp : Int) (nm na nb : ByteArray) (L : List Ent) (w : World) (h : TwoR base p v L r u L w) (hbase : base ≤ w.heap.size) (hN : L.length ≤ 200) :
    Calls Try.prog 11 #[ptr p, ptr r, .agg (stepA 2 at' id sp nm na nb)] w (DoesSaid base p r v u w) := by
  have b2 : Below w.heap.size w ((w.alloc (Obj.cells #[.int .i64 2, .int .i64 at', .int .i64 id, .int .i64 sp, .string nm, .string na, .string nb] 34)).alloc (Obj.cells #[.string na, .string nb] 9)) := (((Below.refl _ _).alloc (Nat.le_refl _) _).alloc (by simp) _)
  have kX : Blk ((w.alloc (Obj.cells #[.int .i64 2, .int .i64 at', .int .i64 id, .int .i64 sp, .string nm, .string na, .string nb] 34)).alloc (Obj.cells #[.string na, .string nb] 9)) w.heap.size (stepA 2 at' id sp nm na nb) 34 := ((Blk.new w _ _).alloc _)
  have kY : Blk ((w.alloc (Obj.cells #[.int .i64 2, .int .i64 at', .int .i64 id, .int .i64 sp, .string nm, .string na, .string nb] 34)).alloc (Obj.cells #[.string na, .string nb] 9)) (w.heap.size + 1) #[.string na, .string nb] 9 := Eq.mp (by simp) (Blk.new (w.alloc (Obj.cells #[.int .i64 2, .int .i64 at', .int .i64 id, .int .i64 sp, .string nm, .string na, .string nb] 34)) #[.string na, .string nb] 9)
  have mX : Mine p r v u ((w.alloc (Obj.cells #[.int .i64 2, .int .i64 at', .int .i64 id, .int .i64 sp, .string nm, .string na, .string nb] 34)).alloc (Obj.cells #[.string na, .string nb] 9)) w.heap.size := h.mine (Nat.le_refl _) (by simp; try omega)
  have mY : Mine p r v u ((w.alloc (Obj.cells #[.int .i64 2, .int .i64 at', .int .i64 id, .int .i64 sp, .string nm, .string na, .string nb] 34)).alloc (Obj.cells #[.string na, .string nb] 9)) (w.heap.size + 1) := h.mine (by omega) (by simp)
  have HW : Hid (Way base p r v u ((w.alloc (Obj.cells #[.int .i64 2, .int .i64 at', .int .i64 id, .int .i64 sp, .string nm, .string na, .string nb] 34)).alloc (Obj.cells #[.string na, .string nb] 9)) L L ((w.alloc (Obj.cells #[.int .i64 2, .int .i64 at', .int .i64 id, .int .i64 sp, .string nm, .string na, .string nb] 34)).alloc (Obj.cells #[.string na, .string nb] 9))) := hide (Way.start (h.later b2))
  have hz : base ≤ ((w.alloc (Obj.cells #[.int .i64 2, .int .i64 at', .int .i64 id, .int .i64 sp, .string nm, .string na, .string nb] 34)).alloc (Obj.cells #[.string na, .string nb] 9)).heap.size := Nat.le_trans hbase b2.size
  have CP : Hid (∀ W, Way base p r v u ((w.alloc (Obj.cells #[.int .i64 2, .int .i64 at', .int .i64 id, .int .i64 sp, .string nm, .string na, .string nb] 34)).alloc (Obj.cells #[.string na, .string nb] 9)) L L W → Calls Try.prog 36 #[ptr p, entV ⟨id, sp, nm⟩] W fun e w' => e = .returned (.int .i64 (if 200 ≤ L.length then 5 else 0)) ∧ Way base p r v u ((w.alloc (Obj.cells #[.int .i64 2, .int .i64 at', .int .i64 id, .int .i64 sp, .string nm, .string na, .string nb] 34)).alloc (Obj.cells #[.string na, .string nb] 9)) (if 200 ≤ L.length then L else L ++ [⟨id, sp, nm⟩]) L w') := hide fun W hW => hW.callP (fun v1 hs h1 => push_any base p v1 ⟨id, sp, nm⟩ L W hs (Nat.le_trans hz hW.size))
  have CR : Hid (∀ W, Way base p r v u ((w.alloc (Obj.cells #[.int .i64 2, .int .i64 at', .int .i64 id, .int .i64 sp, .string nm, .string na, .string nb] 34)).alloc (Obj.cells #[.string na, .string nb] 9)) (if 200 ≤ L.length then L else L ++ [⟨id, sp, nm⟩]) L W → Calls Try.prog 40 #[ptr r, .int .i64 (L.length : Int), entV ⟨id, sp, nm⟩] W fun e w' => e = .returned (.int .i64 (if 200 ≤ L.length then 5 else 0)) ∧ Way base p r v u ((w.alloc (Obj.cells #[.int .i64 2, .int .i64 at', .int .i64 id, .int .i64 sp, .string nm, .string na, .string nb] 34)).alloc (Obj.cells #[.string na, .string nb] 9)) (if 200 ≤ L.length then L else L ++ [⟨id, sp, nm⟩]) (if 200 ≤ L.length then L else L ++ [⟨id, sp, nm⟩]) w') := hide fun W hW => hW.callR (fun u1 hs h1 => by have := rinsert_any base r u1 (L.length : Int) ⟨id, sp, nm⟩ L W hs (Nat.le_trans hz hW.size); rw [(push_same ⟨id, sp, nm⟩ L).1, (push_same ⟨id, sp, nm⟩ L).2] at this; exact this)
  have CF := hide (fun W => ref_any ⟨id, sp, nm⟩ W)
  have hle : (if 200 ≤ L.length then L else L ++ [⟨id, sp, nm⟩]).length ≤ 200 := by split <;> first | exact hN | (simp; omega)
  have HL := hide hle
  have HB2 := hide b2
  have HK := hide (And.intro mX kX)
  have HWd : Hid (Way base p r v u ((w.alloc (Obj.cells #[.int .i64 2, .int .i64 at', .int .i64 id, .int .i64 sp, .string nm, .string na, .string nb] 34)).alloc (Obj.cells #[.string na, .string nb] 9)) L L ((w.alloc (Obj.cells #[.int .i64 2, .int .i64 at', .int .i64 id, .int .i64 sp, .string nm, .string na, .string nb] 34)).alloc (Obj.cells #[.string na, .string nb] 9)).drew) := hide ((unhide HW).later (below_draws _ 1))
  have HS : Hid (BoxS w.heap.size 2 at' id sp nm na nb ((w.alloc (Obj.cells #[.int .i64 2, .int .i64 at', .int .i64 id, .int .i64 sp, .string nm, .string na, .string nb] 34)).alloc (Obj.cells #[.string na, .string nb] 9)).drew) := hide (BoxS.of ((unhide HWd).blk mX kX))
  unfold entV at *
  dsimp only at *
  generalize (if 200 ≤ L.length then L else L ++ [⟨id, sp, nm⟩]) = L2 at *
  generalize (if 200 ≤ L.length then (5 : Int) else 0) = N at *
  clear h b2 kX kY mX mY hz hle HW
  unfold ptr stepA at *
  go_enter Try.func11, Try.ntmps11
  go_wp2_with fail
  have hSa := unhide HS
  have HWn := HWd
  refine wp_region_held (S := BoxS w.heap.size 2 at' id sp nm na nb) (by kernel_rfl) ?_
  change wpAnyH _ _ _ _ _ _ _ _ (World.drew _)
  refine wpAnyH_take (i := 0) (oi := { dst := some 23, op := _, type := _, pos := _, after := _, guard := _ }) (v := ?va0) rfl (by kernel_rfl) (by kernel_rfl) (by kernel_rfl) (fun _ _ _ h => h) (Or.inl ⟨by kernel_rfl, ?ha0⟩) hSa ?ra0
  case ha0 => first | (intro w hSw; obtain ⟨s0, s1, s2, s3, s4, s5, s6⟩ := hSw; go_simp; done) | (intro w hSw; obtain ⟨s0, s1, s2, s3, s4, s5, s6⟩ := hSw; go_simp; with_reducible rfl)
  try simp only [Act.put, List.setIfInBounds_toArray, List.set_cons_zero, List.set_cons_succ]
  refine wpAnyH_take (i := 1) (oi := { dst := some 24, op := _, type := _, pos := _, after := _, guard := _ }) (v := ?va1) rfl (by kernel_rfl) (by kernel_rfl) (by kernel_rfl) (fun _ _ _ h => h) (Or.inl ⟨by kernel_rfl, ?ha1⟩) hSa ?ra1
  case ha1 => first | (intro w hSw; obtain ⟨s0, s1, s2, s3, s4, s5, s6⟩ := hSw; go_simp; done) | (intro w hSw; obtain ⟨s0, s1, s2, s3, s4, s5, s6⟩ := hSw; go_simp; with_reducible rfl)
  try simp only [Act.put, List.setIfInBounds_toArray, List.set_cons_zero, List.set_cons_succ]
  refine wpAnyH_take (i := 2) (oi := { dst := some 25, op := _, type := _, pos := _, after := _, guard := _ }) (v := ?va2) rfl (by kernel_rfl) (by kernel_rfl) (by kernel_rfl) (fun _ _ _ h => h) (Or.inl ⟨by kernel_rfl, ?ha2⟩) hSa ?ra2
  case ha2 => first | (intro w hSw; obtain ⟨s0, s1, s2, s3, s4, s5, s6⟩ := hSw; go_simp; done) | (intro w hSw; obtain ⟨s0, s1, s2, s3, s4, s5, s6⟩ := hSw; go_simp; with_reducible rfl)
  try simp only [Act.put, List.setIfInBounds_toArray, List.set_cons_zero, List.set_cons_succ]
  refine wpAnyH_take (i := 4) (oi := { dst := some 27, op := _, type := _, pos := _, after := _, guard := _ }) (v := ?va4) rfl (by kernel_rfl) (by kernel_rfl) (by kernel_rfl) (fun _ _ _ h => h) (Or.inl ⟨by kernel_rfl, ?ha4⟩) hSa ?ra4
  case ha4 => first | (intro w hSw; obtain ⟨s0, s1, s2, s3, s4, s5, s6⟩ := hSw; go_simp; done) | (intro w hSw; obtain ⟨s0, s1, s2, s3, s4, s5, s6⟩ := hSw; go_simp; with_reducible rfl)
  try simp only [Act.put, List.setIfInBounds_toArray, List.set_cons_zero, List.set_cons_succ]
  refine wpAnyH_take (i := 5) (oi := { dst := some 28, op := _, type := _, pos := _, after := _, guard := _ }) (v := ?va5) rfl (by kernel_rfl) (by kernel_rfl) (by kernel_rfl) (fun _ _ _ h => h) (Or.inl ⟨by kernel_rfl, ?ha5⟩) hSa ?ra5
  case ha5 => first | (intro w hSw; obtain ⟨s0, s1, s2, s3, s4, s5, s6⟩ := hSw; go_simp; done) | (intro w hSw; obtain ⟨s0, s1, s2, s3, s4, s5, s6⟩ := hSw; go_simp; with_reducible rfl)
  try simp only [Act.put, List.setIfInBounds_toArray, List.set_cons_zero, List.set_cons_succ]
  refine wpAnyH_take (i := 6) (oi := { dst := some 29, op := _, type := _, pos := _, after := _, guard := _ }) (v := ?va6) rfl (by kernel_rfl) (by kernel_rfl) (by kernel_rfl) (fun _ _ _ h => h) (Or.inl ⟨by kernel_rfl, ?ha6⟩) hSa ?ra6
  case ha6 => first | (intro w hSw; obtain ⟨s0, s1, s2, s3, s4, s5, s6⟩ := hSw; go_simp; done) | (intro w hSw; obtain ⟨s0, s1, s2, s3, s4, s5, s6⟩ := hSw; go_simp; with_reducible rfl)
  try simp only [Act.put, List.setIfInBounds_toArray, List.set_cons_zero, List.set_cons_succ]
  refine wpAnyH_take (i := 7) (oi := { dst := some 30, op := _, type := _, pos := _, after := _, guard := _ }) (v := ?va7) rfl (by kernel_rfl) (by kernel_rfl) (by kernel_rfl) (fun _ _ _ h => h) (Or.inl ⟨by kernel_rfl, ?ha7⟩) hSa ?ra7
  case ha7 => first | (intro w hSw; obtain ⟨s0, s1, s2, s3, s4, s5, s6⟩ := hSw; go_simp; done) | (intro w hSw; obtain ⟨s0, s1, s2, s3, s4, s5, s6⟩ := hSw; go_simp; with_reducible rfl)
  try simp only [Act.put, List.setIfInBounds_toArray, List.set_cons_zero, List.set_cons_succ]
  refine wpAnyH_take (i := 10) (oi := { dst := some 33, op := _, type := _, pos := _, after := _, guard := _ }) (v := ?va10) rfl (by kernel_rfl) (by kernel_rfl) (by kernel_rfl) (fun _ _ _ h => h) (Or.inl ⟨by kernel_rfl, ?ha10⟩) hSa ?ra10
  case ha10 => first | (intro w hSw; obtain ⟨s0, s1, s2, s3, s4, s5, s6⟩ := hSw; go_simp; done) | (intro w hSw; obtain ⟨s0, s1, s2, s3, s4, s5, s6⟩ := hSw; go_simp; with_reducible rfl)
  try simp only [Act.put, List.setIfInBounds_toArray, List.set_cons_zero, List.set_cons_succ]
  refine wpAnyH_take (i := 11) (oi := { dst := some 34, op := _, type := _, pos := _, after := _, guard := _ }) (v := ?va11) rfl (by kernel_rfl) (by kernel_rfl) (by kernel_rfl) (fun _ _ _ h => h) (Or.inl ⟨by kernel_rfl, ?ha11⟩) hSa ?ra11
  case ha11 => first | (intro w hSw; obtain ⟨s0, s1, s2, s3, s4, s5, s6⟩ := hSw; go_simp; done) | (intro w hSw; obtain ⟨s0, s1, s2, s3, s4, s5, s6⟩ := hSw; go_simp; with_reducible rfl)
  try simp only [Act.put, List.setIfInBounds_toArray, List.set_cons_zero, List.set_cons_succ]
  refine wpAnyH_ready (rs := [3, 8]) (by kernel_rfl) (by simp) ?_
  refine AllReadyH.cons rfl (fun K hK => ?_) (AllReadyH.cons rfl (fun K hK => ?_) AllReadyH.nil)
  · go_simp
    refine (unhide CP _ (unhide HWn)).mono ?_
    rintro e w3 ⟨rfl, hw⟩
    replace HWn := hide hw
    clear hw
    have hSa' := BoxS.of ((unhide HWn).blk (unhide HK).1 (unhide HK).2)
    refine hK _ _ hSa' (fun _ => ?_)
    clear hK K hSa
    have hSa := hSa'
    clear hSa'
    refine wpAnyH_ready (rs := [8, 12]) (by kernel_rfl) (by simp) ?_
    refine AllReadyH.cons rfl (fun K hK => ?_) (AllReadyH.cons rfl (fun K hK => ?_) AllReadyH.nil)
    · obtain ⟨cq, cc, c0⟩ := (unhide HWn).cellR
      go_simp
      clear c0
      have hSa' := hSa
      refine hK _ _ hSa' (fun _ => ?_)
      clear hK K hSa
      have hSa := hSa'
      clear hSa'
      refine wpAnyH_take (i := 9) (oi := { dst := some 32, op := _, type := _, pos := _, after := _, guard := _ }) (v := ?va9_3_8) rfl (by kernel_rfl) (by kernel_rfl) (by kernel_rfl) (fun _ _ _ h => h) (Or.inl ⟨by kernel_rfl, ?ha9_3_8⟩) hSa ?ra9_3_8
      case ha9_3_8 => first | (intro w hSw; obtain ⟨s0, s1, s2, s3, s4, s5, s6⟩ := hSw; go_simp; done) | (intro w hSw; obtain ⟨s0, s1, s2, s3, s4, s5, s6⟩ := hSw; go_simp; with_reducible rfl)
      try simp only [Act.put, List.setIfInBounds_toArray, List.set_cons_zero, List.set_cons_succ]
      refine wpAnyH_ready (rs := [12]) (by kernel_rfl) (by simp) ?_
      refine AllReadyH.cons rfl (fun K hK => ?_) AllReadyH.nil
      go_simp
      refine (unhide CF _).mono ?_
      rintro e w5 ⟨rfl, hb⟩
      replace HWn := hide ((unhide HWn).later hb)
      clear hb
      have hSa' := BoxS.of ((unhide HWn).blk (unhide HK).1 (unhide HK).2)
      refine hK _ _ hSa' (fun _ => ?_)
      clear hK K hSa
      have hSa := hSa'
      clear hSa'
      refine wpAnyH_ready (rs := [13]) (by kernel_rfl) (by simp) ?_
      refine AllReadyH.cons rfl (fun K hK => ?_) AllReadyH.nil
      go_simp
      refine (unhide CR _ (unhide HWn)).mono ?_
      rintro e w6 ⟨rfl, hw⟩
      replace HWn := hide hw
      clear hw
      have hSa' := BoxS.of ((unhide HWn).blk (unhide HK).1 (unhide HK).2)
      refine hK _ _ hSa' (fun _ => ?_)
      clear hK K hSa
      have hSa := hSa'
      clear hSa'
      refine wpAnyH_take (i := 14) (oi := { dst := some 37, op := _, type := _, pos := _, after := _, guard := _ }) (v := ?va14_3_8_12_13) rfl (by kernel_rfl) (by kernel_rfl) (by kernel_rfl) (fun _ _ _ h => h) (Or.inl ⟨by kernel_rfl, ?ha14_3_8_12_13⟩) hSa ?ra14_3_8_12_13
      case ha14_3_8_12_13 => first | (intro w hSw; obtain ⟨s0, s1, s2, s3, s4, s5, s6⟩ := hSw; go_simp; done) | (intro w hSw; obtain ⟨s0, s1, s2, s3, s4, s5, s6⟩ := hSw; go_simp; with_reducible rfl)
      try simp only [Act.put, List.setIfInBounds_toArray, List.set_cons_zero, List.set_cons_succ]
      refine wpAnyH_take (i := 15) (oi := { dst := some 6, op := _, type := _, pos := _, after := _, guard := _ }) (v := ?va15_3_8_12_13) rfl (by kernel_rfl) (by kernel_rfl) (by kernel_rfl) (fun _ _ _ h => h) (Or.inl ⟨by kernel_rfl, ?ha15_3_8_12_13⟩) hSa ?ra15_3_8_12_13
      case ha15_3_8_12_13 => first | (intro w hSw; obtain ⟨s0, s1, s2, s3, s4, s5, s6⟩ := hSw; go_simp; done) | (intro w hSw; obtain ⟨s0, s1, s2, s3, s4, s5, s6⟩ := hSw; go_simp; with_reducible rfl)
      try simp only [Act.put, List.setIfInBounds_toArray, List.set_cons_zero, List.set_cons_succ]
      refine wpAnyH_done (by kernel_rfl) ?_ _
      clear hSa HS
      go_wp2
      go_ret
      exact ⟨rfl, _, unhide HL, (unhide HWn).ahead (unhide HB2)⟩
    · go_simp
      refine (unhide CF _).mono ?_
      rintro e w4 ⟨rfl, hb⟩
      replace HWn := hide ((unhide HWn).later hb)
      clear hb
      have hSa' := BoxS.of ((unhide HWn).blk (unhide HK).1 (unhide HK).2)
      refine hK _ _ hSa' (fun _ => ?_)
      clear hK K hSa
      have hSa := hSa'
      clear hSa'
      refine wpAnyH_ready (rs := [8]) (by kernel_rfl) (by simp) ?_
      refine AllReadyH.cons rfl (fun K hK => ?_) AllReadyH.nil
      obtain ⟨cq, cc, c0⟩ := (unhide HWn).cellR
      go_simp
      clear c0
      have hSa' := hSa
      refine hK _ _ hSa' (fun _ => ?_)
      clear hK K hSa
      have hSa := hSa'
      clear hSa'
      refine wpAnyH_take (i := 9) (oi := { dst := some 32, op := _, type := _, pos := _, after := _, guard := _ }) (v := ?va9_3_12_8) rfl (by kernel_rfl) (by kernel_rfl) (by kernel_rfl) (fun _ _ _ h => h) (Or.inl ⟨by kernel_rfl, ?ha9_3_12_8⟩) hSa ?ra9_3_12_8
      case ha9_3_12_8 => first | (intro w hSw; obtain ⟨s0, s1, s2, s3, s4, s5, s6⟩ := hSw; go_simp; done) | (intro w hSw; obtain ⟨s0, s1, s2, s3, s4, s5, s6⟩ := hSw; go_simp; with_reducible rfl)
      try simp only [Act.put, List.setIfInBounds_toArray, List.set_cons_zero, List.set_cons_succ]
      refine wpAnyH_ready (rs := [13]) (by kernel_rfl) (by simp) ?_
      refine AllReadyH.cons rfl (fun K hK => ?_) AllReadyH.nil
      go_simp
      refine (unhide CR _ (unhide HWn)).mono ?_
      rintro e w6 ⟨rfl, hw⟩
      replace HWn := hide hw
      clear hw
      have hSa' := BoxS.of ((unhide HWn).blk (unhide HK).1 (unhide HK).2)
      refine hK _ _ hSa' (fun _ => ?_)
      clear hK K hSa
      have hSa := hSa'
      clear hSa'
      refine wpAnyH_take (i := 14) (oi := { dst := some 37, op := _, type := _, pos := _, after := _, guard := _ }) (v := ?va14_3_12_8_13) rfl (by kernel_rfl) (by kernel_rfl) (by kernel_rfl) (fun _ _ _ h => h) (Or.inl ⟨by kernel_rfl, ?ha14_3_12_8_13⟩) hSa ?ra14_3_12_8_13
      case ha14_3_12_8_13 => first | (intro w hSw; obtain ⟨s0, s1, s2, s3, s4, s5, s6⟩ := hSw; go_simp; done) | (intro w hSw; obtain ⟨s0, s1, s2, s3, s4, s5, s6⟩ := hSw; go_simp; with_reducible rfl)
      try simp only [Act.put, List.setIfInBounds_toArray, List.set_cons_zero, List.set_cons_succ]
      refine wpAnyH_take (i := 15) (oi := { dst := some 6, op := _, type := _, pos := _, after := _, guard := _ }) (v := ?va15_3_12_8_13) rfl (by kernel_rfl) (by kernel_rfl) (by kernel_rfl) (fun _ _ _ h => h) (Or.inl ⟨by kernel_rfl, ?ha15_3_12_8_13⟩) hSa ?ra15_3_12_8_13
      case ha15_3_12_8_13 => first | (intro w hSw; obtain ⟨s0, s1, s2, s3, s4, s5, s6⟩ := hSw; go_simp; done) | (intro w hSw; obtain ⟨s0, s1, s2, s3, s4, s5, s6⟩ := hSw; go_simp; with_reducible rfl)
      try simp only [Act.put, List.setIfInBounds_toArray, List.set_cons_zero, List.set_cons_succ]
      refine wpAnyH_done (by kernel_rfl) ?_ _
      clear hSa HS
      go_wp2
      go_ret
      exact ⟨rfl, _, unhide HL, (unhide HWn).ahead (unhide HB2)⟩
  · obtain ⟨cq, cc, c0⟩ := (unhide HWn).cellR
    go_simp
    clear c0
    have hSa' := hSa
    refine hK _ _ hSa' (fun _ => ?_)
    clear hK K hSa
    have hSa := hSa'
    clear hSa'
    refine wpAnyH_take (i := 9) (oi := { dst := some 32, op := _, type := _, pos := _, after := _, guard := _ }) (v := ?va9_8) rfl (by kernel_rfl) (by kernel_rfl) (by kernel_rfl) (fun _ _ _ h => h) (Or.inl ⟨by kernel_rfl, ?ha9_8⟩) hSa ?ra9_8
    case ha9_8 => first | (intro w hSw; obtain ⟨s0, s1, s2, s3, s4, s5, s6⟩ := hSw; go_simp; done) | (intro w hSw; obtain ⟨s0, s1, s2, s3, s4, s5, s6⟩ := hSw; go_simp; with_reducible rfl)
    try simp only [Act.put, List.setIfInBounds_toArray, List.set_cons_zero, List.set_cons_succ]
    refine wpAnyH_ready (rs := [3]) (by kernel_rfl) (by simp) ?_
    refine AllReadyH.cons rfl (fun K hK => ?_) AllReadyH.nil
    go_simp
    refine (unhide CP _ (unhide HWn)).mono ?_
    rintro e w4 ⟨rfl, hw⟩
    replace HWn := hide hw
    clear hw
    have hSa' := BoxS.of ((unhide HWn).blk (unhide HK).1 (unhide HK).2)
    refine hK _ _ hSa' (fun _ => ?_)
    clear hK K hSa
    have hSa := hSa'
    clear hSa'
    refine wpAnyH_ready (rs := [12]) (by kernel_rfl) (by simp) ?_
    refine AllReadyH.cons rfl (fun K hK => ?_) AllReadyH.nil
    go_simp
    refine (unhide CF _).mono ?_
    rintro e w5 ⟨rfl, hb⟩
    replace HWn := hide ((unhide HWn).later hb)
    clear hb
    have hSa' := BoxS.of ((unhide HWn).blk (unhide HK).1 (unhide HK).2)
    refine hK _ _ hSa' (fun _ => ?_)
    clear hK K hSa
    have hSa := hSa'
    clear hSa'
    refine wpAnyH_ready (rs := [13]) (by kernel_rfl) (by simp) ?_
    refine AllReadyH.cons rfl (fun K hK => ?_) AllReadyH.nil
    go_simp
    refine (unhide CR _ (unhide HWn)).mono ?_
    rintro e w6 ⟨rfl, hw⟩
    replace HWn := hide hw
    clear hw
    have hSa' := BoxS.of ((unhide HWn).blk (unhide HK).1 (unhide HK).2)
    refine hK _ _ hSa' (fun _ => ?_)
    clear hK K hSa
    have hSa := hSa'
    clear hSa'
    refine wpAnyH_take (i := 14) (oi := { dst := some 37, op := _, type := _, pos := _, after := _, guard := _ }) (v := ?va14_8_3_12_13) rfl (by kernel_rfl) (by kernel_rfl) (by kernel_rfl) (fun _ _ _ h => h) (Or.inl ⟨by kernel_rfl, ?ha14_8_3_12_13⟩) hSa ?ra14_8_3_12_13
    case ha14_8_3_12_13 => first | (intro w hSw; obtain ⟨s0, s1, s2, s3, s4, s5, s6⟩ := hSw; go_simp; done) | (intro w hSw; obtain ⟨s0, s1, s2, s3, s4, s5, s6⟩ := hSw; go_simp; with_reducible rfl)
    try simp only [Act.put, List.setIfInBounds_toArray, List.set_cons_zero, List.set_cons_succ]
    refine wpAnyH_take (i := 15) (oi := { dst := some 6, op := _, type := _, pos := _, after := _, guard := _ }) (v := ?va15_8_3_12_13) rfl (by kernel_rfl) (by kernel_rfl) (by kernel_rfl) (fun _ _ _ h => h) (Or.inl ⟨by kernel_rfl, ?ha15_8_3_12_13⟩) hSa ?ra15_8_3_12_13
    case ha15_8_3_12_13 => first | (intro w hSw; obtain ⟨s0, s1, s2, s3, s4, s5, s6⟩ := hSw; go_simp; done) | (intro w hSw; obtain ⟨s0, s1, s2, s3, s4, s5, s6⟩ := hSw; go_simp; with_reducible rfl)
    try simp only [Act.put, List.setIfInBounds_toArray, List.set_cons_zero, List.set_cons_succ]
    refine wpAnyH_done (by kernel_rfl) ?_ _
    clear hSa HS
    go_wp2
    go_ret
    exact ⟨rfl, _, unhide HL, (unhide HWn).ahead (unhide HB2)⟩
set_option maxHeartbeats 8000000 in
set_option maxRecDepth 100000 in
theorem does_push3 (base p r : Nat) (v u : Value) (at' id sp : Int) (nm na nb : ByteArray) (L : List Ent) (w : World) (h : TwoR base p v L r u L w) (hbase : base ≤ w.heap.size) (hN : L.length ≤ 200) :
    Calls Try.prog 11 #[ptr p, ptr r, .agg (stepA 3 at' id sp nm na nb)] w (DoesSaid base p r v u w) := by
  have b2 : Below w.heap.size w ((w.alloc (Obj.cells #[.int .i64 3, .int .i64 at', .int .i64 id, .int .i64 sp, .string nm, .string na, .string nb] 34)).alloc (Obj.cells #[.string na, .string nb] 9)) := (((Below.refl _ _).alloc (Nat.le_refl _) _).alloc (by simp) _)
  have kX : Blk ((w.alloc (Obj.cells #[.int .i64 3, .int .i64 at', .int .i64 id, .int .i64 sp, .string nm, .string na, .string nb] 34)).alloc (Obj.cells #[.string na, .string nb] 9)) w.heap.size (stepA 3 at' id sp nm na nb) 34 := ((Blk.new w _ _).alloc _)
  have kY : Blk ((w.alloc (Obj.cells #[.int .i64 3, .int .i64 at', .int .i64 id, .int .i64 sp, .string nm, .string na, .string nb] 34)).alloc (Obj.cells #[.string na, .string nb] 9)) (w.heap.size + 1) #[.string na, .string nb] 9 := Eq.mp (by simp) (Blk.new (w.alloc (Obj.cells #[.int .i64 3, .int .i64 at', .int .i64 id, .int .i64 sp, .string nm, .string na, .string nb] 34)) #[.string na, .string nb] 9)
  have mX : Mine p r v u ((w.alloc (Obj.cells #[.int .i64 3, .int .i64 at', .int .i64 id, .int .i64 sp, .string nm, .string na, .string nb] 34)).alloc (Obj.cells #[.string na, .string nb] 9)) w.heap.size := h.mine (Nat.le_refl _) (by simp; try omega)
  have mY : Mine p r v u ((w.alloc (Obj.cells #[.int .i64 3, .int .i64 at', .int .i64 id, .int .i64 sp, .string nm, .string na, .string nb] 34)).alloc (Obj.cells #[.string na, .string nb] 9)) (w.heap.size + 1) := h.mine (by omega) (by simp)
  have HW : Hid (Way base p r v u ((w.alloc (Obj.cells #[.int .i64 3, .int .i64 at', .int .i64 id, .int .i64 sp, .string nm, .string na, .string nb] 34)).alloc (Obj.cells #[.string na, .string nb] 9)) L L ((w.alloc (Obj.cells #[.int .i64 3, .int .i64 at', .int .i64 id, .int .i64 sp, .string nm, .string na, .string nb] 34)).alloc (Obj.cells #[.string na, .string nb] 9))) := hide (Way.start (h.later b2))
  have hz : base ≤ ((w.alloc (Obj.cells #[.int .i64 3, .int .i64 at', .int .i64 id, .int .i64 sp, .string nm, .string na, .string nb] 34)).alloc (Obj.cells #[.string na, .string nb] 9)).heap.size := Nat.le_trans hbase b2.size
  have CP : Hid (∀ W, Way base p r v u ((w.alloc (Obj.cells #[.int .i64 3, .int .i64 at', .int .i64 id, .int .i64 sp, .string nm, .string na, .string nb] 34)).alloc (Obj.cells #[.string na, .string nb] 9)) L L W → Calls Try.prog 36 #[ptr p, entV ⟨id, sp, nm⟩] W fun e w' => e = .returned (.int .i64 (if 200 ≤ L.length then 5 else 0)) ∧ Way base p r v u ((w.alloc (Obj.cells #[.int .i64 3, .int .i64 at', .int .i64 id, .int .i64 sp, .string nm, .string na, .string nb] 34)).alloc (Obj.cells #[.string na, .string nb] 9)) (if 200 ≤ L.length then L else L ++ [⟨id, sp, nm⟩]) L w') := hide fun W hW => hW.callP (fun v1 hs h1 => push_any base p v1 ⟨id, sp, nm⟩ L W hs (Nat.le_trans hz hW.size))
  have CR : Hid (∀ W, Way base p r v u ((w.alloc (Obj.cells #[.int .i64 3, .int .i64 at', .int .i64 id, .int .i64 sp, .string nm, .string na, .string nb] 34)).alloc (Obj.cells #[.string na, .string nb] 9)) (if 200 ≤ L.length then L else L ++ [⟨id, sp, nm⟩]) L W → Calls Try.prog 40 #[ptr r, .int .i64 (L.length : Int), entV ⟨id, sp, nm⟩] W fun e w' => e = .returned (.int .i64 (if 200 ≤ L.length then 5 else 0)) ∧ Way base p r v u ((w.alloc (Obj.cells #[.int .i64 3, .int .i64 at', .int .i64 id, .int .i64 sp, .string nm, .string na, .string nb] 34)).alloc (Obj.cells #[.string na, .string nb] 9)) (if 200 ≤ L.length then L else L ++ [⟨id, sp, nm⟩]) (if 200 ≤ L.length then L else L ++ [⟨id, sp, nm⟩]) w') := hide fun W hW => hW.callR (fun u1 hs h1 => by have := rinsert_any base r u1 (L.length : Int) ⟨id, sp, nm⟩ L W hs (Nat.le_trans hz hW.size); rw [(push_same ⟨id, sp, nm⟩ L).1, (push_same ⟨id, sp, nm⟩ L).2] at this; exact this)
  have CF := hide (fun W => ref_any ⟨id, sp, nm⟩ W)
  have hle : (if 200 ≤ L.length then L else L ++ [⟨id, sp, nm⟩]).length ≤ 200 := by split <;> first | exact hN | (simp; omega)
  have HL := hide hle
  have HB2 := hide b2
  have HK := hide (And.intro mX kX)
  have HWd : Hid (Way base p r v u ((w.alloc (Obj.cells #[.int .i64 3, .int .i64 at', .int .i64 id, .int .i64 sp, .string nm, .string na, .string nb] 34)).alloc (Obj.cells #[.string na, .string nb] 9)) L L ((w.alloc (Obj.cells #[.int .i64 3, .int .i64 at', .int .i64 id, .int .i64 sp, .string nm, .string na, .string nb] 34)).alloc (Obj.cells #[.string na, .string nb] 9)).drew) := hide ((unhide HW).later (below_draws _ 1))
  have HS : Hid (BoxS w.heap.size 3 at' id sp nm na nb ((w.alloc (Obj.cells #[.int .i64 3, .int .i64 at', .int .i64 id, .int .i64 sp, .string nm, .string na, .string nb] 34)).alloc (Obj.cells #[.string na, .string nb] 9)).drew) := hide (BoxS.of ((unhide HWd).blk mX kX))
  unfold entV at *
  dsimp only at *
  generalize (if 200 ≤ L.length then L else L ++ [⟨id, sp, nm⟩]) = L2 at *
  generalize (if 200 ≤ L.length then (5 : Int) else 0) = N at *
  clear h b2 kX kY mX mY hz hle HW
  unfold ptr stepA at *
  go_enter Try.func11, Try.ntmps11
  go_wp2_with fail
  have hSa := unhide HS
  have HWn := HWd
  refine wp_region_held (S := BoxS w.heap.size 3 at' id sp nm na nb) (by kernel_rfl) ?_
  change wpAnyH _ _ _ _ _ _ _ _ (World.drew _)
  refine wpAnyH_take (i := 0) (oi := { dst := some 23, op := _, type := _, pos := _, after := _, guard := _ }) (v := ?va0) rfl (by kernel_rfl) (by kernel_rfl) (by kernel_rfl) (fun _ _ _ h => h) (Or.inl ⟨by kernel_rfl, ?ha0⟩) hSa ?ra0
  case ha0 => first | (intro w hSw; obtain ⟨s0, s1, s2, s3, s4, s5, s6⟩ := hSw; go_simp; done) | (intro w hSw; obtain ⟨s0, s1, s2, s3, s4, s5, s6⟩ := hSw; go_simp; with_reducible rfl)
  try simp only [Act.put, List.setIfInBounds_toArray, List.set_cons_zero, List.set_cons_succ]
  refine wpAnyH_take (i := 1) (oi := { dst := some 24, op := _, type := _, pos := _, after := _, guard := _ }) (v := ?va1) rfl (by kernel_rfl) (by kernel_rfl) (by kernel_rfl) (fun _ _ _ h => h) (Or.inl ⟨by kernel_rfl, ?ha1⟩) hSa ?ra1
  case ha1 => first | (intro w hSw; obtain ⟨s0, s1, s2, s3, s4, s5, s6⟩ := hSw; go_simp; done) | (intro w hSw; obtain ⟨s0, s1, s2, s3, s4, s5, s6⟩ := hSw; go_simp; with_reducible rfl)
  try simp only [Act.put, List.setIfInBounds_toArray, List.set_cons_zero, List.set_cons_succ]
  refine wpAnyH_take (i := 2) (oi := { dst := some 25, op := _, type := _, pos := _, after := _, guard := _ }) (v := ?va2) rfl (by kernel_rfl) (by kernel_rfl) (by kernel_rfl) (fun _ _ _ h => h) (Or.inl ⟨by kernel_rfl, ?ha2⟩) hSa ?ra2
  case ha2 => first | (intro w hSw; obtain ⟨s0, s1, s2, s3, s4, s5, s6⟩ := hSw; go_simp; done) | (intro w hSw; obtain ⟨s0, s1, s2, s3, s4, s5, s6⟩ := hSw; go_simp; with_reducible rfl)
  try simp only [Act.put, List.setIfInBounds_toArray, List.set_cons_zero, List.set_cons_succ]
  refine wpAnyH_take (i := 4) (oi := { dst := some 27, op := _, type := _, pos := _, after := _, guard := _ }) (v := ?va4) rfl (by kernel_rfl) (by kernel_rfl) (by kernel_rfl) (fun _ _ _ h => h) (Or.inl ⟨by kernel_rfl, ?ha4⟩) hSa ?ra4
  case ha4 => first | (intro w hSw; obtain ⟨s0, s1, s2, s3, s4, s5, s6⟩ := hSw; go_simp; done) | (intro w hSw; obtain ⟨s0, s1, s2, s3, s4, s5, s6⟩ := hSw; go_simp; with_reducible rfl)
  try simp only [Act.put, List.setIfInBounds_toArray, List.set_cons_zero, List.set_cons_succ]
  refine wpAnyH_take (i := 5) (oi := { dst := some 28, op := _, type := _, pos := _, after := _, guard := _ }) (v := ?va5) rfl (by kernel_rfl) (by kernel_rfl) (by kernel_rfl) (fun _ _ _ h => h) (Or.inl ⟨by kernel_rfl, ?ha5⟩) hSa ?ra5
  case ha5 => first | (intro w hSw; obtain ⟨s0, s1, s2, s3, s4, s5, s6⟩ := hSw; go_simp; done) | (intro w hSw; obtain ⟨s0, s1, s2, s3, s4, s5, s6⟩ := hSw; go_simp; with_reducible rfl)
  try simp only [Act.put, List.setIfInBounds_toArray, List.set_cons_zero, List.set_cons_succ]
  refine wpAnyH_take (i := 6) (oi := { dst := some 29, op := _, type := _, pos := _, after := _, guard := _ }) (v := ?va6) rfl (by kernel_rfl) (by kernel_rfl) (by kernel_rfl) (fun _ _ _ h => h) (Or.inl ⟨by kernel_rfl, ?ha6⟩) hSa ?ra6
  case ha6 => first | (intro w hSw; obtain ⟨s0, s1, s2, s3, s4, s5, s6⟩ := hSw; go_simp; done) | (intro w hSw; obtain ⟨s0, s1, s2, s3, s4, s5, s6⟩ := hSw; go_simp; with_reducible rfl)
  try simp only [Act.put, List.setIfInBounds_toArray, List.set_cons_zero, List.set_cons_succ]
  refine wpAnyH_take (i := 7) (oi := { dst := some 30, op := _, type := _, pos := _, after := _, guard := _ }) (v := ?va7) rfl (by kernel_rfl) (by kernel_rfl) (by kernel_rfl) (fun _ _ _ h => h) (Or.inl ⟨by kernel_rfl, ?ha7⟩) hSa ?ra7
  case ha7 => first | (intro w hSw; obtain ⟨s0, s1, s2, s3, s4, s5, s6⟩ := hSw; go_simp; done) | (intro w hSw; obtain ⟨s0, s1, s2, s3, s4, s5, s6⟩ := hSw; go_simp; with_reducible rfl)
  try simp only [Act.put, List.setIfInBounds_toArray, List.set_cons_zero, List.set_cons_succ]
  refine wpAnyH_take (i := 10) (oi := { dst := some 33, op := _, type := _, pos := _, after := _, guard := _ }) (v := ?va10) rfl (by kernel_rfl) (by kernel_rfl) (by kernel_rfl) (fun _ _ _ h => h) (Or.inl ⟨by kernel_rfl, ?ha10⟩) hSa ?ra10
  case ha10 => first | (intro w hSw; obtain ⟨s0, s1, s2, s3, s4, s5, s6⟩ := hSw; go_simp; done) | (intro w hSw; obtain ⟨s0, s1, s2, s3, s4, s5, s6⟩ := hSw; go_simp; with_reducible rfl)
  try simp only [Act.put, List.setIfInBounds_toArray, List.set_cons_zero, List.set_cons_succ]
  refine wpAnyH_take (i := 11) (oi := { dst := some 34, op := _, type := _, pos := _, after := _, guard := _ }) (v := ?va11) rfl (by kernel_rfl) (by kernel_rfl) (by kernel_rfl) (fun _ _ _ h => h) (Or.inl ⟨by kernel_rfl, ?ha11⟩) hSa ?ra11
  case ha11 => first | (intro w hSw; obtain ⟨s0, s1, s2, s3, s4, s5, s6⟩ := hSw; go_simp; done) | (intro w hSw; obtain ⟨s0, s1, s2, s3, s4, s5, s6⟩ := hSw; go_simp; with_reducible rfl)
  try simp only [Act.put, List.setIfInBounds_toArray, List.set_cons_zero, List.set_cons_succ]
  refine wpAnyH_ready (rs := [3, 8]) (by kernel_rfl) (by simp) ?_
  refine AllReadyH.cons rfl (fun K hK => ?_) (AllReadyH.cons rfl (fun K hK => ?_) AllReadyH.nil)
  · go_simp
    refine (unhide CP _ (unhide HWn)).mono ?_
    rintro e w3 ⟨rfl, hw⟩
    replace HWn := hide hw
    clear hw
    have hSa' := BoxS.of ((unhide HWn).blk (unhide HK).1 (unhide HK).2)
    refine hK _ _ hSa' (fun _ => ?_)
    clear hK K hSa
    have hSa := hSa'
    clear hSa'
    refine wpAnyH_ready (rs := [8, 12]) (by kernel_rfl) (by simp) ?_
    refine AllReadyH.cons rfl (fun K hK => ?_) (AllReadyH.cons rfl (fun K hK => ?_) AllReadyH.nil)
    · obtain ⟨cq, cc, c0⟩ := (unhide HWn).cellR
      go_simp
      clear c0
      have hSa' := hSa
      refine hK _ _ hSa' (fun _ => ?_)
      clear hK K hSa
      have hSa := hSa'
      clear hSa'
      refine wpAnyH_take (i := 9) (oi := { dst := some 32, op := _, type := _, pos := _, after := _, guard := _ }) (v := ?va9_3_8) rfl (by kernel_rfl) (by kernel_rfl) (by kernel_rfl) (fun _ _ _ h => h) (Or.inl ⟨by kernel_rfl, ?ha9_3_8⟩) hSa ?ra9_3_8
      case ha9_3_8 => first | (intro w hSw; obtain ⟨s0, s1, s2, s3, s4, s5, s6⟩ := hSw; go_simp; done) | (intro w hSw; obtain ⟨s0, s1, s2, s3, s4, s5, s6⟩ := hSw; go_simp; with_reducible rfl)
      try simp only [Act.put, List.setIfInBounds_toArray, List.set_cons_zero, List.set_cons_succ]
      refine wpAnyH_ready (rs := [12]) (by kernel_rfl) (by simp) ?_
      refine AllReadyH.cons rfl (fun K hK => ?_) AllReadyH.nil
      go_simp
      refine (unhide CF _).mono ?_
      rintro e w5 ⟨rfl, hb⟩
      replace HWn := hide ((unhide HWn).later hb)
      clear hb
      have hSa' := BoxS.of ((unhide HWn).blk (unhide HK).1 (unhide HK).2)
      refine hK _ _ hSa' (fun _ => ?_)
      clear hK K hSa
      have hSa := hSa'
      clear hSa'
      refine wpAnyH_ready (rs := [13]) (by kernel_rfl) (by simp) ?_
      refine AllReadyH.cons rfl (fun K hK => ?_) AllReadyH.nil
      go_simp
      refine (unhide CR _ (unhide HWn)).mono ?_
      rintro e w6 ⟨rfl, hw⟩
      replace HWn := hide hw
      clear hw
      have hSa' := BoxS.of ((unhide HWn).blk (unhide HK).1 (unhide HK).2)
      refine hK _ _ hSa' (fun _ => ?_)
      clear hK K hSa
      have hSa := hSa'
      clear hSa'
      refine wpAnyH_take (i := 14) (oi := { dst := some 37, op := _, type := _, pos := _, after := _, guard := _ }) (v := ?va14_3_8_12_13) rfl (by kernel_rfl) (by kernel_rfl) (by kernel_rfl) (fun _ _ _ h => h) (Or.inl ⟨by kernel_rfl, ?ha14_3_8_12_13⟩) hSa ?ra14_3_8_12_13
      case ha14_3_8_12_13 => first | (intro w hSw; obtain ⟨s0, s1, s2, s3, s4, s5, s6⟩ := hSw; go_simp; done) | (intro w hSw; obtain ⟨s0, s1, s2, s3, s4, s5, s6⟩ := hSw; go_simp; with_reducible rfl)
      try simp only [Act.put, List.setIfInBounds_toArray, List.set_cons_zero, List.set_cons_succ]
      refine wpAnyH_take (i := 15) (oi := { dst := some 6, op := _, type := _, pos := _, after := _, guard := _ }) (v := ?va15_3_8_12_13) rfl (by kernel_rfl) (by kernel_rfl) (by kernel_rfl) (fun _ _ _ h => h) (Or.inl ⟨by kernel_rfl, ?ha15_3_8_12_13⟩) hSa ?ra15_3_8_12_13
      case ha15_3_8_12_13 => first | (intro w hSw; obtain ⟨s0, s1, s2, s3, s4, s5, s6⟩ := hSw; go_simp; done) | (intro w hSw; obtain ⟨s0, s1, s2, s3, s4, s5, s6⟩ := hSw; go_simp; with_reducible rfl)
      try simp only [Act.put, List.setIfInBounds_toArray, List.set_cons_zero, List.set_cons_succ]
      refine wpAnyH_done (by kernel_rfl) ?_ _
      clear hSa HS
      go_wp2
      go_ret
      exact ⟨rfl, _, unhide HL, (unhide HWn).ahead (unhide HB2)⟩
    · go_simp
      refine (unhide CF _).mono ?_
      rintro e w4 ⟨rfl, hb⟩
      replace HWn := hide ((unhide HWn).later hb)
      clear hb
      have hSa' := BoxS.of ((unhide HWn).blk (unhide HK).1 (unhide HK).2)
      refine hK _ _ hSa' (fun _ => ?_)
      clear hK K hSa
      have hSa := hSa'
      clear hSa'
      refine wpAnyH_ready (rs := [8]) (by kernel_rfl) (by simp) ?_
      refine AllReadyH.cons rfl (fun K hK => ?_) AllReadyH.nil
      obtain ⟨cq, cc, c0⟩ := (unhide HWn).cellR
      go_simp
      clear c0
      have hSa' := hSa
      refine hK _ _ hSa' (fun _ => ?_)
      clear hK K hSa
      have hSa := hSa'
      clear hSa'
      refine wpAnyH_take (i := 9) (oi := { dst := some 32, op := _, type := _, pos := _, after := _, guard := _ }) (v := ?va9_3_12_8) rfl (by kernel_rfl) (by kernel_rfl) (by kernel_rfl) (fun _ _ _ h => h) (Or.inl ⟨by kernel_rfl, ?ha9_3_12_8⟩) hSa ?ra9_3_12_8
      case ha9_3_12_8 => first | (intro w hSw; obtain ⟨s0, s1, s2, s3, s4, s5, s6⟩ := hSw; go_simp; done) | (intro w hSw; obtain ⟨s0, s1, s2, s3, s4, s5, s6⟩ := hSw; go_simp; with_reducible rfl)
      try simp only [Act.put, List.setIfInBounds_toArray, List.set_cons_zero, List.set_cons_succ]
      refine wpAnyH_ready (rs := [13]) (by kernel_rfl) (by simp) ?_
      refine AllReadyH.cons rfl (fun K hK => ?_) AllReadyH.nil
      go_simp
      refine (unhide CR _ (unhide HWn)).mono ?_
      rintro e w6 ⟨rfl, hw⟩
      replace HWn := hide hw
      clear hw
      have hSa' := BoxS.of ((unhide HWn).blk (unhide HK).1 (unhide HK).2)
      refine hK _ _ hSa' (fun _ => ?_)
      clear hK K hSa
      have hSa := hSa'
      clear hSa'
      refine wpAnyH_take (i := 14) (oi := { dst := some 37, op := _, type := _, pos := _, after := _, guard := _ }) (v := ?va14_3_12_8_13) rfl (by kernel_rfl) (by kernel_rfl) (by kernel_rfl) (fun _ _ _ h => h) (Or.inl ⟨by kernel_rfl, ?ha14_3_12_8_13⟩) hSa ?ra14_3_12_8_13
      case ha14_3_12_8_13 => first | (intro w hSw; obtain ⟨s0, s1, s2, s3, s4, s5, s6⟩ := hSw; go_simp; done) | (intro w hSw; obtain ⟨s0, s1, s2, s3, s4, s5, s6⟩ := hSw; go_simp; with_reducible rfl)
      try simp only [Act.put, List.setIfInBounds_toArray, List.set_cons_zero, List.set_cons_succ]
      refine wpAnyH_take (i := 15) (oi := { dst := some 6, op := _, type := _, pos := _, after := _, guard := _ }) (v := ?va15_3_12_8_13) rfl (by kernel_rfl) (by kernel_rfl) (by kernel_rfl) (fun _ _ _ h => h) (Or.inl ⟨by kernel_rfl, ?ha15_3_12_8_13⟩) hSa ?ra15_3_12_8_13
      case ha15_3_12_8_13 => first | (intro w hSw; obtain ⟨s0, s1, s2, s3, s4, s5, s6⟩ := hSw; go_simp; done) | (intro w hSw; obtain ⟨s0, s1, s2, s3, s4, s5, s6⟩ := hSw; go_simp; with_reducible rfl)
      try simp only [Act.put, List.setIfInBounds_toArray, List.set_cons_zero, List.set_cons_succ]
      refine wpAnyH_done (by kernel_rfl) ?_ _
      clear hSa HS
      go_wp2
      go_ret
      exact ⟨rfl, _, unhide HL, (unhide HWn).ahead (unhide HB2)⟩
  · obtain ⟨cq, cc, c0⟩ := (unhide HWn).cellR
    go_simp
    clear c0
    have hSa' := hSa
    refine hK _ _ hSa' (fun _ => ?_)
    clear hK K hSa
    have hSa := hSa'
    clear hSa'
    refine wpAnyH_take (i := 9) (oi := { dst := some 32, op := _, type := _, pos := _, after := _, guard := _ }) (v := ?va9_8) rfl (by kernel_rfl) (by kernel_rfl) (by kernel_rfl) (fun _ _ _ h => h) (Or.inl ⟨by kernel_rfl, ?ha9_8⟩) hSa ?ra9_8
    case ha9_8 => first | (intro w hSw; obtain ⟨s0, s1, s2, s3, s4, s5, s6⟩ := hSw; go_simp; done) | (intro w hSw; obtain ⟨s0, s1, s2, s3, s4, s5, s6⟩ := hSw; go_simp; with_reducible rfl)
    try simp only [Act.put, List.setIfInBounds_toArray, List.set_cons_zero, List.set_cons_succ]
    refine wpAnyH_ready (rs := [3]) (by kernel_rfl) (by simp) ?_
    refine AllReadyH.cons rfl (fun K hK => ?_) AllReadyH.nil
    go_simp
    refine (unhide CP _ (unhide HWn)).mono ?_
    rintro e w4 ⟨rfl, hw⟩
    replace HWn := hide hw
    clear hw
    have hSa' := BoxS.of ((unhide HWn).blk (unhide HK).1 (unhide HK).2)
    refine hK _ _ hSa' (fun _ => ?_)
    clear hK K hSa
    have hSa := hSa'
    clear hSa'
    refine wpAnyH_ready (rs := [12]) (by kernel_rfl) (by simp) ?_
    refine AllReadyH.cons rfl (fun K hK => ?_) AllReadyH.nil
    go_simp
    refine (unhide CF _).mono ?_
    rintro e w5 ⟨rfl, hb⟩
    replace HWn := hide ((unhide HWn).later hb)
    clear hb
    have hSa' := BoxS.of ((unhide HWn).blk (unhide HK).1 (unhide HK).2)
    refine hK _ _ hSa' (fun _ => ?_)
    clear hK K hSa
    have hSa := hSa'
    clear hSa'
    refine wpAnyH_ready (rs := [13]) (by kernel_rfl) (by simp) ?_
    refine AllReadyH.cons rfl (fun K hK => ?_) AllReadyH.nil
    go_simp
    refine (unhide CR _ (unhide HWn)).mono ?_
    rintro e w6 ⟨rfl, hw⟩
    replace HWn := hide hw
    clear hw
    have hSa' := BoxS.of ((unhide HWn).blk (unhide HK).1 (unhide HK).2)
    refine hK _ _ hSa' (fun _ => ?_)
    clear hK K hSa
    have hSa := hSa'
    clear hSa'
    refine wpAnyH_take (i := 14) (oi := { dst := some 37, op := _, type := _, pos := _, after := _, guard := _ }) (v := ?va14_8_3_12_13) rfl (by kernel_rfl) (by kernel_rfl) (by kernel_rfl) (fun _ _ _ h => h) (Or.inl ⟨by kernel_rfl, ?ha14_8_3_12_13⟩) hSa ?ra14_8_3_12_13
    case ha14_8_3_12_13 => first | (intro w hSw; obtain ⟨s0, s1, s2, s3, s4, s5, s6⟩ := hSw; go_simp; done) | (intro w hSw; obtain ⟨s0, s1, s2, s3, s4, s5, s6⟩ := hSw; go_simp; with_reducible rfl)
    try simp only [Act.put, List.setIfInBounds_toArray, List.set_cons_zero, List.set_cons_succ]
    refine wpAnyH_take (i := 15) (oi := { dst := some 6, op := _, type := _, pos := _, after := _, guard := _ }) (v := ?va15_8_3_12_13) rfl (by kernel_rfl) (by kernel_rfl) (by kernel_rfl) (fun _ _ _ h => h) (Or.inl ⟨by kernel_rfl, ?ha15_8_3_12_13⟩) hSa ?ra15_8_3_12_13
    case ha15_8_3_12_13 => first | (intro w hSw; obtain ⟨s0, s1, s2, s3, s4, s5, s6⟩ := hSw; go_simp; done) | (intro w hSw; obtain ⟨s0, s1, s2, s3, s4, s5, s6⟩ := hSw; go_simp; with_reducible rfl)
    try simp only [Act.put, List.setIfInBounds_toArray, List.set_cons_zero, List.set_cons_succ]
    refine wpAnyH_done (by kernel_rfl) ?_ _
    clear hSa HS
    go_wp2
    go_ret
    exact ⟨rfl, _, unhide HL, (unhide HWn).ahead (unhide HB2)⟩
end Go.Proofs.Ytdkjdomacilagaa
