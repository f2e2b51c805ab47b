/-
  The walk of a step: what looks, To, Back.
-/
import Derived.Test.YtdkjdomacilagaaDDa
namespace Go.Proofs.Ytdkjdomacilagaa
open Go.RowKit
set_option linter.unusedVariables false
set_option linter.unusedSimpArgs false

set_option maxHeartbeats 8000000 in
set_option maxRecDepth 100000 in
theorem does_other (base p r : Nat) (v u : Value) (wh at' id sp : Int) (nm na nb : ByteArray) (L : List Ent) (w : World) (h : TwoR base p v L r u L w) (hbase : base ≤ w.heap.size) (hN : L.length ≤ 200) (ho : (wh == 0) = false ∧ (wh == 1) = false ∧ (wh == 2) = false ∧ (wh == 3) = false ∧ (wh == 4) = false ∧ (wh == 5) = false ∧ (wh == 6) = false ∧ (wh == 7) = false ∧ (wh == 8) = false ∧ (wh == 9) = false) :
    Calls Try.prog 11 #[ptr p, ptr r, .agg (stepA wh at' id sp nm na nb)] w (DoesSaid base p r v u w) := by
  obtain ⟨o0, o1, o2, o3, o4, o5, o6, o7, o8, o9⟩ := ho
  have b2 : Below w.heap.size w ((w.alloc (Obj.cells #[.int .i64 wh, .int .i64 at', .int .i64 id, .int .i64 sp, .string nm, .string na, .string nb] 34)).alloc (Obj.cells #[.string na, .string nb] 9)) := ((Below.refl _ _).alloc (Nat.le_refl _) _).alloc (by simp) _
  have HE : Hid (Way base p r v u w L L ((w.alloc (Obj.cells #[.int .i64 wh, .int .i64 at', .int .i64 id, .int .i64 sp, .string nm, .string na, .string nb] 34)).alloc (Obj.cells #[.string na, .string nb] 9))) := hide ((Way.start h).later b2)
  clear h b2
  unfold ptr stepA at *
  go_enter Try.func11, Try.ntmps11
  go_wp2
  go_ret
  exact ⟨rfl, L, hN, unhide HE⟩
set_option maxHeartbeats 8000000 in
set_option maxRecDepth 100000 in
theorem does_to (base p r : Nat) (v u : Value) (at' id sp : Int) (nm na nb : ByteArray) (L : List Ent) (w : World) (h : TwoR base p v L r u L w) (hbase : base ≤ w.heap.size) (hN : L.length ≤ 200) :
    Calls Try.prog 11 #[ptr p, ptr r, .agg (stepA 5 at' id sp nm na nb)] w (DoesSaid base p r v u w) := by
  have b2 : Below w.heap.size w (((w.alloc (Obj.cells #[.int .i64 5, .int .i64 at', .int .i64 id, .int .i64 sp, .string nm, .string na, .string nb] 34)).alloc (Obj.cells #[.string na, .string nb] 9)).alloc (Obj.cells #[.string na, .string nb] 9)) := ((((Below.refl _ _).alloc (Nat.le_refl _) _).alloc (by simp) _).alloc (by simp; try omega) _)
  have kX : Blk (((w.alloc (Obj.cells #[.int .i64 5, .int .i64 at', .int .i64 id, .int .i64 sp, .string nm, .string na, .string nb] 34)).alloc (Obj.cells #[.string na, .string nb] 9)).alloc (Obj.cells #[.string na, .string nb] 9)) w.heap.size (stepA 5 at' id sp nm na nb) 34 := (((Blk.new w _ _).alloc _).alloc _)
  have kY : Blk (((w.alloc (Obj.cells #[.int .i64 5, .int .i64 at', .int .i64 id, .int .i64 sp, .string nm, .string na, .string nb] 34)).alloc (Obj.cells #[.string na, .string nb] 9)).alloc (Obj.cells #[.string na, .string nb] 9)) (w.heap.size + 1) #[.string na, .string nb] 9 := (Eq.mp (by simp) (Blk.new (w.alloc (Obj.cells #[.int .i64 5, .int .i64 at', .int .i64 id, .int .i64 sp, .string nm, .string na, .string nb] 34)) #[.string na, .string nb] 9) : Blk ((w.alloc (Obj.cells #[.int .i64 5, .int .i64 at', .int .i64 id, .int .i64 sp, .string nm, .string na, .string nb] 34)).alloc (Obj.cells #[.string na, .string nb] 9)) (w.heap.size + 1) #[.string na, .string nb] 9).alloc _
  have mX : Mine p r v u (((w.alloc (Obj.cells #[.int .i64 5, .int .i64 at', .int .i64 id, .int .i64 sp, .string nm, .string na, .string nb] 34)).alloc (Obj.cells #[.string na, .string nb] 9)).alloc (Obj.cells #[.string na, .string nb] 9)) w.heap.size := h.mine (Nat.le_refl _) (by simp; try omega)
  have mY : Mine p r v u (((w.alloc (Obj.cells #[.int .i64 5, .int .i64 at', .int .i64 id, .int .i64 sp, .string nm, .string na, .string nb] 34)).alloc (Obj.cells #[.string na, .string nb] 9)).alloc (Obj.cells #[.string na, .string nb] 9)) (w.heap.size + 1) := h.mine (by omega) (by simp; try omega)
  have HW : Hid (Way base p r v u (((w.alloc (Obj.cells #[.int .i64 5, .int .i64 at', .int .i64 id, .int .i64 sp, .string nm, .string na, .string nb] 34)).alloc (Obj.cells #[.string na, .string nb] 9)).alloc (Obj.cells #[.string na, .string nb] 9)) L L (((w.alloc (Obj.cells #[.int .i64 5, .int .i64 at', .int .i64 id, .int .i64 sp, .string nm, .string na, .string nb] 34)).alloc (Obj.cells #[.string na, .string nb] 9)).alloc (Obj.cells #[.string na, .string nb] 9))) := hide (Way.start (h.later b2))
  have hz : base ≤ (((w.alloc (Obj.cells #[.int .i64 5, .int .i64 at', .int .i64 id, .int .i64 sp, .string nm, .string na, .string nb] 34)).alloc (Obj.cells #[.string na, .string nb] 9)).alloc (Obj.cells #[.string na, .string nb] 9)).heap.size := Nat.le_trans hbase b2.size
  have kZ : Blk (((w.alloc (Obj.cells #[.int .i64 5, .int .i64 at', .int .i64 id, .int .i64 sp, .string nm, .string na, .string nb] 34)).alloc (Obj.cells #[.string na, .string nb] 9)).alloc (Obj.cells #[.string na, .string nb] 9)) (w.heap.size + 2) #[.string na, .string nb] 9 := Eq.mp (by simp) (Blk.new ((w.alloc (Obj.cells #[.int .i64 5, .int .i64 at', .int .i64 id, .int .i64 sp, .string nm, .string na, .string nb] 34)).alloc (Obj.cells #[.string na, .string nb] 9)) #[.string na, .string nb] 9)
  have mZ : Mine p r v u (((w.alloc (Obj.cells #[.int .i64 5, .int .i64 at', .int .i64 id, .int .i64 sp, .string nm, .string na, .string nb] 34)).alloc (Obj.cells #[.string na, .string nb] 9)).alloc (Obj.cells #[.string na, .string nb] 9)) (w.heap.size + 2) := h.mine (by omega) (by simp)
  have CP := hide ((unhide HW).callP (fun v1 hs h1 => to_any base p v1 _ [na.data.toList, nb.data.toList] L _ hs (by omega) (view_blk kZ) (Way.safeL mZ h1)))
  have CR : Hid (∀ W, Way base p r v u (((w.alloc (Obj.cells #[.int .i64 5, .int .i64 at', .int .i64 id, .int .i64 sp, .string nm, .string na, .string nb] 34)).alloc (Obj.cells #[.string na, .string nb] 9)).alloc (Obj.cells #[.string na, .string nb] 9)) (L.take (L.length - toN [na.data.toList, nb.data.toList] L)) L W → Calls Try.prog 44 #[ptr r, .slice (some ⟨w.heap.size + 1, 0, none⟩) 2 2] W fun e w' => e = .returned (.int .i64 ((toN [na.data.toList, nb.data.toList] L : Nat) : Int)) ∧ Way base p r v u (((w.alloc (Obj.cells #[.int .i64 5, .int .i64 at', .int .i64 id, .int .i64 sp, .string nm, .string na, .string nb] 34)).alloc (Obj.cells #[.string na, .string nb] 9)).alloc (Obj.cells #[.string na, .string nb] 9)) (L.take (L.length - toN [na.data.toList, nb.data.toList] L)) (L.take (L.length - toN [na.data.toList, nb.data.toList] L)) w') := hide fun W hW => hW.callR (fun u1 hs h1 => by
    have := rto_any base r u1 _ [na.data.toList, nb.data.toList] L W hs (Nat.le_trans hz hW.size) (by omega) (view_blk (hW.blk mY kY))
    rw [(to_same _ _).1, (to_same _ _).2] at this
    exact this)
  have hle : (L.take (L.length - toN [na.data.toList, nb.data.toList] L)).length ≤ 200 := by rw [List.length_take]; omega
  have HL := hide hle
  have HB2 := hide b2
  generalize L.take (L.length - toN [na.data.toList, nb.data.toList] L) = L2 at *
  generalize toN [na.data.toList, nb.data.toList] L = N at *
  clear h b2 kX kY mX mY kZ mZ hz hle HW
  unfold ptr stepA at *
  go_enter Try.func11, Try.ntmps11
  go_wp2_with fail
  refine (unhide CP).mono ?_
  rintro e w3 ⟨rfl, hw⟩
  have HW3 := hide hw
  clear hw
  go_wp2_with fail
  refine (unhide CR _ (unhide HW3)).mono ?_
  rintro e w4 ⟨rfl, hw⟩
  have HW4 := hide hw
  clear hw
  have enn : ((N : Int) == (N : Int)) = true := by simp
  go_wp2
  go_ret
  exact ⟨rfl, L2, unhide HL, (unhide HW4).ahead (unhide HB2)⟩
set_option maxHeartbeats 8000000 in
set_option maxRecDepth 100000 in
theorem does_back (base p r : Nat) (v u : Value) (at' id sp : Int) (nm na nb : ByteArray) (L : List Ent) (w : World) (h : TwoR base p v L r u L w) (hbase : base ≤ w.heap.size) (hN : L.length ≤ 200) :
    Calls Try.prog 11 #[ptr p, ptr r, .agg (stepA 6 at' id sp nm na nb)] w (DoesSaid base p r v u w) := by
  have b2 : Below w.heap.size w (((w.alloc (Obj.cells #[.int .i64 6, .int .i64 at', .int .i64 id, .int .i64 sp, .string nm, .string na, .string nb] 34)).alloc (Obj.cells #[.string na, .string nb] 9)).alloc (Obj.cells #[.string na, .string nb] 9)) := ((((Below.refl _ _).alloc (Nat.le_refl _) _).alloc (by simp) _).alloc (by simp; try omega) _)
  have kX : Blk (((w.alloc (Obj.cells #[.int .i64 6, .int .i64 at', .int .i64 id, .int .i64 sp, .string nm, .string na, .string nb] 34)).alloc (Obj.cells #[.string na, .string nb] 9)).alloc (Obj.cells #[.string na, .string nb] 9)) w.heap.size (stepA 6 at' id sp nm na nb) 34 := (((Blk.new w _ _).alloc _).alloc _)
  have kY : Blk (((w.alloc (Obj.cells #[.int .i64 6, .int .i64 at', .int .i64 id, .int .i64 sp, .string nm, .string na, .string nb] 34)).alloc (Obj.cells #[.string na, .string nb] 9)).alloc (Obj.cells #[.string na, .string nb] 9)) (w.heap.size + 1) #[.string na, .string nb] 9 := (Eq.mp (by simp) (Blk.new (w.alloc (Obj.cells #[.int .i64 6, .int .i64 at', .int .i64 id, .int .i64 sp, .string nm, .string na, .string nb] 34)) #[.string na, .string nb] 9) : Blk ((w.alloc (Obj.cells #[.int .i64 6, .int .i64 at', .int .i64 id, .int .i64 sp, .string nm, .string na, .string nb] 34)).alloc (Obj.cells #[.string na, .string nb] 9)) (w.heap.size + 1) #[.string na, .string nb] 9).alloc _
  have mX : Mine p r v u (((w.alloc (Obj.cells #[.int .i64 6, .int .i64 at', .int .i64 id, .int .i64 sp, .string nm, .string na, .string nb] 34)).alloc (Obj.cells #[.string na, .string nb] 9)).alloc (Obj.cells #[.string na, .string nb] 9)) w.heap.size := h.mine (Nat.le_refl _) (by simp; try omega)
  have mY : Mine p r v u (((w.alloc (Obj.cells #[.int .i64 6, .int .i64 at', .int .i64 id, .int .i64 sp, .string nm, .string na, .string nb] 34)).alloc (Obj.cells #[.string na, .string nb] 9)).alloc (Obj.cells #[.string na, .string nb] 9)) (w.heap.size + 1) := h.mine (by omega) (by simp; try omega)
  have HW : Hid (Way base p r v u (((w.alloc (Obj.cells #[.int .i64 6, .int .i64 at', .int .i64 id, .int .i64 sp, .string nm, .string na, .string nb] 34)).alloc (Obj.cells #[.string na, .string nb] 9)).alloc (Obj.cells #[.string na, .string nb] 9)) L L (((w.alloc (Obj.cells #[.int .i64 6, .int .i64 at', .int .i64 id, .int .i64 sp, .string nm, .string na, .string nb] 34)).alloc (Obj.cells #[.string na, .string nb] 9)).alloc (Obj.cells #[.string na, .string nb] 9))) := hide (Way.start (h.later b2))
  have hz : base ≤ (((w.alloc (Obj.cells #[.int .i64 6, .int .i64 at', .int .i64 id, .int .i64 sp, .string nm, .string na, .string nb] 34)).alloc (Obj.cells #[.string na, .string nb] 9)).alloc (Obj.cells #[.string na, .string nb] 9)).heap.size := Nat.le_trans hbase b2.size
  have kZ : Blk (((w.alloc (Obj.cells #[.int .i64 6, .int .i64 at', .int .i64 id, .int .i64 sp, .string nm, .string na, .string nb] 34)).alloc (Obj.cells #[.string na, .string nb] 9)).alloc (Obj.cells #[.string na, .string nb] 9)) (w.heap.size + 2) #[.string na, .string nb] 9 := Eq.mp (by simp) (Blk.new ((w.alloc (Obj.cells #[.int .i64 6, .int .i64 at', .int .i64 id, .int .i64 sp, .string nm, .string na, .string nb] 34)).alloc (Obj.cells #[.string na, .string nb] 9)) #[.string na, .string nb] 9)
  have mZ : Mine p r v u (((w.alloc (Obj.cells #[.int .i64 6, .int .i64 at', .int .i64 id, .int .i64 sp, .string nm, .string na, .string nb] 34)).alloc (Obj.cells #[.string na, .string nb] 9)).alloc (Obj.cells #[.string na, .string nb] 9)) (w.heap.size + 2) := h.mine (by omega) (by simp)
  have CP := hide ((unhide HW).callP (fun v1 hs h1 => back_any base p v1 _ [na.data.toList, nb.data.toList] L _ hs (by omega) (view_blk kZ) (Way.safeL mZ h1)))
  have CR : Hid (∀ W, Way base p r v u (((w.alloc (Obj.cells #[.int .i64 6, .int .i64 at', .int .i64 id, .int .i64 sp, .string nm, .string na, .string nb] 34)).alloc (Obj.cells #[.string na, .string nb] 9)).alloc (Obj.cells #[.string na, .string nb] 9)) (L.take (L.length - offN (backF [na.data.toList, nb.data.toList]) L)) L W → Calls Try.prog 46 #[ptr r, .slice (some ⟨w.heap.size + 1, 0, none⟩) 2 2] W fun e w' => e = .returned (.int .i64 ((offN (backF [na.data.toList, nb.data.toList]) L : Nat) : Int)) ∧ Way base p r v u (((w.alloc (Obj.cells #[.int .i64 6, .int .i64 at', .int .i64 id, .int .i64 sp, .string nm, .string na, .string nb] 34)).alloc (Obj.cells #[.string na, .string nb] 9)).alloc (Obj.cells #[.string na, .string nb] 9)) (L.take (L.length - offN (backF [na.data.toList, nb.data.toList]) L)) (L.take (L.length - offN (backF [na.data.toList, nb.data.toList]) L)) w') := hide fun W hW => hW.callR (fun u1 hs h1 => by
    have := rback_any base r u1 _ [na.data.toList, nb.data.toList] L W hs (Nat.le_trans hz hW.size) (by omega) (view_blk (hW.blk mY kY))
    rw [(back_same _ _).1, (back_same _ _).2] at this
    exact this)
  have hle : (L.take (L.length - offN (backF [na.data.toList, nb.data.toList]) L)).length ≤ 200 := by rw [List.length_take]; omega
  have HL := hide hle
  have HB2 := hide b2
  generalize L.take (L.length - offN (backF [na.data.toList, nb.data.toList]) L) = L2 at *
  generalize offN (backF [na.data.toList, nb.data.toList]) L = N at *
  clear h b2 kX kY mX mY kZ mZ hz hle HW
  unfold ptr stepA at *
  go_enter Try.func11, Try.ntmps11
  go_wp2_with fail
  refine (unhide CP).mono ?_
  rintro e w3 ⟨rfl, hw⟩
  have HW3 := hide hw
  clear hw
  go_wp2_with fail
  refine (unhide CR _ (unhide HW3)).mono ?_
  rintro e w4 ⟨rfl, hw⟩
  have HW4 := hide hw
  clear hw
  have enn : ((N : Int) == (N : Int)) = true := by simp
  go_wp2
  go_ret
  exact ⟨rfl, L2, unhide HL, (unhide HW4).ahead (unhide HB2)⟩
end Go.Proofs.Ytdkjdomacilagaa
