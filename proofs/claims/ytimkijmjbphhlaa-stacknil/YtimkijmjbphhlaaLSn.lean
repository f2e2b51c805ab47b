/-
  The walk of StackNil.
-/
import Derived.Test.YtimkijmjbphhlaaKCe
namespace Go.Proofs.Ytimkijmjbphhlaa
open Go.RowKit
set_option linter.unusedVariables false
set_option linter.unusedSimpArgs false

set_option maxHeartbeats 80000000 in
set_option maxRecDepth 100000 in
theorem stackNil_z (wh at' id sp : Int) (nm n1 n2 : ByteArray) (w : World) (h0 : at' = 0) :
    Calls Try.prog 7 #[.agg #[.int .i64 wh, .int .i64 at', .int .i64 id, .int .i64 sp, .string nm, .string n1, .string n2]] w fun e w' => e = .returned (.bool true) ∧ Below w.heap.size w w' := by
  have CP := hide (fun w => pop_nil w)
  have CT := hide (fun w => top_nil w)
  have CI := hide (fun w => insert_nil at' ⟨id, sp, nm⟩ w)
  have CU := hide (fun w => push_nil ⟨id, sp, nm⟩ w)
  have CA := hide (fun w => all_nil w)
  have CN := hide (fun w q => inS_nil (.slice (some q) 1 1) wh w ⟨_, _, _, rfl⟩)
  have CO := hide (fun w q => to_nil (.slice (some q) 1 1) _ _ _ rfl w)
  have CB := hide (fun w q => back_nil (.slice (some q) 1 1) _ _ _ rfl w)
  have CM := hide (fun w => implied_nil n1 w)
  have CF := hide (fun w => find_nil id w)
  have CR := hide (fun w => remove_nil id w)
  have CC := hide (fun w => cell_any w)
  rw [if_pos h0] at CI
  have h1 : (at' == 0) = true := by simp [h0]
  clear h0
  unfold entV e0 at *
  dsimp only at *
  go_enter Try.func7, Try.ntmps7
  go_wp2_with fail
  refine (unhide CP _).mono ?_
  rintro e w1 ⟨rfl, hb⟩
  have HB := hide (bel_of hb)
  have KB : Hid (Blk w1 w.heap.size #[.int .i64 wh, .int .i64 at', .int .i64 id, .int .i64 sp, .string nm, .string n1, .string n2] 34) := hide ((Blk.new w _ _).later hb)
  clear hb
  go_wp2_with fail
  refine (unhide CT _).mono ?_
  rintro e w2 ⟨rfl, hb⟩
  replace HB := hide (((unhide HB).alloc (unhide HB).size _).trans (hb.mono (Nat.le_trans (unhide HB).size (by simp))))
  replace KB := hide (((unhide KB).alloc _).later hb)
  clear hb
  have KA := hide ((unhide KB).alloc (Obj.cells #[.int .i64 0, .int .i64 0, .string ⟨#[]⟩] 32))
  have d0 : (w2.alloc (Obj.cells #[.int .i64 0, .int .i64 0, .string ⟨#[]⟩] 32)).cell? ⟨w.heap.size, 0, none⟩ = some (.int .i64 wh) := (unhide KA).cell 0
  have d1 : (w2.alloc (Obj.cells #[.int .i64 0, .int .i64 0, .string ⟨#[]⟩] 32)).cell? ⟨w.heap.size, 1, none⟩ = some (.int .i64 at') := (unhide KA).cell 1
  have d2 : (w2.alloc (Obj.cells #[.int .i64 0, .int .i64 0, .string ⟨#[]⟩] 32)).cell? ⟨w.heap.size, 2, none⟩ = some (.int .i64 id) := (unhide KA).cell 2
  have d3 : (w2.alloc (Obj.cells #[.int .i64 0, .int .i64 0, .string ⟨#[]⟩] 32)).cell? ⟨w.heap.size, 3, none⟩ = some (.int .i64 sp) := (unhide KA).cell 3
  have d4 : (w2.alloc (Obj.cells #[.int .i64 0, .int .i64 0, .string ⟨#[]⟩] 32)).cell? ⟨w.heap.size, 4, none⟩ = some (.string nm) := (unhide KA).cell 4
  have d5 : (w2.alloc (Obj.cells #[.int .i64 0, .int .i64 0, .string ⟨#[]⟩] 32)).cell? ⟨w.heap.size, 5, none⟩ = some (.string n1) := (unhide KA).cell 5
  have d6 : (w2.alloc (Obj.cells #[.int .i64 0, .int .i64 0, .string ⟨#[]⟩] 32)).cell? ⟨w.heap.size, 6, none⟩ = some (.string n2) := (unhide KA).cell 6
  go_wp2_with fail
  refine (unhide CI _).mono ?_
  rintro e w3 ⟨rfl, hb⟩
  replace HB := hide (((unhide HB).alloc (unhide HB).size _).trans (hb.mono (Nat.le_trans (unhide HB).size (by simp))))
  replace KB := hide (((unhide KB).alloc _).later hb)
  clear hb KA d0 d1 d2 d3 d4 d5 d6
  have d0 : w3.cell? ⟨w.heap.size, 0, none⟩ = some (.int .i64 wh) := (unhide KB).cell 0
  have d1 : w3.cell? ⟨w.heap.size, 1, none⟩ = some (.int .i64 at') := (unhide KB).cell 1
  have d2 : w3.cell? ⟨w.heap.size, 2, none⟩ = some (.int .i64 id) := (unhide KB).cell 2
  have d3 : w3.cell? ⟨w.heap.size, 3, none⟩ = some (.int .i64 sp) := (unhide KB).cell 3
  have d4 : w3.cell? ⟨w.heap.size, 4, none⟩ = some (.string nm) := (unhide KB).cell 4
  have d5 : w3.cell? ⟨w.heap.size, 5, none⟩ = some (.string n1) := (unhide KB).cell 5
  have d6 : w3.cell? ⟨w.heap.size, 6, none⟩ = some (.string n2) := (unhide KB).cell 6
  go_wp2_with fail
  refine (unhide CU _).mono ?_
  rintro e w4 ⟨rfl, hb⟩
  replace HB := hide ((unhide HB).trans (hb.mono (unhide HB).size))
  replace KB := hide ((unhide KB).later hb)
  clear hb d0 d1 d2 d3 d4 d5 d6
  have d0 : w4.cell? ⟨w.heap.size, 0, none⟩ = some (.int .i64 wh) := (unhide KB).cell 0
  have d1 : w4.cell? ⟨w.heap.size, 1, none⟩ = some (.int .i64 at') := (unhide KB).cell 1
  have d2 : w4.cell? ⟨w.heap.size, 2, none⟩ = some (.int .i64 id) := (unhide KB).cell 2
  have d3 : w4.cell? ⟨w.heap.size, 3, none⟩ = some (.int .i64 sp) := (unhide KB).cell 3
  have d4 : w4.cell? ⟨w.heap.size, 4, none⟩ = some (.string nm) := (unhide KB).cell 4
  have d5 : w4.cell? ⟨w.heap.size, 5, none⟩ = some (.string n1) := (unhide KB).cell 5
  have d6 : w4.cell? ⟨w.heap.size, 6, none⟩ = some (.string n2) := (unhide KB).cell 6
  iterate 21 (first | go_values | go_skip | go_guarded | go_step | go_upon | go_back | (simp only [Int.not_lt, Int.not_le] at *; go_simp))
  go_step
  simp only [List.append_eq, List.cons_append, List.nil_append]
  go_skip
  go_wp2_with fail
  refine (unhide CA _).mono ?_
  rintro e w5 ⟨rfl, hw⟩
  obtain rfl : w4 = w5 := hw.symm
  clear hw
  go_wp2_with fail
  refine (unhide CN _ _).mono ?_
  rintro e w5 ⟨rfl, hw⟩
  have hb : Below w4.heap.size w4 w5 := by rw [hw]; exact (Below.refl _ _).alloc (Nat.le_refl _) _
  replace HB := hide ((unhide HB).trans (hb.mono (unhide HB).size))
  replace KB := hide ((unhide KB).later hb)
  clear hb d0 d1 d2 d3 d4 d5 d6 hw
  have d0 : w5.cell? ⟨w.heap.size, 0, none⟩ = some (.int .i64 wh) := (unhide KB).cell 0
  have d1 : w5.cell? ⟨w.heap.size, 1, none⟩ = some (.int .i64 at') := (unhide KB).cell 1
  have d2 : w5.cell? ⟨w.heap.size, 2, none⟩ = some (.int .i64 id) := (unhide KB).cell 2
  have d3 : w5.cell? ⟨w.heap.size, 3, none⟩ = some (.int .i64 sp) := (unhide KB).cell 3
  have d4 : w5.cell? ⟨w.heap.size, 4, none⟩ = some (.string nm) := (unhide KB).cell 4
  have d5 : w5.cell? ⟨w.heap.size, 5, none⟩ = some (.string n1) := (unhide KB).cell 5
  have d6 : w5.cell? ⟨w.heap.size, 6, none⟩ = some (.string n2) := (unhide KB).cell 6
  go_wp2_with fail
  refine (unhide CO _ _).mono ?_
  rintro e w6 ⟨rfl, hb⟩
  replace HB := hide (((unhide HB).alloc (unhide HB).size _).trans (hb.mono (Nat.le_trans (unhide HB).size (by simp))))
  replace KB := hide (((unhide KB).alloc _).later hb)
  clear hb d0 d1 d2 d3 d4 d5 d6
  have d0 : w6.cell? ⟨w.heap.size, 0, none⟩ = some (.int .i64 wh) := (unhide KB).cell 0
  have d1 : w6.cell? ⟨w.heap.size, 1, none⟩ = some (.int .i64 at') := (unhide KB).cell 1
  have d2 : w6.cell? ⟨w.heap.size, 2, none⟩ = some (.int .i64 id) := (unhide KB).cell 2
  have d3 : w6.cell? ⟨w.heap.size, 3, none⟩ = some (.int .i64 sp) := (unhide KB).cell 3
  have d4 : w6.cell? ⟨w.heap.size, 4, none⟩ = some (.string nm) := (unhide KB).cell 4
  have d5 : w6.cell? ⟨w.heap.size, 5, none⟩ = some (.string n1) := (unhide KB).cell 5
  have d6 : w6.cell? ⟨w.heap.size, 6, none⟩ = some (.string n2) := (unhide KB).cell 6
  go_wp2_with fail
  refine (unhide CB _ _).mono ?_
  rintro e w7 ⟨rfl, hb⟩
  replace HB := hide (((unhide HB).alloc (unhide HB).size _).trans (hb.mono (Nat.le_trans (unhide HB).size (by simp))))
  replace KB := hide (((unhide KB).alloc _).later hb)
  clear hb d0 d1 d2 d3 d4 d5 d6
  have d0 : w7.cell? ⟨w.heap.size, 0, none⟩ = some (.int .i64 wh) := (unhide KB).cell 0
  have d1 : w7.cell? ⟨w.heap.size, 1, none⟩ = some (.int .i64 at') := (unhide KB).cell 1
  have d2 : w7.cell? ⟨w.heap.size, 2, none⟩ = some (.int .i64 id) := (unhide KB).cell 2
  have d3 : w7.cell? ⟨w.heap.size, 3, none⟩ = some (.int .i64 sp) := (unhide KB).cell 3
  have d4 : w7.cell? ⟨w.heap.size, 4, none⟩ = some (.string nm) := (unhide KB).cell 4
  have d5 : w7.cell? ⟨w.heap.size, 5, none⟩ = some (.string n1) := (unhide KB).cell 5
  have d6 : w7.cell? ⟨w.heap.size, 6, none⟩ = some (.string n2) := (unhide KB).cell 6
  go_wp2_with fail
  refine (unhide CM _).mono ?_
  rintro e w8 ⟨rfl, hb⟩
  replace HB := hide ((unhide HB).trans (hb.mono (unhide HB).size))
  replace KB := hide ((unhide KB).later hb)
  clear hb d0 d1 d2 d3 d4 d5 d6
  have d0 : w8.cell? ⟨w.heap.size, 0, none⟩ = some (.int .i64 wh) := (unhide KB).cell 0
  have d1 : w8.cell? ⟨w.heap.size, 1, none⟩ = some (.int .i64 at') := (unhide KB).cell 1
  have d2 : w8.cell? ⟨w.heap.size, 2, none⟩ = some (.int .i64 id) := (unhide KB).cell 2
  have d3 : w8.cell? ⟨w.heap.size, 3, none⟩ = some (.int .i64 sp) := (unhide KB).cell 3
  have d4 : w8.cell? ⟨w.heap.size, 4, none⟩ = some (.string nm) := (unhide KB).cell 4
  have d5 : w8.cell? ⟨w.heap.size, 5, none⟩ = some (.string n1) := (unhide KB).cell 5
  have d6 : w8.cell? ⟨w.heap.size, 6, none⟩ = some (.string n2) := (unhide KB).cell 6
  go_wp2_with fail
  refine (unhide CF _).mono ?_
  rintro e w9 ⟨rfl, hw⟩
  obtain rfl : w8 = w9 := hw.symm
  clear hw
  go_wp2_with fail
  refine (unhide CR _).mono ?_
  rintro e w9 ⟨rfl, hw⟩
  obtain rfl : w8 = w9 := hw.symm
  clear hw
  go_wp2_with fail
  refine (unhide CC _).mono ?_
  rintro e w9 ⟨rfl, hb⟩
  replace HB := hide ((unhide HB).trans (hb.mono (unhide HB).size))
  clear hb KB d0 d1 d2 d3 d4 d5 d6
  go_wp2
  go_ret
  exact ⟨rfl, unhide HB⟩

set_option maxHeartbeats 80000000 in
set_option maxRecDepth 100000 in
theorem stackNil_n (wh at' id sp : Int) (nm n1 n2 : ByteArray) (w : World) (h0 : ¬ at' = 0) :
    Calls Try.prog 7 #[.agg #[.int .i64 wh, .int .i64 at', .int .i64 id, .int .i64 sp, .string nm, .string n1, .string n2]] w fun e w' => e = .returned (.bool true) ∧ Below w.heap.size w w' := by
  have CP := hide (fun w => pop_nil w)
  have CT := hide (fun w => top_nil w)
  have CI := hide (fun w => insert_nil at' ⟨id, sp, nm⟩ w)
  have CU := hide (fun w => push_nil ⟨id, sp, nm⟩ w)
  have CA := hide (fun w => all_nil w)
  have CN := hide (fun w q => inS_nil (.slice (some q) 1 1) wh w ⟨_, _, _, rfl⟩)
  have CO := hide (fun w q => to_nil (.slice (some q) 1 1) _ _ _ rfl w)
  have CB := hide (fun w q => back_nil (.slice (some q) 1 1) _ _ _ rfl w)
  have CM := hide (fun w => implied_nil n1 w)
  have CF := hide (fun w => find_nil id w)
  have CR := hide (fun w => remove_nil id w)
  have CC := hide (fun w => cell_any w)
  rw [if_neg h0] at CI
  have h1 : (at' == 0) = false := beq_eq_false_iff_ne.2 h0
  have h2 : (at' != 0) = true := by simp [h0]
  unfold entV e0 at *
  dsimp only at *
  go_enter Try.func7, Try.ntmps7
  go_wp2_with fail
  refine (unhide CP _).mono ?_
  rintro e w1 ⟨rfl, hb⟩
  have HB := hide (bel_of hb)
  have KB : Hid (Blk w1 w.heap.size #[.int .i64 wh, .int .i64 at', .int .i64 id, .int .i64 sp, .string nm, .string n1, .string n2] 34) := hide ((Blk.new w _ _).later hb)
  clear hb
  go_wp2_with fail
  refine (unhide CT _).mono ?_
  rintro e w2 ⟨rfl, hb⟩
  replace HB := hide (((unhide HB).alloc (unhide HB).size _).trans (hb.mono (Nat.le_trans (unhide HB).size (by simp))))
  replace KB := hide (((unhide KB).alloc _).later hb)
  clear hb
  have KA := hide ((unhide KB).alloc (Obj.cells #[.int .i64 0, .int .i64 0, .string ⟨#[]⟩] 32))
  have d0 : (w2.alloc (Obj.cells #[.int .i64 0, .int .i64 0, .string ⟨#[]⟩] 32)).cell? ⟨w.heap.size, 0, none⟩ = some (.int .i64 wh) := (unhide KA).cell 0
  have d1 : (w2.alloc (Obj.cells #[.int .i64 0, .int .i64 0, .string ⟨#[]⟩] 32)).cell? ⟨w.heap.size, 1, none⟩ = some (.int .i64 at') := (unhide KA).cell 1
  have d2 : (w2.alloc (Obj.cells #[.int .i64 0, .int .i64 0, .string ⟨#[]⟩] 32)).cell? ⟨w.heap.size, 2, none⟩ = some (.int .i64 id) := (unhide KA).cell 2
  have d3 : (w2.alloc (Obj.cells #[.int .i64 0, .int .i64 0, .string ⟨#[]⟩] 32)).cell? ⟨w.heap.size, 3, none⟩ = some (.int .i64 sp) := (unhide KA).cell 3
  have d4 : (w2.alloc (Obj.cells #[.int .i64 0, .int .i64 0, .string ⟨#[]⟩] 32)).cell? ⟨w.heap.size, 4, none⟩ = some (.string nm) := (unhide KA).cell 4
  have d5 : (w2.alloc (Obj.cells #[.int .i64 0, .int .i64 0, .string ⟨#[]⟩] 32)).cell? ⟨w.heap.size, 5, none⟩ = some (.string n1) := (unhide KA).cell 5
  have d6 : (w2.alloc (Obj.cells #[.int .i64 0, .int .i64 0, .string ⟨#[]⟩] 32)).cell? ⟨w.heap.size, 6, none⟩ = some (.string n2) := (unhide KA).cell 6
  go_wp2_with fail
  refine (unhide CI _).mono ?_
  rintro e w3 ⟨rfl, hb⟩
  replace HB := hide (((unhide HB).alloc (unhide HB).size _).trans (hb.mono (Nat.le_trans (unhide HB).size (by simp))))
  replace KB := hide (((unhide KB).alloc _).later hb)
  clear hb KA d0 d1 d2 d3 d4 d5 d6
  have d0 : w3.cell? ⟨w.heap.size, 0, none⟩ = some (.int .i64 wh) := (unhide KB).cell 0
  have d1 : w3.cell? ⟨w.heap.size, 1, none⟩ = some (.int .i64 at') := (unhide KB).cell 1
  have d2 : w3.cell? ⟨w.heap.size, 2, none⟩ = some (.int .i64 id) := (unhide KB).cell 2
  have d3 : w3.cell? ⟨w.heap.size, 3, none⟩ = some (.int .i64 sp) := (unhide KB).cell 3
  have d4 : w3.cell? ⟨w.heap.size, 4, none⟩ = some (.string nm) := (unhide KB).cell 4
  have d5 : w3.cell? ⟨w.heap.size, 5, none⟩ = some (.string n1) := (unhide KB).cell 5
  have d6 : w3.cell? ⟨w.heap.size, 6, none⟩ = some (.string n2) := (unhide KB).cell 6
  go_wp2_with fail
  refine (unhide CU _).mono ?_
  rintro e w4 ⟨rfl, hb⟩
  replace HB := hide ((unhide HB).trans (hb.mono (unhide HB).size))
  replace KB := hide ((unhide KB).later hb)
  clear hb d0 d1 d2 d3 d4 d5 d6
  have d0 : w4.cell? ⟨w.heap.size, 0, none⟩ = some (.int .i64 wh) := (unhide KB).cell 0
  have d1 : w4.cell? ⟨w.heap.size, 1, none⟩ = some (.int .i64 at') := (unhide KB).cell 1
  have d2 : w4.cell? ⟨w.heap.size, 2, none⟩ = some (.int .i64 id) := (unhide KB).cell 2
  have d3 : w4.cell? ⟨w.heap.size, 3, none⟩ = some (.int .i64 sp) := (unhide KB).cell 3
  have d4 : w4.cell? ⟨w.heap.size, 4, none⟩ = some (.string nm) := (unhide KB).cell 4
  have d5 : w4.cell? ⟨w.heap.size, 5, none⟩ = some (.string n1) := (unhide KB).cell 5
  have d6 : w4.cell? ⟨w.heap.size, 6, none⟩ = some (.string n2) := (unhide KB).cell 6
  go_wp2_with fail
  refine (unhide CA _).mono ?_
  rintro e w5 ⟨rfl, hw⟩
  obtain rfl : w4 = w5 := hw.symm
  clear hw
  go_wp2_with fail
  refine (unhide CN _ _).mono ?_
  rintro e w5 ⟨rfl, hw⟩
  have hb : Below w4.heap.size w4 w5 := by rw [hw]; exact (Below.refl _ _).alloc (Nat.le_refl _) _
  replace HB := hide ((unhide HB).trans (hb.mono (unhide HB).size))
  replace KB := hide ((unhide KB).later hb)
  clear hb d0 d1 d2 d3 d4 d5 d6 hw
  have d0 : w5.cell? ⟨w.heap.size, 0, none⟩ = some (.int .i64 wh) := (unhide KB).cell 0
  have d1 : w5.cell? ⟨w.heap.size, 1, none⟩ = some (.int .i64 at') := (unhide KB).cell 1
  have d2 : w5.cell? ⟨w.heap.size, 2, none⟩ = some (.int .i64 id) := (unhide KB).cell 2
  have d3 : w5.cell? ⟨w.heap.size, 3, none⟩ = some (.int .i64 sp) := (unhide KB).cell 3
  have d4 : w5.cell? ⟨w.heap.size, 4, none⟩ = some (.string nm) := (unhide KB).cell 4
  have d5 : w5.cell? ⟨w.heap.size, 5, none⟩ = some (.string n1) := (unhide KB).cell 5
  have d6 : w5.cell? ⟨w.heap.size, 6, none⟩ = some (.string n2) := (unhide KB).cell 6
  go_wp2_with fail
  refine (unhide CO _ _).mono ?_
  rintro e w6 ⟨rfl, hb⟩
  replace HB := hide (((unhide HB).alloc (unhide HB).size _).trans (hb.mono (Nat.le_trans (unhide HB).size (by simp))))
  replace KB := hide (((unhide KB).alloc _).later hb)
  clear hb d0 d1 d2 d3 d4 d5 d6
  have d0 : w6.cell? ⟨w.heap.size, 0, none⟩ = some (.int .i64 wh) := (unhide KB).cell 0
  have d1 : w6.cell? ⟨w.heap.size, 1, none⟩ = some (.int .i64 at') := (unhide KB).cell 1
  have d2 : w6.cell? ⟨w.heap.size, 2, none⟩ = some (.int .i64 id) := (unhide KB).cell 2
  have d3 : w6.cell? ⟨w.heap.size, 3, none⟩ = some (.int .i64 sp) := (unhide KB).cell 3
  have d4 : w6.cell? ⟨w.heap.size, 4, none⟩ = some (.string nm) := (unhide KB).cell 4
  have d5 : w6.cell? ⟨w.heap.size, 5, none⟩ = some (.string n1) := (unhide KB).cell 5
  have d6 : w6.cell? ⟨w.heap.size, 6, none⟩ = some (.string n2) := (unhide KB).cell 6
  go_wp2_with fail
  refine (unhide CB _ _).mono ?_
  rintro e w7 ⟨rfl, hb⟩
  replace HB := hide (((unhide HB).alloc (unhide HB).size _).trans (hb.mono (Nat.le_trans (unhide HB).size (by simp))))
  replace KB := hide (((unhide KB).alloc _).later hb)
  clear hb d0 d1 d2 d3 d4 d5 d6
  have d0 : w7.cell? ⟨w.heap.size, 0, none⟩ = some (.int .i64 wh) := (unhide KB).cell 0
  have d1 : w7.cell? ⟨w.heap.size, 1, none⟩ = some (.int .i64 at') := (unhide KB).cell 1
  have d2 : w7.cell? ⟨w.heap.size, 2, none⟩ = some (.int .i64 id) := (unhide KB).cell 2
  have d3 : w7.cell? ⟨w.heap.size, 3, none⟩ = some (.int .i64 sp) := (unhide KB).cell 3
  have d4 : w7.cell? ⟨w.heap.size, 4, none⟩ = some (.string nm) := (unhide KB).cell 4
  have d5 : w7.cell? ⟨w.heap.size, 5, none⟩ = some (.string n1) := (unhide KB).cell 5
  have d6 : w7.cell? ⟨w.heap.size, 6, none⟩ = some (.string n2) := (unhide KB).cell 6
  go_wp2_with fail
  refine (unhide CM _).mono ?_
  rintro e w8 ⟨rfl, hb⟩
  replace HB := hide ((unhide HB).trans (hb.mono (unhide HB).size))
  replace KB := hide ((unhide KB).later hb)
  clear hb d0 d1 d2 d3 d4 d5 d6
  have d0 : w8.cell? ⟨w.heap.size, 0, none⟩ = some (.int .i64 wh) := (unhide KB).cell 0
  have d1 : w8.cell? ⟨w.heap.size, 1, none⟩ = some (.int .i64 at') := (unhide KB).cell 1
  have d2 : w8.cell? ⟨w.heap.size, 2, none⟩ = some (.int .i64 id) := (unhide KB).cell 2
  have d3 : w8.cell? ⟨w.heap.size, 3, none⟩ = some (.int .i64 sp) := (unhide KB).cell 3
  have d4 : w8.cell? ⟨w.heap.size, 4, none⟩ = some (.string nm) := (unhide KB).cell 4
  have d5 : w8.cell? ⟨w.heap.size, 5, none⟩ = some (.string n1) := (unhide KB).cell 5
  have d6 : w8.cell? ⟨w.heap.size, 6, none⟩ = some (.string n2) := (unhide KB).cell 6
  go_wp2_with fail
  refine (unhide CF _).mono ?_
  rintro e w9 ⟨rfl, hw⟩
  obtain rfl : w8 = w9 := hw.symm
  clear hw
  go_wp2_with fail
  refine (unhide CR _).mono ?_
  rintro e w9 ⟨rfl, hw⟩
  obtain rfl : w8 = w9 := hw.symm
  clear hw
  go_wp2_with fail
  refine (unhide CC _).mono ?_
  rintro e w9 ⟨rfl, hb⟩
  replace HB := hide ((unhide HB).trans (hb.mono (unhide HB).size))
  clear hb KB d0 d1 d2 d3 d4 d5 d6
  go_wp2
  go_ret
  exact ⟨rfl, unhide HB⟩

theorem stackNil_walk (wh at' id sp : Int) (nm n1 n2 : ByteArray) (w : World) :
    Calls Try.prog 7 #[.agg #[.int .i64 wh, .int .i64 at', .int .i64 id, .int .i64 sp, .string nm, .string n1, .string n2]] w fun e w' => e = .returned (.bool true) ∧ Below w.heap.size w w' := by
  by_cases h : at' = 0
  · exact stackNil_z wh at' id sp nm n1 n2 w h
  · exact stackNil_n wh at' id sp nm n1 n2 w h
end Go.Proofs.Ytimkijmjbphhlaa
