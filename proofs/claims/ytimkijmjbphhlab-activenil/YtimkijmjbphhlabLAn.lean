/-
  The walk of ActiveNil.
-/
import Derived.Test.YtimkijmjbphhlabANl
namespace Go.Proofs.Ytimkijmjbphhlab
open Go.RowKit
set_option linter.unusedVariables false
set_option linter.unusedSimpArgs false


set_option maxHeartbeats 40000000 in
set_option maxRecDepth 100000 in
theorem anil_m (wh n0 xi : Int) (xm : Bool) (xn : ByteArray) (xq : Option Addr) (xl xc : Nat) (w : World) (h0 : xm = true) :
    Calls Try.prog 7 #[.agg #[.int .i64 wh, .int .i64 n0, .bool xm, .int .i64 xi, .string xn, .slice xq xl xc]] w fun e w' => e = .returned (.bool true) ∧ Below w.heap.size w w' := by
  subst h0
  have hel : isElB ⟨true, xi, xn, xq, xl, xc⟩ = false := by simp [isElB]
  have CC := hide (fun w => clear_nil w)
  have CL := hide (fun w => lastn_nil xn w)
  have CA := hide (fun w => add_nil ⟨true, xi, xn, xq, xl, xc⟩ w)
  have CI := hide (fun w => ins_nil ⟨true, xi, xn, xq, xl, xc⟩ w)
  rw [hel] at CA CI
  simp only [if_true, Bool.false_eq_true, if_false] at CA CI
  have CM := hide (fun w => mark_nil w)
  have CF := hide (fun w => find_nil n0 w)
  have CR := hide (fun w => remove_nil n0 w)
  have CS := hide (fun w => swap_nil n0 ⟨true, xi, xn, xq, xl, xc⟩ w)
  have CAl := hide (fun w => all_nil w)
  have CU := hide (fun w => cut_nil w)
  have C4 := hide (fun w => four_any w)
  unfold entV at *
  dsimp only at *
  clear hel
  go_enter Try.func7, Try.ntmps7
  go_wp2_with fail
  refine (unhide CC _).mono ?_
  rintro e w1 ⟨rfl, hw⟩
  have HB : Hid (Below w.heap.size w w1) := hide (by rw [hw]; exact (Below.refl _ _).alloc (Nat.le_refl _) _)
  have KB : Hid (Blk w1 w.heap.size #[.int .i64 wh, .int .i64 n0, .bool true, .int .i64 xi, .string xn, .slice xq xl xc] 30) := hide (by rw [hw]; exact Blk.new w _ _)
  clear hw
  have d0 : w1.cell? ⟨w.heap.size, 0, none⟩ = some (.int .i64 wh) := (unhide KB).cell 0
  have d1 : w1.cell? ⟨w.heap.size, 1, none⟩ = some (.int .i64 n0) := (unhide KB).cell 1
  have d2 : w1.cell? ⟨w.heap.size, 2, none⟩ = some (.bool true) := (unhide KB).cell 2
  have d3 : w1.cell? ⟨w.heap.size, 3, none⟩ = some (.int .i64 xi) := (unhide KB).cell 3
  have d4 : w1.cell? ⟨w.heap.size, 4, none⟩ = some (.string xn) := (unhide KB).cell 4
  have d5 : w1.cell? ⟨w.heap.size, 5, none⟩ = some (.slice xq xl xc) := (unhide KB).cell 5
  go_wp2_with fail
  refine (unhide CL _).mono ?_
  rintro e w2 ⟨rfl, hb⟩
  replace HB := hide ((unhide HB).trans (hb.mono (unhide HB).size))
  replace KB := hide ((unhide KB).later hb)
  clear hb d0 d1 d2 d3 d4 d5
  have KA := hide ((unhide KB).alloc (Obj.cells #[.bool false, .int .i64 0, .string ⟨#[]⟩, .slice none 0 0] 28))
  have d0 : (w2.alloc (Obj.cells #[.bool false, .int .i64 0, .string ⟨#[]⟩, .slice none 0 0] 28)).cell? ⟨w.heap.size, 0, none⟩ = some (.int .i64 wh) := (unhide KA).cell 0
  have d1 : (w2.alloc (Obj.cells #[.bool false, .int .i64 0, .string ⟨#[]⟩, .slice none 0 0] 28)).cell? ⟨w.heap.size, 1, none⟩ = some (.int .i64 n0) := (unhide KA).cell 1
  have d2 : (w2.alloc (Obj.cells #[.bool false, .int .i64 0, .string ⟨#[]⟩, .slice none 0 0] 28)).cell? ⟨w.heap.size, 2, none⟩ = some (.bool true) := (unhide KA).cell 2
  have d3 : (w2.alloc (Obj.cells #[.bool false, .int .i64 0, .string ⟨#[]⟩, .slice none 0 0] 28)).cell? ⟨w.heap.size, 3, none⟩ = some (.int .i64 xi) := (unhide KA).cell 3
  have d4 : (w2.alloc (Obj.cells #[.bool false, .int .i64 0, .string ⟨#[]⟩, .slice none 0 0] 28)).cell? ⟨w.heap.size, 4, none⟩ = some (.string xn) := (unhide KA).cell 4
  have d5 : (w2.alloc (Obj.cells #[.bool false, .int .i64 0, .string ⟨#[]⟩, .slice none 0 0] 28)).cell? ⟨w.heap.size, 5, none⟩ = some (.slice xq xl xc) := (unhide KA).cell 5
  go_wp2_with fail
  refine (unhide CA _).mono ?_
  rintro e w3 ⟨rfl, hb⟩
  replace HB := hide (((unhide HB).alloc (unhide HB).size _).trans (hb.mono (Nat.le_trans (unhide HB).size (by simp))))
  replace KB := hide (((unhide KB).alloc _).later hb)
  clear hb KA d0 d1 d2 d3 d4 d5
  have d0 : w3.cell? ⟨w.heap.size, 0, none⟩ = some (.int .i64 wh) := (unhide KB).cell 0
  have d1 : w3.cell? ⟨w.heap.size, 1, none⟩ = some (.int .i64 n0) := (unhide KB).cell 1
  have d2 : w3.cell? ⟨w.heap.size, 2, none⟩ = some (.bool true) := (unhide KB).cell 2
  have d3 : w3.cell? ⟨w.heap.size, 3, none⟩ = some (.int .i64 xi) := (unhide KB).cell 3
  have d4 : w3.cell? ⟨w.heap.size, 4, none⟩ = some (.string xn) := (unhide KB).cell 4
  have d5 : w3.cell? ⟨w.heap.size, 5, none⟩ = some (.slice xq xl xc) := (unhide KB).cell 5
  go_wp2_with fail
  refine (unhide CI _).mono ?_
  rintro e w4 ⟨rfl, hb⟩
  replace HB := hide ((unhide HB).trans (hb.mono (unhide HB).size))
  replace KB := hide ((unhide KB).later hb)
  clear hb d0 d1 d2 d3 d4 d5
  have d0 : w4.cell? ⟨w.heap.size, 0, none⟩ = some (.int .i64 wh) := (unhide KB).cell 0
  have d1 : w4.cell? ⟨w.heap.size, 1, none⟩ = some (.int .i64 n0) := (unhide KB).cell 1
  have d2 : w4.cell? ⟨w.heap.size, 2, none⟩ = some (.bool true) := (unhide KB).cell 2
  have d3 : w4.cell? ⟨w.heap.size, 3, none⟩ = some (.int .i64 xi) := (unhide KB).cell 3
  have d4 : w4.cell? ⟨w.heap.size, 4, none⟩ = some (.string xn) := (unhide KB).cell 4
  have d5 : w4.cell? ⟨w.heap.size, 5, none⟩ = some (.slice xq xl xc) := (unhide KB).cell 5
  go_wp2_with fail
  refine (unhide CM _).mono ?_
  rintro e w5 ⟨rfl, hw⟩
  obtain rfl : w4 = w5 := hw.symm
  clear hw
  go_wp2_with fail
  refine (unhide CF _).mono ?_
  rintro e w5 ⟨rfl, hb⟩
  replace HB := hide ((unhide HB).trans (hb.mono (unhide HB).size))
  replace KB := hide ((unhide KB).later hb)
  clear hb d0 d1 d2 d3 d4 d5
  have d0 : w5.cell? ⟨w.heap.size, 0, none⟩ = some (.int .i64 wh) := (unhide KB).cell 0
  have d1 : w5.cell? ⟨w.heap.size, 1, none⟩ = some (.int .i64 n0) := (unhide KB).cell 1
  have d2 : w5.cell? ⟨w.heap.size, 2, none⟩ = some (.bool true) := (unhide KB).cell 2
  have d3 : w5.cell? ⟨w.heap.size, 3, none⟩ = some (.int .i64 xi) := (unhide KB).cell 3
  have d4 : w5.cell? ⟨w.heap.size, 4, none⟩ = some (.string xn) := (unhide KB).cell 4
  have d5 : w5.cell? ⟨w.heap.size, 5, none⟩ = some (.slice xq xl xc) := (unhide KB).cell 5
  go_wp2_with fail
  refine (unhide CR _).mono ?_
  rintro e w6 ⟨rfl, hb⟩
  replace HB := hide ((unhide HB).trans (hb.mono (unhide HB).size))
  replace KB := hide ((unhide KB).later hb)
  clear hb d0 d1 d2 d3 d4 d5
  have d0 : w6.cell? ⟨w.heap.size, 0, none⟩ = some (.int .i64 wh) := (unhide KB).cell 0
  have d1 : w6.cell? ⟨w.heap.size, 1, none⟩ = some (.int .i64 n0) := (unhide KB).cell 1
  have d2 : w6.cell? ⟨w.heap.size, 2, none⟩ = some (.bool true) := (unhide KB).cell 2
  have d3 : w6.cell? ⟨w.heap.size, 3, none⟩ = some (.int .i64 xi) := (unhide KB).cell 3
  have d4 : w6.cell? ⟨w.heap.size, 4, none⟩ = some (.string xn) := (unhide KB).cell 4
  have d5 : w6.cell? ⟨w.heap.size, 5, none⟩ = some (.slice xq xl xc) := (unhide KB).cell 5
  go_wp2_with fail
  refine (unhide CS _).mono ?_
  rintro e w7 ⟨rfl, hb⟩
  replace HB := hide ((unhide HB).trans (hb.mono (unhide HB).size))
  replace KB := hide ((unhide KB).later hb)
  clear hb d0 d1 d2 d3 d4 d5
  have d0 : w7.cell? ⟨w.heap.size, 0, none⟩ = some (.int .i64 wh) := (unhide KB).cell 0
  have d1 : w7.cell? ⟨w.heap.size, 1, none⟩ = some (.int .i64 n0) := (unhide KB).cell 1
  have d2 : w7.cell? ⟨w.heap.size, 2, none⟩ = some (.bool true) := (unhide KB).cell 2
  have d3 : w7.cell? ⟨w.heap.size, 3, none⟩ = some (.int .i64 xi) := (unhide KB).cell 3
  have d4 : w7.cell? ⟨w.heap.size, 4, none⟩ = some (.string xn) := (unhide KB).cell 4
  have d5 : w7.cell? ⟨w.heap.size, 5, none⟩ = some (.slice xq xl xc) := (unhide KB).cell 5
  go_wp2_with fail
  refine (unhide CAl _).mono ?_
  rintro e w8 ⟨rfl, hw⟩
  obtain rfl : w7 = w8 := hw.symm
  clear hw
  go_wp2_with fail
  refine (unhide CU _).mono ?_
  rintro e w8 ⟨rfl, hb⟩
  replace HB := hide ((unhide HB).trans (hb.mono (unhide HB).size))
  replace KB := hide ((unhide KB).later hb)
  clear hb d0 d1 d2 d3 d4 d5
  have d0 : w8.cell? ⟨w.heap.size, 0, none⟩ = some (.int .i64 wh) := (unhide KB).cell 0
  have d1 : w8.cell? ⟨w.heap.size, 1, none⟩ = some (.int .i64 n0) := (unhide KB).cell 1
  have d2 : w8.cell? ⟨w.heap.size, 2, none⟩ = some (.bool true) := (unhide KB).cell 2
  have d3 : w8.cell? ⟨w.heap.size, 3, none⟩ = some (.int .i64 xi) := (unhide KB).cell 3
  have d4 : w8.cell? ⟨w.heap.size, 4, none⟩ = some (.string xn) := (unhide KB).cell 4
  have d5 : w8.cell? ⟨w.heap.size, 5, none⟩ = some (.slice xq xl xc) := (unhide KB).cell 5
  go_wp2_with fail
  refine (unhide C4 _).mono ?_
  rintro e w9 ⟨rfl, hb⟩
  replace HB := hide ((unhide HB).trans (hb.mono (unhide HB).size))
  clear hb KB d0 d1 d2 d3 d4 d5
  go_wp2
  go_ret
  exact ⟨rfl, unhide HB⟩

set_option maxHeartbeats 40000000 in
set_option maxRecDepth 100000 in
theorem anil_l (wh n0 xi : Int) (xm : Bool) (xn : ByteArray) (xq : Option Addr) (xl xc : Nat) (w : World) (h0 : xm = false) (h1 : xi < 0) :
    Calls Try.prog 7 #[.agg #[.int .i64 wh, .int .i64 n0, .bool xm, .int .i64 xi, .string xn, .slice xq xl xc]] w fun e w' => e = .returned (.bool true) ∧ Below w.heap.size w w' := by
  subst h0
  have hel : isElB ⟨false, xi, xn, xq, xl, xc⟩ = false := by simp [isElB, h1]
  have CC := hide (fun w => clear_nil w)
  have CL := hide (fun w => lastn_nil xn w)
  have CA := hide (fun w => add_nil ⟨false, xi, xn, xq, xl, xc⟩ w)
  have CI := hide (fun w => ins_nil ⟨false, xi, xn, xq, xl, xc⟩ w)
  rw [hel] at CA CI
  simp only [if_true, Bool.false_eq_true, if_false] at CA CI
  have CM := hide (fun w => mark_nil w)
  have CF := hide (fun w => find_nil n0 w)
  have CR := hide (fun w => remove_nil n0 w)
  have CS := hide (fun w => swap_nil n0 ⟨false, xi, xn, xq, xl, xc⟩ w)
  have CAl := hide (fun w => all_nil w)
  have CU := hide (fun w => cut_nil w)
  have C4 := hide (fun w => four_any w)
  have hd : decide (xi < 0) = true := decide_eq_true h1
  unfold entV at *
  dsimp only at *
  clear hel
  go_enter Try.func7, Try.ntmps7
  go_wp2_with fail
  refine (unhide CC _).mono ?_
  rintro e w1 ⟨rfl, hw⟩
  have HB : Hid (Below w.heap.size w w1) := hide (by rw [hw]; exact (Below.refl _ _).alloc (Nat.le_refl _) _)
  have KB : Hid (Blk w1 w.heap.size #[.int .i64 wh, .int .i64 n0, .bool false, .int .i64 xi, .string xn, .slice xq xl xc] 30) := hide (by rw [hw]; exact Blk.new w _ _)
  clear hw
  have d0 : w1.cell? ⟨w.heap.size, 0, none⟩ = some (.int .i64 wh) := (unhide KB).cell 0
  have d1 : w1.cell? ⟨w.heap.size, 1, none⟩ = some (.int .i64 n0) := (unhide KB).cell 1
  have d2 : w1.cell? ⟨w.heap.size, 2, none⟩ = some (.bool false) := (unhide KB).cell 2
  have d3 : w1.cell? ⟨w.heap.size, 3, none⟩ = some (.int .i64 xi) := (unhide KB).cell 3
  have d4 : w1.cell? ⟨w.heap.size, 4, none⟩ = some (.string xn) := (unhide KB).cell 4
  have d5 : w1.cell? ⟨w.heap.size, 5, none⟩ = some (.slice xq xl xc) := (unhide KB).cell 5
  go_wp2_with fail
  refine (unhide CL _).mono ?_
  rintro e w2 ⟨rfl, hb⟩
  replace HB := hide ((unhide HB).trans (hb.mono (unhide HB).size))
  replace KB := hide ((unhide KB).later hb)
  clear hb d0 d1 d2 d3 d4 d5
  have KA := hide ((unhide KB).alloc (Obj.cells #[.bool false, .int .i64 0, .string ⟨#[]⟩, .slice none 0 0] 28))
  have d0 : (w2.alloc (Obj.cells #[.bool false, .int .i64 0, .string ⟨#[]⟩, .slice none 0 0] 28)).cell? ⟨w.heap.size, 0, none⟩ = some (.int .i64 wh) := (unhide KA).cell 0
  have d1 : (w2.alloc (Obj.cells #[.bool false, .int .i64 0, .string ⟨#[]⟩, .slice none 0 0] 28)).cell? ⟨w.heap.size, 1, none⟩ = some (.int .i64 n0) := (unhide KA).cell 1
  have d2 : (w2.alloc (Obj.cells #[.bool false, .int .i64 0, .string ⟨#[]⟩, .slice none 0 0] 28)).cell? ⟨w.heap.size, 2, none⟩ = some (.bool false) := (unhide KA).cell 2
  have d3 : (w2.alloc (Obj.cells #[.bool false, .int .i64 0, .string ⟨#[]⟩, .slice none 0 0] 28)).cell? ⟨w.heap.size, 3, none⟩ = some (.int .i64 xi) := (unhide KA).cell 3
  have d4 : (w2.alloc (Obj.cells #[.bool false, .int .i64 0, .string ⟨#[]⟩, .slice none 0 0] 28)).cell? ⟨w.heap.size, 4, none⟩ = some (.string xn) := (unhide KA).cell 4
  have d5 : (w2.alloc (Obj.cells #[.bool false, .int .i64 0, .string ⟨#[]⟩, .slice none 0 0] 28)).cell? ⟨w.heap.size, 5, none⟩ = some (.slice xq xl xc) := (unhide KA).cell 5
  go_wp2_with fail
  refine (unhide CA _).mono ?_
  rintro e w3 ⟨rfl, hb⟩
  replace HB := hide (((unhide HB).alloc (unhide HB).size _).trans (hb.mono (Nat.le_trans (unhide HB).size (by simp))))
  replace KB := hide (((unhide KB).alloc _).later hb)
  clear hb KA d0 d1 d2 d3 d4 d5
  have d0 : w3.cell? ⟨w.heap.size, 0, none⟩ = some (.int .i64 wh) := (unhide KB).cell 0
  have d1 : w3.cell? ⟨w.heap.size, 1, none⟩ = some (.int .i64 n0) := (unhide KB).cell 1
  have d2 : w3.cell? ⟨w.heap.size, 2, none⟩ = some (.bool false) := (unhide KB).cell 2
  have d3 : w3.cell? ⟨w.heap.size, 3, none⟩ = some (.int .i64 xi) := (unhide KB).cell 3
  have d4 : w3.cell? ⟨w.heap.size, 4, none⟩ = some (.string xn) := (unhide KB).cell 4
  have d5 : w3.cell? ⟨w.heap.size, 5, none⟩ = some (.slice xq xl xc) := (unhide KB).cell 5
  go_wp2_with fail
  refine (unhide CI _).mono ?_
  rintro e w4 ⟨rfl, hb⟩
  replace HB := hide ((unhide HB).trans (hb.mono (unhide HB).size))
  replace KB := hide ((unhide KB).later hb)
  clear hb d0 d1 d2 d3 d4 d5
  have d0 : w4.cell? ⟨w.heap.size, 0, none⟩ = some (.int .i64 wh) := (unhide KB).cell 0
  have d1 : w4.cell? ⟨w.heap.size, 1, none⟩ = some (.int .i64 n0) := (unhide KB).cell 1
  have d2 : w4.cell? ⟨w.heap.size, 2, none⟩ = some (.bool false) := (unhide KB).cell 2
  have d3 : w4.cell? ⟨w.heap.size, 3, none⟩ = some (.int .i64 xi) := (unhide KB).cell 3
  have d4 : w4.cell? ⟨w.heap.size, 4, none⟩ = some (.string xn) := (unhide KB).cell 4
  have d5 : w4.cell? ⟨w.heap.size, 5, none⟩ = some (.slice xq xl xc) := (unhide KB).cell 5
  go_wp2_with fail
  refine (unhide CM _).mono ?_
  rintro e w5 ⟨rfl, hw⟩
  obtain rfl : w4 = w5 := hw.symm
  clear hw
  go_wp2_with fail
  refine (unhide CF _).mono ?_
  rintro e w5 ⟨rfl, hb⟩
  replace HB := hide ((unhide HB).trans (hb.mono (unhide HB).size))
  replace KB := hide ((unhide KB).later hb)
  clear hb d0 d1 d2 d3 d4 d5
  have d0 : w5.cell? ⟨w.heap.size, 0, none⟩ = some (.int .i64 wh) := (unhide KB).cell 0
  have d1 : w5.cell? ⟨w.heap.size, 1, none⟩ = some (.int .i64 n0) := (unhide KB).cell 1
  have d2 : w5.cell? ⟨w.heap.size, 2, none⟩ = some (.bool false) := (unhide KB).cell 2
  have d3 : w5.cell? ⟨w.heap.size, 3, none⟩ = some (.int .i64 xi) := (unhide KB).cell 3
  have d4 : w5.cell? ⟨w.heap.size, 4, none⟩ = some (.string xn) := (unhide KB).cell 4
  have d5 : w5.cell? ⟨w.heap.size, 5, none⟩ = some (.slice xq xl xc) := (unhide KB).cell 5
  go_wp2_with fail
  refine (unhide CR _).mono ?_
  rintro e w6 ⟨rfl, hb⟩
  replace HB := hide ((unhide HB).trans (hb.mono (unhide HB).size))
  replace KB := hide ((unhide KB).later hb)
  clear hb d0 d1 d2 d3 d4 d5
  have d0 : w6.cell? ⟨w.heap.size, 0, none⟩ = some (.int .i64 wh) := (unhide KB).cell 0
  have d1 : w6.cell? ⟨w.heap.size, 1, none⟩ = some (.int .i64 n0) := (unhide KB).cell 1
  have d2 : w6.cell? ⟨w.heap.size, 2, none⟩ = some (.bool false) := (unhide KB).cell 2
  have d3 : w6.cell? ⟨w.heap.size, 3, none⟩ = some (.int .i64 xi) := (unhide KB).cell 3
  have d4 : w6.cell? ⟨w.heap.size, 4, none⟩ = some (.string xn) := (unhide KB).cell 4
  have d5 : w6.cell? ⟨w.heap.size, 5, none⟩ = some (.slice xq xl xc) := (unhide KB).cell 5
  go_wp2_with fail
  refine (unhide CS _).mono ?_
  rintro e w7 ⟨rfl, hb⟩
  replace HB := hide ((unhide HB).trans (hb.mono (unhide HB).size))
  replace KB := hide ((unhide KB).later hb)
  clear hb d0 d1 d2 d3 d4 d5
  have d0 : w7.cell? ⟨w.heap.size, 0, none⟩ = some (.int .i64 wh) := (unhide KB).cell 0
  have d1 : w7.cell? ⟨w.heap.size, 1, none⟩ = some (.int .i64 n0) := (unhide KB).cell 1
  have d2 : w7.cell? ⟨w.heap.size, 2, none⟩ = some (.bool false) := (unhide KB).cell 2
  have d3 : w7.cell? ⟨w.heap.size, 3, none⟩ = some (.int .i64 xi) := (unhide KB).cell 3
  have d4 : w7.cell? ⟨w.heap.size, 4, none⟩ = some (.string xn) := (unhide KB).cell 4
  have d5 : w7.cell? ⟨w.heap.size, 5, none⟩ = some (.slice xq xl xc) := (unhide KB).cell 5
  go_wp2_with fail
  refine (unhide CAl _).mono ?_
  rintro e w8 ⟨rfl, hw⟩
  obtain rfl : w7 = w8 := hw.symm
  clear hw
  go_wp2_with fail
  refine (unhide CU _).mono ?_
  rintro e w8 ⟨rfl, hb⟩
  replace HB := hide ((unhide HB).trans (hb.mono (unhide HB).size))
  replace KB := hide ((unhide KB).later hb)
  clear hb d0 d1 d2 d3 d4 d5
  have d0 : w8.cell? ⟨w.heap.size, 0, none⟩ = some (.int .i64 wh) := (unhide KB).cell 0
  have d1 : w8.cell? ⟨w.heap.size, 1, none⟩ = some (.int .i64 n0) := (unhide KB).cell 1
  have d2 : w8.cell? ⟨w.heap.size, 2, none⟩ = some (.bool false) := (unhide KB).cell 2
  have d3 : w8.cell? ⟨w.heap.size, 3, none⟩ = some (.int .i64 xi) := (unhide KB).cell 3
  have d4 : w8.cell? ⟨w.heap.size, 4, none⟩ = some (.string xn) := (unhide KB).cell 4
  have d5 : w8.cell? ⟨w.heap.size, 5, none⟩ = some (.slice xq xl xc) := (unhide KB).cell 5
  go_wp2_with fail
  refine (unhide C4 _).mono ?_
  rintro e w9 ⟨rfl, hb⟩
  replace HB := hide ((unhide HB).trans (hb.mono (unhide HB).size))
  clear hb KB d0 d1 d2 d3 d4 d5
  go_wp2
  go_ret
  exact ⟨rfl, unhide HB⟩

set_option maxHeartbeats 40000000 in
set_option maxRecDepth 100000 in
theorem anil_g (wh n0 xi : Int) (xm : Bool) (xn : ByteArray) (xq : Option Addr) (xl xc : Nat) (w : World) (h0 : xm = false) (h1 : 0 ≤ xi) :
    Calls Try.prog 7 #[.agg #[.int .i64 wh, .int .i64 n0, .bool xm, .int .i64 xi, .string xn, .slice xq xl xc]] w fun e w' => e = .returned (.bool true) ∧ Below w.heap.size w w' := by
  subst h0
  have hel : isElB ⟨false, xi, xn, xq, xl, xc⟩ = true := by simp [isElB, h1]
  have CC := hide (fun w => clear_nil w)
  have CL := hide (fun w => lastn_nil xn w)
  have CA := hide (fun w => add_nil ⟨false, xi, xn, xq, xl, xc⟩ w)
  have CI := hide (fun w => ins_nil ⟨false, xi, xn, xq, xl, xc⟩ w)
  rw [hel] at CA CI
  simp only [if_true, Bool.false_eq_true, if_false] at CA CI
  have CM := hide (fun w => mark_nil w)
  have CF := hide (fun w => find_nil n0 w)
  have CR := hide (fun w => remove_nil n0 w)
  have CS := hide (fun w => swap_nil n0 ⟨false, xi, xn, xq, xl, xc⟩ w)
  have CAl := hide (fun w => all_nil w)
  have CU := hide (fun w => cut_nil w)
  have C4 := hide (fun w => four_any w)
  have hd : decide (xi < 0) = false := decide_eq_false (by omega)
  have hd2 : ¬ xi < 0 := by omega
  unfold entV at *
  dsimp only at *
  clear hel
  go_enter Try.func7, Try.ntmps7
  go_wp2_with fail
  refine (unhide CC _).mono ?_
  rintro e w1 ⟨rfl, hw⟩
  have HB : Hid (Below w.heap.size w w1) := hide (by rw [hw]; exact (Below.refl _ _).alloc (Nat.le_refl _) _)
  have KB : Hid (Blk w1 w.heap.size #[.int .i64 wh, .int .i64 n0, .bool false, .int .i64 xi, .string xn, .slice xq xl xc] 30) := hide (by rw [hw]; exact Blk.new w _ _)
  clear hw
  have d0 : w1.cell? ⟨w.heap.size, 0, none⟩ = some (.int .i64 wh) := (unhide KB).cell 0
  have d1 : w1.cell? ⟨w.heap.size, 1, none⟩ = some (.int .i64 n0) := (unhide KB).cell 1
  have d2 : w1.cell? ⟨w.heap.size, 2, none⟩ = some (.bool false) := (unhide KB).cell 2
  have d3 : w1.cell? ⟨w.heap.size, 3, none⟩ = some (.int .i64 xi) := (unhide KB).cell 3
  have d4 : w1.cell? ⟨w.heap.size, 4, none⟩ = some (.string xn) := (unhide KB).cell 4
  have d5 : w1.cell? ⟨w.heap.size, 5, none⟩ = some (.slice xq xl xc) := (unhide KB).cell 5
  go_wp2_with fail
  refine (unhide CL _).mono ?_
  rintro e w2 ⟨rfl, hb⟩
  replace HB := hide ((unhide HB).trans (hb.mono (unhide HB).size))
  replace KB := hide ((unhide KB).later hb)
  clear hb d0 d1 d2 d3 d4 d5
  have KA := hide ((unhide KB).alloc (Obj.cells #[.bool false, .int .i64 0, .string ⟨#[]⟩, .slice none 0 0] 28))
  have d0 : (w2.alloc (Obj.cells #[.bool false, .int .i64 0, .string ⟨#[]⟩, .slice none 0 0] 28)).cell? ⟨w.heap.size, 0, none⟩ = some (.int .i64 wh) := (unhide KA).cell 0
  have d1 : (w2.alloc (Obj.cells #[.bool false, .int .i64 0, .string ⟨#[]⟩, .slice none 0 0] 28)).cell? ⟨w.heap.size, 1, none⟩ = some (.int .i64 n0) := (unhide KA).cell 1
  have d2 : (w2.alloc (Obj.cells #[.bool false, .int .i64 0, .string ⟨#[]⟩, .slice none 0 0] 28)).cell? ⟨w.heap.size, 2, none⟩ = some (.bool false) := (unhide KA).cell 2
  have d3 : (w2.alloc (Obj.cells #[.bool false, .int .i64 0, .string ⟨#[]⟩, .slice none 0 0] 28)).cell? ⟨w.heap.size, 3, none⟩ = some (.int .i64 xi) := (unhide KA).cell 3
  have d4 : (w2.alloc (Obj.cells #[.bool false, .int .i64 0, .string ⟨#[]⟩, .slice none 0 0] 28)).cell? ⟨w.heap.size, 4, none⟩ = some (.string xn) := (unhide KA).cell 4
  have d5 : (w2.alloc (Obj.cells #[.bool false, .int .i64 0, .string ⟨#[]⟩, .slice none 0 0] 28)).cell? ⟨w.heap.size, 5, none⟩ = some (.slice xq xl xc) := (unhide KA).cell 5
  go_wp2_with fail
  refine (unhide CA _).mono ?_
  rintro e w3 ⟨rfl, hb⟩
  replace HB := hide (((unhide HB).alloc (unhide HB).size _).trans (hb.mono (Nat.le_trans (unhide HB).size (by simp))))
  replace KB := hide (((unhide KB).alloc _).later hb)
  clear hb KA d0 d1 d2 d3 d4 d5
  have d0 : w3.cell? ⟨w.heap.size, 0, none⟩ = some (.int .i64 wh) := (unhide KB).cell 0
  have d1 : w3.cell? ⟨w.heap.size, 1, none⟩ = some (.int .i64 n0) := (unhide KB).cell 1
  have d2 : w3.cell? ⟨w.heap.size, 2, none⟩ = some (.bool false) := (unhide KB).cell 2
  have d3 : w3.cell? ⟨w.heap.size, 3, none⟩ = some (.int .i64 xi) := (unhide KB).cell 3
  have d4 : w3.cell? ⟨w.heap.size, 4, none⟩ = some (.string xn) := (unhide KB).cell 4
  have d5 : w3.cell? ⟨w.heap.size, 5, none⟩ = some (.slice xq xl xc) := (unhide KB).cell 5
  go_wp2_with fail
  refine (unhide CI _).mono ?_
  rintro e w4 ⟨rfl, hb⟩
  replace HB := hide ((unhide HB).trans (hb.mono (unhide HB).size))
  replace KB := hide ((unhide KB).later hb)
  clear hb d0 d1 d2 d3 d4 d5
  have d0 : w4.cell? ⟨w.heap.size, 0, none⟩ = some (.int .i64 wh) := (unhide KB).cell 0
  have d1 : w4.cell? ⟨w.heap.size, 1, none⟩ = some (.int .i64 n0) := (unhide KB).cell 1
  have d2 : w4.cell? ⟨w.heap.size, 2, none⟩ = some (.bool false) := (unhide KB).cell 2
  have d3 : w4.cell? ⟨w.heap.size, 3, none⟩ = some (.int .i64 xi) := (unhide KB).cell 3
  have d4 : w4.cell? ⟨w.heap.size, 4, none⟩ = some (.string xn) := (unhide KB).cell 4
  have d5 : w4.cell? ⟨w.heap.size, 5, none⟩ = some (.slice xq xl xc) := (unhide KB).cell 5
  go_wp2_with fail
  refine (unhide CM _).mono ?_
  rintro e w5 ⟨rfl, hw⟩
  obtain rfl : w4 = w5 := hw.symm
  clear hw
  go_wp2_with fail
  refine (unhide CF _).mono ?_
  rintro e w5 ⟨rfl, hb⟩
  replace HB := hide ((unhide HB).trans (hb.mono (unhide HB).size))
  replace KB := hide ((unhide KB).later hb)
  clear hb d0 d1 d2 d3 d4 d5
  have d0 : w5.cell? ⟨w.heap.size, 0, none⟩ = some (.int .i64 wh) := (unhide KB).cell 0
  have d1 : w5.cell? ⟨w.heap.size, 1, none⟩ = some (.int .i64 n0) := (unhide KB).cell 1
  have d2 : w5.cell? ⟨w.heap.size, 2, none⟩ = some (.bool false) := (unhide KB).cell 2
  have d3 : w5.cell? ⟨w.heap.size, 3, none⟩ = some (.int .i64 xi) := (unhide KB).cell 3
  have d4 : w5.cell? ⟨w.heap.size, 4, none⟩ = some (.string xn) := (unhide KB).cell 4
  have d5 : w5.cell? ⟨w.heap.size, 5, none⟩ = some (.slice xq xl xc) := (unhide KB).cell 5
  go_wp2_with fail
  refine (unhide CR _).mono ?_
  rintro e w6 ⟨rfl, hb⟩
  replace HB := hide ((unhide HB).trans (hb.mono (unhide HB).size))
  replace KB := hide ((unhide KB).later hb)
  clear hb d0 d1 d2 d3 d4 d5
  have d0 : w6.cell? ⟨w.heap.size, 0, none⟩ = some (.int .i64 wh) := (unhide KB).cell 0
  have d1 : w6.cell? ⟨w.heap.size, 1, none⟩ = some (.int .i64 n0) := (unhide KB).cell 1
  have d2 : w6.cell? ⟨w.heap.size, 2, none⟩ = some (.bool false) := (unhide KB).cell 2
  have d3 : w6.cell? ⟨w.heap.size, 3, none⟩ = some (.int .i64 xi) := (unhide KB).cell 3
  have d4 : w6.cell? ⟨w.heap.size, 4, none⟩ = some (.string xn) := (unhide KB).cell 4
  have d5 : w6.cell? ⟨w.heap.size, 5, none⟩ = some (.slice xq xl xc) := (unhide KB).cell 5
  go_wp2_with fail
  refine (unhide CS _).mono ?_
  rintro e w7 ⟨rfl, hb⟩
  replace HB := hide ((unhide HB).trans (hb.mono (unhide HB).size))
  replace KB := hide ((unhide KB).later hb)
  clear hb d0 d1 d2 d3 d4 d5
  have d0 : w7.cell? ⟨w.heap.size, 0, none⟩ = some (.int .i64 wh) := (unhide KB).cell 0
  have d1 : w7.cell? ⟨w.heap.size, 1, none⟩ = some (.int .i64 n0) := (unhide KB).cell 1
  have d2 : w7.cell? ⟨w.heap.size, 2, none⟩ = some (.bool false) := (unhide KB).cell 2
  have d3 : w7.cell? ⟨w.heap.size, 3, none⟩ = some (.int .i64 xi) := (unhide KB).cell 3
  have d4 : w7.cell? ⟨w.heap.size, 4, none⟩ = some (.string xn) := (unhide KB).cell 4
  have d5 : w7.cell? ⟨w.heap.size, 5, none⟩ = some (.slice xq xl xc) := (unhide KB).cell 5
  go_wp2_with fail
  refine (unhide CAl _).mono ?_
  rintro e w8 ⟨rfl, hw⟩
  obtain rfl : w7 = w8 := hw.symm
  clear hw
  go_wp2_with fail
  refine (unhide CU _).mono ?_
  rintro e w8 ⟨rfl, hb⟩
  replace HB := hide ((unhide HB).trans (hb.mono (unhide HB).size))
  replace KB := hide ((unhide KB).later hb)
  clear hb d0 d1 d2 d3 d4 d5
  have d0 : w8.cell? ⟨w.heap.size, 0, none⟩ = some (.int .i64 wh) := (unhide KB).cell 0
  have d1 : w8.cell? ⟨w.heap.size, 1, none⟩ = some (.int .i64 n0) := (unhide KB).cell 1
  have d2 : w8.cell? ⟨w.heap.size, 2, none⟩ = some (.bool false) := (unhide KB).cell 2
  have d3 : w8.cell? ⟨w.heap.size, 3, none⟩ = some (.int .i64 xi) := (unhide KB).cell 3
  have d4 : w8.cell? ⟨w.heap.size, 4, none⟩ = some (.string xn) := (unhide KB).cell 4
  have d5 : w8.cell? ⟨w.heap.size, 5, none⟩ = some (.slice xq xl xc) := (unhide KB).cell 5
  go_wp2_with fail
  refine (unhide C4 _).mono ?_
  rintro e w9 ⟨rfl, hb⟩
  replace HB := hide ((unhide HB).trans (hb.mono (unhide HB).size))
  clear hb KB d0 d1 d2 d3 d4 d5
  go_wp2
  go_ret
  exact ⟨rfl, unhide HB⟩

theorem activeNil_walk (wh n0 xi : Int) (xm : Bool) (xn : ByteArray) (xq : Option Addr) (xl xc : Nat) (w : World) :
    Calls Try.prog 7 #[.agg #[.int .i64 wh, .int .i64 n0, .bool xm, .int .i64 xi, .string xn, .slice xq xl xc]] w fun e w' => e = .returned (.bool true) ∧ Below w.heap.size w w' := by
  cases hx : xm with
  | true => exact anil_m wh n0 xi true xn xq xl xc w rfl
  | false =>
    by_cases h : xi < 0
    · exact anil_l wh n0 xi false xn xq xl xc w rfl h
    · exact anil_g wh n0 xi false xn xq xl xc w rfl (by omega)
end Go.Proofs.Ytimkijmjbphhlab
