/-
  The walk of ArenaNil.
-/
import Derived.Test.YtabajhbghjfhoabGWd
namespace Go.Proofs.Ytabajhbghjfhoab
open Go.RowKit
set_option linter.unusedVariables false
set_option linter.unusedSimpArgs false

theorem before_nil (a b : Int) (w : World) : Calls Try.prog 28 #[.pointer none, .int .i64 a, .int .i64 b] w fun r w' => r = .returned (.int .i64 1) ∧ w' = w := by
  have C := hide (has_nil a w)
  go_enter Try.func28, Try.ntmps28
  go_wp2_with fail
  refine (unhide C).mono ?_
  rintro r w1 ⟨rfl, hw⟩
  obtain rfl : w = w1 := hw.symm
  go_wp2
  go_ret
  exact ⟨rfl, rfl⟩
theorem detach_nil (a : Int) (w : World) : Calls Try.prog 23 #[.pointer none, .int .i64 a] w fun r w' => r = .returned (.int .i64 1) ∧ w' = w := by
  have C := hide (has_nil a w)
  go_enter Try.func23, Try.ntmps23
  go_wp2_with fail
  refine (unhide C).mono ?_
  rintro r w1 ⟨rfl, hw⟩
  obtain rfl : w = w1 := hw.symm
  go_wp2
  go_ret
  exact ⟨rfl, rfl⟩
theorem give_nil (a b : Int) (w : World) : Calls Try.prog 29 #[.pointer none, .int .i64 a, .int .i64 b] w fun r w' => r = .returned (.int .i64 1) ∧ w' = w := by
  have C := hide (element_nil a w)
  go_enter Try.func29, Try.ntmps29
  go_wp2_with fail
  refine (unhide C).mono ?_
  rintro r w1 ⟨rfl, hw⟩
  obtain rfl : w = w1 := hw.symm
  go_wp2
  go_ret
  exact ⟨rfl, rfl⟩
theorem wordsBefore_nil (a : Int) (s : ByteArray) (w : World) : Calls Try.prog 30 #[.pointer none, .int .i64 a, .string s] w fun r w' => r = .returned (.int .i64 1) ∧ w' = w := by
  have C := hide (has_nil a w)
  go_enter Try.func30, Try.ntmps30
  go_wp2_with fail
  refine (unhide C).mono ?_
  rintro r w1 ⟨rfl, hw⟩
  obtain rfl : w = w1 := hw.symm
  go_wp2
  go_ret
  exact ⟨rfl, rfl⟩
theorem tree_nil (w : World) : Calls Try.prog 21 #[.pointer none] w fun r w' => r = .returned (.slice none 0 0) ∧ Below w.heap.size w w' :=
  tree_by _ w _ (hide ((below_nil 0 w).mono (by rintro e w' ⟨rfl, hb⟩; exact ⟨⟨_, _, _, rfl⟩, rfl, hb⟩)))

set_option maxHeartbeats 20000000 in
set_option maxRecDepth 100000 in
theorem arenaNil_walk (wh a b : Int) (s : ByteArray) (w : World) (hs : s.size ≤ 9223372036854775807) :
    Calls Try.prog 8 #[.agg #[.int .i64 wh, .int .i64 a, .int .i64 b, .string s]] w fun e w' => e = .returned (.bool true) ∧ Below w.heap.size w w' := by
  have C1 := hide (fun W => element_mk_nil a s W)
  have C2 := hide (fun W => comment_nil s W hs)
  have C3 := hide (fun W => parent_nil a W)
  have C4 := hide (fun W => append_nil a b W)
  have C5 := hide (fun W => before_nil a b W)
  have C6 := hide (fun W => detach_nil a W)
  have C7 := hide (fun W => give_nil a b W)
  have C8 := hide (fun W => words_nil a s W)
  have C9 := hide (fun W => wordsBefore_nil a s W)
  have CK := hide (fun W => kids_nil a W)
  have CL := hide (fun W => len_nil W)
  have CT := hide (fun W => tree_nil W)
  have CW := hide (fun W => words_true W)
  have K0 := hide (Blk.new w #[.int .i64 wh, .int .i64 a, .int .i64 b, .string s] 30)
  have B0 : Hid (Below w.heap.size w (w.alloc (Obj.cells #[.int .i64 wh, .int .i64 a, .int .i64 b, .string s] 30))) := hide ((Below.refl _ _).alloc (Nat.le_refl _) _)
  go_enter Try.func8, Try.ntmps8
  go_wp2_with fail
  refine (unhide C1 _).mono ?_
  rintro r w1 ⟨rfl, hb⟩
  have K1 := hide ((unhide K0).later hb)
  have B1 := hide (tr2 (unhide B0) hb)
  have d1 : w1.cell? ⟨w.heap.size, 1, none⟩ = some (.int .i64 a) := (unhide K1).cell 1
  have d2 : w1.cell? ⟨w.heap.size, 2, none⟩ = some (.int .i64 b) := (unhide K1).cell 2
  have d3 : w1.cell? ⟨w.heap.size, 3, none⟩ = some (.string s) := (unhide K1).cell 3
  clear hb
  go_wp2_with fail
  refine (unhide C2 _).mono ?_
  rintro r w2 ⟨rfl, hb⟩
  have K2 := hide ((unhide K1).later hb)
  have B2 := hide (tr2 (unhide B1) hb)
  clear hb d1 d2 d3
  have d1 : w2.cell? ⟨w.heap.size, 1, none⟩ = some (.int .i64 a) := (unhide K2).cell 1
  have d2 : w2.cell? ⟨w.heap.size, 2, none⟩ = some (.int .i64 b) := (unhide K2).cell 2
  have d3 : w2.cell? ⟨w.heap.size, 3, none⟩ = some (.string s) := (unhide K2).cell 3
  go_wp2_with fail
  refine (unhide C3 _).mono ?_
  rintro r w3 ⟨rfl, hw⟩
  obtain rfl : w2 = w3 := hw.symm
  go_wp2_with fail
  refine (unhide C4 _).mono ?_
  rintro r w3 ⟨rfl, hw⟩
  obtain rfl : w2 = w3 := hw.symm
  go_wp2_with fail
  refine (unhide C5 _).mono ?_
  rintro r w3 ⟨rfl, hw⟩
  obtain rfl : w2 = w3 := hw.symm
  go_wp2_with fail
  refine (unhide C6 _).mono ?_
  rintro r w3 ⟨rfl, hw⟩
  obtain rfl : w2 = w3 := hw.symm
  go_wp2_with fail
  refine (unhide C7 _).mono ?_
  rintro r w3 ⟨rfl, hw⟩
  obtain rfl : w2 = w3 := hw.symm
  go_wp2_with fail
  refine (unhide C8 _).mono ?_
  rintro r w3 ⟨rfl, hw⟩
  obtain rfl : w2 = w3 := hw.symm
  go_wp2_with fail
  refine (unhide C9 _).mono ?_
  rintro r w3 ⟨rfl, hw⟩
  obtain rfl : w2 = w3 := hw.symm
  go_wp2_with fail
  refine (unhide CK _).mono ?_
  rintro r w3 ⟨rfl, hw⟩
  obtain rfl : w2 = w3 := hw.symm
  go_wp2_with fail
  refine (unhide CL _).mono ?_
  rintro r w3 ⟨rfl, hw⟩
  obtain rfl : w2 = w3 := hw.symm
  go_wp2_with fail
  refine (unhide CT _).mono ?_
  rintro r w4 ⟨rfl, hb⟩
  have B4 := hide (tr2 (unhide B2) hb)
  clear hb d1 d2 d3
  go_wp2_with fail
  refine (unhide CW _).mono ?_
  rintro r w5 ⟨rfl, hb⟩
  have B5 := hide (tr2 (unhide B4) hb)
  clear hb
  go_wp2
  go_ret
  exact ⟨rfl, unhide B5⟩
end Go.Proofs.Ytabajhbghjfhoab
