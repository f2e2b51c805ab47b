/-
  The walk of ActiveNil.
-/
import Derived.Test.YtimkijmjbphhlabAIs
namespace Go.Proofs.Ytimkijmjbphhlab
open Go.RowKit
set_option linter.unusedVariables false
set_option linter.unusedSimpArgs false

theorem clear_nil (w : World) : Calls Try.prog 18 #[.pointer none] w fun e w' => e = .returned (.tuple #[]) ∧ w' = w := by
  go_enter Try.func18, Try.ntmps18
  go_wp2
  refine bodyPost_ret (v := .tuple #[]) (results_none Try.results18 _ _ _) rfl ?_
  exact ⟨rfl, rfl⟩
set_option maxHeartbeats 1000000 in
theorem lastn_nil (name : ByteArray) (w : World) : Calls Try.prog 17 #[.pointer none, .string name] w fun e w' => e = .returned (.tuple #[.agg #[.bool false, .int .i64 0, .string ⟨#[]⟩, .slice none 0 0], .bool false]) ∧ Below w.heap.size w w' := by
  have C := hide (fun w => last_name_none (.pointer none) none 0 w.heap.size w (hide (entries_nil w)))
  have C2 := hide (fun c w => last_name_none (.pointer none) none 0 c w (hide (entries_nil w)))
  unfold ptr at *
  go_enter Try.func17, Try.ntmps17
  go_wp2_with fail
  refine (unhide C2 _ _).mono ?_
  rintro e w1 ⟨rfl, hw⟩
  subst hw
  go_wp2
  refine bodyPost_ret (v := .tuple #[.agg #[.bool false, .int .i64 0, .string ⟨#[]⟩, .slice none 0 0], .bool false]) (by simp [results, Try.results17, go_sem]) rfl ?_
  exact ⟨rfl, ((Below.refl _ _).alloc (Nat.le_refl _) _).alloc (by simp) _⟩
theorem add_nil (x : AEnt) (w : World) : Calls Try.prog 11 #[.pointer none, entV x] w fun e w' => e = .returned (.int .i64 (if isElB x then 7 else 1)) ∧ Below w.heap.size w w' := by
  cases hx : isElB x with
  | true => exact add_room (.pointer none) x 7 w hx (by decide) (hide fun w1 _ => room_nil w1)
  | false => exact add_bad (.pointer none) x w hx
set_option maxHeartbeats 1000000 in
theorem insert_bad (q : Value) (x : AEnt) (i : Int) (w : World) (hx : isElB x = false) :
    Calls Try.prog 16 #[q, .int .i64 i, entV x] w fun e w' => e = .returned (.int .i64 1) ∧ Below w.heap.size w w' := by
  have C := hide (fun w => element_any x w)
  rw [hx] at C
  obtain ⟨xm, xi, xn, xq, xl, xc⟩ := x
  unfold entV at *
  dsimp only at *
  go_enter Try.func16, Try.ntmps16
  go_wp2_with fail
  refine (unhide C _).mono ?_
  rintro e w1 ⟨rfl, hb⟩
  go_wp2
  go_ret
  exact ⟨rfl, bel_of hb⟩
theorem ins_nil (x : AEnt) (w : World) : Calls Try.prog 16 #[.pointer none, .int .i64 0, entV x] w fun e w' => e = .returned (.int .i64 (if isElB x then 7 else 1)) ∧ Below w.heap.size w w' := by
  cases hx : isElB x with
  | true => exact insert_room (.pointer none) x 7 0 0 0 none w hx (by decide) (Nat.le_refl _) (by decide) (hide fun w1 _ => room_nil w1) (hide fun w1 _ => entries_nil w1)
  | false => exact insert_bad (.pointer none) x 0 w hx
set_option maxHeartbeats 1000000 in
theorem remove_nil (id : Int) (w : World) : Calls Try.prog 20 #[.pointer none, .int .i64 id] w fun e w' => e = .returned (.bool false) ∧ Below w.heap.size w w' := by
  have C := hide (find_nil id w)
  go_enter Try.func20, Try.ntmps20
  go_wp2_with fail
  refine (unhide C).mono ?_
  rintro e w1 ⟨rfl, hb⟩
  go_wp2
  go_ret
  exact ⟨rfl, hb⟩
set_option maxHeartbeats 1000000 in
theorem swap_nil (id : Int) (x : AEnt) (w : World) : Calls Try.prog 21 #[.pointer none, .int .i64 id, entV x] w fun e w' => e = .returned (.bool false) ∧ Below w.heap.size w w' := by
  have C := hide (fun w => find_nil id w)
  obtain ⟨xm, xi, xn, xq, xl, xc⟩ := x
  unfold entV
  dsimp only
  go_enter Try.func21, Try.ntmps21
  go_wp2_with fail
  refine (unhide C _).mono ?_
  rintro e w1 ⟨rfl, hb⟩
  go_wp2
  go_ret
  exact ⟨rfl, bel_of hb⟩
theorem all_nil (w : World) : Calls Try.prog 12 #[.pointer none] w fun e w' => e = .returned (.slice none 0 0) ∧ w' = w := by
  have C := hide (entries_nil w)
  go_enter Try.func12, Try.ntmps12
  go_wp2_with fail
  refine (unhide C).mono ?_
  rintro e w1 ⟨rfl, hw1⟩
  obtain rfl : w = w1 := hw1.symm
  go_wp2
  refine wp_loop_rounds 1 ?_
  rw [rounds_succ]; go_wp2
  go_ret
  exact ⟨rfl, rfl⟩
set_option maxHeartbeats 1000000 in
theorem cut_nil (w : World) : Calls Try.prog 15 #[.pointer none, .slice none 0 0] w fun e w' => e = .returned (.slice none 0 0) ∧ Below w.heap.size w w' := by
  have C := hide (fun c w => last_cut_none (.pointer none) none 0 c w (hide (entries_nil w)))
  have CE := hide (fun w => entries_nil w)
  unfold ptr at *
  go_enter Try.func15, Try.ntmps15
  go_wp2_with fail
  refine (unhide C _ _).mono ?_
  rintro e w1 ⟨rfl, hw⟩
  subst hw
  go_wp2_with fail
  refine (unhide CE _).mono ?_
  rintro e w2 ⟨rfl, hw⟩
  subst hw
  go_wp2
  refine wp_loop_rounds 1 ?_
  rw [rounds_succ]; go_wp2
  go_ret
  exact ⟨rfl, (Below.refl _ _).alloc (Nat.le_refl _) _⟩
end Go.Proofs.Ytimkijmjbphhlab
