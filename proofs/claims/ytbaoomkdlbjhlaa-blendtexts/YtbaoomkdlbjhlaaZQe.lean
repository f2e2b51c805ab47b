/-
  Equality of three numbers, and of ranges.
-/
import Derived.Test.YtbaoomkdlbjhlaaZSu
import Derived.ChangeKeysEq
namespace Go.Proofs.Ytbaoomkdlbjhlaa
set_option linter.unusedSimpArgs false
theorem eqInt (d : Nat) (a b : Int) (w : World) : (Op.equalIn (d + 1) 3 (.int .i64 a) (.int .i64 b)).run Try.prog w = .ok (a == b) w := by
  simp [Op.equalIn, run_underlying Try.underlying3]
theorem part_int (xs : Array Value) (j : Nat) (z : Int) (w : World) (h : xs[j]? = some (.int .i64 z)) : (part 3 xs j).run Try.prog w = .ok (.int .i64 z) w := run_part_plain w (by kernel_rfl) h
theorem eq3 (i j k i' j' k' : Int) (w : World) : (Op.equalIn 10000 43 (.agg #[.int .i64 i, .int .i64 j, .int .i64 k]) (.agg #[.int .i64 i', .int .i64 j', .int .i64 k'])).run Try.prog w = .ok ((i == i') && ((j == j') && (k == k'))) w := by
  obtain ⟨n, hi, _, hs, _⟩ := infoInt
  refine (run_equalIn_array w 9999 (n := 3) (e := 3) _ _ (by kernel_rfl) hi).trans ?_
  have hc : Try.prog.cellsOf 3 = 1 := by kernel_rfl
  rw [hc]
  have e9 : ∀ a b w, (Op.equalIn 9999 3 (.int .i64 a) (.int .i64 b)).run Try.prog w = .ok (a == b) w := fun a b w => eqInt 9998 a b w
  have p0 := fun w => part_int #[.int .i64 i, .int .i64 j, .int .i64 k] 0 i w rfl
  have p1 := fun w => part_int #[.int .i64 i, .int .i64 j, .int .i64 k] 1 j w rfl
  have p2 := fun w => part_int #[.int .i64 i, .int .i64 j, .int .i64 k] 2 k w rfl
  have p3 := fun w => part_int #[.int .i64 i', .int .i64 j', .int .i64 k'] 0 i' w rfl
  have p4 := fun w => part_int #[.int .i64 i', .int .i64 j', .int .i64 k'] 1 j' w rfl
  have p5 := fun w => part_int #[.int .i64 i', .int .i64 j', .int .i64 k'] 2 k' w rfl
  have q0 := fun w => e9 i i' w
  have q1 := fun w => e9 j j' w
  have q2 := fun w => e9 k k' w
  clear e9
  generalize (i == i') = x at *
  generalize (j == j') = y at *
  generalize (k == k') = z at *
  cases x <;> cases y <;> cases z <;> simp [List.range_succ, Op.eqItems, p0, p1, p2, p3, p4, p5, q0, q1, q2]
theorem eq2 (i j i' j' : Int) (w : World) : (Op.equalIn 10000 39 (.agg #[.int .i64 i, .int .i64 j]) (.agg #[.int .i64 i', .int .i64 j'])).run Try.prog w = .ok ((i == i') && (j == j')) w := by
  have e9 : ∀ a b w, (Op.equalIn 9999 3 (.int .i64 a) (.int .i64 b)).run Try.prog w = .ok (a == b) w := fun a b w => eqInt 9998 a b w
  refine (run_equalIn_struct w 9999 39 _ _ (by kernel_rfl) (by kernel_rfl)).trans ?_
  have hf : (Try.prog.fieldsOf 39).toList.map (fun f => (f.name, f.type, f.offset)) = [("From", 3, 0), ("To", 3, 1)] := by kernel_rfl
  have p0 := fun w => part_int #[.int .i64 i, .int .i64 j] 0 i w rfl
  have p1 := fun w => part_int #[.int .i64 i, .int .i64 j] 1 j w rfl
  have p3 := fun w => part_int #[.int .i64 i', .int .i64 j'] 0 i' w rfl
  have p4 := fun w => part_int #[.int .i64 i', .int .i64 j'] 1 j' w rfl
  have q0 := fun w => e9 i i' w
  have q1 := fun w => e9 j j' w
  clear e9
  generalize (i == i') = x at *
  generalize (j == j') = y at *
  generalize (Try.prog.fieldsOf 39).toList = fs at *
  rcases fs with _ | ⟨f0, _ | ⟨f1, _ | ⟨f2, r⟩⟩⟩
  · simp at hf
  · simp at hf
  · simp only [List.map_cons, List.map_nil, List.cons.injEq, Prod.mk.injEq, and_true] at hf
    obtain ⟨⟨n0, t0, o0⟩, n1, t1, o1⟩ := hf
    cases x <;> cases y <;> simp [Op.eqFields, n0, t0, o0, n1, t1, o1, p0, p1, p3, p4, q0, q1]
  · simp at hf
end Go.Proofs.Ytbaoomkdlbjhlaa
