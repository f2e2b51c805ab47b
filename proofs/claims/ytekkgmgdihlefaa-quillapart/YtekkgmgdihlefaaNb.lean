/-
  The bytes of a number as a plain list, and what 'quill.numBytes' does: for every number from 0 to MaxInt it answers the number's bytes, in new memory alone.
-/
import Derived.Test.YtekkgmgdihlefaaRows
import Derived.Test.YtekkgmgdihlefaaPl
import Derived.WalkKit
import Derived.WalkSpells
import Derived.WalkLawsBesides
import Derived.Laws.BytesArg
namespace Go.Proofs.Ytekkgmgdihlefaa
open Go.RowKit

def str (xs : List Int) : ByteArray := strOfNums xs

theorem conv7 (w : World) (c0 c1 c2 c3 c4 c5 c6 : Int) (k m : Nat) (h : k + m = 7) :
    Sem.run Try.prog (convert 57 9 (Value.slice (some { block := w.heap.size, off := k }) m m)) (w.alloc (Obj.cells #[.int .u8 c0, .int .u8 c1, .int .u8 c2, .int .u8 c3, .int .u8 c4, .int .u8 c5, .int .u8 c6] 56)) =
      .ok (.string (str ([c0, c1, c2, c3, c4, c5, c6].drop k))) (w.alloc (Obj.cells #[.int .u8 c0, .int .u8 c1, .int .u8 c2, .int .u8 c3, .int .u8 c4, .int .u8 c5, .int .u8 c6] 56)) := by
  refine run_convert_bytes_arg (P := Try.prog) _ 57 5 Try.underlying57 Try.underlying5 w.heap.size k m m _ (by simp; omega) ?_ 9 Try.underlying9
  intro i hi
  have hk : k + i < 7 := by omega
  rw [World.cell?_alloc_mark]
  have e : k + i = 0 ∨ k + i = 1 ∨ k + i = 2 ∨ k + i = 3 ∨ k + i = 4 ∨ k + i = 5 ∨ k + i = 6 := by omega
  rcases e with e | e | e | e | e | e | e <;> simp [List.getD, e]

theorem numL_0 (n : Int) (h : n = 0) : numL n = [0] := by
  subst h; rfl

theorem numBytes_0 (n : Int) (w : World) (h : n = 0) :
    Calls Try.prog 26 #[.int .i64 n] w fun e w' => e = .returned (.string (str (numL n))) ∧ Below w.heap.size w w' := by
  rw [numL_0 n h]
  subst h
  have hc := conv7 w (0) (0) (0) (0) (0) (0) (0) 6 1 rfl
  go_enter Try.func26, Try.ntmps26
  go_wp2
  refine wp_loop_rounds 1 ?_
  rw [rounds_succ]; go_wp2
  go_ret
  exact ⟨rfl, (Below.refl _ _).alloc (Nat.le_refl _) _⟩

theorem numL_1 (n : Int) (h1 : 1 ≤ n) (h2 : n < 256) : numL n = [1, n % 256] := by
  have p0 : ¬ (n ≤ 0) := by omega
  have q : n / 256 ≤ 0 := by omega
  simp [numL, dgs, p0, q]

theorem numBytes_1 (n : Int) (w : World) (h1 : 1 ≤ n) (h2 : n < 256) :
    Calls Try.prog 26 #[.int .i64 n] w fun e w' => e = .returned (.string (str (numL n))) ∧ Below w.heap.size w w' := by
  rw [numL_1 n h1 h2]

  have hc := conv7 w (0) (0) (0) (0) (0) (1) (n % 256) 5 2 rfl
  go_enter Try.func26, Try.ntmps26
  go_wp2
  refine wp_loop_rounds 2 ?_
  rw [rounds_succ]; go_wp2
  rw [rounds_succ]; go_wp2
  go_ret
  exact ⟨rfl, (Below.refl _ _).alloc (Nat.le_refl _) _⟩

theorem numL_2 (n : Int) (h1 : 256 ≤ n) (h2 : n < 65536) : numL n = [2, n / 256 % 256, n % 256] := by
  have p0 : ¬ (n ≤ 0) := by omega
  have p1 : ¬ (n / 256 ≤ 0) := by omega
  have q : n / 256 / 256 ≤ 0 := by omega
  simp [numL, dgs, p0, p1, q]

theorem numBytes_2 (n : Int) (w : World) (h1 : 256 ≤ n) (h2 : n < 65536) :
    Calls Try.prog 26 #[.int .i64 n] w fun e w' => e = .returned (.string (str (numL n))) ∧ Below w.heap.size w w' := by
  rw [numL_2 n h1 h2]

  have hc := conv7 w (0) (0) (0) (0) (2) (n / 256 % 256) (n % 256) 4 3 rfl
  go_enter Try.func26, Try.ntmps26
  go_wp2
  refine wp_loop_rounds 3 ?_
  rw [rounds_succ]; go_wp2
  rw [rounds_succ]; go_wp2
  rw [rounds_succ]; go_wp2
  go_ret
  exact ⟨rfl, (Below.refl _ _).alloc (Nat.le_refl _) _⟩

theorem numL_3 (n : Int) (h1 : 65536 ≤ n) (h2 : n < 16777216) : numL n = [3, n / 256 / 256 % 256, n / 256 % 256, n % 256] := by
  have p0 : ¬ (n ≤ 0) := by omega
  have p1 : ¬ (n / 256 ≤ 0) := by omega
  have p2 : ¬ (n / 256 / 256 ≤ 0) := by omega
  have q : n / 256 / 256 / 256 ≤ 0 := by omega
  simp [numL, dgs, p0, p1, p2, q]

theorem numBytes_3 (n : Int) (w : World) (h1 : 65536 ≤ n) (h2 : n < 16777216) :
    Calls Try.prog 26 #[.int .i64 n] w fun e w' => e = .returned (.string (str (numL n))) ∧ Below w.heap.size w w' := by
  rw [numL_3 n h1 h2]

  have hc := conv7 w (0) (0) (0) (3) (n / 256 / 256 % 256) (n / 256 % 256) (n % 256) 3 4 rfl
  go_enter Try.func26, Try.ntmps26
  go_wp2
  refine wp_loop_rounds 4 ?_
  rw [rounds_succ]; go_wp2
  rw [rounds_succ]; go_wp2
  rw [rounds_succ]; go_wp2
  rw [rounds_succ]; go_wp2
  go_ret
  exact ⟨rfl, (Below.refl _ _).alloc (Nat.le_refl _) _⟩

theorem numL_4 (n : Int) (h1 : 16777216 ≤ n) (h2 : n < 4294967296) : numL n = [4, n / 256 / 256 / 256 % 256, n / 256 / 256 % 256, n / 256 % 256, n % 256] := by
  have p0 : ¬ (n ≤ 0) := by omega
  have p1 : ¬ (n / 256 ≤ 0) := by omega
  have p2 : ¬ (n / 256 / 256 ≤ 0) := by omega
  have p3 : ¬ (n / 256 / 256 / 256 ≤ 0) := by omega
  have q : n / 256 / 256 / 256 / 256 ≤ 0 := by omega
  simp [numL, dgs, p0, p1, p2, p3, q]

theorem numBytes_4 (n : Int) (w : World) (h1 : 16777216 ≤ n) (h2 : n < 4294967296) :
    Calls Try.prog 26 #[.int .i64 n] w fun e w' => e = .returned (.string (str (numL n))) ∧ Below w.heap.size w w' := by
  rw [numL_4 n h1 h2]

  have hc := conv7 w (0) (0) (4) (n / 256 / 256 / 256 % 256) (n / 256 / 256 % 256) (n / 256 % 256) (n % 256) 2 5 rfl
  go_enter Try.func26, Try.ntmps26
  go_wp2
  refine wp_loop_rounds 5 ?_
  rw [rounds_succ]; go_wp2
  rw [rounds_succ]; go_wp2
  rw [rounds_succ]; go_wp2
  rw [rounds_succ]; go_wp2
  rw [rounds_succ]; go_wp2
  go_ret
  exact ⟨rfl, (Below.refl _ _).alloc (Nat.le_refl _) _⟩

theorem numL_5 (n : Int) (h1 : 4294967296 ≤ n) (h2 : n < 1099511627776) : numL n = [5, n / 256 / 256 / 256 / 256 % 256, n / 256 / 256 / 256 % 256, n / 256 / 256 % 256, n / 256 % 256, n % 256] := by
  have p0 : ¬ (n ≤ 0) := by omega
  have p1 : ¬ (n / 256 ≤ 0) := by omega
  have p2 : ¬ (n / 256 / 256 ≤ 0) := by omega
  have p3 : ¬ (n / 256 / 256 / 256 ≤ 0) := by omega
  have p4 : ¬ (n / 256 / 256 / 256 / 256 ≤ 0) := by omega
  have q : n / 256 / 256 / 256 / 256 / 256 ≤ 0 := by omega
  simp [numL, dgs, p0, p1, p2, p3, p4, q]

theorem numBytes_5 (n : Int) (w : World) (h1 : 4294967296 ≤ n) (h2 : n < 1099511627776) :
    Calls Try.prog 26 #[.int .i64 n] w fun e w' => e = .returned (.string (str (numL n))) ∧ Below w.heap.size w w' := by
  rw [numL_5 n h1 h2]

  have hc := conv7 w (0) (5) (n / 256 / 256 / 256 / 256 % 256) (n / 256 / 256 / 256 % 256) (n / 256 / 256 % 256) (n / 256 % 256) (n % 256) 1 6 rfl
  go_enter Try.func26, Try.ntmps26
  go_wp2
  refine wp_loop_rounds 6 ?_
  rw [rounds_succ]; go_wp2
  rw [rounds_succ]; go_wp2
  rw [rounds_succ]; go_wp2
  rw [rounds_succ]; go_wp2
  rw [rounds_succ]; go_wp2
  rw [rounds_succ]; go_wp2
  go_ret
  exact ⟨rfl, (Below.refl _ _).alloc (Nat.le_refl _) _⟩

theorem numL_6 (n : Int) (h1 : 1099511627776 ≤ n) (h2 : n ≤ 1099511627776) : numL n = [6, n / 256 / 256 / 256 / 256 / 256 % 256, n / 256 / 256 / 256 / 256 % 256, n / 256 / 256 / 256 % 256, n / 256 / 256 % 256, n / 256 % 256, n % 256] := by
  have p0 : ¬ (n ≤ 0) := by omega
  have p1 : ¬ (n / 256 ≤ 0) := by omega
  have p2 : ¬ (n / 256 / 256 ≤ 0) := by omega
  have p3 : ¬ (n / 256 / 256 / 256 ≤ 0) := by omega
  have p4 : ¬ (n / 256 / 256 / 256 / 256 ≤ 0) := by omega
  have p5 : ¬ (n / 256 / 256 / 256 / 256 / 256 ≤ 0) := by omega
  simp [numL, dgs, p0, p1, p2, p3, p4, p5]

theorem numBytes_6 (n : Int) (w : World) (h1 : 1099511627776 ≤ n) (h2 : n ≤ 1099511627776) :
    Calls Try.prog 26 #[.int .i64 n] w fun e w' => e = .returned (.string (str (numL n))) ∧ Below w.heap.size w w' := by
  rw [numL_6 n h1 h2]

  have hc := conv7 w (6) (n / 256 / 256 / 256 / 256 / 256 % 256) (n / 256 / 256 / 256 / 256 % 256) (n / 256 / 256 / 256 % 256) (n / 256 / 256 % 256) (n / 256 % 256) (n % 256) 0 7 rfl
  go_enter Try.func26, Try.ntmps26
  go_wp2
  refine wp_loop_rounds 7 ?_
  rw [rounds_succ]; go_wp2
  rw [rounds_succ]; go_wp2
  rw [rounds_succ]; go_wp2
  rw [rounds_succ]; go_wp2
  rw [rounds_succ]; go_wp2
  rw [rounds_succ]; go_wp2
  rw [rounds_succ]; go_wp2
  go_ret
  exact ⟨rfl, (Below.refl _ _).alloc (Nat.le_refl _) _⟩

theorem numBytes_any (n : Int) (w : World) (h0 : 0 ≤ n) (h1 : n ≤ 1099511627776) :
    Calls Try.prog 26 #[.int .i64 n] w fun e w' => e = .returned (.string (bs (nb n))) ∧ Below w.heap.size w w' := by
  show Calls Try.prog 26 #[.int .i64 n] w fun e w' => e = .returned (.string (str (numL n))) ∧ Below w.heap.size w w'
  by_cases a0 : n = 0
  · exact numBytes_0 n w a0
  by_cases a1 : n < 256
  · exact numBytes_1 n w (by omega) a1
  by_cases a2 : n < 65536
  · exact numBytes_2 n w (by omega) a2
  by_cases a3 : n < 16777216
  · exact numBytes_3 n w (by omega) a3
  by_cases a4 : n < 4294967296
  · exact numBytes_4 n w (by omega) a4
  by_cases a5 : n < 1099511627776
  · exact numBytes_5 n w (by omega) a5
  exact numBytes_6 n w (by omega) h1
end Go.Proofs.Ytekkgmgdihlefaa
