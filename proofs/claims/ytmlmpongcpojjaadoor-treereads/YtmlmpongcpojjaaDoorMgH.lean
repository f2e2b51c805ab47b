/-
  Several texts in one: what the functions of the program and of the document's answer do.
-/
import Derived.Test.YtmlmpongcpojjaaDoorMgD

/-
  What 'rectoref01.Size' does.
-/
namespace Go.Proofs.YtmlmpongcpojjaaDoor
open Go.RowKit
set_option linter.unusedVariables false

theorem rsize_0 (n : Int) (w : World) (h : n = 0) :
    Calls Tryd.prog 82 #[.int .i64 n] w fun e w' => e = .returned (.int .i64 ((dgs 6 n).length : Int)) ∧ w' = w := by
  have hl : ((dgs 6 n).length : Int) = 0 := by
    have := congrArg (fun l => l.headD 0) (numL_0 n h)
    simpa [numL] using this
  rw [hl]
  clear hl
  subst h
  go_enter Tryd.func82, Tryd.ntmps82
  go_wp2
  refine wp_loop_rounds 1 ?_
  rw [rounds_succ]; go_wp2
  go_ret
  exact ⟨rfl, rfl⟩

theorem rsize_1 (n : Int) (w : World) (h1 : 1 ≤ n) (h2 : n < 256) :
    Calls Tryd.prog 82 #[.int .i64 n] w fun e w' => e = .returned (.int .i64 ((dgs 6 n).length : Int)) ∧ w' = w := by
  have hl : ((dgs 6 n).length : Int) = 1 := by
    have := congrArg (fun l => l.headD 0) (numL_1 n h1 h2)
    simpa [numL] using this
  rw [hl]
  clear hl

  go_enter Tryd.func82, Tryd.ntmps82
  go_wp2
  refine wp_loop_rounds 2 ?_
  rw [rounds_succ]; go_wp2
  rw [rounds_succ]; go_wp2
  go_ret
  exact ⟨rfl, rfl⟩

theorem rsize_2 (n : Int) (w : World) (h1 : 256 ≤ n) (h2 : n < 65536) :
    Calls Tryd.prog 82 #[.int .i64 n] w fun e w' => e = .returned (.int .i64 ((dgs 6 n).length : Int)) ∧ w' = w := by
  have hl : ((dgs 6 n).length : Int) = 2 := by
    have := congrArg (fun l => l.headD 0) (numL_2 n h1 h2)
    simpa [numL] using this
  rw [hl]
  clear hl

  go_enter Tryd.func82, Tryd.ntmps82
  go_wp2
  refine wp_loop_rounds 3 ?_
  rw [rounds_succ]; go_wp2
  rw [rounds_succ]; go_wp2
  rw [rounds_succ]; go_wp2
  go_ret
  exact ⟨rfl, rfl⟩

theorem rsize_3 (n : Int) (w : World) (h1 : 65536 ≤ n) (h2 : n < 16777216) :
    Calls Tryd.prog 82 #[.int .i64 n] w fun e w' => e = .returned (.int .i64 ((dgs 6 n).length : Int)) ∧ w' = w := by
  have hl : ((dgs 6 n).length : Int) = 3 := by
    have := congrArg (fun l => l.headD 0) (numL_3 n h1 h2)
    simpa [numL] using this
  rw [hl]
  clear hl

  go_enter Tryd.func82, Tryd.ntmps82
  go_wp2
  refine wp_loop_rounds 4 ?_
  rw [rounds_succ]; go_wp2
  rw [rounds_succ]; go_wp2
  rw [rounds_succ]; go_wp2
  rw [rounds_succ]; go_wp2
  go_ret
  exact ⟨rfl, rfl⟩

theorem rsize_4 (n : Int) (w : World) (h1 : 16777216 ≤ n) (h2 : n < 4294967296) :
    Calls Tryd.prog 82 #[.int .i64 n] w fun e w' => e = .returned (.int .i64 ((dgs 6 n).length : Int)) ∧ w' = w := by
  have hl : ((dgs 6 n).length : Int) = 4 := by
    have := congrArg (fun l => l.headD 0) (numL_4 n h1 h2)
    simpa [numL] using this
  rw [hl]
  clear hl

  go_enter Tryd.func82, Tryd.ntmps82
  go_wp2
  refine wp_loop_rounds 5 ?_
  rw [rounds_succ]; go_wp2
  rw [rounds_succ]; go_wp2
  rw [rounds_succ]; go_wp2
  rw [rounds_succ]; go_wp2
  rw [rounds_succ]; go_wp2
  go_ret
  exact ⟨rfl, rfl⟩

theorem rsize_5 (n : Int) (w : World) (h1 : 4294967296 ≤ n) (h2 : n < 1099511627776) :
    Calls Tryd.prog 82 #[.int .i64 n] w fun e w' => e = .returned (.int .i64 ((dgs 6 n).length : Int)) ∧ w' = w := by
  have hl : ((dgs 6 n).length : Int) = 5 := by
    have := congrArg (fun l => l.headD 0) (numL_5 n h1 h2)
    simpa [numL] using this
  rw [hl]
  clear hl

  go_enter Tryd.func82, Tryd.ntmps82
  go_wp2
  refine wp_loop_rounds 6 ?_
  rw [rounds_succ]; go_wp2
  rw [rounds_succ]; go_wp2
  rw [rounds_succ]; go_wp2
  rw [rounds_succ]; go_wp2
  rw [rounds_succ]; go_wp2
  rw [rounds_succ]; go_wp2
  go_ret
  exact ⟨rfl, rfl⟩

theorem rsize_6 (n : Int) (w : World) (h1 : 1099511627776 ≤ n) (h2 : n ≤ 1099511627776) :
    Calls Tryd.prog 82 #[.int .i64 n] w fun e w' => e = .returned (.int .i64 ((dgs 6 n).length : Int)) ∧ w' = w := by
  have hl : ((dgs 6 n).length : Int) = 6 := by
    have := congrArg (fun l => l.headD 0) (numL_6 n h1 h2)
    simpa [numL] using this
  rw [hl]
  clear hl

  go_enter Tryd.func82, Tryd.ntmps82
  go_wp2
  refine wp_loop_rounds 7 ?_
  rw [rounds_succ]; go_wp2
  rw [rounds_succ]; go_wp2
  rw [rounds_succ]; go_wp2
  rw [rounds_succ]; go_wp2
  rw [rounds_succ]; go_wp2
  rw [rounds_succ]; go_wp2
  rw [rounds_succ]; go_wp2
  go_ret
  exact ⟨rfl, rfl⟩

theorem rsize_any (n : Int) (w : World) (h0 : 0 ≤ n) (h1 : n ≤ 1099511627776) :
    Calls Tryd.prog 82 #[.int .i64 n] w fun e w' => e = .returned (.int .i64 ((dgs 6 n).length : Int)) ∧ w' = w := by
  by_cases a0 : n = 0
  · exact rsize_0 n w a0
  by_cases a1 : n < 256
  · exact rsize_1 n w (by omega) a1
  by_cases a2 : n < 65536
  · exact rsize_2 n w (by omega) a2
  by_cases a3 : n < 16777216
  · exact rsize_3 n w (by omega) a3
  by_cases a4 : n < 4294967296
  · exact rsize_4 n w (by omega) a4
  by_cases a5 : n < 1099511627776
  · exact rsize_5 n w (by omega) a5
  exact rsize_6 n w (by omega) h1
end Go.Proofs.YtmlmpongcpojjaaDoor

/-
  What 'rectoref01.Plain' does.
-/
namespace Go.Proofs.YtmlmpongcpojjaaDoor
open Go.RowKit
set_option linter.unusedVariables false

theorem conv1 (w : World) (n : Nat) (c : Int) (h : n = w.heap.size) :
    Sem.run Tryd.prog (convert 56 9 (Value.slice (some { block := n, off := 0 }) 1 1)) (w.alloc (Obj.cells #[.int .u8 c] 5)) = .ok (.string (str [c])) (w.alloc (Obj.cells #[.int .u8 c] 5)) := by
  subst h
  refine run_convert_bytes_arg (P := Tryd.prog) _ 56 5 Tryd.underlying56 Tryd.underlying5 w.heap.size 0 1 1 [c] rfl ?_ 9 Tryd.underlying9
  intro i hi
  have : i = 0 := by omega
  subst this
  rw [World.cell?_alloc_mark]; rfl
theorem str_add (a b : List Int) : str a ++ str b = str (a ++ b) := by
  apply ByteArray.ext
  simp [str, strOfNums]
theorem str_none (a : ByteArray) : a ++ (⟨#[]⟩ : ByteArray) = a := by
  apply ByteArray.ext
  simp

theorem plain_0 (n : Int) (w : World) (h : n = 0) :
    Calls Tryd.prog 63 #[.int .i64 n] w fun e w' => e = .returned (.string (str (numL n))) ∧ Below w.heap.size w w' := by
  have hl : ((dgs 6 n).length : Int) = 0 := by
    have := congrArg (fun l => l.headD 0) (numL_0 n h)
    simpa [numL] using this
  have C := hide (rsize_any n)
  have L := hide hl
  rw [numL_0 n h]
  clear hl
  subst h
  have c1 := conv1
  have c2 := str_size
  have c3 := str_add
  have c4 := str_none
  go_enter Tryd.func63, Tryd.ntmps63
  go_wp2
  refine wp_loop_rounds 1 ?_
  rw [rounds_succ]; go_wp2_with fail
  refine (unhide C _ (by omega) (by omega)).mono ?_
  rw [unhide L]
  rintro e w1 ⟨rfl, rfl⟩
  go_wp2
  go_ret
  exact ⟨rfl, (Below.refl _ _).alloc (by first | exact Nat.le_refl _ | (simp only [World.size_alloc]; omega)) _⟩

theorem plain_1 (n : Int) (w : World) (h1 : 1 ≤ n) (h2 : n < 256) :
    Calls Tryd.prog 63 #[.int .i64 n] w fun e w' => e = .returned (.string (str (numL n))) ∧ Below w.heap.size w w' := by
  have hl : ((dgs 6 n).length : Int) = 1 := by
    have := congrArg (fun l => l.headD 0) (numL_1 n h1 h2)
    simpa [numL] using this
  have C := hide (rsize_any n)
  have L := hide hl
  rw [numL_1 n h1 h2]
  clear hl

  have c1 := conv1
  have c2 := str_size
  have c3 := str_add
  have c4 := str_none
  go_enter Tryd.func63, Tryd.ntmps63
  go_wp2
  refine wp_loop_rounds 2 ?_
  rw [rounds_succ]; go_wp2
  rw [rounds_succ]; go_wp2_with fail
  refine (unhide C _ (by omega) (by omega)).mono ?_
  rw [unhide L]
  rintro e w1 ⟨rfl, rfl⟩
  go_wp2
  go_ret
  exact ⟨rfl, ((Below.refl _ _).alloc (by first | exact Nat.le_refl _ | (simp only [World.size_alloc]; omega)) _).alloc (by first | exact Nat.le_refl _ | (simp only [World.size_alloc]; omega)) _⟩

theorem plain_2 (n : Int) (w : World) (h1 : 256 ≤ n) (h2 : n < 65536) :
    Calls Tryd.prog 63 #[.int .i64 n] w fun e w' => e = .returned (.string (str (numL n))) ∧ Below w.heap.size w w' := by
  have hl : ((dgs 6 n).length : Int) = 2 := by
    have := congrArg (fun l => l.headD 0) (numL_2 n h1 h2)
    simpa [numL] using this
  have C := hide (rsize_any n)
  have L := hide hl
  rw [numL_2 n h1 h2]
  clear hl

  have c1 := conv1
  have c2 := str_size
  have c3 := str_add
  have c4 := str_none
  go_enter Tryd.func63, Tryd.ntmps63
  go_wp2
  refine wp_loop_rounds 3 ?_
  rw [rounds_succ]; go_wp2
  rw [rounds_succ]; go_wp2
  rw [rounds_succ]; go_wp2_with fail
  refine (unhide C _ (by omega) (by omega)).mono ?_
  rw [unhide L]
  rintro e w1 ⟨rfl, rfl⟩
  go_wp2
  go_ret
  exact ⟨rfl, (((Below.refl _ _).alloc (by first | exact Nat.le_refl _ | (simp only [World.size_alloc]; omega)) _).alloc (by first | exact Nat.le_refl _ | (simp only [World.size_alloc]; omega)) _).alloc (by first | exact Nat.le_refl _ | (simp only [World.size_alloc]; omega)) _⟩

theorem plain_3 (n : Int) (w : World) (h1 : 65536 ≤ n) (h2 : n < 16777216) :
    Calls Tryd.prog 63 #[.int .i64 n] w fun e w' => e = .returned (.string (str (numL n))) ∧ Below w.heap.size w w' := by
  have hl : ((dgs 6 n).length : Int) = 3 := by
    have := congrArg (fun l => l.headD 0) (numL_3 n h1 h2)
    simpa [numL] using this
  have C := hide (rsize_any n)
  have L := hide hl
  rw [numL_3 n h1 h2]
  clear hl

  have c1 := conv1
  have c2 := str_size
  have c3 := str_add
  have c4 := str_none
  go_enter Tryd.func63, Tryd.ntmps63
  go_wp2
  refine wp_loop_rounds 4 ?_
  rw [rounds_succ]; go_wp2
  rw [rounds_succ]; go_wp2
  rw [rounds_succ]; go_wp2
  rw [rounds_succ]; go_wp2_with fail
  refine (unhide C _ (by omega) (by omega)).mono ?_
  rw [unhide L]
  rintro e w1 ⟨rfl, rfl⟩
  go_wp2
  go_ret
  exact ⟨rfl, ((((Below.refl _ _).alloc (by first | exact Nat.le_refl _ | (simp only [World.size_alloc]; omega)) _).alloc (by first | exact Nat.le_refl _ | (simp only [World.size_alloc]; omega)) _).alloc (by first | exact Nat.le_refl _ | (simp only [World.size_alloc]; omega)) _).alloc (by first | exact Nat.le_refl _ | (simp only [World.size_alloc]; omega)) _⟩

theorem plain_4 (n : Int) (w : World) (h1 : 16777216 ≤ n) (h2 : n < 4294967296) :
    Calls Tryd.prog 63 #[.int .i64 n] w fun e w' => e = .returned (.string (str (numL n))) ∧ Below w.heap.size w w' := by
  have hl : ((dgs 6 n).length : Int) = 4 := by
    have := congrArg (fun l => l.headD 0) (numL_4 n h1 h2)
    simpa [numL] using this
  have C := hide (rsize_any n)
  have L := hide hl
  rw [numL_4 n h1 h2]
  clear hl

  have c1 := conv1
  have c2 := str_size
  have c3 := str_add
  have c4 := str_none
  go_enter Tryd.func63, Tryd.ntmps63
  go_wp2
  refine wp_loop_rounds 5 ?_
  rw [rounds_succ]; go_wp2
  rw [rounds_succ]; go_wp2
  rw [rounds_succ]; go_wp2
  rw [rounds_succ]; go_wp2
  rw [rounds_succ]; go_wp2_with fail
  refine (unhide C _ (by omega) (by omega)).mono ?_
  rw [unhide L]
  rintro e w1 ⟨rfl, rfl⟩
  go_wp2
  go_ret
  exact ⟨rfl, (((((Below.refl _ _).alloc (by first | exact Nat.le_refl _ | (simp only [World.size_alloc]; omega)) _).alloc (by first | exact Nat.le_refl _ | (simp only [World.size_alloc]; omega)) _).alloc (by first | exact Nat.le_refl _ | (simp only [World.size_alloc]; omega)) _).alloc (by first | exact Nat.le_refl _ | (simp only [World.size_alloc]; omega)) _).alloc (by first | exact Nat.le_refl _ | (simp only [World.size_alloc]; omega)) _⟩

theorem plain_5 (n : Int) (w : World) (h1 : 4294967296 ≤ n) (h2 : n < 1099511627776) :
    Calls Tryd.prog 63 #[.int .i64 n] w fun e w' => e = .returned (.string (str (numL n))) ∧ Below w.heap.size w w' := by
  have hl : ((dgs 6 n).length : Int) = 5 := by
    have := congrArg (fun l => l.headD 0) (numL_5 n h1 h2)
    simpa [numL] using this
  have C := hide (rsize_any n)
  have L := hide hl
  rw [numL_5 n h1 h2]
  clear hl

  have c1 := conv1
  have c2 := str_size
  have c3 := str_add
  have c4 := str_none
  go_enter Tryd.func63, Tryd.ntmps63
  go_wp2
  refine wp_loop_rounds 6 ?_
  rw [rounds_succ]; go_wp2
  rw [rounds_succ]; go_wp2
  rw [rounds_succ]; go_wp2
  rw [rounds_succ]; go_wp2
  rw [rounds_succ]; go_wp2
  rw [rounds_succ]; go_wp2_with fail
  refine (unhide C _ (by omega) (by omega)).mono ?_
  rw [unhide L]
  rintro e w1 ⟨rfl, rfl⟩
  go_wp2
  go_ret
  exact ⟨rfl, ((((((Below.refl _ _).alloc (by first | exact Nat.le_refl _ | (simp only [World.size_alloc]; omega)) _).alloc (by first | exact Nat.le_refl _ | (simp only [World.size_alloc]; omega)) _).alloc (by first | exact Nat.le_refl _ | (simp only [World.size_alloc]; omega)) _).alloc (by first | exact Nat.le_refl _ | (simp only [World.size_alloc]; omega)) _).alloc (by first | exact Nat.le_refl _ | (simp only [World.size_alloc]; omega)) _).alloc (by first | exact Nat.le_refl _ | (simp only [World.size_alloc]; omega)) _⟩

theorem plain_6 (n : Int) (w : World) (h1 : 1099511627776 ≤ n) (h2 : n ≤ 1099511627776) :
    Calls Tryd.prog 63 #[.int .i64 n] w fun e w' => e = .returned (.string (str (numL n))) ∧ Below w.heap.size w w' := by
  have hl : ((dgs 6 n).length : Int) = 6 := by
    have := congrArg (fun l => l.headD 0) (numL_6 n h1 h2)
    simpa [numL] using this
  have C := hide (rsize_any n)
  have L := hide hl
  rw [numL_6 n h1 h2]
  clear hl

  have c1 := conv1
  have c2 := str_size
  have c3 := str_add
  have c4 := str_none
  go_enter Tryd.func63, Tryd.ntmps63
  go_wp2
  refine wp_loop_rounds 7 ?_
  rw [rounds_succ]; go_wp2
  rw [rounds_succ]; go_wp2
  rw [rounds_succ]; go_wp2
  rw [rounds_succ]; go_wp2
  rw [rounds_succ]; go_wp2
  rw [rounds_succ]; go_wp2
  rw [rounds_succ]; go_wp2_with fail
  refine (unhide C _ (by omega) (by omega)).mono ?_
  rw [unhide L]
  rintro e w1 ⟨rfl, rfl⟩
  go_wp2
  go_ret
  exact ⟨rfl, (((((((Below.refl _ _).alloc (by first | exact Nat.le_refl _ | (simp only [World.size_alloc]; omega)) _).alloc (by first | exact Nat.le_refl _ | (simp only [World.size_alloc]; omega)) _).alloc (by first | exact Nat.le_refl _ | (simp only [World.size_alloc]; omega)) _).alloc (by first | exact Nat.le_refl _ | (simp only [World.size_alloc]; omega)) _).alloc (by first | exact Nat.le_refl _ | (simp only [World.size_alloc]; omega)) _).alloc (by first | exact Nat.le_refl _ | (simp only [World.size_alloc]; omega)) _).alloc (by first | exact Nat.le_refl _ | (simp only [World.size_alloc]; omega)) _⟩

theorem plain_any (n : Int) (w : World) (h0 : 0 ≤ n) (h1 : n ≤ 1099511627776) :
    Calls Tryd.prog 63 #[.int .i64 n] w fun e w' => e = .returned (.string (bs (nb n))) ∧ Below w.heap.size w w' := by
  show Calls Tryd.prog 63 #[.int .i64 n] w fun e w' => e = .returned (.string (str (numL n))) ∧ Below w.heap.size w w'
  by_cases a0 : n = 0
  · exact plain_0 n w a0
  by_cases a1 : n < 256
  · exact plain_1 n w (by omega) a1
  by_cases a2 : n < 65536
  · exact plain_2 n w (by omega) a2
  by_cases a3 : n < 16777216
  · exact plain_3 n w (by omega) a3
  by_cases a4 : n < 4294967296
  · exact plain_4 n w (by omega) a4
  by_cases a5 : n < 1099511627776
  · exact plain_5 n w (by omega) a5
  exact plain_6 n w (by omega) h1
end Go.Proofs.YtmlmpongcpojjaaDoor
