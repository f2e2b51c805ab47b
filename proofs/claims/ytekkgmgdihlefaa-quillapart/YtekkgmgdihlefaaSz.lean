/-
  What 'rectoref01.Size' does: of every number from 0 to MaxInt, how many digits it has, to the base 256; and the law QuillSizes walked.
-/
import Derived.Test.YtekkgmgdihlefaaTt
import Derived.Test.YtekkgmgdihlefaaPm
namespace Go.Proofs.Ytekkgmgdihlefaa
open Go.RowKit
set_option linter.unusedVariables false

theorem size_0 (n : Int) (w : World) (h : n = 0) :
    Calls Try.prog 25 #[.int .i64 n] w fun e w' => e = .returned (.int .i64 ((dgs 6 n).length : Int)) ∧ w' = w := by
  have hl : ((dgs 6 n).length : Int) = 0 := by
    have := congrArg (fun l => l.headD 0) (numL_0 n h)
    simpa [numL] using this
  rw [hl]
  clear hl
  subst h
  go_enter Try.func25, Try.ntmps25
  go_wp2
  refine wp_loop_rounds 1 ?_
  rw [rounds_succ]; go_wp2
  go_ret
  exact ⟨rfl, rfl⟩

theorem size_1 (n : Int) (w : World) (h1 : 1 ≤ n) (h2 : n < 256) :
    Calls Try.prog 25 #[.int .i64 n] w fun e w' => e = .returned (.int .i64 ((dgs 6 n).length : Int)) ∧ w' = w := by
  have hl : ((dgs 6 n).length : Int) = 1 := by
    have := congrArg (fun l => l.headD 0) (numL_1 n h1 h2)
    simpa [numL] using this
  rw [hl]
  clear hl

  go_enter Try.func25, Try.ntmps25
  go_wp2
  refine wp_loop_rounds 2 ?_
  rw [rounds_succ]; go_wp2
  rw [rounds_succ]; go_wp2
  go_ret
  exact ⟨rfl, rfl⟩

theorem size_2 (n : Int) (w : World) (h1 : 256 ≤ n) (h2 : n < 65536) :
    Calls Try.prog 25 #[.int .i64 n] w fun e w' => e = .returned (.int .i64 ((dgs 6 n).length : Int)) ∧ w' = w := by
  have hl : ((dgs 6 n).length : Int) = 2 := by
    have := congrArg (fun l => l.headD 0) (numL_2 n h1 h2)
    simpa [numL] using this
  rw [hl]
  clear hl

  go_enter Try.func25, Try.ntmps25
  go_wp2
  refine wp_loop_rounds 3 ?_
  rw [rounds_succ]; go_wp2
  rw [rounds_succ]; go_wp2
  rw [rounds_succ]; go_wp2
  go_ret
  exact ⟨rfl, rfl⟩

theorem size_3 (n : Int) (w : World) (h1 : 65536 ≤ n) (h2 : n < 16777216) :
    Calls Try.prog 25 #[.int .i64 n] w fun e w' => e = .returned (.int .i64 ((dgs 6 n).length : Int)) ∧ w' = w := by
  have hl : ((dgs 6 n).length : Int) = 3 := by
    have := congrArg (fun l => l.headD 0) (numL_3 n h1 h2)
    simpa [numL] using this
  rw [hl]
  clear hl

  go_enter Try.func25, Try.ntmps25
  go_wp2
  refine wp_loop_rounds 4 ?_
  rw [rounds_succ]; go_wp2
  rw [rounds_succ]; go_wp2
  rw [rounds_succ]; go_wp2
  rw [rounds_succ]; go_wp2
  go_ret
  exact ⟨rfl, rfl⟩

theorem size_4 (n : Int) (w : World) (h1 : 16777216 ≤ n) (h2 : n < 4294967296) :
    Calls Try.prog 25 #[.int .i64 n] w fun e w' => e = .returned (.int .i64 ((dgs 6 n).length : Int)) ∧ w' = w := by
  have hl : ((dgs 6 n).length : Int) = 4 := by
    have := congrArg (fun l => l.headD 0) (numL_4 n h1 h2)
    simpa [numL] using this
  rw [hl]
  clear hl

  go_enter Try.func25, Try.ntmps25
  go_wp2
  refine wp_loop_rounds 5 ?_
  rw [rounds_succ]; go_wp2
  rw [rounds_succ]; go_wp2
  rw [rounds_succ]; go_wp2
  rw [rounds_succ]; go_wp2
  rw [rounds_succ]; go_wp2
  go_ret
  exact ⟨rfl, rfl⟩

theorem size_5 (n : Int) (w : World) (h1 : 4294967296 ≤ n) (h2 : n < 1099511627776) :
    Calls Try.prog 25 #[.int .i64 n] w fun e w' => e = .returned (.int .i64 ((dgs 6 n).length : Int)) ∧ w' = w := by
  have hl : ((dgs 6 n).length : Int) = 5 := by
    have := congrArg (fun l => l.headD 0) (numL_5 n h1 h2)
    simpa [numL] using this
  rw [hl]
  clear hl

  go_enter Try.func25, Try.ntmps25
  go_wp2
  refine wp_loop_rounds 6 ?_
  rw [rounds_succ]; go_wp2
  rw [rounds_succ]; go_wp2
  rw [rounds_succ]; go_wp2
  rw [rounds_succ]; go_wp2
  rw [rounds_succ]; go_wp2
  rw [rounds_succ]; go_wp2
  go_ret
  exact ⟨rfl, rfl⟩

theorem size_6 (n : Int) (w : World) (h1 : 1099511627776 ≤ n) (h2 : n ≤ 1099511627776) :
    Calls Try.prog 25 #[.int .i64 n] w fun e w' => e = .returned (.int .i64 ((dgs 6 n).length : Int)) ∧ w' = w := by
  have hl : ((dgs 6 n).length : Int) = 6 := by
    have := congrArg (fun l => l.headD 0) (numL_6 n h1 h2)
    simpa [numL] using this
  rw [hl]
  clear hl

  go_enter Try.func25, Try.ntmps25
  go_wp2
  refine wp_loop_rounds 7 ?_
  rw [rounds_succ]; go_wp2
  rw [rounds_succ]; go_wp2
  rw [rounds_succ]; go_wp2
  rw [rounds_succ]; go_wp2
  rw [rounds_succ]; go_wp2
  rw [rounds_succ]; go_wp2
  rw [rounds_succ]; go_wp2
  go_ret
  exact ⟨rfl, rfl⟩

theorem size_any (n : Int) (w : World) (h0 : 0 ≤ n) (h1 : n ≤ 1099511627776) :
    Calls Try.prog 25 #[.int .i64 n] w fun e w' => e = .returned (.int .i64 ((dgs 6 n).length : Int)) ∧ w' = w := by
  by_cases a0 : n = 0
  · exact size_0 n w a0
  by_cases a1 : n < 256
  · exact size_1 n w (by omega) a1
  by_cases a2 : n < 65536
  · exact size_2 n w (by omega) a2
  by_cases a3 : n < 16777216
  · exact size_3 n w (by omega) a3
  by_cases a4 : n < 4294967296
  · exact size_4 n w (by omega) a4
  by_cases a5 : n < 1099511627776
  · exact size_5 n w (by omega) a5
  exact size_6 n w (by omega) h1

def ABs : Prop := ∀ w, Calls Try.prog 10 #[] w fun e w' => e = .returned (.bool true) ∧ Below w.heap.size w w'
theorem ab_ok : ABs := ab_calls

theorem tr3 {w w1 w2 w3 : World} (h1 : Below w.heap.size w w1) (h2 : Below w1.heap.size w1 w2) (h3 : Below w2.heap.size w2 w3) : Below w.heap.size w w3 :=
  h1.trans ((h2.trans (h3.mono h2.size)).mono h1.size)

/-- Both numbers are in range: all that is asked is so. -/
theorem sizes_ok (n m : Int) (w : World) (hab : ABs) (h0 : 0 ≤ n) (h1 : n ≤ 1099511627776) (h2 : 0 ≤ m) (h3 : m ≤ 1099511627776) :
    Calls Try.prog 8 #[.int .i64 n, .int .i64 m] w fun e w' => e = .returned (.bool true) ∧ Below w.heap.size w w' := by
  have L1 := hide (nb_less n m h0 h2 h1 h3)
  have z1 := nb_size n
  have z2 : (((bs (nb n)).size : Int) == 1 + ((dgs 6 n).length : Int)) = true := by
    rw [bs_size, nb_len]; simp; omega
  have z3 : (dgs 6 n).length ≤ 6 := dgs_len 6 n
  have z4 : n < m → (bs (nb n)).size ≤ (bs (nb m)).size := by
    intro h; rw [bs_size, bs_size]; exact nb_mono n m (by omega)
  have z5 := nb_size m
  by_cases hnm : n < m
  · have z6 := z4 hnm
    have l2 : (Op.bytesLess (bs (nb n)).toList (bs (nb m)).toList) = true := by
      rw [Lib.toList_data, Lib.toList_data, bs_toList, bs_toList, unhide L1]; simpa using hnm
    clear z4
    go_enter Try.func8, Try.ntmps8
    go_wp2_with fail
    refine (num_ok _ _ (by omega) (by omega)).mono ?_
    rintro e w1 ⟨rfl, hb1⟩
    go_wp2_with fail
    refine (num_ok _ _ (by omega) (by omega)).mono ?_
    rintro e w2 ⟨rfl, hb2⟩
    go_wp2_with fail
    refine (size_any _ _ (by omega) (by omega)).mono ?_
    rintro e w3 ⟨rfl, rfl⟩
    go_wp2_with fail
    refine (hab _).mono ?_
    rintro e w4 ⟨rfl, hb4⟩
    go_wp2
    go_ret
    exact ⟨rfl, tr3 hb1 hb2 hb4⟩
  · have l2 : (Op.bytesLess (bs (nb n)).toList (bs (nb m)).toList) = false := by
      rw [Lib.toList_data, Lib.toList_data, bs_toList, bs_toList, unhide L1]; simpa using hnm
    clear z4
    have hmn : m ≤ n := by omega
    have hdn : decide (n < m) = false := by simp; omega
    clear hnm
    go_enter Try.func8, Try.ntmps8
    go_wp2_with fail
    refine (num_ok _ _ (by omega) (by omega)).mono ?_
    rintro e w1 ⟨rfl, hb1⟩
    go_wp2_with fail
    refine (num_ok _ _ (by omega) (by omega)).mono ?_
    rintro e w2 ⟨rfl, hb2⟩
    go_wp2_with fail
    refine (size_any _ _ (by omega) (by omega)).mono ?_
    rintro e w3 ⟨rfl, rfl⟩
    go_wp2_with fail
    refine (hab _).mono ?_
    rintro e w4 ⟨rfl, hb4⟩
    go_wp2
    go_ret
    exact ⟨rfl, tr3 hb1 hb2 hb4⟩

/-- One of the numbers is out of range. -/
theorem sizes_no (n m : Int) (w : World) (hab : ABs) (h : n < 0 ∨ 1099511627776 < n ∨ m < 0 ∨ 1099511627776 < m) :
    Calls Try.prog 8 #[.int .i64 n, .int .i64 m] w fun e w' => e = .returned (.bool true) ∧ Below w.heap.size w w' := by
  by_cases m1 : m < 0
  · clear h
    by_cases n1 : n < 0
    ·
      go_enter Try.func8, Try.ntmps8
      go_wp2_with fail
      refine (num_no _ _ (by omega)).mono ?_
      rintro e w1 ⟨rfl, hb1⟩
      go_wp2_with fail
      refine (num_no _ _ (by omega)).mono ?_
      rintro e w2 ⟨rfl, hb2⟩
      go_wp2_with fail
      refine (hab _).mono ?_
      rintro e w4 ⟨rfl, hb4⟩
      go_wp2
      go_ret
      exact ⟨rfl, tr3 hb1 hb2 hb4⟩
    by_cases n2 : 1099511627776 < n
    ·
      go_enter Try.func8, Try.ntmps8
      go_wp2_with fail
      refine (num_no _ _ (by omega)).mono ?_
      rintro e w1 ⟨rfl, hb1⟩
      go_wp2_with fail
      refine (num_no _ _ (by omega)).mono ?_
      rintro e w2 ⟨rfl, hb2⟩
      go_wp2_with fail
      refine (hab _).mono ?_
      rintro e w4 ⟨rfl, hb4⟩
      go_wp2
      go_ret
      exact ⟨rfl, tr3 hb1 hb2 hb4⟩
    have n3 : 0 ≤ n := by omega
    have n4 : n ≤ 1099511627776 := by omega
    clear n1 n2
    go_enter Try.func8, Try.ntmps8
    go_wp2_with fail
    refine (num_ok _ _ (by omega) (by omega)).mono ?_
    rintro e w1 ⟨rfl, hb1⟩
    go_wp2_with fail
    refine (num_no _ _ (by omega)).mono ?_
    rintro e w2 ⟨rfl, hb2⟩
    go_wp2_with fail
    refine (hab _).mono ?_
    rintro e w4 ⟨rfl, hb4⟩
    go_wp2
    go_ret
    exact ⟨rfl, tr3 hb1 hb2 hb4⟩
  by_cases m2 : 1099511627776 < m
  · clear h
    have m3 : 0 ≤ m := by omega
    clear m1
    by_cases n1 : n < 0
    ·
      go_enter Try.func8, Try.ntmps8
      go_wp2_with fail
      refine (num_no _ _ (by omega)).mono ?_
      rintro e w1 ⟨rfl, hb1⟩
      go_wp2_with fail
      refine (num_no _ _ (by omega)).mono ?_
      rintro e w2 ⟨rfl, hb2⟩
      go_wp2_with fail
      refine (hab _).mono ?_
      rintro e w4 ⟨rfl, hb4⟩
      go_wp2
      go_ret
      exact ⟨rfl, tr3 hb1 hb2 hb4⟩
    by_cases n2 : 1099511627776 < n
    ·
      go_enter Try.func8, Try.ntmps8
      go_wp2_with fail
      refine (num_no _ _ (by omega)).mono ?_
      rintro e w1 ⟨rfl, hb1⟩
      go_wp2_with fail
      refine (num_no _ _ (by omega)).mono ?_
      rintro e w2 ⟨rfl, hb2⟩
      go_wp2_with fail
      refine (hab _).mono ?_
      rintro e w4 ⟨rfl, hb4⟩
      go_wp2
      go_ret
      exact ⟨rfl, tr3 hb1 hb2 hb4⟩
    have n3 : 0 ≤ n := by omega
    have n4 : n ≤ 1099511627776 := by omega
    clear n1 n2
    go_enter Try.func8, Try.ntmps8
    go_wp2_with fail
    refine (num_ok _ _ (by omega) (by omega)).mono ?_
    rintro e w1 ⟨rfl, hb1⟩
    go_wp2_with fail
    refine (num_no _ _ (by omega)).mono ?_
    rintro e w2 ⟨rfl, hb2⟩
    go_wp2_with fail
    refine (hab _).mono ?_
    rintro e w4 ⟨rfl, hb4⟩
    go_wp2
    go_ret
    exact ⟨rfl, tr3 hb1 hb2 hb4⟩
  have m3 : 0 ≤ m := by omega
  have m4 : m ≤ 1099511627776 := by omega
  clear m1 m2
  by_cases n1 : n < 0
  · clear h
    go_enter Try.func8, Try.ntmps8
    go_wp2_with fail
    refine (num_no _ _ (by omega)).mono ?_
    rintro e w1 ⟨rfl, hb1⟩
    go_wp2_with fail
    refine (num_ok _ _ (by omega) (by omega)).mono ?_
    rintro e w2 ⟨rfl, hb2⟩
    go_wp2_with fail
    refine (hab _).mono ?_
    rintro e w4 ⟨rfl, hb4⟩
    go_wp2
    go_ret
    exact ⟨rfl, tr3 hb1 hb2 hb4⟩
  have n2 : 1099511627776 < n := by omega
  have n3 : 0 ≤ n := by omega
  clear h n1
  go_enter Try.func8, Try.ntmps8
  go_wp2_with fail
  refine (num_no _ _ (by omega)).mono ?_
  rintro e w1 ⟨rfl, hb1⟩
  go_wp2_with fail
  refine (num_ok _ _ (by omega) (by omega)).mono ?_
  rintro e w2 ⟨rfl, hb2⟩
  go_wp2_with fail
  refine (hab _).mono ?_
  rintro e w4 ⟨rfl, hb4⟩
  go_wp2
  go_ret
  exact ⟨rfl, tr3 hb1 hb2 hb4⟩

theorem sizes_walk (n m : Int) (w : World) : Calls Try.prog 8 #[.int .i64 n, .int .i64 m] w fun e w' => e = .returned (.bool true) ∧ Below w.heap.size w w' := by
  by_cases h : n < 0 ∨ 1099511627776 < n ∨ m < 0 ∨ 1099511627776 < m
  · exact sizes_no n m w ab_ok h
  · exact sizes_ok n m w ab_ok (by omega) (by omega) (by omega) (by omega)
end Go.Proofs.Ytekkgmgdihlefaa
