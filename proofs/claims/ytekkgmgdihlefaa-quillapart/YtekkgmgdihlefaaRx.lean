/-
  What 'rectoref01.TakeText' does: of every text the text with which it begins, and what is behind, as the plain function says it.
-/
import Derived.Test.YtekkgmgdihlefaaRt
import Derived.Test.YtekkgmgdihlefaaTl
namespace Go.Proofs.Ytekkgmgdihlefaa
open Go.RowKit
set_option linter.unusedVariables false

theorem rtext_none (s : ByteArray) (w : World)
    (hcall : Hid (∀ w, Calls Try.prog 30 #[.string s, .int .i64 0] w fun e w' => e = .returned (.agg #[.int .i64 0, .int .i64 (-1)]) ∧ Below w.heap.size w w')) :
    Calls Try.prog 20 #[.string s] w fun e w' => e = .returned (takenV 0 ⟨#[]⟩ ⟨#[]⟩ 4) ∧ Below w.heap.size w w' := by
  go_enter Try.func20, Try.ntmps20
  go_wp2_with fail
  refine (unhide hcall _).mono ?_
  rintro e w1 ⟨rfl, hb1⟩
  have hz : w.heap.size < w1.heap.size := by have := hb1.size; simp at this; omega
  obtain ⟨hc, hf⟩ := bcell hb1
  go_wp2
  exact bodyPost_ret (v := .agg #[.int .i64 0, .string ⟨#[]⟩, .slice none 0 0, .string ⟨#[]⟩, .int .i64 4]) (by simp [results, Try.results20, go_sem, hc, hz]) rfl
    ⟨rfl, ((((((bel_of hb1).setCell (by simp) _).setCell (by simp) _).setCell (by simp) _).setCell (by simp) _).setCell (by simp) _).alloc (by simp; omega) _⟩

theorem rtext_long (s : ByteArray) (w : World) (v : Int) (k : Nat) (h1 : 65536 < v)
    (hcall : Hid (∀ w, Calls Try.prog 30 #[.string s, .int .i64 0] w fun e w' => e = .returned (.agg #[.int .i64 v, .int .i64 k]) ∧ Below w.heap.size w w')) :
    Calls Try.prog 20 #[.string s] w fun e w' => e = .returned (takenV 0 ⟨#[]⟩ ⟨#[]⟩ 4) ∧ Below w.heap.size w w' := by
  have hk1 : (0 : Int) ≤ (k : Int) := by omega
  go_enter Try.func20, Try.ntmps20
  go_wp2_with fail
  refine (unhide hcall _).mono ?_
  rintro e w1 ⟨rfl, hb1⟩
  have hz : w.heap.size < w1.heap.size := by have := hb1.size; simp at this; omega
  obtain ⟨hc, hf⟩ := bcell hb1
  go_wp2
  exact bodyPost_ret (v := .agg #[.int .i64 0, .string ⟨#[]⟩, .slice none 0 0, .string ⟨#[]⟩, .int .i64 4]) (by simp [results, Try.results20, go_sem, hc, hz]) rfl
    ⟨rfl, ((((((bel_of hb1).setCell (by simp) _).setCell (by simp) _).setCell (by simp) _).setCell (by simp) _).setCell (by simp) _).alloc (by simp; omega) _⟩

theorem rtext_short (s : ByteArray) (w : World) (v : Int) (k : Nat) (hs : s.size ≤ 9223372036854775807) (hk : k ≤ s.size) (h1 : v ≤ 65536) (h2 : (s.size : Int) - (k : Int) < v)
    (hcall : Hid (∀ w, Calls Try.prog 30 #[.string s, .int .i64 0] w fun e w' => e = .returned (.agg #[.int .i64 v, .int .i64 k]) ∧ Below w.heap.size w w')) :
    Calls Try.prog 20 #[.string s] w fun e w' => e = .returned (takenV 0 ⟨#[]⟩ ⟨#[]⟩ 4) ∧ Below w.heap.size w w' := by
  have hk1 : (0 : Int) ≤ (k : Int) := by omega
  go_enter Try.func20, Try.ntmps20
  go_wp2_with fail
  refine (unhide hcall _).mono ?_
  rintro e w1 ⟨rfl, hb1⟩
  have hz : w.heap.size < w1.heap.size := by have := hb1.size; simp at this; omega
  obtain ⟨hc, hf⟩ := bcell hb1
  go_wp2
  exact bodyPost_ret (v := .agg #[.int .i64 0, .string ⟨#[]⟩, .slice none 0 0, .string ⟨#[]⟩, .int .i64 4]) (by simp [results, Try.results20, go_sem, hc, hz]) rfl
    ⟨rfl, ((((((bel_of hb1).setCell (by simp) _).setCell (by simp) _).setCell (by simp) _).setCell (by simp) _).setCell (by simp) _).alloc (by simp; omega) _⟩

theorem rtext_some (s : ByteArray) (w : World) (n k : Nat) (hs : s.size ≤ 9223372036854775807) (hk : k + n ≤ s.size) (h1 : n ≤ 65536)
    (hcall : Hid (∀ w, Calls Try.prog 30 #[.string s, .int .i64 0] w fun e w' => e = .returned (.agg #[.int .i64 n, .int .i64 k]) ∧ Below w.heap.size w w')) :
    Calls Try.prog 20 #[.string s] w fun e w' => e = .returned (takenV 0 (s.extract k (k + n)) (s.extract (k + n) s.size) 0) ∧ Below w.heap.size w w' := by
  have hk1 : (0 : Int) ≤ (k : Int) := by omega
  have hk2 : (k : Int) ≤ (s.size : Int) := by omega
  have hk3 : (k : Int) + (n : Int) ≤ (s.size : Int) := by omega
  have hk4 : (n : Int) ≤ 65536 := by omega
  have hk5 : (n : Int) ≤ (s.size : Int) - (k : Int) := by omega
  have hk6 : (k : Int) ≤ (k : Int) + (n : Int) := by omega
  go_enter Try.func20, Try.ntmps20
  go_wp2_with fail
  refine (unhide hcall _).mono ?_
  rintro e w1 ⟨rfl, hb1⟩
  have hz : w.heap.size < w1.heap.size := by have := hb1.size; simp at this; omega
  obtain ⟨hc, hf⟩ := bcell hb1
  go_wp2
  go_region
  go_wp2
  exact bodyPost_ret (v := .agg #[.int .i64 0, .string (s.extract k (k + n)), .slice none 0 0, .string (s.extract (k + n) s.size), .int .i64 0]) (by simp [results, Try.results20, go_sem, hc, hz]) rfl
    ⟨rfl, (((((((bel_of hb1).setCell (by simp) _).setCell (by simp) _).setCell (by simp) _).setCell (by simp) _).setCell (by simp) _).alloc (by simp; omega) _).drew⟩
end Go.Proofs.Ytekkgmgdihlefaa
