/-
  What 'rectoref02.At' does where the bytes tell no number.
-/
import Derived.Test.YtpfnjgkfombmpaaDoorRLow
namespace Go.Proofs.YtpfnjgkfombmpaaDoor
open Go.RowKit
set_option linter.unusedVariables false

set_option maxHeartbeats 1000000 in
set_option maxRecDepth 100000 in
theorem at_none1 (s : ByteArray) (i b : Nat) (x y z : Int) (w : World) (hs : s.size ≤ 9223372036854775807) (hi2 : i ≤ 9223372036854775000) (hi : i < s.size) (e0 : (s[i]).toNat = b) (l0 : 128 ≤ b) (u0 : b < 192)
    (L1 : LowIs s ((i : Int) + 1) x) (L2 : LowIs s ((i : Int) + 2) y) (L3 : LowIs s ((i : Int) + 3) z) (CI : RIsIs (-1) false) :
    Calls Tryd.prog 115 #[.string s, .int .i64 (i : Int)] w fun e w' => e = .returned (got 65533 1 false) ∧ Below w.heap.size w w' := by
  have z0 : (i : Int) < (s.size : Int) := by omega
  go_enter Tryd.func115, Tryd.ntmps115
  go_wp2_with fail
  refine (L1 _).mono ?_
  rintro e w1 ⟨rfl, rfl⟩
  go_wp2_with fail
  refine (L2 _).mono ?_
  rintro e w1 ⟨rfl, rfl⟩
  go_wp2_with fail
  refine (L3 _).mono ?_
  rintro e w1 ⟨rfl, rfl⟩
  go_wp2_with fail
  refine (CI _).mono ?_
  rintro e w1 ⟨rfl, rfl⟩
  go_wp2
  exact bodyPost_ret (v := .agg #[.int .i64 65533, .int .i64 1, .bool false]) (by simp [results, Tryd.results115, go_sem]) rfl ⟨rfl, (Below.refl _ _).alloc (Nat.le_refl _) _⟩

set_option maxHeartbeats 1000000 in
set_option maxRecDepth 100000 in
theorem at_none2 (s : ByteArray) (i b : Nat) (x y z : Int) (w : World) (hs : s.size ≤ 9223372036854775807) (hi2 : i ≤ 9223372036854775000) (hi : i < s.size) (e0 : (s[i]).toNat = b) (l0 : 192 ≤ b) (u0 : b < 224)
    (L1 : LowIs s ((i : Int) + 1) (-1)) (L2 : LowIs s ((i : Int) + 2) y) (L3 : LowIs s ((i : Int) + 3) z) (CI : RIsIs (-1) false) :
    Calls Tryd.prog 115 #[.string s, .int .i64 (i : Int)] w fun e w' => e = .returned (got 65533 1 false) ∧ Below w.heap.size w w' := by
  have z0 : (i : Int) < (s.size : Int) := by omega
  go_enter Tryd.func115, Tryd.ntmps115
  go_wp2_with fail
  refine (L1 _).mono ?_
  rintro e w1 ⟨rfl, rfl⟩
  go_wp2_with fail
  refine (L2 _).mono ?_
  rintro e w1 ⟨rfl, rfl⟩
  go_wp2_with fail
  refine (L3 _).mono ?_
  rintro e w1 ⟨rfl, rfl⟩
  go_wp2_with fail
  refine (CI _).mono ?_
  rintro e w1 ⟨rfl, rfl⟩
  go_wp2
  exact bodyPost_ret (v := .agg #[.int .i64 65533, .int .i64 1, .bool false]) (by simp [results, Tryd.results115, go_sem]) rfl ⟨rfl, (Below.refl _ _).alloc (Nat.le_refl _) _⟩

set_option maxHeartbeats 1000000 in
set_option maxRecDepth 100000 in
theorem at_none3a (s : ByteArray) (i b : Nat) (x y z : Int) (w : World) (hs : s.size ≤ 9223372036854775807) (hi2 : i ≤ 9223372036854775000) (hi : i < s.size) (e0 : (s[i]).toNat = b) (l0 : 224 ≤ b) (u0 : b < 240)
    (L1 : LowIs s ((i : Int) + 1) (-1)) (L2 : LowIs s ((i : Int) + 2) y) (L3 : LowIs s ((i : Int) + 3) z) (CI : RIsIs (-1) false) :
    Calls Tryd.prog 115 #[.string s, .int .i64 (i : Int)] w fun e w' => e = .returned (got 65533 1 false) ∧ Below w.heap.size w w' := by
  have z0 : (i : Int) < (s.size : Int) := by omega
  go_enter Tryd.func115, Tryd.ntmps115
  go_wp2_with fail
  refine (L1 _).mono ?_
  rintro e w1 ⟨rfl, rfl⟩
  go_wp2_with fail
  refine (L2 _).mono ?_
  rintro e w1 ⟨rfl, rfl⟩
  go_wp2_with fail
  refine (L3 _).mono ?_
  rintro e w1 ⟨rfl, rfl⟩
  go_wp2_with fail
  refine (CI _).mono ?_
  rintro e w1 ⟨rfl, rfl⟩
  go_wp2
  exact bodyPost_ret (v := .agg #[.int .i64 65533, .int .i64 1, .bool false]) (by simp [results, Tryd.results115, go_sem]) rfl ⟨rfl, (Below.refl _ _).alloc (Nat.le_refl _) _⟩

set_option maxHeartbeats 1000000 in
set_option maxRecDepth 100000 in
theorem at_none3b (s : ByteArray) (i b : Nat) (x y z : Int) (w : World) (hs : s.size ≤ 9223372036854775807) (hi2 : i ≤ 9223372036854775000) (hi : i < s.size) (e0 : (s[i]).toNat = b) (l0 : 224 ≤ b) (u0 : b < 240)
    (L1 : LowIs s ((i : Int) + 1) x) (L2 : LowIs s ((i : Int) + 2) (-1)) (L3 : LowIs s ((i : Int) + 3) z) (gx : 0 ≤ x) (fx : x ≤ 63) (CI : RIsIs (-1) false) :
    Calls Tryd.prog 115 #[.string s, .int .i64 (i : Int)] w fun e w' => e = .returned (got 65533 1 false) ∧ Below w.heap.size w w' := by
  have z0 : (i : Int) < (s.size : Int) := by omega
  go_enter Tryd.func115, Tryd.ntmps115
  go_wp2_with fail
  refine (L1 _).mono ?_
  rintro e w1 ⟨rfl, rfl⟩
  go_wp2_with fail
  refine (L2 _).mono ?_
  rintro e w1 ⟨rfl, rfl⟩
  go_wp2_with fail
  refine (L3 _).mono ?_
  rintro e w1 ⟨rfl, rfl⟩
  go_wp2_with fail
  refine (CI _).mono ?_
  rintro e w1 ⟨rfl, rfl⟩
  go_wp2
  exact bodyPost_ret (v := .agg #[.int .i64 65533, .int .i64 1, .bool false]) (by simp [results, Tryd.results115, go_sem]) rfl ⟨rfl, (Below.refl _ _).alloc (Nat.le_refl _) _⟩
end Go.Proofs.YtpfnjgkfombmpaaDoor
