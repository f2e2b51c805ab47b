/-
  What 'rectoref02.At' does where the bytes tell a number of three bytes.
-/
import Derived.Test.YtpfnjgkfombmpaaDoorRLow
namespace Go.Proofs.YtpfnjgkfombmpaaDoor
open Go.RowKit
set_option linter.unusedVariables false

set_option maxHeartbeats 1000000 in
set_option maxRecDepth 100000 in
theorem at_3_none (s : ByteArray) (i b : Nat) (x y z : Int) (w : World) (hs : s.size ≤ 9223372036854775807) (hi2 : i ≤ 9223372036854775000) (hi : i < s.size) (e0 : (s[i]).toNat = b) (l0 : 224 ≤ b) (u0 : b < 240)
    (L1 : LowIs s ((i : Int) + 1) x) (L2 : LowIs s ((i : Int) + 2) y) (L3 : LowIs s ((i : Int) + 3) z) (gx : 0 ≤ x) (fx : x ≤ 63) (gy : 0 ≤ y) (fy : y ≤ 63) (CI : RIsIs (4096 * ((b : Int) - 224) + 64 * x + y) false) :
    Calls Tryd.prog 115 #[.string s, .int .i64 (i : Int)] w fun e w' => e = .returned (got 65533 1 false) ∧ Below w.heap.size w w' := by
  have z0 : (i : Int) < (s.size : Int) := by omega
  go_enter Tryd.func115, Tryd.ntmps115
  go_wp2_with fail
  refine (L1 _).mono ?_
  rintro e w1 ⟨rfl, rfl⟩
  go_wp2_with fail
  refine (L2 _).mono ?_
  rintro e w1 ⟨rfl, rfl⟩
  go_wp2_with fail
  refine (L3 _).mono ?_
  rintro e w1 ⟨rfl, rfl⟩
  go_wp2_with fail
  refine (CI _).mono ?_
  rintro e w1 ⟨rfl, rfl⟩
  go_wp2
  exact bodyPost_ret (v := .agg #[.int .i64 65533, .int .i64 1, .bool false]) (by simp [results, Tryd.results115, go_sem]) rfl ⟨rfl, (Below.refl _ _).alloc (Nat.le_refl _) _⟩

set_option maxHeartbeats 1000000 in
set_option maxRecDepth 100000 in
theorem at_3_short (s : ByteArray) (i b : Nat) (x y z : Int) (w : World) (hs : s.size ≤ 9223372036854775807) (hi2 : i ≤ 9223372036854775000) (hi : i < s.size) (e0 : (s[i]).toNat = b) (l0 : 224 ≤ b) (u0 : b < 240)
    (L1 : LowIs s ((i : Int) + 1) x) (L2 : LowIs s ((i : Int) + 2) y) (L3 : LowIs s ((i : Int) + 3) z) (gx : 0 ≤ x) (fx : x ≤ 63) (gy : 0 ≤ y) (fy : y ≤ 63) (CI : RIsIs (4096 * ((b : Int) - 224) + 64 * x + y) true) (q : ByteArray) (CB : RBytesIs (4096 * ((b : Int) - 224) + 64 * x + y) q) (hq : q.size ≤ 4) (hx : (s.size : Int) - (i : Int) < (q.size : Int)) :
    Calls Tryd.prog 115 #[.string s, .int .i64 (i : Int)] w fun e w' => e = .returned (got 65533 1 false) ∧ Below w.heap.size w w' := by
  have z0 : (i : Int) < (s.size : Int) := by omega
  go_enter Tryd.func115, Tryd.ntmps115
  go_wp2_with fail
  refine (L1 _).mono ?_
  rintro e w1 ⟨rfl, rfl⟩
  go_wp2_with fail
  refine (L2 _).mono ?_
  rintro e w1 ⟨rfl, rfl⟩
  go_wp2_with fail
  refine (L3 _).mono ?_
  rintro e w1 ⟨rfl, rfl⟩
  go_wp2_with fail
  refine (CI _).mono ?_
  rintro e w1 ⟨rfl, rfl⟩
  go_wp2_with fail
  refine (CB _).mono ?_
  rintro e w1 ⟨rfl, hb1⟩
  have hz : w.heap.size < w1.heap.size := by have := hb1.size; simp at this; omega
  obtain ⟨hc, hf⟩ := bcell hb1
  go_wp2
  exact bodyPost_ret (v := .agg #[.int .i64 65533, .int .i64 1, .bool false]) (by simp [results, Tryd.results115, go_sem, hc]) rfl
    ⟨rfl, (((bel_of hb1).setCell (by simp) _).setCell (by simp) _).setCell (by simp) _⟩

set_option maxHeartbeats 1000000 in
set_option maxRecDepth 100000 in
theorem at_3_other (s : ByteArray) (i b : Nat) (x y z : Int) (w : World) (hs : s.size ≤ 9223372036854775807) (hi2 : i ≤ 9223372036854775000) (hi : i < s.size) (e0 : (s[i]).toNat = b) (l0 : 224 ≤ b) (u0 : b < 240)
    (L1 : LowIs s ((i : Int) + 1) x) (L2 : LowIs s ((i : Int) + 2) y) (L3 : LowIs s ((i : Int) + 3) z) (gx : 0 ≤ x) (fx : x ≤ 63) (gy : 0 ≤ y) (fy : y ≤ 63) (CI : RIsIs (4096 * ((b : Int) - 224) + 64 * x + y) true) (q : ByteArray) (CB : RBytesIs (4096 * ((b : Int) - 224) + 64 * x + y) q) (hq : q.size ≤ 4) (hx : (q.size : Int) ≤ (s.size : Int) - (i : Int)) (hx2 : i + q.size ≤ s.size) (hne : ((s.extract i (i + q.size)).toList == q.toList) = false) :
    Calls Tryd.prog 115 #[.string s, .int .i64 (i : Int)] w fun e w' => e = .returned (got 65533 1 false) ∧ Below w.heap.size w w' := by
  have z0 : (i : Int) < (s.size : Int) := by omega
  go_enter Tryd.func115, Tryd.ntmps115
  go_wp2_with fail
  refine (L1 _).mono ?_
  rintro e w1 ⟨rfl, rfl⟩
  go_wp2_with fail
  refine (L2 _).mono ?_
  rintro e w1 ⟨rfl, rfl⟩
  go_wp2_with fail
  refine (L3 _).mono ?_
  rintro e w1 ⟨rfl, rfl⟩
  go_wp2_with fail
  refine (CI _).mono ?_
  rintro e w1 ⟨rfl, rfl⟩
  go_wp2_with fail
  refine (CB _).mono ?_
  rintro e w1 ⟨rfl, hb1⟩
  have hz : w.heap.size < w1.heap.size := by have := hb1.size; simp at this; omega
  obtain ⟨hc, hf⟩ := bcell hb1
  go_wp2
  exact bodyPost_ret (v := .agg #[.int .i64 65533, .int .i64 1, .bool false]) (by simp [results, Tryd.results115, go_sem, hc]) rfl
    ⟨rfl, (((bel_of hb1).setCell (by simp) _).setCell (by simp) _).setCell (by simp) _⟩

set_option maxHeartbeats 1000000 in
set_option maxRecDepth 100000 in
theorem at_3_ok (s : ByteArray) (i b : Nat) (x y z : Int) (w : World) (hs : s.size ≤ 9223372036854775807) (hi2 : i ≤ 9223372036854775000) (hi : i < s.size) (e0 : (s[i]).toNat = b) (l0 : 224 ≤ b) (u0 : b < 240)
    (L1 : LowIs s ((i : Int) + 1) x) (L2 : LowIs s ((i : Int) + 2) y) (L3 : LowIs s ((i : Int) + 3) z) (gx : 0 ≤ x) (fx : x ≤ 63) (gy : 0 ≤ y) (fy : y ≤ 63) (CI : RIsIs (4096 * ((b : Int) - 224) + 64 * x + y) true) (q : ByteArray) (CB : RBytesIs (4096 * ((b : Int) - 224) + 64 * x + y) q) (hq : q.size ≤ 4) (hx : (q.size : Int) ≤ (s.size : Int) - (i : Int)) (hx2 : i + q.size ≤ s.size) (hne : ((s.extract i (i + q.size)).toList == q.toList) = true) :
    Calls Tryd.prog 115 #[.string s, .int .i64 (i : Int)] w fun e w' => e = .returned (got (4096 * ((b : Int) - 224) + 64 * x + y) (q.size : Int) true) ∧ Below w.heap.size w w' := by
  have z0 : (i : Int) < (s.size : Int) := by omega
  go_enter Tryd.func115, Tryd.ntmps115
  go_wp2_with fail
  refine (L1 _).mono ?_
  rintro e w1 ⟨rfl, rfl⟩
  go_wp2_with fail
  refine (L2 _).mono ?_
  rintro e w1 ⟨rfl, rfl⟩
  go_wp2_with fail
  refine (L3 _).mono ?_
  rintro e w1 ⟨rfl, rfl⟩
  go_wp2_with fail
  refine (CI _).mono ?_
  rintro e w1 ⟨rfl, rfl⟩
  go_wp2_with fail
  refine (CB _).mono ?_
  rintro e w1 ⟨rfl, hb1⟩
  have hz : w.heap.size < w1.heap.size := by have := hb1.size; simp at this; omega
  obtain ⟨hc, hf⟩ := bcell hb1
  go_wp2
  exact bodyPost_ret (v := .agg #[.int .i64 (4096 * ((b : Int) - 224) + 64 * x + y), .int .i64 (q.size : Int), .bool true]) (by simp [results, Tryd.results115, go_sem, hc]) rfl
    ⟨rfl, (((bel_of hb1).setCell (by simp) _).setCell (by simp) _).setCell (by simp) _⟩
end Go.Proofs.YtpfnjgkfombmpaaDoor
