/-
  match's choices: bits in words; what onInA and setOnInA do.
-/
import Derived.Test.YtbaoomkdlbjhlaaMNm
import Derived.Laws.ShiftsVar
namespace Go.Proofs.Ytbaoomkdlbjhlaa
open Go.RowKit
set_option linter.unusedVariables false
set_option linter.unusedSimpArgs false

def wordV (x : Nat) : Value := .int .u64 (x : Int)
def ptr (p : Nat) : Value := .pointer (some ⟨p, 0, none⟩)
def bitAt (X : List Nat) (a : Nat) : Bool := (X.getD (a / 64) 0).testBit (a % 64)

theorem bit_get (x k : Nat) (h : x < 18446744073709551616) : (bits .and .u64 ((x : Int) / 2 ^ k) 1 == 1) = x.testBit k := by
  have hd : ((x : Int) / 2 ^ k) = ((x / 2 ^ k : Nat) : Int) := by simp
  have hle : x / 2 ^ k ≤ x := Nat.div_le_self _ _
  have hnn : (0 : Int) ≤ ((x / 2 ^ k : Nat) : Int) := Int.natCast_nonneg _
  generalize hq : x / 2 ^ k = q at *
  rw [hd, and_one_u64 _ hnn (by omega), Nat.testBit_eq_decide_div_mod_eq]
  by_cases h1 : q % 2 = 1
  · rw [hq, decide_eq_true h1]
    have : (q : Int) % 2 = 1 := by omega
    rw [this]; rfl
  · rw [hq, decide_eq_false h1]
    have : (q : Int) % 2 = 0 := by omega
    rw [this]; rfl
theorem or_lt {x k : Nat} (h : x < 18446744073709551616) (hk : k < 64) : x ||| 2 ^ k < 18446744073709551616 := by
  have h2 : 2 ^ k < 2 ^ 64 := Nat.pow_lt_pow_of_lt (by decide) hk
  exact Nat.or_lt_two_pow (n := 64) h h2
theorem u64_pow {k : Nat} (hk : k < 64) : IntKind.u64.wrap (2 ^ k) = 2 ^ k := by
  have h2 : (2 : Int) ^ k < 2 ^ 64 := Int.pow_lt_pow_of_lt (by decide) hk
  rw [IntKind.wrap_u64]
  exact Int.emod_eq_of_lt (Int.le_of_lt (Int.pow_pos (by decide))) h2
theorem bit_set (x k : Nat) (h : x < 18446744073709551616) (hk : k < 64) : bits .or .u64 (x : Int) (2 ^ k) = ((x ||| 2 ^ k : Nat) : Int) := by
  have h2 : 2 ^ k < 2 ^ 64 := Nat.pow_lt_pow_of_lt (by decide) hk
  have e : ((2 : Int) ^ k) = ((2 ^ k : Nat) : Int) := by simp
  rw [e, u64_or_nat x (2 ^ k) h h2]
set_option maxHeartbeats 1000000 in
theorem onInA_any (cb g n cap W i j p x : Nat) (w : World) (hc : Blk w cb #[.int .i64 (W : Int), .slice (some ⟨g, 0, none⟩) n cap] 80)
    (hp : (i : Int) * (W : Int) = (p : Int)) (hb : p + j ≤ 10000000) (hn : (p + j) / 64 < n) (hx : w.cell? ⟨g, (p + j) / 64, none⟩ = some (.int .u64 (x : Int))) (hx2 : x < 18446744073709551616) :
    Calls Try.prog 36 #[ptr cb, .int .i64 (i : Int), .int .i64 (j : Int)] w fun e w' => e = .returned (.bool (x.testBit ((p + j) % 64))) ∧ w' = w := by
  have c0 : w.cell? ⟨cb, 0, none⟩ = some (.int .i64 (W : Int)) := hc.cell 0
  have c1 : w.cell? ⟨cb, 1, none⟩ = some (.slice (some ⟨g, 0, none⟩) n cap) := hc.cell 1
  clear hc
  unfold ptr
  go_enter Try.func36, Try.ntmps36
  go_wp2
  go_ret
  exact ⟨by rw [bit_get _ _ hx2]; rfl, rfl⟩

set_option maxHeartbeats 1000000 in
theorem setOnInA_any (cb g n cap W i j p x : Nat) (w : World) (hc : Blk w cb #[.int .i64 (W : Int), .slice (some ⟨g, 0, none⟩) n cap] 80)
    (hp : (i : Int) * (W : Int) = (p : Int)) (hb : p + j ≤ 10000000) (hn : (p + j) / 64 < n) (hx : w.cell? ⟨g, (p + j) / 64, none⟩ = some (.int .u64 (x : Int))) (hf : w.frozen? ⟨g, (p + j) / 64, none⟩ = false) (hx2 : x < 18446744073709551616) (hne : g ≠ cb) :
    Calls Try.prog 39 #[ptr cb, .int .i64 (i : Int), .int .i64 (j : Int)] w fun e w' => e = .returned (.tuple #[]) ∧ w' = (w.setCell ⟨g, (p + j) / 64, none⟩ (wordV (x ||| 2 ^ ((p + j) % 64)))).drew := by
  have c0 : w.cell? ⟨cb, 0, none⟩ = some (.int .i64 (W : Int)) := hc.cell 0
  have c1 : w.cell? ⟨cb, 1, none⟩ = some (.slice (some ⟨g, 0, none⟩) n cap) := hc.cell 1
  clear hc
  unfold ptr
  go_enter Try.func39, Try.ntmps39
  go_wp2
  go_region
  rw [u64_pow (Nat.mod_lt _ (by decide)), bit_set _ _ hx2 (Nat.mod_lt _ (by decide))]
  refine bodyPost_end (v := .tuple #[]) (results_none Try.results39 _ _ _) rfl ?_
  exact ⟨rfl, rfl⟩
end Go.Proofs.Ytbaoomkdlbjhlaa
