/-
  What slices.Insert does at a row's end, and an arena's put there.
-/
import Derived.Test.YtabajhbghjfhoabGAd
namespace Go.Proofs.Ytabajhbghjfhoab
open Go.RowKit
set_option linter.unusedVariables false
set_option linter.unusedSimpArgs false

theorem infoI0 : (Try.prog.info? 3).map (fun i => (i.zero, i.size, i.bytes)) = some (some (.int .i64 0), 1, 8) := by kernel_rfl
theorem infoI : ∃ i, Try.prog.info? 3 = some i ∧ i.zero = some (.int .i64 0) ∧ i.size = 1 ∧ i.bytes = 8 := by
  have h := infoI0
  cases hi : Try.prog.info? 3 with
  | none => rw [hi] at h; cases h
  | some i =>
    rw [hi] at h
    simp only [Option.map_some, Option.some.injEq, Prod.mk.injEq] at h
    exact ⟨i, rfl, h.1, h.2.1, h.2.2⟩
theorem own_c (q : Option Addr) (n c c' : Nat) : (Value.slice q n c).ownBlock = (Value.slice q n c').ownBlock := by cases q <;> rfl
def insEndSaid (base : Nat) (v : Value) (n : Nat) (xs : List Value) (x : Int) (w : World) (r : Ending) (w' : World) : Prop :=
  ∃ v', r = .returned v' ∧ w'.ownsRow base 3 1 v' (n + 1) (xs ++ [.int .i64 x]) ∧ w.grownBy w' v.ownBlock ∧ (v'.ownBlock = v.ownBlock ∨ v'.ownBlock = some w.heap.size)
set_option maxHeartbeats 2000000 in
set_option maxRecDepth 100000 in
theorem ins_end (base n b : Nat) (q : Option Addr) (cap : Nat) (xs : List Value) (x : Int) (w : World) (h : w.ownsRow base 3 1 (.slice q n cap) n xs) (hbase : base ≤ w.heap.size) (hn : n ≤ 100000) (hx : Blk w b #[.int .i64 x] 3) :
    Calls Try.prog 60 #[.slice q n cap, .int .i64 (n : Int), .slice (some ⟨b, 0, none⟩) 1 1] w (insEndSaid base (.slice q n cap) n xs x w) := by
  obtain ⟨i0, hi0, hi1, hi2, hi3⟩ := infoI
  have HC : Hid (∀ j u, [Value.int .i64 x][j]? = some u → w.cell? ((⟨b, 0, none⟩ : Addr).add j) = some u) := hide fun j u hj => by
    rw [Addr.add_lit, Nat.zero_add, hx.cell j]
    simpa using hj
  have hcap : n ≤ cap := by
    rcases h.2 with ⟨h1, h2⟩ | ⟨g, cap', cur, h1, _, _, h2, _⟩
    · omega
    · injection h1 with _ _ h3; omega
  have hcm : cap ≤ 9223372036854775807 := by
    rcases h.2 with ⟨h1, h2⟩ | ⟨g, cap', cur, h1, _, _, _, h2, _⟩
    · injection h1 with _ _ h3; omega
    · injection h1 with _ _ h3; simp only [maxLen] at h2; omega
  have H := hide h
  have e1 : ((n : Int) == (n : Int)) = true := by simp
  have hc1 : (n : Int) ≤ (cap : Int) := by omega
  clear h hx
  go_enter Try.func60, Try.ntmps60
  go_wp2_with (at_builtin; refine wpList_append_own_at _ rfl _ _ 34 rfl base 3 i0 (.int .i64 0) 1 8 Try.underlying34 hi0 hi1 hi2 hi3 rfl (by decide) _ n xs rfl (unhide H) ⟨b, 0, none⟩ 1 1 [.int .i64 x] rfl rfl (unhide HC) ?c2 ?c3 ?c4 ?c5 ?_)
  case c2 => simp [Value.oneCell']
  case c3 => simp only [maxLen]; omega
  case c4 => omega
  case c5 => exact hbase
  all_goals (
    intro v' w3 hown hgr _ hat
    obtain ⟨q', n', c', rfl⟩ := slice_of hown
    go_wp2
    go_ret
    refine ⟨_, rfl, hown, ?_, ?_⟩
    · first | exact hgr | (rw [own_c q n cap n]; exact hgr)
    · first | exact hat | (rw [own_c q n cap n]; exact hat))
end Go.Proofs.Ytabajhbghjfhoab
