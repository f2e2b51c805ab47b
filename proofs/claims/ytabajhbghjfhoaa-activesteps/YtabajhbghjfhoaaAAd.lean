/-
  What a list's own, alike, alikeTo do of entries without attributes; Mark.
-/
import Derived.Test.YtabajhbghjfhoaaAOp
import Derived.Lib.SliceRun
import Derived.Laws.IdiomMaps
namespace Go.Proofs.Ytabajhbghjfhoaa
open Go.RowKit
set_option linter.unusedVariables false
set_option linter.unusedSimpArgs false

set_option maxHeartbeats 1000000 in
set_option maxRecDepth 100000 in
theorem cloneA_none (w : World) : Calls Try.prog 95 #[.slice none 0 0] w fun e w' => e = .returned (.slice none 0 0) ∧ w' = w := by
  have q22 : ∀ (w : World) (a : Option Addr) (n c n' c' : Nat), (binOp .eql 56 (.slice a n c) (.slice none n' c')).run Try.prog w = .ok (.bool a.isNone) w := fun w a n c n' c' => Lib.run_eql_slice_nil w _ _ a n c n' c' Try.underlying56
  go_enter Try.func95, Try.ntmps95
  go_wp2
  go_ret
  exact ⟨rfl, rfl⟩
set_option maxHeartbeats 1000000 in
set_option maxRecDepth 100000 in
theorem own_none (xm : Bool) (xi : Int) (xn : ByteArray) (w : World) : Calls Try.prog 68 #[.agg #[.bool xm, .int .i64 xi, .string xn, .slice none 0 0]] w fun e w' => e = .returned (.agg #[.bool xm, .int .i64 xi, .string xn, .slice none 0 0]) ∧ Below w.heap.size w w' := by
  have C := hide (fun w => cloneA_none w)
  go_enter Try.func68, Try.ntmps68
  go_wp2_with fail
  refine (unhide C _).mono ?_
  rintro e w1 ⟨rfl, hw1⟩
  subst hw1
  go_wp2
  refine bodyPost_ret (v := .agg #[.bool xm, .int .i64 xi, .string xn, .slice none 0 0]) (by simp [results, Try.results68, go_sem]) rfl ?_
  refine ⟨rfl, ?_⟩
  first
    | exact ((Below.refl _ _).alloc (Nat.le_refl _) _).alloc (by simp) _
    | skip

set_option maxHeartbeats 1000000 in
set_option maxRecDepth 100000 in
theorem counted_none (q : Option Addr) (c : Nat) (w : World) : Calls Try.prog 107 #[.slice q 0 c] w fun e w' => ∃ m, e = .returned (.map m) ∧ Below w.heap.size w w' := by
  have hmm := @run_makeMap Try.prog
  go_enter Try.func107, Try.ntmps107
  go_wp2
  refine wp_loop_rounds 1 ?_
  rw [rounds_succ]; go_wp2
  go_ret
  exact ⟨_, rfl, (Below.refl _ _).alloc (Nat.le_refl _) _⟩
theorem cellC {w w1 w2 : World} (hb : Below w.heap.size w w1) (h2 : Below w1.heap.size w1 w2) : Below w.heap.size w w2 := hb.trans (h2.mono hb.size)
def nmB (a b : AEnt) : Bool := a.nm.toList == b.nm.toList
set_option maxHeartbeats 2000000 in
set_option maxRecDepth 100000 in
theorem alike_none (a b : AEnt) (w : World) (ha : a.n = 0) (hb : b.n = 0) : Calls Try.prog 97 #[entV a, entV b] w fun e w' => e = .returned (.bool (nmB a b)) ∧ Below w.heap.size w w' := by
  obtain ⟨am, ai, an, aq, al, ac⟩ := a
  obtain ⟨bm, bi, bn, bq, bl, bc⟩ := b
  dsimp only at ha hb
  subst ha hb
  unfold entV nmB
  dsimp only
  have C := hide (fun q c w => counted_none q c w)
  have hbb : Below w.heap.size w ((w.alloc (Obj.cells #[.bool am, .int .i64 ai, .string an, .slice aq 0 ac] 58)).alloc (Obj.cells #[.bool bm, .int .i64 bi, .string bn, .slice bq 0 bc] 58)) := ((Below.refl w.heap.size w).alloc (Nat.le_refl _) _).alloc (by simp) _
  have HB := hide hbb
  clear hbb
  cases hn : (an.toList == bn.toList) with
  | false =>
    go_enter Try.func97, Try.ntmps97
    go_wp2
    go_ret
    exact ⟨rfl, unhide HB⟩
  | true =>
    have kA : Hid (Blk ((w.alloc (Obj.cells #[.bool am, .int .i64 ai, .string an, .slice aq 0 ac] 58)).alloc (Obj.cells #[.bool bm, .int .i64 bi, .string bn, .slice bq 0 bc] 58)) w.heap.size #[.bool am, .int .i64 ai, .string an, .slice aq 0 ac] 58) := hide ((Blk.new w _ _).alloc _)
    have kB : Hid (Blk ((w.alloc (Obj.cells #[.bool am, .int .i64 ai, .string an, .slice aq 0 ac] 58)).alloc (Obj.cells #[.bool bm, .int .i64 bi, .string bn, .slice bq 0 bc] 58)) (w.heap.size + 1) #[.bool bm, .int .i64 bi, .string bn, .slice bq 0 bc] 58) := by
      have h1 := Blk.new (w.alloc (Obj.cells #[.bool am, .int .i64 ai, .string an, .slice aq 0 ac] 58)) #[.bool bm, .int .i64 bi, .string bn, .slice bq 0 bc] 58
      rw [show (w.alloc (Obj.cells #[.bool am, .int .i64 ai, .string an, .slice aq 0 ac] 58)).heap.size = w.heap.size + 1 by simp] at h1
      exact h1
    go_enter Try.func97, Try.ntmps97
    go_wp2
    generalize hW : ((w.alloc (Obj.cells #[.bool am, .int .i64 ai, .string an, .slice aq 0 ac] 58)).alloc (Obj.cells #[.bool bm, .int .i64 bi, .string bn, .slice bq 0 bc] 58)) = W at *
    have c3 : W.drew.cell? ⟨w.heap.size, 3, none⟩ = some (.slice aq 0 ac) := (unhide kA).cell 3
    have d3 : W.drew.cell? ⟨w.heap.size + 1, 3, none⟩ = some (.slice bq 0 bc) := (unhide kB).cell 3
    have HD : Hid (Below w.heap.size w W.drew) := (unhide HB).drew
    clear hW
    go_region_with (go_at_call 107; refine (unhide C _ _ _).mono ?_; rintro e w1 ⟨m, rfl, hb1⟩; have c3 := (hb1.cell (p := ⟨w.heap.size, 3, none⟩) (World.block_lt_of_cell? _ _ c3)).trans c3; have d3 := (hb1.cell (p := ⟨w.heap.size + 1, 3, none⟩) (World.block_lt_of_cell? _ _ d3)).trans d3; have HD := hide (cellC (unhide HD) hb1); clear hb1)
    all_goals (
      go_wp2
      refine wp_loop_rounds 1 ?_
      rw [rounds_succ]; go_wp2
      go_ret
      exact ⟨rfl, unhide HD⟩)
end Go.Proofs.Ytabajhbghjfhoaa
