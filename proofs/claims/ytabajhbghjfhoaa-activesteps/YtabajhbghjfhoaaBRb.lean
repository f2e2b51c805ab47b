/-
  The reference's Add at any list.
-/
import Derived.Test.YtabajhbghjfhoaaBRa
namespace Go.Proofs.Ytabajhbghjfhoaa
open Go.RowKit
set_option linter.unusedVariables false
set_option linter.unusedSimpArgs false

set_option maxHeartbeats 1000000 in
theorem radd_wrong (q : Value) (x : AEnt) (w : World) (hx : isElB x = false) :
    Calls Try.prog 56 #[q, entV x] w fun e w' => e = .returned (.int .i64 1) ∧ Below w.heap.size w w' := by
  obtain ⟨xm, xi, xn, xq, xl, xc⟩ := x
  have CW := hide (fun W => rwrong_any ⟨xm, xi, xn, xq, xl, xc⟩ W)
  rw [hx] at CW
  clear hx
  try unfold ptr at *
  unfold entV at *
  dsimp only at *
  go_enter Try.func56, Try.ntmps56
  go_wp2_with fail
  refine (unhide CW _).mono ?_
  rintro e w1 ⟨rfl, hb1⟩
  go_wp2
  go_ret
  exact ⟨rfl, bel_of hb1⟩
set_option maxHeartbeats 1000000 in
theorem radd_full (p n cap : Nat) (q : Option Addr) (x : AEnt) (w : World) (hx : isElB x = true) (hn : 100 ≤ n) (hc : Hid (∀ W, Below w.heap.size w W → W.cell? ⟨p, 0, none⟩ = some (.slice q n cap))) :
    Calls Try.prog 56 #[ptr p, entV x] w fun e w' => e = .returned (.int .i64 5) ∧ Below w.heap.size w w' := by
  have hn1 : (99 : Int) < (n : Int) := by omega
  obtain ⟨xm, xi, xn, xq, xl, xc⟩ := x
  have CW := hide (fun W => rwrong_any ⟨xm, xi, xn, xq, xl, xc⟩ W)
  rw [hx] at CW
  clear hx
  try unfold ptr at *
  unfold entV at *
  dsimp only at *
  go_enter Try.func56, Try.ntmps56
  go_wp2_with fail
  refine (unhide CW _).mono ?_
  rintro e w1 ⟨rfl, hb1⟩
  have c0 := unhide hc w1 (bel_of hb1)
  have HB := hide (bel_of hb1)
  clear hb1
  go_wp2
  go_ret
  exact ⟨rfl, unhide HB⟩
set_option maxHeartbeats 2000000 in
theorem radd_zero (base p cap : Nat) (q : Option Addr) (x : AEnt) (w : World) (h : RStk base p (.slice q 0 cap) [] w) (hbase : base ≤ w.heap.size) (hx : isElB x = true) :
    Calls Try.prog 56 #[ptr p, entV x] w fun e w' => e = .returned (.int .i64 0) ∧ RUpd base p (.slice q 0 cap) [x] w w' := by
  have H := hide h
  have PU := hide (fun W (hW : Below w.heap.size w W) => rput_any base p 0 (.slice q 0 cap) x [] W (h.later hW) (Nat.le_trans hbase hW.size) (by simp) (by simp))
  simp only [List.take_nil, List.drop_nil, List.nil_append, List.append_nil] at PU
  rw [show ((0 : Nat) : Int) = 0 from rfl] at PU
  clear h
  obtain ⟨xm, xi, xn, xq, xl, xc⟩ := x
  have CW := hide (fun W => rwrong_any ⟨xm, xi, xn, xq, xl, xc⟩ W)
  rw [hx] at CW
  clear hx
  try unfold ptr at *
  unfold entV at *
  dsimp only at *
  go_enter Try.func56, Try.ntmps56
  go_wp2_with fail
  refine (unhide CW _).mono ?_
  rintro e w1 ⟨rfl, hb1⟩
  have HB := hide (bel_of hb1)
  have K1 := hide ((Blk.new w #[.bool xm, .int .i64 xi, .string xn, .slice xq xl xc] 65).later hb1)
  have c0 : w1.cell? ⟨p, 0, none⟩ = some (.slice q 0 cap) := ((unhide H).later (unhide HB)).1.cell 0
  have x0 : w1.cell? ⟨w.heap.size, 0, none⟩ = some (.bool xm) := (unhide K1).cell 0
  have x1 : w1.cell? ⟨w.heap.size, 1, none⟩ = some (.int .i64 xi) := (unhide K1).cell 1
  have x2 : w1.cell? ⟨w.heap.size, 2, none⟩ = some (.string xn) := (unhide K1).cell 2
  have x3 : w1.cell? ⟨w.heap.size, 3, none⟩ = some (.slice xq xl xc) := (unhide K1).cell 3
  clear hb1
  go_wp2
  refine wp_loop_rounds 1 ?_
  rw [rounds_succ]; go_wp2
  go_region_with (go_at_call 92; refine (unhide PU _ (tr2 (unhide HB) (below_draws w1 1))).mono ?_; rintro e w4 ⟨rfl, hu⟩; have HU := hide hu; clear hu)
  all_goals (
    go_wp2
    go_ret
    exact ⟨rfl, RUpd.ahead (tr2 (unhide HB) (below_draws w1 1)) (unhide HU)⟩)
def raddR (x : AEnt) (n : Nat) : Int := if isElB x = false then 1 else if 100 ≤ n then 5 else 0
def raddL (f : Nat → Bool) (x : AEnt) (L : List AEnt) : List AEnt := if isElB x = false then L else if 100 ≤ L.length then L else addG f (lastE (fun x => x.mr) L + 1) L x
theorem radd_any (base p : Nat) (v : Value) (x : AEnt) (f : Nat → Bool) (L : List AEnt) (w : World) (h : RStk base p v L w) (hbase : base ≤ w.heap.size)
    (hf : Hid (∀ k, k < L.length → ∀ W, Below w.heap.size w W → Calls Try.prog 34 #[entV (L.getD k e0), entV x] W fun e w' => e = .returned (.bool (f k)) ∧ Below W.heap.size W w')) :
    Calls Try.prog 56 #[ptr p, entV x] w fun e w' => e = .returned (.int .i64 (raddR x L.length)) ∧ RUpd base p v (raddL f x L) w w' := by
  unfold raddR raddL
  obtain ⟨q, cap, hv, hc, hm, hg⟩ := h.slice
  cases hx : isElB x with
  | false =>
    rw [if_pos rfl, if_pos rfl]
    refine (radd_wrong (ptr p) x w hx).mono ?_
    rintro e w1 ⟨rfl, hb⟩
    exact ⟨rfl, RUpd.same h hb⟩
  | true =>
    have ht : ¬ (true = false) := by simp
    rw [if_neg ht, if_neg ht]
    by_cases hl : 100 ≤ L.length
    · rw [if_pos hl, if_pos hl]
      refine (radd_full p L.length cap q x w hx hl (hide fun W hW => ((h.later hW).1.cell 0).trans (by rw [hv]; rfl))).mono ?_
      rintro e w1 ⟨rfl, hb⟩
      exact ⟨rfl, RUpd.same h hb⟩
    · rw [if_neg hl, if_neg hl]
      subst hv
      by_cases h0 : L.length = 0
      · obtain rfl := List.eq_nil_of_length_eq_zero h0
        exact radd_zero base p cap q x w h hbase hx
      · obtain ⟨g, rfl, hgl⟩ := hg (by omega)
        obtain ⟨xm, xi, xn, xq, xl, xc⟩ := x
        exact radd_loop base g cap p xm xi xn xq xl xc f L L.length _ w (hide rfl) (by omega) (by omega) h hbase rfl hx hf
end Go.Proofs.Ytabajhbghjfhoaa
