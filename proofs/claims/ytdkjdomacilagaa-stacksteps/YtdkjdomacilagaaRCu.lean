/-
  The reference's cut and Pop.
-/
import Derived.Test.YtdkjdomacilagaaREn
namespace Go.Proofs.Ytdkjdomacilagaa
open Go.RowKit
set_option linter.unusedVariables false
set_option linter.unusedSimpArgs false

/-- A new row in the place of the elder one. -/
theorem rnew_close {base p n : Nat} {v v' : Value} {L L' : List Ent} {xs : List Value} {w w3 : World} (hs : RStk base p v L w) (hgr : w.grownBy w3 none) (hown : w3.ownsRow base 42 3 v' n xs) (hn : L'.length = n) (hx : flatE L' = xs) (hat : v'.ownBlock = none ∨ v'.ownBlock = some w.heap.size) (kb : Blk w3 p #[v] 30) :
    RUpd base p v L' w (w3.setCell ⟨p, 0, none⟩ v') := by
  have hp := hs.lt
  have hne : v'.ownBlock ≠ some p := by
    rcases hat with h | h
    · rw [h]; simp
    · rw [h]; simp; omega
  have hgr' : w.grownBy w3 v.ownBlock := ⟨hgr.os, hgr.tape, hgr.output, hgr.size, fun k hk _ => hgr.block k hk (by simp)⟩
  refine ⟨v', ⟨kb.set 0 (by simp) v', ?_, hne⟩, (Tch.of_grown hgr').set _ _, fun k hk => ?_⟩
  · rw [hn, hx]; exact ownsRow_away hown hne _
  · rcases hat with h | h
    · rw [h] at hk; cases hk
    · rw [h] at hk; cases hk; exact Or.inr (Nat.le_refl _)

theorem row_slice {w : World} {base size n : Nat} {e : TypeId} {v : Value} {xs : List Value} (h : w.ownsRow base e size v n xs) : ∃ q n' cap, v = .slice q n' cap := by
  rcases h.2 with ⟨rfl, _⟩ | ⟨g, cap, cur, rfl, _⟩
  · exact ⟨_, _, _, rfl⟩
  · exact ⟨_, _, _, rfl⟩
set_option maxHeartbeats 2000000 in
set_option maxRecDepth 100000 in
theorem rcut_any (base p n : Nat) (v : Value) (L : List Ent) (w : World) (h : RStk base p v L w) (hbase : base ≤ w.heap.size) (hN : L.length ≤ 1000000) (hn : n ≤ L.length) :
    Calls Try.prog 84 #[ptr p, .int .i64 (n : Int)] w fun e w' => e = .returned (.tuple #[]) ∧ RUpd base p v (L.take n) w w' := by
  obtain ⟨i0, hi0, hi1, hi2, hi3⟩ := infoR
  have H := hide h
  have c0 : w.cell? ⟨p, 0, none⟩ = some v := h.1.cell 0
  have f0 : w.frozen? ⟨p, 0, none⟩ = false := h.1.frozen 0
  rcases h.2.1.2 with ⟨rfl, h0⟩ | ⟨g, cap, cur, rfl, hb, hg, hc, hm, hcs, htk⟩
  · obtain rfl := List.eq_nil_of_length_eq_zero h0
    obtain rfl : n = 0 := by simpa using hn
    clear h
    unfold ptr
    go_enter Try.func84, Try.ntmps84
    go_wp2_with (at_builtin; refine wpList_append_own_none rfl _ _ 28 rfl base 42 i0 3 Try.underlying28 hi0 (.slice none 0 0) 0 [] rfl (World.ownsRow_nil _ _ _ _) rfl ?_)
    go_wp2
    refine bodyPost_end (v := .tuple #[]) (results_none Try.results84 _ _ _) rfl ?_
    exact ⟨rfl, rnew_close (unhide H) (grown_refl _ _) (World.ownsRow_nil _ _ _ _) rfl rfl (Or.inl rfl) (unhide H).1⟩
  · have hm' : cap ≤ 9223372036854775807 := by simp only [maxLen] at hm; omega
    have HC : Hid (∀ j u, (flatE (L.take n))[j]? = some u → w.cell? ((⟨g, 0, none⟩ : Addr).add j) = some u) := hide fun j u hj => by
      refine h.2.1.cells rfl j u ?_
      rw [← flatE_take L n hn, List.getElem?_take] at hj
      split at hj
      · exact hj
      · cases hj
    have HL : Hid ((flatE (L.take n)).length = n * 3) := hide (by rw [flatE_len, List.length_take, Nat.min_eq_left hn])
    have hnc : n ≤ cap := by omega
    have hnI : (n : Int) ≤ (cap : Int) := by omega
    have hn0 : (0 : Int) ≤ (n : Int) := by omega
    have HT : Hid ((L.take n).length = n) := hide (by rw [List.length_take, Nat.min_eq_left hn])
    have H1 := hide (flatE_one (L.take n))
    clear h hg hcs htk
    unfold ptr
    go_enter Try.func84, Try.ntmps84
    go_wp2_with (at_builtin; refine wpList_append_own_at _ rfl _ _ 28 rfl base 42 i0 (.agg #[.int .i64 0, .int .i64 0, .string ⟨#[]⟩]) 3 32 Try.underlying28 hi0 hi1 hi2 hi3 rfl (by decide) _ 0 [] rfl (World.ownsRow_nil _ _ _ _) ⟨g, 0, none⟩ n cap (flatE (L.take n)) rfl ?c1 (unhide HC) ?c2 ?c3 ?c4 ?c5 ?_)
    case c1 => exact unhide HL
    case c2 => exact unhide H1
    case c3 => simp only [maxLen]; omega
    case c4 => omega
    case c5 => exact hbase
    intro v' w1 hown' hgrow _ hat
    have kb : Blk w1 p #[.slice (some ⟨g, 0, none⟩) L.length cap] 30 := (hgrow.block p (unhide H).1.lt (by simp [Value.ownBlock])).trans (unhide H).1
    have d0 : w1.cell? ⟨p, 0, none⟩ = some (.slice (some ⟨g, 0, none⟩) L.length cap) := kb.cell 0
    have f1 : w1.frozen? ⟨p, 0, none⟩ = false := kb.frozen 0
    obtain ⟨q', n', cap', rfl⟩ := row_slice hown'
    go_wp2
    refine bodyPost_end (v := .tuple #[]) (results_none Try.results84 _ _ _) rfl ?_
    refine ⟨rfl, rnew_close (unhide H) hgrow hown' ?_ ?_ hat kb⟩
    · exact (unhide HT).trans (by omega)
    · simp

set_option maxHeartbeats 1000000 in
theorem rpop_any (base p : Nat) (v : Value) (L : List Ent) (w : World) (h : RStk base p v L w) (hbase : base ≤ w.heap.size) (hN : L.length ≤ 1000000) :
    Calls Try.prog 42 #[ptr p] w fun e w' => e = .returned (.bool (!(L.length == 0))) ∧ RUpd base p v (L.take (L.length - 1)) w w' := by
  have c0 : w.cell? ⟨p, 0, none⟩ = some v := h.1.cell 0
  by_cases h0 : L.length = 0
  · obtain rfl := List.eq_nil_of_length_eq_zero h0
    have H := hide (RUpd.same h (Below.refl _ _))
    obtain ⟨q, cap, rfl, _⟩ := h.slice
    rw [h0] at c0
    clear h
    unfold ptr
    go_enter Try.func42, Try.ntmps42
    go_wp2
    go_ret
    exact ⟨rfl, unhide H⟩
  · have C := hide (rcut_any base p (L.length - 1) v L w h hbase hN (by omega))
    obtain ⟨q, cap, rfl, hc, hm, _⟩ := h.slice
    have e1 : (L.length == 0) = false := beq_eq_false_iff_ne.2 h0
    have e2 : ((L.length : Int) == 0) = false := beq_eq_false_iff_ne.2 (by omega)
    have e3 : (((L.length - 1 : Nat)) : Int) = (L.length : Int) - 1 := by omega
    rw [e1]
    rw [e3] at C
    clear h
    generalize L.take (L.length - 1) = T at *
    generalize L.length = n at *
    unfold ptr at *
    go_enter Try.func42, Try.ntmps42
    go_wp2_with fail
    refine (unhide C).mono ?_
    rintro e w1 ⟨rfl, hu⟩
    have HU := hide hu
    clear hu
    go_wp2
    go_ret
    exact ⟨rfl, unhide HU⟩
end Go.Proofs.Ytdkjdomacilagaa
