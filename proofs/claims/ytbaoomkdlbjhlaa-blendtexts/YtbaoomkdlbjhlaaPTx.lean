/-
  What 'rectoplain.Texts' does: of every two lists of texts, whether they are equal; it only reads.
-/
import Derived.Test.YtbaoomkdlbjhlaaVw
namespace Go.Proofs.Ytbaoomkdlbjhlaa
open Go.RowKit
set_option linter.unusedVariables false

theorem texts_a0 (a b : Option Addr) (ca lb cb : Nat) (w : World) (hb : lb ≤ 9223372036854775807) :
    Calls Try.prog 14 #[.slice a 0 ca, .slice b lb cb] w fun e w' => e = .returned (.bool (((0 : Int) == (lb : Int)))) ∧ Below w.heap.size w w' := by
  go_enter Try.func14, Try.ntmps14
  go_wp2
  refine wp_loop_rounds 1 ?_
  rw [rounds_succ]; go_wp2
  go_ret
  exact ⟨rfl, Below.refl _ _⟩

set_option maxHeartbeats 400000 in
theorem texts_b0 (x : Nat) (xo la ca : Nat) (b : Option Addr) (cb : Nat) (w : World) (h0 : 0 < la) (ha : la ≤ 9223372036854775807) :
    Calls Try.prog 14 #[.slice (some ⟨x, xo, none⟩) la ca, .slice b 0 cb] w fun e w' => e = .returned (.bool false) ∧ Below w.heap.size w w' := by
  have h1 : (0 : Int) < (la : Int) := by omega
  go_enter Try.func14, Try.ntmps14
  go_wp2
  refine wp_loop_rounds 1 ?_
  rw [rounds_succ]; go_wp2
  go_quiet (fail)
  go_wp2
  go_ret
  exact ⟨rfl, below_draws _ _⟩

set_option maxHeartbeats 400000 in
theorem texts_loop (x xo ca y yo cb : Nat) (ta tb : List ByteArray) (la lb : Nat) (w : World) (hla : Hid (ta.length = la)) (hlb : Hid (tb.length = lb)) (h0 : 0 < la) (h0b : 0 < lb) (ha : la ≤ 9223372036854775807) (hb : lb ≤ 9223372036854775807)
    (hx : ∀ i, i < la → w.cell? ⟨x, xo + i, none⟩ = some (.string (ta.getD i ByteArray.empty))) (hy : ∀ i, i < lb → w.cell? ⟨y, yo + i, none⟩ = some (.string (tb.getD i ByteArray.empty))) :
    Calls Try.prog 14 #[.slice (some ⟨x, xo, none⟩) la ca, .slice (some ⟨y, yo, none⟩) lb cb] w fun e w' => e = .returned (.bool (sameT ta tb)) ∧ Below w.heap.size w w' := by
  have HX := hide hx
  have HY := hide hy
  clear hx hy
  go_enter Try.func14, Try.ntmps14
  go_wp2
  go_loopw [8] (fun i wr => ∃ k : Nat, k ≤ la ∧ i = .int .i64 k ∧ Below w.heap.size w wr ∧ (∀ j, w.cell? j = wr.cell? j) ∧ (∀ j, j < k → j < lb ∧ ta.getD j ByteArray.empty = tb.getD j ByteArray.empty)) (fun i _ => la - (intOf i).toNat)
  case atStart => exact ⟨0, Nat.zero_le _, rfl, Below.refl _ _, fun _ => rfl, fun j h => by omega⟩
  case round =>
    obtain ⟨k, hk, rfl, hbw, hcw, hall⟩ := hrel
    have HC := hide hcw
    have HA := hide hall
    clear hcw hall
    by_cases hlt : k < la
    · have hlti : (k : Int) < (la : Int) := by omega
      by_cases hkb : k < lb
      · have hkbi : (k : Int) < (lb : Int) := by omega
        have hg : decide ((lb : Int) ≤ (k : Int)) = false := by simp; omega
        obtain ⟨p, hp⟩ : ∃ p, p = ta.getD k ByteArray.empty := ⟨_, rfl⟩
        obtain ⟨q, hq⟩ : ∃ q, q = tb.getD k ByteArray.empty := ⟨_, rfl⟩
        have c1 : wr.cell? ⟨x, xo + k, none⟩ = some (.string p) := by rw [← unhide HC, hp]; exact unhide HX k hlt
        have c2 : wr.cell? ⟨y, yo + k, none⟩ = some (.string q) := by rw [← unhide HC, hq]; exact unhide HY k hkb
        have HP := hide hp
        have HQ := hide hq
        clear hp hq
        by_cases hpq : p = q
        · have hpq' := beq_yes hpq
          have HE := hide hpq
          clear hpq
          go_wp2
          go_quiet (fail)
          go_wp2
          go_roundw
          case rel => exact ⟨k + 1, by omega, by go_num, below_drewN hbw _, unhide HC, by
            intro j hj
            by_cases hjk : j = k
            · subst hjk; exact ⟨hkb, by rw [← unhide HP, ← unhide HQ]; exact unhide HE⟩
            · exact unhide HA j (by omega)⟩
          case measure => simp [intOf]; omega
        · have hpq' := beq_no hpq
          have hs : sameT ta tb = false := sameT_false (by intro e; apply hpq; rw [unhide HP, unhide HQ, e])
          have HS := hide hs
          clear hpq hs
          go_wp2
          go_quiet (fail)
          go_wp2
          go_ret
          exact ⟨by rw [unhide HS]; rfl, below_drewN hbw _⟩
      · have hg : decide ((lb : Int) ≤ (k : Int)) = true := by simp; omega
        have hs : sameT ta tb = false := sameT_false (by intro e; have := congrArg List.length e; rw [unhide hla, unhide hlb] at this; omega)
        have HS := hide hs
        clear hs
        go_wp2
        go_quiet (fail)
        go_wp2
        go_ret
        exact ⟨by rw [unhide HS]; rfl, below_drewN hbw _⟩
    · have hs : sameT ta tb = ((la : Int) == (lb : Int)) := by
        by_cases e : la = lb
        · rw [sameT_true (same_of ta tb (by rw [unhide hla, unhide hlb]; exact e) (fun i hi => (unhide HA i (by rw [unhide hla] at hi; omega)).2))]
          simp [e]
        · rw [sameT_false (by intro e'; have := congrArg List.length e'; rw [unhide hla, unhide hlb] at this; exact e this)]
          symm; apply beq_eq_false_iff_ne.2; omega
      have HS := hide hs
      clear hs
      go_wp2
      go_ret
      exact ⟨by rw [unhide HS]; rfl, hbw⟩

theorem texts_any (va vb : Value) (ta tb : List ByteArray) (w : World) (ha : View w va ta) (hb : View w vb tb) :
    Calls Try.prog 14 #[va, vb] w fun e w' => e = .returned (.bool (sameT ta tb)) ∧ Below w.heap.size w w' := by
  obtain ⟨la, a, ca, rfl, ha⟩ := ha
  obtain ⟨lb, b, cb, rfl, hb⟩ := hb
  by_cases h0 : ta.length = 0
  · have e0 : ta = [] := List.eq_nil_of_length_eq_zero h0
    have : sameT ta tb = ((0 : Int) == (tb.length : Int)) := by
      by_cases e : tb.length = 0
      · rw [e0, List.eq_nil_of_length_eq_zero e]; rfl
      · rw [sameT_false (by intro e'; rw [← e'] at e; exact e h0)]
        symm; apply beq_eq_false_iff_ne.2; omega
    rw [this, h0]
    exact texts_a0 a b ca tb.length cb w lb
  · obtain ⟨x, xo, rfl, hx⟩ := ha (by omega)
    by_cases h1 : tb.length = 0
    · rw [sameT_false (by intro e; rw [e] at h0; exact h0 h1), h1]
      exact texts_b0 x xo _ ca b cb w (by omega) la
    · obtain ⟨y, yo, rfl, hy⟩ := hb (by omega)
      exact texts_loop x xo ca y yo cb ta tb _ _ w (hide rfl) (hide rfl) (by omega) (by omega) la lb hx hy
end Go.Proofs.Ytbaoomkdlbjhlaa
