/-
  What 'rectoplain.Attrs' does: of every two lists of attributes, whether they are equal; it only reads.
-/
import Derived.Test.YtpfnjgkfombmpaaDoorMgA
import Derived.BigQuiet
namespace Go.Proofs.YtpfnjgkfombmpaaDoor
open Go.RowKit
set_option linter.unusedVariables false

def sameA (a b : List (ByteArray × ByteArray)) : Bool := decide (a = b)
theorem attrs_a0 (a b : Option Addr) (ca lb cb : Nat) (w : World) (hb : lb ≤ 9223372036854775807) :
    Calls Tryd.prog 63 #[.slice a 0 ca, .slice b lb cb] w fun e w' => e = .returned (.bool (((0 : Int) == (lb : Int)))) ∧ Below w.heap.size w w' := by
  go_enter Tryd.func63, Tryd.ntmps63
  go_wp2
  refine wp_loop_rounds 1 ?_
  rw [rounds_succ]; go_wp2
  go_ret
  exact ⟨rfl, Below.refl _ _⟩

set_option maxHeartbeats 400000 in
theorem attrs_b0 (x : Nat) (xo la ca : Nat) (b : Option Addr) (cb : Nat) (w : World) (h0 : 0 < la) (ha : la ≤ 9223372036854775807) :
    Calls Tryd.prog 63 #[.slice (some ⟨x, xo, none⟩) la ca, .slice b 0 cb] w fun e w' => e = .returned (.bool false) ∧ Below w.heap.size w w' := by
  have h1 : (0 : Int) < (la : Int) := by omega
  go_enter Tryd.func63, Tryd.ntmps63
  go_wp2
  refine wp_loop_rounds 1 ?_
  rw [rounds_succ]; go_wp2
  go_quiet (fail)
  go_wp2
  go_ret
  exact ⟨rfl, below_draws _ _⟩

theorem same_ats (a b : List (ByteArray × ByteArray)) (hl : a.length = b.length) (h : ∀ i, i < a.length → an a i = an b i ∧ av a i = av b i) : a = b := by
  apply List.ext_getElem hl
  intro i h1 h2
  obtain ⟨e1, e2⟩ := h i h1
  unfold an at e1
  unfold av at e2
  rw [List.getD, List.getD, List.getElem?_eq_getElem h1, List.getElem?_eq_getElem h2] at e1 e2
  exact Prod.ext e1 e2

set_option maxHeartbeats 2000000 in
theorem attrs_loop (x xo ca y yo cb : Nat) (ta tb : List (ByteArray × ByteArray)) (la lb : Nat) (w : World) (hla : Hid (ta.length = la)) (hlb : Hid (tb.length = lb)) (h0 : 0 < la) (h0b : 0 < lb) (ha : la ≤ 4398046511104) (hb : lb ≤ 4398046511104)
    (hx : Cells2 x xo ta w) (hy : Cells2 y yo tb w) :
    Calls Tryd.prog 63 #[.slice (some ⟨x, xo, none⟩) la ca, .slice (some ⟨y, yo, none⟩) lb cb] w fun e w' => e = .returned (.bool (sameA ta tb)) ∧ Below w.heap.size w w' := by
  have HX := hide hx
  have HY := hide hy
  clear hx hy
  go_enter Tryd.func63, Tryd.ntmps63
  go_wp2
  go_loopw [8] (fun i wr => ∃ k : Nat, k ≤ la ∧ i = .int .i64 k ∧ Below w.heap.size w wr ∧ (∀ j, j < k → j < lb ∧ an ta j = an tb j ∧ av ta j = av tb j)) (fun i _ => la - (intOf i).toNat)
  case atStart => exact ⟨0, Nat.zero_le _, rfl, Below.refl _ _, fun j h => by omega⟩
  case round =>
    obtain ⟨k, hk, rfl, hbw, hall⟩ := hrel
    have HA := hide hall
    have HB := hide hbw
    clear hall
    by_cases hlt : k < la
    · have hlti : (k : Int) < (la : Int) := by omega
      by_cases hkb : k < lb
      · have hkbi : (k : Int) < (lb : Int) := by omega
        have hg : decide ((lb : Int) ≤ (k : Int)) = false := by simp; omega
        obtain ⟨c1, c2⟩ := (unhide HX).below hbw k (by rw [unhide hla]; exact hlt)
        obtain ⟨c3, c4⟩ := (unhide HY).below hbw k (by rw [unhide hlb]; exact hkb)
        generalize hp1 : an ta k = p1 at *
        generalize hp2 : av ta k = p2 at *
        generalize hq1 : an tb k = q1 at *
        generalize hq2 : av tb k = q2 at *
        have HP := hide (And.intro hp1 (And.intro hp2 (And.intro hq1 hq2)))
        clear hp1 hp2 hq1 hq2 hbw
        by_cases e1 : p1 = q1
        · have f1 := beq_yes e1
          by_cases e2 : p2 = q2
          · have f2 := beq_yes e2
            have HE := hide (And.intro e1 e2)
            clear e1 e2
            go_wp2
            go_quiet (fail)
            go_wp2
            refine ⟨⟨k + 1, by omega, by go_num, _root_.Go.below_drewN (unhide HB) _, fun j hj => ?_⟩, by simp [intOf]; omega⟩
            by_cases hjk : j = k
            · subst hjk
              obtain ⟨r1, r2, r3, r4⟩ := unhide HP
              exact ⟨hkb, by rw [r1, r3]; exact (unhide HE).1, by rw [r2, r4]; exact (unhide HE).2⟩
            · exact unhide HA j (by omega)
          · have f2 := beq_no e2
            have HS : Hid (sameA ta tb = false) := hide (decide_eq_false fun h => e2 (by obtain ⟨r1, r2, r3, r4⟩ := unhide HP; rw [← r2, ← r4, h]))
            clear e1 e2
            go_wp2
            go_quiet (fail)
            go_wp2
            go_ret
            exact ⟨by rw [unhide HS]; rfl, _root_.Go.below_drewN (unhide HB) _⟩
        · have f1 := beq_no e1
          have HS : Hid (sameA ta tb = false) := hide (decide_eq_false fun h => e1 (by obtain ⟨r1, r2, r3, r4⟩ := unhide HP; rw [← r1, ← r3, h]))
          clear e1
          go_wp2
          go_quiet (fail)
          go_wp2
          go_ret
          exact ⟨by rw [unhide HS]; rfl, _root_.Go.below_drewN (unhide HB) _⟩
      · have hg : decide ((lb : Int) ≤ (k : Int)) = true := by simp; omega
        have HS : Hid (sameA ta tb = false) := hide (decide_eq_false (by intro e; have := congrArg List.length e; rw [unhide hla, unhide hlb] at this; omega))
        clear hbw
        go_wp2
        go_quiet (fail)
        go_wp2
        go_ret
        exact ⟨by rw [unhide HS]; rfl, _root_.Go.below_drewN (unhide HB) _⟩
    · have hs : sameA ta tb = ((la : Int) == (lb : Int)) := by
        by_cases e : la = lb
        · rw [sameA, decide_eq_true (same_ats ta tb (by rw [unhide hla, unhide hlb]; exact e) (fun i hi => (unhide HA i (by rw [unhide hla] at hi; omega)).2))]
          simp [e]
        · rw [sameA, decide_eq_false (by intro e'; have := congrArg List.length e'; rw [unhide hla, unhide hlb] at this; exact e this)]
          symm; apply beq_eq_false_iff_ne.2; omega
      have HS := hide hs
      clear hs
      go_wp2
      go_ret
      exact ⟨by rw [unhide HS]; rfl, hbw⟩

theorem attrs_any (qa qb : Option Addr) (ca cb : Nat) (ta tb : List (ByteArray × ByteArray)) (w : World) (ha : Sl qa ta w) (hb : Sl qb tb w) (la : ta.length ≤ 4398046511104) (lb : tb.length ≤ 4398046511104) :
    Calls Tryd.prog 63 #[.slice qa ta.length ca, .slice qb tb.length cb] w fun e w' => e = .returned (.bool (sameA ta tb)) ∧ Below w.heap.size w w' := by
  rcases ha with rfl | ⟨x, xo, rfl, hx⟩
  · have : sameA [] tb = ((0 : Int) == (tb.length : Int)) := by
      cases tb with
      | nil => rfl
      | cons a l => rw [sameA, decide_eq_false (by simp)]; symm; apply beq_eq_false_iff_ne.2; simp; omega
    rw [this]
    exact attrs_a0 qa qb ca tb.length cb w (by omega)
  · by_cases h0 : ta.length = 0
    · have e0 : ta = [] := List.eq_nil_of_length_eq_zero h0
      subst e0
      have : sameA [] tb = ((0 : Int) == (tb.length : Int)) := by
        cases tb with
        | nil => rfl
        | cons a l => rw [sameA, decide_eq_false (by simp)]; symm; apply beq_eq_false_iff_ne.2; simp; omega
      rw [this]
      exact attrs_a0 _ qb ca tb.length cb w (by omega)
    rcases hb with rfl | ⟨y, yo, rfl, hy⟩
    · rw [sameA, decide_eq_false (by intro e; rw [e] at h0; exact h0 rfl)]
      exact attrs_b0 x xo _ ca qb cb w (by omega) (by omega)
    · by_cases h1 : tb.length = 0
      · rw [sameA, decide_eq_false (by intro e; rw [e] at h0; exact h0 h1), h1]
        exact attrs_b0 x xo _ ca _ cb w (by omega) (by omega)
      · exact attrs_loop x xo ca y yo cb ta tb _ _ w (hide rfl) (hide rfl) (by omega) (by omega) la lb hx hy
end Go.Proofs.YtpfnjgkfombmpaaDoor
