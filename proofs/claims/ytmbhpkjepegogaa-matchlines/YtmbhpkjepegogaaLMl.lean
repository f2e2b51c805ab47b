/-
  The law MatchLines.
-/
import Derived.Test.YtmbhpkjepegogaaMRn
import Derived.Test.YtmbhpkjepegogaaMSm
import Derived.Deep.RegionWith
namespace Go.Proofs.Ytmbhpkjepegogaa
open Go.RowKit Go.Maps
set_option linter.unusedVariables false
set_option linter.unusedSimpArgs false

set_option maxHeartbeats 1000000 in
theorem matchLines_great (n m ca cb : Nat) (qa qb : Option Addr) (w : World) (h : 60 < n ∨ 60 < m) (hn : n ≤ 9223372036854775807) (hm : m ≤ 9223372036854775807) :
    Calls Try.prog 3 #[.slice qa n ca, .slice qb m cb] w fun e w' => e = .returned (.bool true) ∧ Below w.heap.size w w' := by
  have C := hide (lines_any w)
  by_cases h1 : 60 < n
  · have h1i : (60 : Int) < (n : Int) := by omega
    go_enter Try.func3, Try.ntmps3
    go_wp2_with fail
    refine (unhide C).mono ?_
    rintro e w1 ⟨rfl, hb⟩
    go_wp2
    go_ret
    exact ⟨rfl, hb⟩
  · have h1i : ¬ (60 : Int) < (n : Int) := by omega
    have h2 : 60 < m := by omega
    have h2i : (60 : Int) < (m : Int) := by omega
    go_enter Try.func3, Try.ntmps3
    go_wp2_with fail
    refine (unhide C).mono ?_
    rintro e w1 ⟨rfl, hb⟩
    go_wp2
    go_ret
    exact ⟨rfl, hb⟩

set_option maxHeartbeats 2000000 in
theorem matchLines_small (va vb : Value) (ss tt : List ByteArray) (w : World) (ha : View w va ss) (hb : View w vb tt) (h1 : ∀ k, k < ss.length → (tx ss k).size ≤ 9223372036854775807) (h2 : ∀ k, k < tt.length → (tx tt k).size ≤ 9223372036854775807) (hn : ss.length ≤ 60) (hm : tt.length ≤ 60) :
    Calls Try.prog 3 #[va, vb] w fun e w' => e = .returned (.bool true) ∧ Below w.heap.size w w' := by
  have C1 := hide (mline_any va vb ss tt w ha hb h1 h2 (by omega) (by omega))
  have C2 := hide (fun W hW => rline_any va vb ss tt W (view_below ha hW) (view_below hb hW) (by omega) (by omega))
  have hwl : (whP (lnP (eqT ss tt) ss.length tt.length 0 0)).length ≤ 1000000 := by
    unfold whP; rw [List.length_map]; have := lnP_small (eqT ss tt) ss.length tt.length 0 0; omega
  have CL := hide lines_any
  obtain ⟨a1, c1, rfl⟩ := view_slice ha
  obtain ⟨a2, c2, rfl⟩ := view_slice hb
  have g1 : ¬ (60 : Int) < (ss.length : Int) := by omega
  have g2 : ¬ (60 : Int) < (tt.length : Int) := by omega
  unfold LineSaid at C1
  unfold RLineSaid at C2
  generalize whP (lnP (eqT ss tt) ss.length tt.length 0 0) = L at *
  clear ha hb h1 h2
  go_enter Try.func3, Try.ntmps3
  go_wp2_with fail
  refine (unhide C1).mono ?_
  rintro e w1 ⟨u1, rfl, hp1, hb1⟩
  have P1 := owns_pr hp1
  obtain ⟨q1, k1, hu1, _⟩ := hp1.cells
  subst hu1
  go_wp2_with fail
  refine (unhide C2 w1 hb1).mono ?_
  rintro e w2 ⟨u2, rfl, hp2, hb2⟩
  have P2 := owns_pr hp2
  have P1' := P1.below hb2
  obtain ⟨q2, k2, hu2, _⟩ := P2
  subst hu2
  have CS := hide (same20_yes _ _ L w2 P1' (owns_pr hp2) hwl)
  have HB := hide (tr2 hb1 hb2)
  clear hp1 hp2 hb1 hb2 P1 P1' C1 C2
  go_wp2_with fail
  refine (unhide CS).mono ?_
  rintro e w3 ⟨rfl, hb3⟩
  have HB3 := hide (tr2 (unhide HB) hb3)
  clear hb3
  go_wp2_with fail
  refine (unhide CL _).mono ?_
  rintro e w4 ⟨rfl, hb4⟩
  go_wp2
  go_ret
  exact ⟨rfl, tr2 (unhide HB3) hb4⟩
theorem tx_smallL {ss : List ByteArray} (h : ∀ s ∈ ss, s.size ≤ 9223372036854775807) (k : Nat) (hk : k < ss.length) : (tx ss k).size ≤ 9223372036854775807 := h _ (getD_mem ss k hk)
theorem matchLines_walk (qa qb : Option Addr) (la lb ca cb : Nat) (ss tt : List ByteArray) (w : World) (ha : View w (.slice qa la ca) ss) (hb : View w (.slice qb lb cb) tt) (h1 : ∀ s ∈ ss, s.size ≤ 9223372036854775807) (h2 : ∀ s ∈ tt, s.size ≤ 9223372036854775807) :
    Calls Try.prog 3 #[.slice qa la ca, .slice qb lb cb] w fun e w' => e = .returned (.bool true) ∧ Below w.heap.size w w' := by
  have hla := ha.1
  have hlb := hb.1
  obtain ⟨a1, c1, e1⟩ := view_slice ha
  obtain ⟨a2, c2, e2⟩ := view_slice hb
  cases e1
  cases e2
  by_cases h : 60 < ss.length ∨ 60 < tt.length
  · exact matchLines_great _ _ _ _ _ _ w h hla hlb
  · exact matchLines_small _ _ ss tt w ha hb (tx_smallL h1) (tx_smallL h2) (by omega) (by omega)
end Go.Proofs.Ytmbhpkjepegogaa
