/-
  What the reference's Again, Special and Ends do.
-/
import Derived.Test.YtdkjdomacilagaaGTs
namespace Go.Proofs.Ytdkjdomacilagaa
open Go.RowKit
set_option linter.unusedVariables false

set_option maxHeartbeats 1000000 in
theorem ragain_any (sp : Int) (s : ByteArray) (w : World) :
    Calls Try.prog 106 #[.int .i64 sp, .string s] w fun e w' => e = .returned (.int .i64 (againN sp s.toList)) ∧ Below w.heap.size w w' := by
  have C1 := hide (fun v w h => in_any s v mathNs w h)
  have C2 := hide (fun v w h => in_any s v svgNs w h)
  unfold againN
  by_cases h2 : sp = 2
  · subst h2
    generalize inB s.toList mathNs = b at *
    cases b with
    | true =>
      go_enter Try.func106, Try.ntmps106
      go_wp2_with fail
      refine (unhide C1 _ _ (view_lit w mathNs _ (by decide) _ rfl)).mono ?_
      rintro e w2 ⟨rfl, hb2⟩
      go_wp2
      go_ret
      exact ⟨rfl, bel_of hb2⟩
    | false =>
      go_enter Try.func106, Try.ntmps106
      go_wp2_with fail
      refine (unhide C1 _ _ (view_lit w mathNs _ (by decide) _ rfl)).mono ?_
      rintro e w2 ⟨rfl, hb2⟩
      go_wp2
      go_ret
      exact ⟨rfl, bel_of hb2⟩
  have e2 : (sp == 2) = false := beq_eq_false_iff_ne.2 h2
  rw [e2, Bool.false_and]
  by_cases h1 : sp = 1
  · subst h1
    generalize inB s.toList svgNs = b at *
    cases b with
    | true =>
      go_enter Try.func106, Try.ntmps106
      go_wp2_with fail
      refine (unhide C2 _ _ (view_lit w svgNs _ (by decide) _ rfl)).mono ?_
      rintro e w2 ⟨rfl, hb2⟩
      go_wp2
      go_ret
      exact ⟨rfl, bel_of hb2⟩
    | false =>
      go_enter Try.func106, Try.ntmps106
      go_wp2_with fail
      refine (unhide C2 _ _ (view_lit w svgNs _ (by decide) _ rfl)).mono ?_
      rintro e w2 ⟨rfl, hb2⟩
      go_wp2
      go_ret
      exact ⟨rfl, bel_of hb2⟩
  have e1 : (sp == 1) = false := beq_eq_false_iff_ne.2 h1
  rw [e1, Bool.false_and]
  clear h1 h2
  go_enter Try.func106, Try.ntmps106
  go_wp2
  go_ret
  exact ⟨rfl, Below.refl _ _⟩

set_option maxHeartbeats 1000000 in
theorem rends_any (sp : Int) (s : ByteArray) (w : World) :
    Calls Try.prog 89 #[.int .i64 sp, .string s] w fun e w' => e = .returned (.bool (endB sp s.toList)) ∧ Below w.heap.size w w' := by
  have C1 := hide (ragain_any sp s)
  have C2 := hide (fun v w h => in_any s v endNs w h)
  unfold endB
  generalize againN sp s.toList = n at *
  by_cases hn : n = 0
  · subst hn
    by_cases h0 : sp = 0
    · subst h0
      go_enter Try.func89, Try.ntmps89
      go_wp2_with fail
      refine (unhide C1 _).mono ?_
      rintro e w1 ⟨rfl, hb1⟩
      go_wp2_with fail
      refine (unhide C2 _ _ (view_lit w1 endNs _ (by decide) _ rfl)).mono ?_
      rintro e w2 ⟨rfl, hb2⟩
      go_wp2
      go_ret
      exact ⟨rfl, tr2 hb1 (bel_of hb2)⟩
    · have h1 : (sp == 0) = false := beq_eq_false_iff_ne.2 h0
      rw [h1, Bool.false_and]
      clear h0
      go_enter Try.func89, Try.ntmps89
      go_wp2_with fail
      refine (unhide C1 _).mono ?_
      rintro e w1 ⟨rfl, hb1⟩
      go_wp2
      go_ret
      exact ⟨rfl, hb1⟩
  · have h1 : (n != 0) = true := by simp [hn]
    rw [h1, Bool.true_or]
    have h2 : (n == 0) = false := beq_eq_false_iff_ne.2 hn
    clear h1
    go_enter Try.func89, Try.ntmps89
    go_wp2_with fail
    refine (unhide C1 _).mono ?_
    rintro e w1 ⟨rfl, hb1⟩
    go_wp2
    go_ret
    exact ⟨rfl, hb1⟩
end Go.Proofs.Ytdkjdomacilagaa
