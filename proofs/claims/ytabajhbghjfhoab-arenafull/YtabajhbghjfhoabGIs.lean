/-
  What an arena's inside does: from parent to parent.
-/
import Derived.Test.YtabajhbghjfhoabGEl
import Derived.Deep.LoopGhost
namespace Go.Proofs.Ytabajhbghjfhoab
open Go.RowKit
set_option linter.unusedVariables false
set_option linter.unusedSimpArgs false

/-- From parent to parent: met, or come to an end, within so many steps. -/
def insF (L : List NEnt) (j : Int) : Nat → Int → Option Bool
  | 0, _ => none
  | f + 1, i => if (i == j) = true then some true else if hasPr L i = true then insF L j f (prOf L i) else some false
set_option maxHeartbeats 4000000 in
theorem inside_no (base p : Nat) (v : Value) (L : List NEnt) (i j : Int) (f : Nat) (w : World) (h : Arn base p v L w) (hf : insF L j f i = some false) :
    Calls Try.prog 47 #[ptr p, .int .i64 i, .int .i64 j] w fun e w' => e = .returned (.bool false) ∧ w' = w := by
  have C := hide (fun i => parent_any base p v L i w h)
  have HF := hide hf
  clear h hf
  unfold ptr at *
  go_enter Try.func47, Try.ntmps47
  go_wp2_with fail
  go_step3
  go_wp2_with fail
  go_loopg [1] f (fun gk x wr => ∃ i' : Int, x = .int .i64 i' ∧ insF L j gk i' = some false ∧ wr = w)
  case atStart => exact ⟨i, rfl, unhide HF, rfl⟩
  case round =>
    obtain ⟨i', rfl, hi, hw⟩ := hrel
    subst hw
    cases gk with
    | zero => simp [insF] at hi
    | succ g =>
      rw [insF] at hi
      by_cases e1 : (i' == j) = true
      · rw [if_pos e1] at hi
        cases hi
      · rw [if_neg e1] at hi
        have e2 : (i' == j) = false := by simpa using e1
        have C1 := hide (unhide C i')
        by_cases e3 : hasPr L i' = true
        · rw [if_pos e3] at hi
          rw [e3] at C1
          have HI := hide hi
          generalize prOf L i' = pp at *
          clear e1 hi e3
          go_wp2_with fail
          refine (unhide C1).mono ?_
          rintro r w1 ⟨rfl, hw1⟩
          subst hw1
          go_wp2
          go_roundg g
          case rel => exact ⟨pp, rfl, unhide HI, rfl⟩
          case measure => omega
        · rw [if_neg e3] at hi
          have e4 : hasPr L i' = false := by simpa using e3
          rw [e4] at C1
          generalize prOf L i' = pp at *
          clear e1 e3 e4
          go_wp2_with fail
          refine (unhide C1).mono ?_
          rintro r w1 ⟨rfl, hw1⟩
          subst hw1
          go_wp2
          try rw [Exit.noGoto_ret]
          go_ret
          exact ⟨rfl, rfl⟩
end Go.Proofs.Ytabajhbghjfhoab
