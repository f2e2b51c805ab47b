/-
  What 'utf.isWrong' and 'utf.Right' do.
-/
import Derived.Test.YtakjlolmmoladaaDoorUFst
namespace Go.Proofs.YtakjlolmmoladaaDoor
open Go.RowKit
set_option linter.unusedVariables false

theorem wrong_yes (w : World) : Calls Tryd.prog 18 #[.int .i64 65533, .int .i64 1] w fun e w' => e = .returned (.bool true) ∧ w' = w := by
  go_enter Tryd.func18, Tryd.ntmps18
  go_wp2
  go_ret
  exact ⟨rfl, rfl⟩
theorem wrong_no (c : Int) (n : Nat) (w : World) (h : sz c = n) : Calls Tryd.prog 18 #[.int .i64 c, .int .i64 n] w fun e w' => e = .returned (.bool false) ∧ w' = w := by
  by_cases hc : c = 65533
  · subst hc
    have hn : n = 3 := by rw [← h]; rfl
    subst hn
    clear h
    go_enter Tryd.func18, Tryd.ntmps18
    go_wp2
    go_ret
    exact ⟨rfl, rfl⟩
  · have hb : (c == 65533) = false := beq_eq_false_iff_ne.2 hc
    clear hc h
    go_enter Tryd.func18, Tryd.ntmps18
    go_wp2
    go_ret
    exact ⟨rfl, rfl⟩

def WrongIs (c : Int) (n : Nat) (b : Bool) : Prop := ∀ w, Calls Tryd.prog 18 #[.int .i64 c, .int .i64 n] w fun e w' => e = .returned (.bool b) ∧ w' = w
theorem wrongIs {l : List UInt8} (hl : l ≠ []) : WrongIs (step l).1 (step l).2.1 (!(step l).2.2) := by
  intro w
  cases h : (step l).2.2 with
  | false =>
    have := step_no h
    rw [this.1, this.2]; exact wrong_yes w
  | true => exact wrong_no _ _ w (step_take hl h).2

end Go.Proofs.YtakjlolmmoladaaDoor
