/-
  'tree.Depth': 'tree.walk' under its closure (made by mk_ywd.py).
-/
import Derived.Test.YtpfnjgkfombmpaaDoorYWl
namespace Go.Proofs.YtpfnjgkfombmpaaDoor
open Go.RowKit
set_option linter.unusedVariables false

/-! ### tree.counts, tree.Depth -/
def countsB (k : Int) : Bool := k != 2 && k != 3
theorem counts_any (k : Int) (g o : Nat) (w : World) (c0 : w.cell? ⟨g, o, none⟩ = some (.int .i64 k)) :
    Calls Tryd.prog 103 #[.pointer (some ⟨g, o, none⟩)] w fun e w' => e = .returned (.bool (countsB k)) ∧ w' = w := by
  unfold countsB
  by_cases h2 : k = 2
  · subst h2
    go_enter Tryd.func103, Tryd.ntmps103
    go_wp2
    go_ret
    exact ⟨rfl, rfl⟩
  go_enter Tryd.func103, Tryd.ntmps103
  go_wp2
  go_ret
  exact ⟨rfl, rfl⟩
def depStep (m : Nat) (it : Item) : Nat × Bool := (if countsB it.k = true then max m it.d else m, true)
def DepAt (G m : Nat) (w : World) : Prop := Blk w G #[.int .i64 (m : Int)] 3
end Go.Proofs.YtpfnjgkfombmpaaDoor
