/-
  What 'chars.Space' and the reference's do: of each byte, whether it is a space.
-/
import Derived.Test.YtfbgpodcdgmpjaaCKr
namespace Go.Proofs.Ytfbgpodcdgmpjaa
open Go.RowKit
set_option linter.unusedVariables false

theorem space_any : ByteIs 35 spN := by
  intro b w
  by_cases h0 : b = 9
  · subst h0
    go_enter Try.func35, Try.ntmps35
    go_wp2
    go_ret
    exact ⟨rfl, rfl⟩
  have e0 : ((b : Int) == 9) = false := bneI (by omega)
  by_cases h1 : b = 10
  · subst h1
    go_enter Try.func35, Try.ntmps35
    go_wp2
    go_ret
    exact ⟨rfl, rfl⟩
  have e1 : ((b : Int) == 10) = false := bneI (by omega)
  by_cases h2 : b = 12
  · subst h2
    go_enter Try.func35, Try.ntmps35
    go_wp2
    go_ret
    exact ⟨rfl, rfl⟩
  have e2 : ((b : Int) == 12) = false := bneI (by omega)
  by_cases h3 : b = 32
  · subst h3
    go_enter Try.func35, Try.ntmps35
    go_wp2
    go_ret
    exact ⟨rfl, rfl⟩
  have e3 : ((b : Int) == 32) = false := bneI (by omega)
  rw [spN_no (by omega)]
  clear h0 h1 h2 h3
  go_enter Try.func35, Try.ntmps35
  go_wp2
  go_ret
  exact ⟨rfl, rfl⟩

theorem rspace_any : ByteIs 25 spN := by
  intro b w
  by_cases h0 : b = 9
  · subst h0
    go_enter Try.func25, Try.ntmps25
    go_wp2
    go_ret
    exact ⟨rfl, rfl⟩
  have e0 : ((b : Int) == 9) = false := bneI (by omega)
  by_cases h1 : b = 10
  · subst h1
    go_enter Try.func25, Try.ntmps25
    go_wp2
    go_ret
    exact ⟨rfl, rfl⟩
  have e1 : ((b : Int) == 10) = false := bneI (by omega)
  by_cases h2 : b = 12
  · subst h2
    go_enter Try.func25, Try.ntmps25
    go_wp2
    go_ret
    exact ⟨rfl, rfl⟩
  have e2 : ((b : Int) == 12) = false := bneI (by omega)
  by_cases h3 : b = 32
  · subst h3
    go_enter Try.func25, Try.ntmps25
    go_wp2
    go_ret
    exact ⟨rfl, rfl⟩
  have e3 : ((b : Int) == 32) = false := bneI (by omega)
  rw [spN_no (by omega)]
  clear h0 h1 h2 h3
  go_enter Try.func25, Try.ntmps25
  go_wp2
  go_ret
  exact ⟨rfl, rfl⟩

end Go.Proofs.Ytfbgpodcdgmpjaa
