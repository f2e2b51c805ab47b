/-
  What 'rectolaw03.ends' does: it answers true.
-/
import Derived.Test.YtgdhnpjblnhjmaaDoorCRd
import Derived.Test.YtgdhnpjblnhjmaaDoorCTr
namespace Go.Proofs.YtgdhnpjblnhjmaaDoor
open Go.RowKit
set_option linter.unusedVariables false

theorem bsame (t : Bool) : (t == t) = true := by cases t <;> rfl
theorem ssame (x : ByteArray) : (x.toList == x.toList) = true := by simp

def Ends : Prop := ∀ w, Tabs w → Calls Tryd.prog 10 #[] w fun e w' => e = .returned (.bool true) ∧ Below w.heap.size w w'
set_option maxHeartbeats 1000000 in
theorem ends_any : Ends := by
  intro w ht
  have HT := hide ht
  have C1 : Hid (∀ w, Tabs w → Calls Tryd.prog 9 #[.string ⟨#[97, 13, 10, 98, 13, 99]⟩] w fun e w' => e = .returned (.tuple #[.string ⟨#[97, 10, 98, 10, 99]⟩, .int .i64 0]) ∧ Below w.heap.size w w') := fun w h => ready_any ⟨#[97, 13, 10, 98, 13, 99]⟩ w h (by decide)
  have C2 : Hid (∀ w, Calls Tryd.prog 20 #[.string ⟨#[97, 66, 49]⟩] w fun e w' => e = .returned (.string ⟨#[97, 98, 49]⟩) ∧ Below w.heap.size w w') := fun w => lower_any ⟨#[97, 66, 49]⟩ w (by decide)
  have C3 : Hid (∀ w, Calls Tryd.prog 22 #[.string ⟨#[32, 97, 32]⟩] w fun e w' => e = .returned (.string ⟨#[97]⟩) ∧ w' = w) := fun w => trim_any ⟨#[32, 97, 32]⟩ w (by decide)
  have C4 : Hid (∀ w, Calls Tryd.prog 18 #[.string ⟨#[32, 9]⟩] w fun e w' => e = .returned (.bool true) ∧ Below w.heap.size w w') := fun w => blank_any ⟨#[32, 9]⟩ w (by decide)
  clear ht
  go_enter Tryd.func10, Tryd.ntmps10
  go_wp2_with fail
  refine (unhide C1 _ (unhide HT)).mono ?_
  rintro e w1 ⟨rfl, hb1⟩
  go_wp2_with fail
  refine (unhide C2 _).mono ?_
  rintro e w2 ⟨rfl, hb2⟩
  go_wp2_with fail
  refine (unhide C3 _).mono ?_
  rintro e w3 ⟨rfl, rfl⟩
  go_wp2_with fail
  refine (unhide C4 _).mono ?_
  rintro e w4 ⟨rfl, hb4⟩
  go_wp2
  go_ret
  exact ⟨rfl, tr3 hb1 hb2 hb4⟩
end Go.Proofs.YtgdhnpjblnhjmaaDoor
