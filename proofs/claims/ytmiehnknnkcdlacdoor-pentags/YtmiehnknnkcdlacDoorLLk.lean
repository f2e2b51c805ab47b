/-
  The small case that each law of layer 6 asks: a tag with an attribute.
-/
import Derived.Test.YtmiehnknnkcdlacDoorPOq
import Derived.Test.YtmiehnknnkcdlacDoorPNt
namespace Go.Proofs.YtmiehnknnkcdlacDoor
open Go.RowKit
set_option linter.unusedVariables false

def hrefL : List (ByteArray × ByteArray) := [(⟨#[104, 114, 101, 102]⟩, ⟨#[120, 34, 121]⟩)]
theorem href_cells (w : World) : Cells2 w.heap.size 0 hrefL (w.alloc (.cells #[.string ⟨#[104, 114, 101, 102]⟩, .string ⟨#[120, 34, 121]⟩] 47)) := by
  intro k hk
  have : k = 0 := by simp [hrefL] at hk; exact hk
  subst this
  exact ⟨World.cell?_alloc_at _ _ _ _ rfl, World.cell?_alloc_at _ _ _ _ rfl⟩
theorem href_fits : Fits hrefL := by
  refine ⟨by decide, fun k hk => ?_⟩
  have : k = 0 := by simp [hrefL] at hk; exact hk
  subst this
  exact ⟨by decide, by decide⟩
theorem href_right : rightAs hrefL = true := by kernel_rfl
theorem href_one : ¬ diffN hrefL < hrefL.length := by
  have : diffN hrefL = 1 := by kernel_rfl
  rw [this]; decide

def Link : Prop := ∀ w, Tabs w → Mx w → Calls Tryd.prog 9 #[] w fun e w' => e = .returned (.bool true) ∧ Below w.heap.size w w'
set_option maxHeartbeats 2000000 in
set_option maxRecDepth 100000 in
theorem link_any : Link := by
  intro w ht hm
  have HT := hide ht
  have HM := hide hm
  have C1 : Hid (∀ w', Tabs w' → Cells2 w.heap.size 0 hrefL w' → Calls Tryd.prog 10 #[.string ⟨#[97]⟩, .slice (some ⟨w.heap.size, 0, none⟩) 1 1] w' fun e w'' => e = .returned (.tuple #[.string ⟨#[60, 97, 32, 104, 114, 101, 102, 61, 34, 120, 38, 113, 117, 111, 116, 59, 121, 34, 62]⟩, .int .i64 0]) ∧ Below w'.heap.size w' w'') :=
    fun w' h1 h2 => popen_ok ⟨#[97]⟩ hrefL w.heap.size 0 1 w' h1 h2 href_fits (by decide) (by kernel_rfl) href_right href_one (by decide)
  have C2 : Hid (∀ w, Tabs w → Mx w → Calls Tryd.prog 22 #[.string ⟨#[97, 45, 45]⟩] w fun e w' => e = .returned (.tuple #[.string ⟨#[]⟩, .int .i64 4]) ∧ Below w.heap.size w w') := fun w h1 h2 => by
    have := pnote_any ⟨#[97, 45, 45]⟩ w h1 h2 (by decide)
    have e : noteB (⟨#[97, 45, 45]⟩ : ByteArray).data.toList = false := by kernel_rfl
    rw [e] at this; exact this
  have C3 : Hid (∀ w, Tabs w → Mx w → Calls Tryd.prog 22 #[.string ⟨#[98]⟩] w fun e w' => e = .returned (.tuple #[.string ⟨#[60, 33, 45, 45, 98, 45, 45, 62]⟩, .int .i64 0]) ∧ Below w.heap.size w w') := fun w h1 h2 => by
    have := pnote_any ⟨#[98]⟩ w h1 h2 (by decide)
    have e : noteB (⟨#[98]⟩ : ByteArray).data.toList = true := by kernel_rfl
    rw [e] at this; exact this
  have C4 : Hid (∀ w, Calls Tryd.prog 14 #[.string ⟨#[104, 49]⟩] w fun e w' => e = .returned (.bool true) ∧ Below w.heap.size w w') := fun w => by
    have := pname_any ⟨#[104, 49]⟩ w (by decide)
    have e : nameB (⟨#[104, 49]⟩ : ByteArray).data.toList = true := by kernel_rfl
    rw [e] at this; exact this
  have C5 : Hid (∀ w, Tabs w → Calls Tryd.prog 16 #[.string ⟨#[195, 169]⟩] w fun e w' => e = .returned (.bool true) ∧ Below w.heap.size w w') := fun w h => by
    have := pgood_any ⟨#[195, 169]⟩ w h (by decide)
    have e : goodB (⟨#[195, 169]⟩ : ByteArray).data.toList = true := by kernel_rfl
    rw [e] at this; exact this
  have HR := hide (href_cells w)
  have hb0 : Below w.heap.size w (w.alloc (.cells #[.string ⟨#[104, 114, 101, 102]⟩, .string ⟨#[120, 34, 121]⟩] 47)) := (Below.refl _ _).alloc (Nat.le_refl _) _
  clear ht hm
  go_enter Tryd.func9, Tryd.ntmps9
  go_wp2_with fail
  refine (unhide C1 _ ((unhide HT).below hb0) (unhide HR)).mono ?_
  rintro e w1 ⟨rfl, hb1⟩
  have hb01 := tr2 hb0 hb1
  go_wp2_with fail
  refine (unhide C2 _ ((unhide HT).below hb01) ((unhide HM).below hb01)).mono ?_
  rintro e w2 ⟨rfl, hb2⟩
  have hb02 := tr2 hb01 hb2
  go_wp2_with fail
  refine (unhide C3 _ ((unhide HT).below hb02) ((unhide HM).below hb02)).mono ?_
  rintro e w3 ⟨rfl, hb3⟩
  have hb03 := tr2 hb02 hb3
  go_wp2_with fail
  refine (unhide C4 _).mono ?_
  rintro e w4 ⟨rfl, hb4⟩
  have hb04 := tr2 hb03 hb4
  go_wp2_with fail
  refine (unhide C5 _ ((unhide HT).below hb04)).mono ?_
  rintro e w5 ⟨rfl, hb5⟩
  go_wp2
  go_ret
  exact ⟨rfl, tr2 hb04 hb5⟩
end Go.Proofs.YtmiehnknnkcdlacDoor
