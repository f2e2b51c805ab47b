/-
  'tree.textAlone'.
-/
import Derived.Test.YtpfnjgkfombmpaaDoorYAp
import Derived.Test.YtpfnjgkfombmpaaDoorPOn
namespace Go.Proofs.YtpfnjgkfombmpaaDoor
open Go.RowKit
set_option linter.unusedVariables false

def taB (sp : Int) (n tx : ByteArray) (al kl : Nat) : Bool := goodB tx.data.toList && (sp == 0 && (n.toList.isEmpty && (al == 0 && kl == 0)))
set_option maxHeartbeats 2000000 in
theorem ta_any (k sp : Int) (n : ByteArray) (ats : List (ByteArray × ByteArray)) (tx : ByteArray) (kids rest : Forest) (g o : Nat) (w : World) (ht : Tabs w) (hl : Lies (.cons k sp n ats tx kids rest) g o w) (hs : tx.size ≤ 9223372036854775807) :
    Calls Tryd.prog 105 #[.pointer (some ⟨g, o, none⟩)] w fun e w' => e = .returned (.bool (taB sp n tx ats.length kids.len)) ∧ Below w.heap.size w w' := by
  obtain ⟨⟨c0, c1, c2, ⟨qa, ca, c3, hsl⟩, c4, ⟨qk, ck, c5, hck, hfo⟩⟩, _⟩ := hl
  have CG := hide (pgood_any tx w ht hs)
  unfold taB
  generalize ats.length = al at *
  generalize kids.len = kl at *
  clear hsl hfo hck
  cases hgd : goodB tx.data.toList with
  | false =>
    rw [hgd] at CG
    rw [Bool.false_and]
    clear hgd
    go_enter Tryd.func105, Tryd.ntmps105
    go_wp2_with fail
    refine (unhide CG).mono ?_
    rintro e w1 ⟨rfl, hb1⟩
    have d1 := cell_later hb1 c1
    have d2 := cell_later hb1 c2
    have d3 := cell_later hb1 c3
    have d5 := cell_later hb1 c5
    have HB := hide hb1
    clear hb1 c0 c1 c2 c3 c4 c5 CG
    go_wp2
    go_ret
    exact ⟨by first | rfl | (show Ending.returned (.bool ((kl : Int) == 0)) = _; rw [hk1]), unhide HB⟩
  | true =>
    rw [hgd] at CG
    rw [Bool.true_and]
    clear hgd
    by_cases hsp : sp = 0
    · subst hsp
      rw [show ((0 : Int) == 0) = true from rfl, Bool.true_and]
      by_cases hn : n.toList = []
      rotate_left
      · rw [show n.toList.isEmpty = false by cases hq : n.toList with | nil => exact absurd hq hn | cons _ _ => rfl, Bool.false_and]
        have hn1 : (n.toList == []) = false := by cases hq : n.toList with | nil => exact absurd hq hn | cons _ _ => rfl
        go_enter Tryd.func105, Tryd.ntmps105
        go_wp2_with fail
        refine (unhide CG).mono ?_
        rintro e w1 ⟨rfl, hb1⟩
        have d1 := cell_later hb1 c1
        have d2 := cell_later hb1 c2
        have d3 := cell_later hb1 c3
        have d5 := cell_later hb1 c5
        have HB := hide hb1
        clear hb1 c0 c1 c2 c3 c4 c5 CG
        go_wp2
        go_ret
        exact ⟨by first | rfl | (show Ending.returned (.bool ((kl : Int) == 0)) = _; rw [hk1]), unhide HB⟩
      · rw [hn, show ([] : List UInt8).isEmpty = true from rfl, Bool.true_and]
        rcases Nat.eq_zero_or_pos al with rfl | ha
        · rw [show ((0 : Nat) == 0) = true from rfl, Bool.true_and]
          rcases Nat.eq_zero_or_pos kl with rfl | hk
          · rw [show ((0 : Nat) == 0) = true from rfl]
            go_enter Tryd.func105, Tryd.ntmps105
            go_wp2_with fail
            refine (unhide CG).mono ?_
            rintro e w1 ⟨rfl, hb1⟩
            have d1 := cell_later hb1 c1
            have d2 := cell_later hb1 c2
            have d3 := cell_later hb1 c3
            have d5 := cell_later hb1 c5
            have HB := hide hb1
            clear hb1 c0 c1 c2 c3 c4 c5 CG
            go_wp2
            go_ret
            exact ⟨by first | rfl | (show Ending.returned (.bool ((kl : Int) == 0)) = _; rw [hk1]), unhide HB⟩
          · rw [show (kl == 0) = false from beq_eq_false_iff_ne.2 (by omega)]
            have hk1 : ((kl : Int) == 0) = false := beq_eq_false_iff_ne.2 (by omega)
            have hk2 : ¬ kl = 0 := by omega
            clear hk
            go_enter Tryd.func105, Tryd.ntmps105
            go_wp2_with fail
            refine (unhide CG).mono ?_
            rintro e w1 ⟨rfl, hb1⟩
            have d1 := cell_later hb1 c1
            have d2 := cell_later hb1 c2
            have d3 := cell_later hb1 c3
            have d5 := cell_later hb1 c5
            have HB := hide hb1
            clear hb1 c0 c1 c2 c3 c4 c5 CG
            go_wp2
            go_ret
            exact ⟨by first | rfl | (show Ending.returned (.bool ((kl : Int) == 0)) = _; rw [hk1]), unhide HB⟩
        · rw [show (al == 0) = false from beq_eq_false_iff_ne.2 (by omega), Bool.false_and]
          have ha1 : ((al : Int) == 0) = false := beq_eq_false_iff_ne.2 (by omega)
          have ha2 : ¬ al = 0 := by omega
          clear ha
          go_enter Tryd.func105, Tryd.ntmps105
          go_wp2_with fail
          refine (unhide CG).mono ?_
          rintro e w1 ⟨rfl, hb1⟩
          have d1 := cell_later hb1 c1
          have d2 := cell_later hb1 c2
          have d3 := cell_later hb1 c3
          have d5 := cell_later hb1 c5
          have HB := hide hb1
          clear hb1 c0 c1 c2 c3 c4 c5 CG
          go_wp2
          go_ret
          exact ⟨by first | rfl | (show Ending.returned (.bool ((kl : Int) == 0)) = _; rw [hk1]), unhide HB⟩
    · rw [show (sp == 0) = false from beq_eq_false_iff_ne.2 hsp, Bool.false_and]
      have hsp1 : (sp == 0) = false := beq_eq_false_iff_ne.2 hsp
      clear hsp
      go_enter Tryd.func105, Tryd.ntmps105
      go_wp2_with fail
      refine (unhide CG).mono ?_
      rintro e w1 ⟨rfl, hb1⟩
      have d1 := cell_later hb1 c1
      have d2 := cell_later hb1 c2
      have d3 := cell_later hb1 c3
      have d5 := cell_later hb1 c5
      have HB := hide hb1
      clear hb1 c0 c1 c2 c3 c4 c5 CG
      go_wp2
      go_ret
      exact ⟨by first | rfl | (show Ending.returned (.bool ((kl : Int) == 0)) = _; rw [hk1]), unhide HB⟩
end Go.Proofs.YtpfnjgkfombmpaaDoor
