/-
  Several texts in one: what the functions of the program and of the document's answer do.
-/
import Derived.Test.YtpfnjgkfombmpaaDoorYAp
import Derived.Test.YtpfnjgkfombmpaaDoorPOn

/-
  'tree.textAlone'.
-/
namespace Go.Proofs.YtpfnjgkfombmpaaDoor
open Go.RowKit
set_option linter.unusedVariables false

def taB (sp : Int) (n tx : ByteArray) (al kl : Nat) : Bool := goodB tx.data.toList && (sp == 0 && (n.toList.isEmpty && (al == 0 && kl == 0)))
set_option maxHeartbeats 2000000 in
theorem ta_any (k sp : Int) (n : ByteArray) (ats : List (ByteArray × ByteArray)) (tx : ByteArray) (kids rest : Forest) (g o : Nat) (w : World) (ht : Tabs w) (hl : Lies (.cons k sp n ats tx kids rest) g o w) (hs : tx.size ≤ 9223372036854775807) :
    Calls Tryd.prog 105 #[.pointer (some ⟨g, o, none⟩)] w fun e w' => e = .returned (.bool (taB sp n tx ats.length kids.len)) ∧ Below w.heap.size w w' := by
  obtain ⟨⟨c0, c1, c2, ⟨qa, ca, c3, hsl⟩, c4, ⟨qk, ck, c5, hck, hfo⟩⟩, _⟩ := hl
  have CG := hide (pgood_any tx w ht hs)
  unfold taB
  generalize ats.length = al at *
  generalize kids.len = kl at *
  clear hsl hfo hck
  cases hgd : goodB tx.data.toList with
  | false =>
    rw [hgd] at CG
    rw [Bool.false_and]
    clear hgd
    go_enter Tryd.func105, Tryd.ntmps105
    go_wp2_with fail
    refine (unhide CG).mono ?_
    rintro e w1 ⟨rfl, hb1⟩
    have d1 := cell_later hb1 c1
    have d2 := cell_later hb1 c2
    have d3 := cell_later hb1 c3
    have d5 := cell_later hb1 c5
    have HB := hide hb1
    clear hb1 c0 c1 c2 c3 c4 c5 CG
    go_wp2
    go_ret
    exact ⟨by first | rfl | (show Ending.returned (.bool ((kl : Int) == 0)) = _; rw [hk1]), unhide HB⟩
  | true =>
    rw [hgd] at CG
    rw [Bool.true_and]
    clear hgd
    by_cases hsp : sp = 0
    · subst hsp
      rw [show ((0 : Int) == 0) = true from rfl, Bool.true_and]
      by_cases hn : n.toList = []
      rotate_left
      · rw [show n.toList.isEmpty = false by cases hq : n.toList with | nil => exact absurd hq hn | cons _ _ => rfl, Bool.false_and]
        have hn1 : (n.toList == []) = false := by cases hq : n.toList with | nil => exact absurd hq hn | cons _ _ => rfl
        go_enter Tryd.func105, Tryd.ntmps105
        go_wp2_with fail
        refine (unhide CG).mono ?_
        rintro e w1 ⟨rfl, hb1⟩
        have d1 := cell_later hb1 c1
        have d2 := cell_later hb1 c2
        have d3 := cell_later hb1 c3
        have d5 := cell_later hb1 c5
        have HB := hide hb1
        clear hb1 c0 c1 c2 c3 c4 c5 CG
        go_wp2
        go_ret
        exact ⟨by first | rfl | (show Ending.returned (.bool ((kl : Int) == 0)) = _; rw [hk1]), unhide HB⟩
      · rw [hn, show ([] : List UInt8).isEmpty = true from rfl, Bool.true_and]
        rcases Nat.eq_zero_or_pos al with rfl | ha
        · rw [show ((0 : Nat) == 0) = true from rfl, Bool.true_and]
          rcases Nat.eq_zero_or_pos kl with rfl | hk
          · rw [show ((0 : Nat) == 0) = true from rfl]
            go_enter Tryd.func105, Tryd.ntmps105
            go_wp2_with fail
            refine (unhide CG).mono ?_
            rintro e w1 ⟨rfl, hb1⟩
            have d1 := cell_later hb1 c1
            have d2 := cell_later hb1 c2
            have d3 := cell_later hb1 c3
            have d5 := cell_later hb1 c5
            have HB := hide hb1
            clear hb1 c0 c1 c2 c3 c4 c5 CG
            go_wp2
            go_ret
            exact ⟨by first | rfl | (show Ending.returned (.bool ((kl : Int) == 0)) = _; rw [hk1]), unhide HB⟩
          · rw [show (kl == 0) = false from beq_eq_false_iff_ne.2 (by omega)]
            have hk1 : ((kl : Int) == 0) = false := beq_eq_false_iff_ne.2 (by omega)
            have hk2 : ¬ kl = 0 := by omega
            clear hk
            go_enter Tryd.func105, Tryd.ntmps105
            go_wp2_with fail
            refine (unhide CG).mono ?_
            rintro e w1 ⟨rfl, hb1⟩
            have d1 := cell_later hb1 c1
            have d2 := cell_later hb1 c2
            have d3 := cell_later hb1 c3
            have d5 := cell_later hb1 c5
            have HB := hide hb1
            clear hb1 c0 c1 c2 c3 c4 c5 CG
            go_wp2
            go_ret
            exact ⟨by first | rfl | (show Ending.returned (.bool ((kl : Int) == 0)) = _; rw [hk1]), unhide HB⟩
        · rw [show (al == 0) = false from beq_eq_false_iff_ne.2 (by omega), Bool.false_and]
          have ha1 : ((al : Int) == 0) = false := beq_eq_false_iff_ne.2 (by omega)
          have ha2 : ¬ al = 0 := by omega
          clear ha
          go_enter Tryd.func105, Tryd.ntmps105
          go_wp2_with fail
          refine (unhide CG).mono ?_
          rintro e w1 ⟨rfl, hb1⟩
          have d1 := cell_later hb1 c1
          have d2 := cell_later hb1 c2
          have d3 := cell_later hb1 c3
          have d5 := cell_later hb1 c5
          have HB := hide hb1
          clear hb1 c0 c1 c2 c3 c4 c5 CG
          go_wp2
          go_ret
          exact ⟨by first | rfl | (show Ending.returned (.bool ((kl : Int) == 0)) = _; rw [hk1]), unhide HB⟩
    · rw [show (sp == 0) = false from beq_eq_false_iff_ne.2 hsp, Bool.false_and]
      have hsp1 : (sp == 0) = false := beq_eq_false_iff_ne.2 hsp
      clear hsp
      go_enter Tryd.func105, Tryd.ntmps105
      go_wp2_with fail
      refine (unhide CG).mono ?_
      rintro e w1 ⟨rfl, hb1⟩
      have d1 := cell_later hb1 c1
      have d2 := cell_later hb1 c2
      have d3 := cell_later hb1 c3
      have d5 := cell_later hb1 c5
      have HB := hide hb1
      clear hb1 c0 c1 c2 c3 c4 c5 CG
      go_wp2
      go_ret
      exact ⟨by first | rfl | (show Ending.returned (.bool ((kl : Int) == 0)) = _; rw [hk1]), unhide HB⟩
end Go.Proofs.YtpfnjgkfombmpaaDoor

/-
  'tree.rightAlone'.
-/
namespace Go.Proofs.YtpfnjgkfombmpaaDoor
open Go.RowKit
set_option linter.unusedVariables false

theorem popen_sl (n : ByteArray) (q : Option Addr) (ats : List (ByteArray × ByteArray)) (cap : Nat) (w : World) (ht : Tabs w) (hs : Sl q ats w) (hf : Fits ats) (hn : n.size ≤ 10000) :
    Calls Tryd.prog 104 #[.string n, .slice q ats.length cap] w fun e w' => e = .returned (openV n.data.toList ats) ∧ Below w.heap.size w w' := by
  rcases hs with rfl | ⟨g, o, rfl, hc⟩
  · exact popen_nil n q cap w hn
  · exact popen_any n ats g o cap w ht hc hf hn
def raB (k sp : Int) (n : ByteArray) (ats : List (ByteArray × ByteArray)) (tx : ByteArray) (kl : Nat) : Bool :=
  if k = 1 then decide (wrongN n.data.toList ats = 0) && (decide (0 ≤ sp) && (decide (sp ≤ 2) && tx.toList.isEmpty))
  else if k = 2 then !tx.toList.isEmpty && taB sp n tx ats.length kl
  else if k = 3 then taB sp n tx ats.length kl else false
set_option maxHeartbeats 2000000 in
theorem ra_any (k sp : Int) (n : ByteArray) (ats : List (ByteArray × ByteArray)) (tx : ByteArray) (kids rest : Forest) (g o : Nat) (w : World) (ht : Tabs w) (hl : Lies (.cons k sp n ats tx kids rest) g o w) (hs : tx.size ≤ 9223372036854775807) (hf : Fits ats) (hn : n.size ≤ 10000) :
    Calls Tryd.prog 84 #[.pointer (some ⟨g, o, none⟩)] w fun e w' => e = .returned (.bool (raB k sp n ats tx kids.len)) ∧ Below w.heap.size w w' := by
  have CT := hide (ta_any k sp n ats tx kids rest g o w ht hl hs)
  obtain ⟨⟨c0, c1, c2, ⟨qa, ca, c3, hsl⟩, c4, _⟩, _⟩ := hl
  have CO := hide (fun W (hb : Below w.heap.size w W) => popen_sl n qa ats ca W (ht.below hb) (hsl.below hb) hf hn)
  unfold raB
  unfold openV at CO
  generalize taB sp n tx ats.length kids.len = tb at *
  generalize (if wrongN n.data.toList ats = 0 then bs (openL n.data.toList ats) else ⟨#[]⟩) = ov at *
  generalize wrongN n.data.toList ats = wn at *
  generalize ats.length = al at *
  clear hsl hf hn hs ht
  by_cases h1 : k = 1
  · subst h1
    rw [if_pos rfl]
    clear CT
    by_cases hw : wn = 0
    · subst hw
      rw [decide_eq_true rfl, Bool.true_and]
      by_cases hs0 : 0 ≤ sp
      · rw [decide_eq_true hs0, Bool.true_and]
        by_cases hs2 : sp ≤ 2
        · rw [decide_eq_true hs2, Bool.true_and]
          go_enter Tryd.func84, Tryd.ntmps84
          go_wp2_with fail
          go_region_with (go_at_call 104; refine (unhide CO _ (Below.drew (Below.refl _ _))).mono ?_; rintro e1 w1 ⟨rfl, hb0⟩; have hb1 := tr2 (Below.drew (Below.refl w.heap.size w)) hb0)
          all_goals
            have d1 := cell_later hb1 c1
            have d4 := cell_later hb1 c4
            have HB := hide hb1
            clear hb0 hb1 c0 c1 c2 c3 c4 CO
            go_wp2
            go_ret
            exact ⟨rfl, unhide HB⟩
        · rw [decide_eq_false hs2, Bool.false_and]
          go_enter Tryd.func84, Tryd.ntmps84
          go_wp2_with fail
          go_region_with (go_at_call 104; refine (unhide CO _ (Below.drew (Below.refl _ _))).mono ?_; rintro e1 w1 ⟨rfl, hb0⟩; have hb1 := tr2 (Below.drew (Below.refl w.heap.size w)) hb0)
          all_goals
            have d1 := cell_later hb1 c1
            have d4 := cell_later hb1 c4
            have HB := hide hb1
            clear hb0 hb1 c0 c1 c2 c3 c4 CO
            go_wp2
            go_ret
            exact ⟨rfl, unhide HB⟩
      · rw [decide_eq_false hs0, Bool.false_and]
        go_enter Tryd.func84, Tryd.ntmps84
        go_wp2_with fail
        go_region_with (go_at_call 104; refine (unhide CO _ (Below.drew (Below.refl _ _))).mono ?_; rintro e1 w1 ⟨rfl, hb0⟩; have hb1 := tr2 (Below.drew (Below.refl w.heap.size w)) hb0)
        all_goals
          have d1 := cell_later hb1 c1
          have d4 := cell_later hb1 c4
          have HB := hide hb1
          clear hb0 hb1 c0 c1 c2 c3 c4 CO
          go_wp2
          go_ret
          exact ⟨rfl, unhide HB⟩
    · rw [decide_eq_false hw, Bool.false_and]
      have hw1 : ¬ (wn : Int) = 0 := by omega
      go_enter Tryd.func84, Tryd.ntmps84
      go_wp2_with fail
      go_region_with (go_at_call 104; refine (unhide CO _ (Below.drew (Below.refl _ _))).mono ?_; rintro e1 w1 ⟨rfl, hb0⟩; have hb1 := tr2 (Below.drew (Below.refl w.heap.size w)) hb0)
      all_goals
        have d1 := cell_later hb1 c1
        have d4 := cell_later hb1 c4
        have HB := hide hb1
        clear hb0 hb1 c0 c1 c2 c3 c4 CO
        go_wp2
        go_ret
        exact ⟨rfl, unhide HB⟩
  rw [if_neg h1]
  by_cases h2 : k = 2
  · subst h2
    rw [if_pos rfl]
    by_cases he : tx.toList = []
    · rw [he, show (!([] : List UInt8).isEmpty) = false from rfl, Bool.false_and]
      go_enter Tryd.func84, Tryd.ntmps84
      go_wp2
      go_ret
      exact ⟨rfl, Below.refl _ _⟩
    · have HE : Hid (tx.toList.isEmpty = false) := hide (by cases hq : tx.toList with | nil => exact absurd hq he | cons _ _ => rfl)
      rw [unhide HE, Bool.not_false, Bool.true_and]
      go_enter Tryd.func84, Tryd.ntmps84
      go_wp2_with fail
      refine (unhide CT).mono ?_
      rintro e w1 ⟨rfl, hb1⟩
      clear CO CT c0 c1 c2 c3 c4
      go_wp2
      go_ret
      exact ⟨by first | rfl | (show Ending.returned (.bool (!tx.toList.isEmpty && tb)) = _; rw [unhide HE]; rfl), hb1⟩
  rw [if_neg h2]
  by_cases h3 : k = 3
  · subst h3
    rw [if_pos rfl]
    go_enter Tryd.func84, Tryd.ntmps84
    go_wp2_with fail
    refine (unhide CT).mono ?_
    rintro e w1 ⟨rfl, hb1⟩
    clear CO CT c0 c1 c2 c3 c4
    go_wp2
    go_ret
    exact ⟨rfl, hb1⟩
  rw [if_neg h3]
  clear CO CT
  go_enter Tryd.func84, Tryd.ntmps84
  go_wp2
  go_ret
  exact ⟨rfl, Below.refl _ _⟩
end Go.Proofs.YtpfnjgkfombmpaaDoor
