/-
  A reference by a name: the longest one from the top down is the longest one of all names.
-/
import Derived.Test.YtmiehnknnkcdlaaDoorFNu
namespace Go.Proofs.YtmiehnknnkcdlaaDoor
open Go.RowKit
set_option linter.unusedVariables false

def looseB (l : List UInt8) : Bool := match nameI l with | none => false | some k => nmBare k
theorem loose_none {l : List UInt8} (h : nameI l = none) : looseB l = false := by simp only [looseB, h]
theorem loose_some {l : List UInt8} {k : Nat} (h : nameI l = some k) : looseB l = nmBare k := by simp only [looseB, h]
theorem loose_char {l : List UInt8} (h : looseB l = true) : isC (nameC l) = true := by
  cases e : nameI l with
  | none => rw [loose_none e] at h; cases h
  | some k => rw [nameC_some e]; exact (nm_facts k (nameI_some e).1).2.2.2.2
theorem name_char {l : List UInt8} (h : nameC l ≠ 0) : isC (nameC l) = true := by
  cases e : nameI l with
  | none => exact absurd (nameC_none e) h
  | some k => rw [nameC_some e]; exact (nm_facts k (nameI_some e).1).2.2.2.2
theorem name_zero {l : List UInt8} : nameC l ≠ 0 ↔ ∃ k, k < 28 ∧ nmName k = l := by
  constructor
  · intro h
    cases e : nameI l with
    | none => exact absurd (nameC_none e) h
    | some k => exact ⟨k, nameI_some e⟩
  · rintro ⟨k, hk, rfl⟩
    rw [nameC_some (nameI_is hk)]
    have := nm_facts k hk; omega

def hitS (m : List UInt8) (n : Nat) : Bool := decide (n ≤ m.length ∧ dgt m (n - 1) = 59 ∧ nameC (m.take (n - 1)) ≠ 0)
def hitB (m : List UInt8) (v : Bool) (n : Nat) : Bool := decide (n ≤ m.length ∧ looseB (m.take n) = true ∧ ¬ (v = true ∧ onB (m.drop n) = true))
def refF (m : List UInt8) (v : Bool) : Nat → Option (Int × Nat)
  | 0 => none
  | n + 1 => if hitS m (n + 1) = true then some (nameC (m.take n), n + 1) else if hitB m v (n + 1) = true then some (nameC (m.take (n + 1)), n + 1) else refF m v n

theorem semi_one {l : List UInt8} (h : semiN l = 1) : 0 < l.length ∧ dgt l 0 = 59 := by
  have := semi_at l 0
  rw [List.drop_zero, h] at this
  rcases this with ⟨h1, _⟩ | ⟨_, h2⟩
  · unfold atB at h1
    split at h1
    · exact ⟨by assumption, h1⟩
    · omega
  · omega
theorem semi_is {l : List UInt8} (h0 : 0 < l.length) (h : dgt l 0 = 59) : semiN l = 1 := by
  have := semi_at l 0
  rw [List.drop_zero] at this
  rcases this with ⟨_, h2⟩ | ⟨h1, _⟩
  · exact h2
  · unfold atB at h1; rw [if_pos h0] at h1; exact absurd h h1
theorem pre_take {a m : List UInt8} (h : a.isPrefixOf m = true) : m.take a.length = a ∧ a.length ≤ m.length := by
  obtain ⟨t, rfl⟩ := List.isPrefixOf_iff_prefix.1 h
  simp
theorem take_pre {m : List UInt8} {n : Nat} : (m.take n).isPrefixOf m = true := List.isPrefixOf_iff_prefix.2 (List.take_prefix n m)

theorem cand_hit {k : Nat} {m : List UInt8} {v : Bool} (hk : k < 28) (h : 0 < candN k m v) :
    (hitS m (candN k m v - 1) = true ∧ candN k m v = (nmName k).length + 2 ∧ m.take (candN k m v - 2) = nmName k)
    ∨ (hitB m v (candN k m v - 1) = true ∧ candN k m v = (nmName k).length + 1 ∧ m.take (candN k m v - 1) = nmName k) := by
  unfold candN at h ⊢
  by_cases hp : (nmName k).isPrefixOf m = true
  · rw [if_pos hp] at h ⊢
    have hpt := pre_take hp
    by_cases hs : semiN (m.drop (nmName k).length) = 1
    · rw [if_pos hs] at h ⊢
      have hso := semi_one hs
      rw [List.length_drop, dgt_drop, Nat.add_zero] at hso
      refine .inl ⟨?_, rfl, ?_⟩
      · unfold hitS
        apply decide_eq_true
        rw [show (nmName k).length + 2 - 1 = (nmName k).length + 1 by omega, show (nmName k).length + 1 - 1 = (nmName k).length by omega, hpt.1]
        exact ⟨by omega, hso.2, name_zero.2 ⟨k, hk, rfl⟩⟩
      · rw [show (nmName k).length + 2 - 2 = (nmName k).length by omega]; exact hpt.1
    · rw [if_neg hs] at h ⊢
      by_cases hb : nmBare k = false ∨ (v = true ∧ onB (m.drop (nmName k).length) = true)
      · rw [if_pos hb] at h; omega
      · rw [if_neg hb] at h ⊢
        refine .inr ⟨?_, rfl, ?_⟩
        · unfold hitB
          apply decide_eq_true
          rw [show (nmName k).length + 1 - 1 = (nmName k).length by omega, hpt.1, loose_some (nameI_is hk)]
          refine ⟨hpt.2, ?_, fun hx => hb (.inr hx)⟩
          cases e : nmBare k with
          | true => rfl
          | false => exact absurd (.inl e) hb
        · rw [show (nmName k).length + 1 - 1 = (nmName k).length by omega]; exact hpt.1
  · rw [if_neg hp] at h; omega
theorem hitS_cand {m : List UInt8} {v : Bool} {n : Nat} (hn : 1 ≤ n) (h : hitS m n = true) : ∃ k, k < 28 ∧ candN k m v = n + 1 ∧ m.take (n - 1) = nmName k := by
  unfold hitS at h
  obtain ⟨h1, h2, h3⟩ := of_decide_eq_true h
  obtain ⟨k, hk, e⟩ := name_zero.1 h3
  have hl : (nmName k).length = n - 1 := by rw [e, List.length_take]; omega
  refine ⟨k, hk, ?_, e.symm⟩
  unfold candN
  have hp : (nmName k).isPrefixOf m = true := by rw [e]; exact take_pre
  have hs : semiN (m.drop (nmName k).length) = 1 := semi_is (by rw [List.length_drop]; omega) (by rw [dgt_drop, hl]; exact h2)
  rw [if_pos hp, if_pos hs]; omega
theorem hitB_cand {m : List UInt8} {v : Bool} {n : Nat} (h : hitB m v n = true) : ∃ k, k < 28 ∧ n + 1 ≤ candN k m v := by
  unfold hitB at h
  obtain ⟨h1, h2, h3⟩ := of_decide_eq_true h
  cases e : nameI (m.take n) with
  | none => rw [loose_none e] at h2; cases h2
  | some k =>
    obtain ⟨hk, en⟩ := nameI_some e
    have hl : (nmName k).length = n := by rw [en, List.length_take]; omega
    have hp : (nmName k).isPrefixOf m = true := by rw [en]; exact take_pre
    refine ⟨k, hk, ?_⟩
    unfold candN
    rw [if_pos hp]
    by_cases hs : semiN (m.drop (nmName k).length) = 1
    · rw [if_pos hs]; omega
    · rw [if_neg hs, if_neg (by
        rintro (hx | hx)
        · rw [loose_some e, hx] at h2; cases h2
        · rw [hl] at hx; exact h3 hx)]
      omega

theorem dgt_take {m : List UInt8} {n : Nat} (hn : 1 ≤ n) (h : n ≤ m.length) : ∃ c ∈ m.take n, c.toNat = dgt m (n - 1) := by
  have hlt : n - 1 < (m.take n).length := by rw [List.length_take]; omega
  refine ⟨(m.take n)[n - 1], List.getElem_mem hlt, ?_⟩
  unfold dgt
  rw [List.getD, List.getElem?_eq_getElem (by omega), List.getElem_take]; rfl
theorem refF_best {m : List UInt8} {v : Bool} {c : Int} {N : Nat} (h : Best m v 28 c N) : ∀ n, N ≤ n + 1 → refF m v n = if N = 0 then none else some (c, N - 1)
  | 0, hn => by
    rcases h with ⟨h1, _⟩ | ⟨h0, i, hi, hc, _⟩
    · rw [if_pos h1]; rfl
    · exfalso
      rcases cand_hit hi (by rw [hc]; exact h0) with ⟨_, h2, _⟩ | ⟨_, h2, _⟩
      · omega
      · have := nm_facts i hi; omega
  | n + 1, hn => by
    rw [refF]
    by_cases hs : hitS m (n + 1) = true
    · rw [if_pos hs]
      obtain ⟨k, hk, hck, hnk⟩ := hitS_cand (v := v) (by omega) hs
      rw [show n + 1 - 1 = n by omega] at hnk
      rcases h with ⟨h1, _, h3⟩ | ⟨h0, i, hi, hc, hci, hmax⟩
      · have := h3 k hk; omega
      · have hm := hmax k hk
        have hN : N = n + 2 := by omega
        rw [if_neg (by omega), hN]
        have : nameC (m.take n) = c := by
          rcases cand_hit hi (by rw [hc]; exact h0) with ⟨_, _, h5⟩ | ⟨_, h4, h5⟩
          · rw [hc, hN, show n + 2 - 2 = n by omega] at h5
            rw [h5, nameC_some (nameI_is hi), hci]
          · exfalso
            rw [hc, hN, show n + 2 - 1 = n + 1 by omega] at h5
            have hd := (of_decide_eq_true hs)
            obtain ⟨x, hx, hxn⟩ := dgt_take (m := m) (n := n + 1) (by omega) hd.1
            rw [h5] at hx
            have := ltN_true (nm_plain i hi x hx)
            rw [hxn, hd.2.1] at this; omega
        rw [this]; rfl
    · rw [if_neg hs]
      by_cases hb : hitB m v (n + 1) = true
      · rw [if_pos hb]
        obtain ⟨k, hk, hck⟩ := hitB_cand hb
        rcases h with ⟨h1, _, h3⟩ | ⟨h0, i, hi, hc, hci, hmax⟩
        · have := h3 k hk; omega
        · have hm := hmax k hk
          have hN : N = n + 2 := by omega
          rw [if_neg (by omega), hN]
          have : nameC (m.take (n + 1)) = c := by
            rcases cand_hit hi (by rw [hc]; exact h0) with ⟨h4, _, _⟩ | ⟨_, _, h5⟩
            · rw [hc, hN, show n + 2 - 1 = n + 1 by omega] at h4; exact absurd h4 hs
            · rw [hc, hN, show n + 2 - 1 = n + 1 by omega] at h5
              rw [h5, nameC_some (nameI_is hi), hci]
          rw [this]; rfl
      · rw [if_neg hb]
        refine refF_best h n ?_
        rcases h with ⟨h1, _⟩ | ⟨h0, i, hi, hc, _⟩
        · omega
        · rcases cand_hit hi (by rw [hc]; exact h0) with ⟨h4, _⟩ | ⟨h4, _⟩
          · rcases Nat.lt_or_ge N (n + 2) with g | g
            · omega
            · rw [hc, show N = n + 2 by omega, show n + 2 - 1 = n + 1 by omega] at h4; exact absurd h4 hs
          · rcases Nat.lt_or_ge N (n + 2) with g | g
            · omega
            · rw [hc, show N = n + 2 by omega, show n + 2 - 1 = n + 1 by omega] at h4; exact absurd h4 hb
def refL (m : List UInt8) (v : Bool) : Option (Int × Nat) := refF m v 7
theorem refL_best {m : List UInt8} {v : Bool} {c : Int} {N : Nat} (h : Best m v 28 c N) : refL m v = if N = 0 then none else some (c, N - 1) := refF_best h 7 (best_le (Nat.le_refl _) h)

/-! ### 'Loose', as it is asked -/
def tightT : List (List UInt8) := [[110, 111, 116, 105, 110], [101, 117, 114, 111], [104, 101, 108, 108, 105, 112], [109, 100, 97, 115, 104], [110, 100, 97, 115, 104], [97, 108, 112, 104, 97], [98, 101, 116, 97], [114, 97, 114, 114], [108, 97, 114, 114], [97, 112, 111, 115]]
theorem tight_bare : ∀ k, k < 28 → (nmBare k = false ↔ nmName k ∈ tightT) := by decide
theorem tight_yes {l : List UInt8} (h : l ∈ tightT) : looseB l = false := by
  cases e : nameI l with
  | none => exact loose_none e
  | some k => rw [loose_some e]; exact (tight_bare k (nameI_some e).1).2 (by rw [(nameI_some e).2]; exact h)
theorem tight_no {l : List UInt8} (h : ¬ l ∈ tightT) : looseB l = decide (nameC l ≠ 0) := by
  cases e : nameI l with
  | none => rw [loose_none e, nameC_none e]; rfl
  | some k =>
    rw [loose_some e, nameC_some e]
    have := nm_facts k (nameI_some e).1
    have h2 : nmBare k = true := by
      cases eb : nmBare k with
      | true => rfl
      | false => exact absurd (by rw [← (nameI_some e).2]; exact (tight_bare k (nameI_some e).1).1 eb) h
    rw [h2]; exact (decide_eq_true (by omega)).symm
end Go.Proofs.YtmiehnknnkcdlaaDoor
