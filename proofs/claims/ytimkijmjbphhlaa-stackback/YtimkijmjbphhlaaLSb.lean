/-
  The walk of StackBack.
-/
import Derived.Test.YtimkijmjbphhlaaLSs
namespace Go.Proofs.Ytimkijmjbphhlaa
open Go.RowKit
set_option linter.unusedVariables false
set_option linter.unusedSimpArgs false

theorem Stk.keep {base r p : Nat} {u : Value} {M : List Ent} {o : Option Nat} {w w' : World} (h : Stk base r u M w) (ht : Tch p o w w') (h1 : r ≠ p) (h2 : some r ≠ o) (h3 : u.ownBlock ≠ some p) (h4 : u.ownBlock = none ∨ u.ownBlock ≠ o) : Stk base r u M w' :=
  ⟨ht.blk h.1 h1 h2, ht.row h.2.1 h3 h4, h.2.2⟩
/-- Two stacks that share nothing. -/
def Two (base p : Nat) (v : Value) (L : List Ent) (r : Nat) (u : Value) (M : List Ent) (w : World) : Prop :=
  Stk base p v L w ∧ Stk base r u M w ∧ p ≠ r ∧ v.ownBlock ≠ some r ∧ u.ownBlock ≠ some p ∧ (∀ k, v.ownBlock = some k → u.ownBlock ≠ some k)
theorem Two.symm {base p r : Nat} {v u : Value} {L M : List Ent} {w : World} (h : Two base p v L r u M w) : Two base r u M p v L w :=
  ⟨h.2.1, h.1, fun e => h.2.2.1 e.symm, h.2.2.2.2.1, h.2.2.2.1, fun k hk e => h.2.2.2.2.2 k e hk⟩
theorem Two.upd {base p r : Nat} {v u : Value} {L L' M : List Ent} {w w' : World} (h : Two base p v L r u M w) (hu : Upd base p v L' w w') : ∃ v', Two base p v' L' r u M w' := by
  obtain ⟨hs, hr, hpr, hvr, hup, hd⟩ := h
  obtain ⟨v', hs', ht, ho⟩ := hu
  have hpl := hs.lt
  refine ⟨v', hs', hr.keep ht (fun e => hpr e.symm) (fun e => hvr e.symm) hup ?_, hpr, ?_, hup, ?_⟩
  · cases hq : u.ownBlock with
    | none => exact Or.inl rfl
    | some k => exact Or.inr (fun e => hd k e.symm (by rw [hq]))
  · intro e
    rcases ho r e with h | h
    · exact hvr h
    · have := hr.lt; omega
  · intro k hk e
    rcases ho k hk with h | h
    · exact hd k h e
    · have := hr.own k e; omega
theorem Two.later {base p r : Nat} {v u : Value} {L M : List Ent} {w w' : World} (h : Two base p v L r u M w) (hb : Below w.heap.size w w') : Two base p v L r u M w' :=
  ⟨h.1.later hb, h.2.1.later hb, h.2.2⟩
theorem twoB {w w1 w2 : World} {p : Nat} {v : Value} {L : List Ent} (hb : Below w.heap.size w w1) (hs : Stk w.heap.size p v L w1) (hp : w.heap.size ≤ p) {L' : List Ent} (hu : Upd w.heap.size p v L' w1 w2) : Below w.heap.size w w2 := by
  obtain ⟨v', _, ht, _⟩ := hu
  exact hb.trans (ht.below hb.size hp (fun k hk => (hs.2.1.lt k hk).1))

theorem off_top (f : Ent → Bool) : ∀ (n : Nat) (L a : List Ent) (x : Ent), L.length = n → L.take (L.length - offN f L) = a ++ [x] → f x = false
  | 0, L, a, x, hn, h => by
    obtain rfl := List.eq_nil_of_length_eq_zero hn
    simp at h
  | n + 1, L, a, x, hn, h => by
    obtain ⟨b, y, rfl⟩ := snoc_of L (by omega)
    have hb : b.length = n := by simpa using hn
    have hle := offN_le f b
    rw [offN_snoc] at h
    cases hy : f y with
    | true =>
      rw [hy] at h
      simp only [if_true, List.length_append, List.length_singleton] at h
      rw [show b.length + 1 - (offN f b + 1) = b.length - offN f b by omega, List.take_append_of_le_length (by omega)] at h
      exact off_top f n b a x hb h
    | false =>
      rw [hy] at h
      simp only [Bool.false_eq_true, if_false, Nat.sub_zero, List.take_length] at h
      have := List.append_inj_right' h rfl
      simp only [List.cons.injEq, and_true] at this
      rw [← this]; exact hy
theorem back_top {name : ByteArray} {L a : List Ent} {x : Ent} (h : L.take (L.length - offN (backF [name.data.toList]) L) = a ++ [x]) : x.sp = 0 ∧ x.nm = name := by
  have hx := off_top (backF [name.data.toList]) _ L a x rfl h
  simp [backF, nmdB, inB] at hx
  refine ⟨hx.1, ?_⟩
  have h2 := hx.2
  rw [Lib.toList_data] at h2
  rw [← bs_self x.nm, h2, bs_self]
theorem in_ok (scope : Int) (ns : List (List UInt8)) : ∀ (n : Nat) (L : List Ent), L.length = n → ¬ offN (backF ns) L < L.length → inS scope ns L = false
  | 0, L, hn, h => by
    obtain rfl := List.eq_nil_of_length_eq_zero hn
    rfl
  | n + 1, L, hn, h => by
    obtain ⟨b, y, rfl⟩ := snoc_of L (by omega)
    have hb : b.length = n := by simpa using hn
    rw [offN_snoc] at h
    cases hy : backF ns y with
    | true =>
      rw [hy] at h
      simp only [if_true, List.length_append, List.length_singleton] at h
      have h0 : nmdB y ns = false := by simpa [backF] using hy
      rw [inS_snoc, h0, in_ok scope ns n b hb (by omega)]
      simp
    | false =>
      rw [hy] at h
      simp at h
end Go.Proofs.Ytimkijmjbphhlaa
