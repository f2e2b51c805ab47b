/-
  Nodes as plain data (a list of nodes: a forest), and how they lie in memory.
-/
import Derived.Test.YtfbgpodcdgmpjaaDoorMgBA
import Derived.Test.YtfbgpodcdgmpjaaDoorMgAG
namespace Go.Proofs.YtfbgpodcdgmpjaaDoor
open Go.RowKit
set_option linter.unusedVariables false

/-- A list of nodes: the first one's kind, space, name, attributes, text and kids, and the others. -/
inductive Forest where
  | nil : Forest
  | cons (k sp : Int) (n : ByteArray) (ats : List (ByteArray × ByteArray)) (tx : ByteArray) (kids rest : Forest) : Forest
def Forest.len : Forest → Nat
  | .nil => 0
  | .cons _ _ _ _ _ _ r => r.len + 1
def Forest.count : Forest → Nat
  | .nil => 0
  | .cons _ _ _ _ _ kids r => 1 + kids.count + r.count
def Forest.drop : Nat → Forest → Forest
  | 0, f => f
  | _ + 1, .nil => .nil
  | j + 1, .cons _ _ _ _ _ _ r => r.drop j
theorem Forest.drop_zero (f : Forest) : f.drop 0 = f := by cases f <;> rfl
theorem Forest.drop_nil (j : Nat) : Forest.drop j .nil = .nil := by cases j <;> rfl
theorem Forest.drop_len : ∀ (j : Nat) (f : Forest), (f.drop j).len = f.len - j
  | 0, f => by rw [Forest.drop_zero]; rfl
  | j + 1, .nil => by rw [Forest.drop_nil]; simp [Forest.len]
  | j + 1, .cons _ _ _ _ _ _ r => by
    show (r.drop j).len = r.len + 1 - (j + 1)
    rw [Forest.drop_len j r]; omega
theorem Forest.drop_cons : ∀ (j : Nat) (f : Forest), j < f.len → ∃ k sp n ats tx kids, f.drop j = .cons k sp n ats tx kids (f.drop (j + 1))
  | j, .nil, h => by simp [Forest.len] at h
  | 0, .cons k sp n ats tx kids r, h => ⟨k, sp, n, ats, tx, kids, by show Forest.cons k sp n ats tx kids r = _; rw [show Forest.drop (0 + 1) (.cons k sp n ats tx kids r) = r.drop 0 from rfl, Forest.drop_zero]⟩
  | j + 1, .cons k sp n ats tx kids r, h => Forest.drop_cons j r (by simp [Forest.len] at h; omega)
theorem Forest.drop_out (j : Nat) (f : Forest) (h : f.len ≤ j) : f.drop j = .nil := by
  have := Forest.drop_len j f
  cases e : f.drop j with
  | nil => rfl
  | cons _ _ _ _ _ _ r => rw [e] at this; simp [Forest.len] at this; omega
theorem Forest.count_drop : ∀ (j : Nat) (f : Forest), (f.drop j).count ≤ f.count
  | 0, f => by rw [Forest.drop_zero]; exact Nat.le_refl _
  | j + 1, .nil => by rw [Forest.drop_nil]; exact Nat.le_refl _
  | j + 1, .cons _ _ _ _ _ _ r => by
    have := Forest.count_drop j r
    show (r.drop j).count ≤ _
    simp [Forest.count]; omega
theorem Forest.len_count : ∀ (f : Forest), f.len ≤ f.count
  | .nil => Nat.le_refl _
  | .cons _ _ _ _ _ kids r => by have := Forest.len_count r; simp [Forest.len, Forest.count]; omega

/-- Nodes lie in a block from a place on, six cells each, with all that is below them. -/
def Lies : Forest → Nat → Nat → World → Prop
  | .nil, _, _, _ => True
  | .cons k sp n ats tx kids rest, g, o, w =>
    (w.cell? ⟨g, o, none⟩ = some (.int .i64 k) ∧ w.cell? ⟨g, o + 1, none⟩ = some (.int .i64 sp) ∧ w.cell? ⟨g, o + 2, none⟩ = some (.string n) ∧
      (∃ qa ca, w.cell? ⟨g, o + 3, none⟩ = some (.slice qa ats.length ca) ∧ Sl qa ats w) ∧ w.cell? ⟨g, o + 4, none⟩ = some (.string tx) ∧
      ∃ qk ck, w.cell? ⟨g, o + 5, none⟩ = some (.slice qk kids.len ck) ∧ kids.len ≤ ck ∧ (kids = .nil ∨ ∃ g' o', qk = some ⟨g', o', none⟩ ∧ Lies kids g' o' w)) ∧
    Lies rest g (o + 6) w
/-- Nodes behind a slice, or none at all. -/
def Fo (q : Option Addr) (f : Forest) (w : World) : Prop := f = .nil ∨ ∃ g o, q = some ⟨g, o, none⟩ ∧ Lies f g o w
theorem Lies.below {w w' : World} (hb : Below w.heap.size w w') : ∀ (f : Forest) (g o : Nat), Lies f g o w → Lies f g o w'
  | .nil, g, o, h => trivial
  | .cons k sp n ats tx kids rest, g, o, h => by
    obtain ⟨⟨h0, h1, h2, ⟨qa, ca, h3, h3'⟩, h4, ⟨qk, ck, h5, h6, h7⟩⟩, hr⟩ := h
    refine ⟨⟨cell_later hb h0, cell_later hb h1, cell_later hb h2, ⟨qa, ca, cell_later hb h3, h3'.below hb⟩, cell_later hb h4, ⟨qk, ck, cell_later hb h5, h6, ?_⟩⟩, Lies.below hb rest g (o + 6) hr⟩
    rcases h7 with h7 | ⟨g', o', hq, hl⟩
    · exact Or.inl h7
    · exact Or.inr ⟨g', o', hq, Lies.below hb kids g' o' hl⟩
theorem Fo.below {w w' : World} {q : Option Addr} {f : Forest} (h : Fo q f w) (hb : Below w.heap.size w w') : Fo q f w' :=
  h.imp id fun ⟨g, o, h1, h2⟩ => ⟨g, o, h1, h2.below hb⟩
theorem Lies.drop {w : World} {g : Nat} : ∀ (j : Nat) (f : Forest) (o : Nat), Lies f g o w → Lies (f.drop j) g (o + j * 6) w
  | 0, f, o, h => by rw [Forest.drop_zero]; simpa using h
  | j + 1, .nil, o, h => by rw [Forest.drop_nil]; trivial
  | j + 1, .cons _ _ _ _ _ _ r, o, h => by
    have := Lies.drop j r (o + 6) h.2
    show Lies (r.drop j) g _ w
    rw [show o + (j + 1) * 6 = o + 6 + j * 6 by omega]; exact this

/-! ### the reference's Count -/
end Go.Proofs.YtfbgpodcdgmpjaaDoor
