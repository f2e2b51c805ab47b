/-
  The tables of package refs, and what refs and its reference make of texts, as plain functions of lists of bytes.
-/
import Derived.Test.YtakjlolmmoladaaGreatDoorCKr
import Derived.Test.YtakjlolmmoladaaGreatDoorUChr
namespace Go.Proofs.YtakjlolmmoladaaGreatDoor
open Go.RowKit
set_option linter.unusedVariables false
set_option linter.unusedSimpArgs false

def nmT : List (List UInt8 × Int × Bool) := [([97, 109, 112], 38, true), ([108, 116], 60, true), ([103, 116], 62, true), ([113, 117, 111, 116], 34, true), ([110, 98, 115, 112], 160, true), ([99, 111, 112, 121], 169, true), ([114, 101, 103], 174, true), ([110, 111, 116], 172, true), ([110, 111, 116, 105, 110], 8713, false), ([116, 105, 109, 101, 115], 215, true), ([112, 97, 114, 97], 182, true), ([115, 101, 99, 116], 167, true), ([101, 97, 99, 117, 116, 101], 233, true), ([69, 97, 99, 117, 116, 101], 201, true), ([97, 117, 109, 108], 228, true), ([65, 117, 109, 108], 196, true), ([115, 122, 108, 105, 103], 223, true), ([101, 117, 114, 111], 8364, false), ([104, 101, 108, 108, 105, 112], 8230, false), ([109, 100, 97, 115, 104], 8212, false), ([110, 100, 97, 115, 104], 8211, false), ([97, 108, 112, 104, 97], 945, false), ([98, 101, 116, 97], 946, false), ([114, 97, 114, 114], 8594, false), ([108, 97, 114, 114], 8592, false), ([97, 112, 111, 115], 39, false), ([121, 101, 110], 165, true), ([109, 105, 99, 114, 111], 181, true)]
def nmName (k : Nat) : List UInt8 := (nmT.getD k ([], 0, false)).1
def nmChar (k : Nat) : Int := (nmT.getD k ([], 0, false)).2.1
def nmBare (k : Nat) : Bool := (nmT.getD k ([], 0, false)).2.2
def oldT : List Int := [8364, 0, 8218, 402, 8222, 8230, 8224, 8225, 710, 8240, 352, 8249, 338, 0, 381, 0, 0, 8216, 8217, 8220, 8221, 8226, 8211, 8212, 732, 8482, 353, 8250, 339, 0, 382, 376]
def oldAt (k : Nat) : Int := oldT.getD k 0

/-- The two tables of refs and the two of utf, as their text says them. -/
def NTab (w : World) : Prop :=
  ∀ k, k < 28 → w.cell? ⟨2, k * 3, none⟩ = some (.string (bs (nmName k))) ∧ w.cell? ⟨2, k * 3 + 1, none⟩ = some (.int .i64 (nmChar k)) ∧ w.cell? ⟨2, k * 3 + 2, none⟩ = some (.bool (nmBare k))
def OTab (w : World) : Prop := ∀ k, k < 32 → w.cell? ⟨1, k, none⟩ = some (.int .i64 (oldAt k))
def Tab4 (w : World) : Prop := Tabs w ∧ NTab w ∧ OTab w
theorem Tab4.below {w w' : World} (h : Tab4 w) (hb : Below w.heap.size w w') : Tab4 w' := by
  obtain ⟨h1, h2, h3⟩ := h
  refine ⟨h1.below hb, fun k hk => ?_, fun k hk => cell_later hb (h3 k hk)⟩
  obtain ⟨a, b, c⟩ := h2 k hk
  exact ⟨cell_later hb a, cell_later hb b, cell_later hb c⟩

theorem nm_facts : ∀ k, k < 28 → 2 ≤ (nmName k).length ∧ (nmName k).length ≤ 6 ∧ 0 < nmChar k ∧ nmChar k ≤ 8713 ∧ isC (nmChar k) = true := by decide
theorem nm_inj : ∀ k, k < 28 → ∀ j, j < 28 → nmName k = nmName j → k = j := by decide
theorem nm_plain : ∀ k, k < 28 → ∀ c ∈ nmName k, ltN c.toNat = true := by decide

/-! ### the character of a name, of a number -/
def findF : Nat → List UInt8 → Option Nat
  | 0, _ => none
  | f + 1, l => if nmName (27 - f) = l then some (27 - f) else findF f l
def nameI (l : List UInt8) : Option Nat := findF 28 l
theorem findF_some : ∀ (f : Nat) (l : List UInt8) (k : Nat), f ≤ 28 → findF f l = some k → k < 28 ∧ nmName k = l
  | 0, l, k, _, h => by cases h
  | f + 1, l, k, hf, h => by
    rw [findF] at h
    split at h
    · rename_i e; cases h; exact ⟨by omega, e⟩
    · exact findF_some f l k (by omega) h
theorem findF_none : ∀ (f : Nat) (l : List UInt8), f ≤ 28 → findF f l = none → ∀ k, 28 - f ≤ k → k < 28 → ¬ nmName k = l
  | 0, l, _, _, k, h1, h2 => by omega
  | f + 1, l, hf, h, k, h1, h2 => by
    rw [findF] at h
    split at h
    · cases h
    · rename_i e
      by_cases hk : k = 27 - f
      · subst hk; exact e
      · exact findF_none f l (by omega) h k (by omega) h2
theorem nameI_some {l : List UInt8} {k : Nat} (h : nameI l = some k) : k < 28 ∧ nmName k = l := findF_some 28 l k (Nat.le_refl _) h
theorem nameI_none {l : List UInt8} (h : nameI l = none) : ∀ k, k < 28 → ¬ nmName k = l := fun k hk => findF_none 28 l (Nat.le_refl _) h k (by omega) hk
theorem nameI_is {k : Nat} (h : k < 28) : nameI (nmName k) = some k := by
  cases e : nameI (nmName k) with
  | none => exact absurd rfl (nameI_none e k h)
  | some j => have := nameI_some e; rw [nm_inj j this.1 k h this.2]
def nameC (l : List UInt8) : Int := match nameI l with | none => 0 | some k => nmChar k
theorem nameC_none {l : List UInt8} (h : nameI l = none) : nameC l = 0 := by simp only [nameC, h]
theorem nameC_some {l : List UInt8} {k : Nat} (h : nameI l = some k) : nameC l = nmChar k := by simp only [nameC, h]

def numC (n : Int) : Int := if n ≤ 0 ∨ isC n = false then 65533 else if 128 ≤ n ∧ n < 160 ∧ oldAt (n - 128).toNat ≠ 0 then oldAt (n - 128).toNat else n
theorem old_isC : ∀ k, k < 32 → oldAt k ≠ 0 → isC (oldAt k) = true := by decide
theorem numC_isC (n : Int) : isC (numC n) = true := by
  unfold numC
  split
  · decide
  · rename_i h1
    split
    · rename_i h2; exact old_isC _ (by omega) h2.2.2
    · cases h : isC n with
      | true => rfl
      | false => exact absurd (.inr h) h1
theorem numC_big {n m : Int} (h : 1114112 ≤ n) (h2 : 1114112 ≤ m) : numC n = numC m := by
  rw [numC, numC, if_pos (.inr (isC_no (by omega))), if_pos (.inr (isC_no (by omega)))]
end Go.Proofs.YtakjlolmmoladaaGreatDoor
