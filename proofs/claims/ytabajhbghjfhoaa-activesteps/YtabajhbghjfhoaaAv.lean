/-
  Attributes as they lie in memory.
-/
import Derived.Test.YtabajhbghjfhoaaBase
import Derived.Maps.OwnSet
import Derived.Maps.Views
namespace Go.Proofs.Ytabajhbghjfhoaa
open Go.RowKit Go.Maps Go.WideMaps
set_option linter.unusedVariables false

/-- Attributes that lie in memory, one behind the other. -/
def an (ats : List (ByteArray × ByteArray)) (k : Nat) : ByteArray := (ats.getD k (ByteArray.empty, ByteArray.empty)).1
def av (ats : List (ByteArray × ByteArray)) (k : Nat) : ByteArray := (ats.getD k (ByteArray.empty, ByteArray.empty)).2
def Cells2 (g o : Nat) (ats : List (ByteArray × ByteArray)) (w : World) : Prop :=
  ∀ k, k < ats.length → w.cell? ⟨g, o + k * 2, none⟩ = some (.string (an ats k)) ∧ w.cell? ⟨g, o + k * 2 + 1, none⟩ = some (.string (av ats k))
theorem Cells2.below {g o : Nat} {ats : List (ByteArray × ByteArray)} {w w' : World} (h : Cells2 g o ats w) (hb : Below w.heap.size w w') : Cells2 g o ats w' :=
  fun k hk => ⟨cell_later hb (h k hk).1, cell_later hb (h k hk).2⟩
/-- Attributes behind a slice, or none at all. -/
def Sl (q : Option Addr) (ats : List (ByteArray × ByteArray)) (w : World) : Prop := ats = [] ∨ ∃ g o, q = some ⟨g, o, none⟩ ∧ Cells2 g o ats w
theorem Sl.below {q : Option Addr} {ats : List (ByteArray × ByteArray)} {w w' : World} (h : Sl q ats w) (hb : Below w.heap.size w w') : Sl q ats w' :=
  h.imp id fun ⟨g, o, h1, h2⟩ => ⟨g, o, h1, h2.below hb⟩
theorem law9 : Keyed Try.prog 9 := string_keyed Try.underlying9
theorem isKey (b : ByteArray) : WideAt.IsKeyLit (.string b.data.toList) := by simp [WideAt.IsKeyLit]
end Go.Proofs.Ytabajhbghjfhoaa
