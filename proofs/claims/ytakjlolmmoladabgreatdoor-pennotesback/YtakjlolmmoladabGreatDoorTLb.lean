/-
  What functions of the library do that the program calls: strings.HasPrefix, HasSuffix, Contains, Cut, CutSuffix.
-/
import Derived.Test.YtakjlolmmoladabGreatDoorBase
import Derived.Test.YtakjlolmmoladabGreatDoorHp
import Derived.Test.YtakjlolmmoladabGreatDoorSh
import Derived.Lib.IndexBytes
namespace Go.Proofs.YtakjlolmmoladabGreatDoor
open Go.RowKit
set_option linter.unusedVariables false

/-- The library's own variable that says how long a text it seeks at once: whatever it holds. -/
def Mx (w : World) : Prop := ∃ m, w.cell? ⟨2, 0, none⟩ = some (.int .i64 m)
theorem Mx.below {w w' : World} (h : Mx w) (hb : Below w.heap.size w w') : Mx w' := by
  obtain ⟨m, h⟩ := h; exact ⟨m, cell_later hb h⟩
theorem suffix_any (s : ByteArray) (p : List UInt8) (w : World) (hs : s.size ≤ 100000) :
    Calls Tryz.prog 31 #[.string s, .string (bs p)] w fun e w' => e = .returned (.bool (Lib.hasSuffix s.data.toList p)) ∧ w' = w := by
  have := Tryz.strings_HasSuffix s (bs p) w (by omega)
  rw [bs_toList] at this; exact this
theorem contains_any (s : ByteArray) (p : List UInt8) (w : World) (hm : Mx w) (hs : s.size ≤ 100000) :
    Calls Tryz.prog 32 #[.string s, .string (bs p)] w fun e w' => e = .returned (.bool (Lib.contains s.data.toList p)) ∧ w' = w := by
  obtain ⟨m, hm⟩ := hm
  have := Tryz.strings_Contains s (bs p) m w (by omega) hm
  rw [bs_toList] at this; exact this
theorem prefix_any (s : ByteArray) (p : List UInt8) (w : World) :
    Calls Tryz.prog 30 #[.string s, .string (bs p)] w fun e w' => e = .returned (.bool (p.isPrefixOf s.data.toList)) ∧ w' = w := by
  have := hasPrefix_any s (bs p) w
  rw [bs_toList] at this; exact this

theorem cut_any (s : ByteArray) (p : List UInt8) (w : World) (hm : Mx w) (hs : s.size ≤ 100000) :
    Calls Tryz.prog 114 #[.string s, .string (bs p)] w fun e w' => e = .returned (.tuple #[.string (bs (Lib.cut s.data.toList p).1), .string (bs (Lib.cut s.data.toList p).2.1), .bool (Lib.cut s.data.toList p).2.2]) ∧ Below w.heap.size w w' := by
  obtain ⟨m, hm⟩ := hm
  have := Tryz.strings_Cut s (bs p) m w (by omega) hm
  rw [bs_toList] at this
  exact this.mono fun e w' ⟨h1, n, h2⟩ => ⟨h1, by rw [h2]; exact below_draws w n⟩
end Go.Proofs.YtakjlolmmoladabGreatDoor
