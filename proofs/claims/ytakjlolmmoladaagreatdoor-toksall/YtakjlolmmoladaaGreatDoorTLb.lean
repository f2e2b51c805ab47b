/-
  What functions of the library do that the program calls: strings.HasPrefix, HasSuffix, Contains, Cut, CutSuffix.
-/
import Derived.Test.YtakjlolmmoladaaGreatDoorBase
import Derived.Test.YtakjlolmmoladaaGreatDoorHp
import Derived.Test.YtakjlolmmoladaaGreatDoorSh
import Derived.Lib.IndexBytes
namespace Go.Proofs.YtakjlolmmoladaaGreatDoor
open Go.RowKit
set_option linter.unusedVariables false

/-- The library's own variable that says how long a text it seeks at once: whatever it holds. -/
def Mx (w : World) : Prop := ∃ m, w.cell? ⟨4, 0, none⟩ = some (.int .i64 m)
theorem Mx.below {w w' : World} (h : Mx w) (hb : Below w.heap.size w w') : Mx w' := by
  obtain ⟨m, h⟩ := h; exact ⟨m, cell_later hb h⟩
theorem prefix_any (s : ByteArray) (p : List UInt8) (w : World) :
    Calls Tryz.prog 46 #[.string s, .string (bs p)] w fun e w' => e = .returned (.bool (p.isPrefixOf s.data.toList)) ∧ w' = w := by
  have := hasPrefix_any s (bs p) w
  rw [bs_toList] at this; exact this

theorem cut_any (s : ByteArray) (p : List UInt8) (w : World) (hm : Mx w) (hs : s.size ≤ 100000) :
    Calls Tryz.prog 96 #[.string s, .string (bs p)] w fun e w' => e = .returned (.tuple #[.string (bs (Lib.cut s.data.toList p).1), .string (bs (Lib.cut s.data.toList p).2.1), .bool (Lib.cut s.data.toList p).2.2]) ∧ Below w.heap.size w w' := by
  obtain ⟨m, hm⟩ := hm
  have := Tryz.strings_Cut s (bs p) m w (by omega) hm
  rw [bs_toList] at this
  exact this.mono fun e w' ⟨h1, n, h2⟩ => ⟨h1, by rw [h2]; exact below_draws w n⟩
end Go.Proofs.YtakjlolmmoladaaGreatDoor
