/-
  The law UrlsJoins walked (made by mk_lvj.py).
-/
import Derived.Test.YtfdhmhdemfbfeaaVSf
import Derived.Test.YtfdhmhdemfbfeaaVJn
import Derived.Deep.RegionHeld
namespace Go.Proofs.Ytfdhmhdemfbfeaa
open Go.RowKit
set_option linter.unusedVariables false
set_option linter.unusedSimpArgs false

def KeepP (b : Nat) (sc ho pa qu ma : ByteArray) (hs hh hq hm : Bool) (W : World) : Prop :=
  W.cell? ⟨b, 0, none⟩ = some (.string sc) ∧ W.cell? ⟨b, 1, none⟩ = some (.string ho) ∧ W.cell? ⟨b, 2, none⟩ = some (.string pa) ∧ W.cell? ⟨b, 3, none⟩ = some (.string qu) ∧ W.cell? ⟨b, 4, none⟩ = some (.string ma) ∧
  W.cell? ⟨b, 5, none⟩ = some (.bool hs) ∧ W.cell? ⟨b, 6, none⟩ = some (.bool hh) ∧ W.cell? ⟨b, 7, none⟩ = some (.bool hq) ∧ W.cell? ⟨b, 8, none⟩ = some (.bool hm)
theorem KeepP.of {b : Nat} {sc ho pa qu ma : ByteArray} {hs hh hq hm : Bool} {W : World} {t : TypeId} (h : Blk W b (ptC sc ho pa qu ma hs hh hq hm) t) : KeepP b sc ho pa qu ma hs hh hq hm W :=
  ⟨h.cell 0, h.cell 1, h.cell 2, h.cell 3, h.cell 4, h.cell 5, h.cell 6, h.cell 7, h.cell 8⟩

end Go.Proofs.Ytfdhmhdemfbfeaa
