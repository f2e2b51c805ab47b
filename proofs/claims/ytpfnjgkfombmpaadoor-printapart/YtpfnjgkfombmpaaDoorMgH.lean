/-
  Several texts in one: what the functions of the program and of the document's answer do.
-/
import Derived.Test.YtpfnjgkfombmpaaDoorMgD

/-
  What 'rectoref01.Size' does.
-/
namespace Go.Proofs.YtpfnjgkfombmpaaDoor
open Go.RowKit
set_option linter.unusedVariables false

end Go.Proofs.YtpfnjgkfombmpaaDoor

/-
  What 'rectoref01.Plain' does.
-/
namespace Go.Proofs.YtpfnjgkfombmpaaDoor
open Go.RowKit
set_option linter.unusedVariables false

theorem conv1 (w : World) (n : Nat) (c : Int) (h : n = w.heap.size) :
    Sem.run Tryd.prog (convert 60 9 (Value.slice (some { block := n, off := 0 }) 1 1)) (w.alloc (Obj.cells #[.int .u8 c] 5)) = .ok (.string (str [c])) (w.alloc (Obj.cells #[.int .u8 c] 5)) := by
  subst h
  refine run_convert_bytes_arg (P := Tryd.prog) _ 60 5 Tryd.underlying60 Tryd.underlying5 w.heap.size 0 1 1 [c] rfl ?_ 9 Tryd.underlying9
  intro i hi
  have : i = 0 := by omega
  subst this
  rw [World.cell?_alloc_mark]; rfl
theorem str_add (a b : List Int) : str a ++ str b = str (a ++ b) := by
  apply ByteArray.ext
  simp [str, strOfNums]
theorem str_none (a : ByteArray) : a ++ (⟨#[]⟩ : ByteArray) = a := by
  apply ByteArray.ext
  simp

end Go.Proofs.YtpfnjgkfombmpaaDoor
