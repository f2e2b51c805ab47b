/-
  An argument of type rectolaw11.Step opened: its cells.
-/
import Derived.Test.YtabajhbghjfhoabBase
import Derived.OpenShut
import Derived.ShutString
import Derived.ChangeOld
import Derived.Below
import Derived.Deep.Strs
namespace Go.Proofs.Ytabajhbghjfhoab
open Go.RowKit Go.Deep Go.WideShapes Go.ChangeShapes
set_option linter.unusedVariables false
set_option linter.unusedSimpArgs false

theorem gstep_cells : Try.prog.cellsOf 30 = 4 := by kernel_rfl
theorem int_cells : Try.prog.cellsOf 3 = 1 := by kernel_rfl
theorem string_cells : Try.prog.cellsOf 9 = 1 := by kernel_rfl
set_option maxRecDepth 100000 in
theorem open_gstep_cells {H : Type} {enc : TypeId × Value → H} {W : World} {fuel : Nat} {cs : List Value} {x : DataW H × List MemPlace}
    (h : DataW.trod enc Try.prog W 0 (fun _ => true) true fuel 30 cs = some x) : ∃ wh a b s, cs = [.int .i64 wh, .int .i64 a, .int .i64 b, .string s] ∧ s.size ≤ 9223372036854775807 := by
  obtain ⟨xs, k, _, _, hl, hxl, hf⟩ := DataW.trod_struct Try.underlying30 h
  rw [gstep_cells] at hl
  match cs, hl, xs, hxl with
  | [c0, c1, c2, c3], _, [y0, y1, y2, y3], _ =>
    have g0 := hf 0 _ rfl
    have g1 := hf 1 _ rfl
    have g2 := hf 2 _ rfl
    have g3 := hf 3 _ rfl
    simp [int_cells, string_cells] at g0 g1 g2 g3
    obtain ⟨a, e0', _⟩ := DataW.trod_int Try.underlying3 g0
    obtain ⟨b, e1', _⟩ := DataW.trod_int Try.underlying3 g1
    obtain ⟨c, e2', _⟩ := DataW.trod_int Try.underlying3 g2
    obtain ⟨s, e3', hs⟩ := DataW.trod_string Try.underlying9 g3
    simp at e0' e1' e2' e3'
    exact ⟨a, b, c, s, by simp [e0', e1', e2', e3'], by have := hs.2; simp only [maxLen] at this; omega⟩
theorem open_gstep {H : Type} {enc : TypeId × Value → H} {W : World} {cs : Array Value} {d : DataW H} {ps : List MemPlace}
    (h : DataW.Trod enc Try.prog W 0 (fun _ => true) true 30 (.agg cs) d ps) : ∃ wh a b s, cs = #[.int .i64 wh, .int .i64 a, .int .i64 b, .string s] ∧ s.size ≤ 9223372036854775807 := by
  obtain ⟨n, t0⟩ := h
  have t1 : DataW.trod enc Try.prog W 0 (fun _ => true) true n 30 cs.toList = some (d, ps) := by simpa [Value.cells] using t0
  obtain ⟨wh, a, b, s, e, hs⟩ := open_gstep_cells t1
  refine ⟨wh, a, b, s, ?_, hs⟩
  obtain ⟨cs⟩ := cs
  simp only at e
  rw [e]
end Go.Proofs.Ytabajhbghjfhoab
