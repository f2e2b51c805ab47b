/-
  An argument of type rectolaw10.Step opened: its cells.
-/
import Derived.Test.YtabajhbghjfhoaaAPl
import Derived.Deep.SlicePairs
import Derived.Deep.Strs
import Derived.Carry
import Derived.OpenShut
namespace Go.Proofs.Ytabajhbghjfhoaa
open Go.RowKit Go.Deep Go.WideShapes Go.ChangeShapes
set_option linter.unusedVariables false
set_option linter.unusedSimpArgs false

theorem aent_cells : Try.prog.cellsOf 58 = 4 := by kernel_rfl
theorem astep_cells : Try.prog.cellsOf 60 = 6 := by kernel_rfl
theorem int_cells : Try.prog.cellsOf 3 = 1 := by kernel_rfl
theorem bool_cells : Try.prog.cellsOf 4 = 1 := by kernel_rfl
theorem string_cells : Try.prog.cellsOf 9 = 1 := by kernel_rfl
theorem attrs_cells : Try.prog.cellsOf 56 = 1 := by kernel_rfl
set_option maxRecDepth 100000 in
theorem open_aent {H : Type} {enc : TypeId × Value → H} {W : World} {fuel : Nat} {cs : List Value} {x : DataW H × List MemPlace}
    (h : DataW.trod enc Try.prog W 0 (fun _ => true) true fuel 58 cs = some x) : ∃ xm xi xn xq xl xc, cs = [.bool xm, .int .i64 xi, .string xn, .slice xq xl xc] := by
  obtain ⟨xs, k, _, _, hl, hxl, hf⟩ := DataW.trod_struct Try.underlying58 h
  rw [aent_cells] at hl
  match cs, hl, xs, hxl with
  | [c0, c1, c2, c3], _, [y0, y1, y2, y3], _ =>
    have g0 := hf 0 _ rfl
    have g1 := hf 1 _ rfl
    have g2 := hf 2 _ rfl
    have g3 := hf 3 _ rfl
    simp [int_cells, bool_cells, string_cells, attrs_cells] at g0 g1 g2 g3
    obtain ⟨a, e0', _⟩ := DataW.trod_bool Try.underlying4 g0
    obtain ⟨b, e1', _⟩ := DataW.trod_int Try.underlying3 g1
    obtain ⟨s, e2', _⟩ := DataW.trod_string Try.underlying9 g2
    simp at e0' e1' e2'
    rcases open_slice Try.underlying56 g3 with ⟨hc, _⟩ | ⟨q, len, cap, _, _, _, _, hc, _⟩
    · simp at hc
      exact ⟨a, b, s, none, 0, 0, by simp [e0', e1', e2', hc]⟩
    · simp at hc
      exact ⟨a, b, s, some q, len, cap, by simp [e0', e1', e2', hc]⟩
set_option maxRecDepth 100000 in
theorem open_astep {H : Type} {enc : TypeId × Value → H} {W : World} {cs : Array Value} {d : DataW H} {ps : List MemPlace}
    (h : DataW.Trod enc Try.prog W 0 (fun _ => true) true 60 (.agg cs) d ps) : ∃ wh n0 xm xi xn xq xl xc, cs = #[.int .i64 wh, .int .i64 n0, .bool xm, .int .i64 xi, .string xn, .slice xq xl xc] := by
  obtain ⟨n, t0⟩ := h
  have t1 : DataW.trod enc Try.prog W 0 (fun _ => true) true n 60 cs.toList = some (d, ps) := by simpa [Value.cells] using t0
  obtain ⟨y0, y1, y2, k, _, hl, h0, h1, h2⟩ := trod_struct3 Try.underlying60 t1
  rw [astep_cells] at hl
  obtain ⟨cs⟩ := cs
  simp only at *
  match cs, hl with
  | [c0, c1, c2, c3, c4, c5], _ =>
    obtain ⟨a, e0', _⟩ := DataW.trod_int Try.underlying3 h0
    obtain ⟨b, e1', _⟩ := DataW.trod_int Try.underlying3 h1
    obtain ⟨xm, xi, xn, xq, xl, xc, e2'⟩ := open_aent h2
    simp [int_cells, aent_cells] at e0' e1' e2'
    exact ⟨a, b, xm, xi, xn, xq, xl, xc, by simp [e0', e1', e2']⟩
end Go.Proofs.Ytabajhbghjfhoaa
