/-
  An argument of type rectolaw09.Step opened: its cells.
-/
import Derived.Test.YtdkjdomacilagaaOEn
namespace Go.Proofs.Ytdkjdomacilagaa
open Go.RowKit Go.Deep Go.WideShapes Go.ChangeShapes
set_option linter.unusedVariables false
set_option linter.unusedSimpArgs false

theorem step_cells : Try.prog.cellsOf 34 = 7 := by kernel_rfl
set_option maxRecDepth 100000 in
theorem open_step_cells {H : Type} {enc : TypeId × Value → H} {W : World} {fuel : Nat} {cs : List Value} {x : DataW H × List MemPlace}
    (h : DataW.trod enc Try.prog W 0 (fun _ => true) true fuel 34 cs = some x) : ∃ wh at' id sp nm na nb, cs = [.int .i64 wh, .int .i64 at', .int .i64 id, .int .i64 sp, .string nm, .string na, .string nb] := by
  obtain ⟨xs, k, _, _, hl, hxl, hf⟩ := DataW.trod_struct Try.underlying34 h
  rw [step_cells] at hl
  match cs, hl, xs, hxl with
  | [c0, c1, c2, c3, c4, c5, c6], _, [y0, y1, y2, y3, y4], _ =>
    have g0 := hf 0 _ rfl
    have g1 := hf 1 _ rfl
    have g2 := hf 2 _ rfl
    have g3 := hf 3 _ rfl
    have g4 := hf 4 _ rfl
    simp [int_cells, string_cells, ent_cells] at g0 g1 g2 g3 g4
    obtain ⟨a, e0', _⟩ := DataW.trod_int Try.underlying3 g0
    obtain ⟨b, e1', _⟩ := DataW.trod_int Try.underlying3 g1
    obtain ⟨e, e2'⟩ := open_ent g2
    obtain ⟨s, e3', _⟩ := DataW.trod_string Try.underlying9 g3
    obtain ⟨t, e4', _⟩ := DataW.trod_string Try.underlying9 g4
    simp [entL] at e0' e1' e2' e3' e4'
    exact ⟨a, b, e.id, e.sp, e.nm, s, t, by simp [e0', e1', e2', e3', e4']⟩
theorem open_step {H : Type} {enc : TypeId × Value → H} {W : World} {cs : Array Value} {d : DataW H} {ps : List MemPlace}
    (h : DataW.Trod enc Try.prog W 0 (fun _ => true) true 34 (.agg cs) d ps) : ∃ wh at' id sp nm na nb, cs = #[.int .i64 wh, .int .i64 at', .int .i64 id, .int .i64 sp, .string nm, .string na, .string nb] := by
  obtain ⟨n, t0⟩ := h
  have t1 : DataW.trod enc Try.prog W 0 (fun _ => true) true n 34 cs.toList = some (d, ps) := by simpa [Value.cells] using t0
  obtain ⟨wh, at', id, sp, nm, na, nb, e⟩ := open_step_cells t1
  refine ⟨wh, at', id, sp, nm, na, nb, ?_⟩
  obtain ⟨cs⟩ := cs
  simp only at e
  rw [e]
end Go.Proofs.Ytdkjdomacilagaa
