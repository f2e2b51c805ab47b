/-
  Arguments of the types urls.Parts and [2]string opened: their cells.
-/
import Derived.Test.YtcpebhecjlcioaaVSp
import Derived.OpenShut
import Derived.ShutString
import Derived.ChangeOld
import Derived.Below
import Derived.Deep.Strs
import Derived.SizedLaws
namespace Go.Proofs.Ytcpebhecjlcioaa
open Go.RowKit Go.Deep Go.WideShapes Go.ChangeShapes
set_option linter.unusedVariables false
set_option linter.unusedSimpArgs false

theorem parts_cells : Try.prog.cellsOf 24 = 9 := by kernel_rfl
theorem bool_cells : Try.prog.cellsOf 4 = 1 := by kernel_rfl
theorem string_cells : Try.prog.cellsOf 9 = 1 := by kernel_rfl
set_option maxRecDepth 100000 in
theorem open_parts_cells {H : Type} {enc : TypeId × Value → H} {W : World} {fuel : Nat} {cs : List Value} {x : DataW H × List MemPlace}
    (h : DataW.trod enc Try.prog W 0 (fun _ => true) true fuel 24 cs = some x) (hw : ∀ n ∈ x.1.weights Try.prog 24, n ≤ reachBytes) : ∃ (sc ho pa qu ma : ByteArray) (b1 b2 b3 b4 : Bool), cs = (ptC sc ho pa qu ma b1 b2 b3 b4).toList ∧ sc.size ≤ 4000000000000000000 ∧ ho.size ≤ 4000000000000000000 ∧ pa.size ≤ 4000000000000000000 ∧ qu.size ≤ 4000000000000000000 ∧ ma.size ≤ 4000000000000000000 := by
  obtain ⟨xs, k, _, hxe, hl, hxl, hf⟩ := DataW.trod_struct Try.underlying24 h
  rw [parts_cells] at hl
  match cs, hl, xs, hxl with
  | [c0, c1, c2, c3, c4, c5, c6, c7, c8], _, [y0, y1, y2, y3, y4, y5, y6, y7, y8], _ =>
    have g0 := hf 0 _ rfl
    have g1 := hf 1 _ rfl
    have g2 := hf 2 _ rfl
    have g3 := hf 3 _ rfl
    have g4 := hf 4 _ rfl
    have g5 := hf 5 _ rfl
    have g6 := hf 6 _ rfl
    have g7 := hf 7 _ rfl
    have g8 := hf 8 _ rfl
    simp [bool_cells, string_cells] at g0 g1 g2 g3 g4 g5 g6 g7 g8
    obtain ⟨a0, e0, h0⟩ := DataW.trod_string Try.underlying9 g0
    obtain ⟨a1, e1, h1⟩ := DataW.trod_string Try.underlying9 g1
    obtain ⟨a2, e2, h2⟩ := DataW.trod_string Try.underlying9 g2
    obtain ⟨a3, e3, h3⟩ := DataW.trod_string Try.underlying9 g3
    obtain ⟨a4, e4, h4⟩ := DataW.trod_string Try.underlying9 g4
    obtain ⟨a5, e5, _⟩ := DataW.trod_bool Try.underlying4 g5
    obtain ⟨a6, e6, _⟩ := DataW.trod_bool Try.underlying4 g6
    obtain ⟨a7, e7, _⟩ := DataW.trod_bool Try.underlying4 g7
    obtain ⟨a8, e8, _⟩ := DataW.trod_bool Try.underlying4 g8
    simp at e0 e1 e2 e3 e4 e5 e6 e7 e8
    have hr := reachBytes_lt
    have hall : ∀ (y : DataW H × List MemPlace) (a : ByteArray), y ∈ [y0, y1, y2, y3, y4] → y = (.lit (.string a.data.toList), []) → a.size ≤ reachBytes := by
      intro y a hy he
      rw [← data_len]
      apply hw
      rw [hxe]
      simp only [DataW.weights, Try.underlying24, List.map_cons, List.map_nil, DataW.weightsEach, List.mem_append]
      simp only [List.mem_cons, List.not_mem_nil, or_false] at hy
      rcases hy with rfl | rfl | rfl | rfl | rfl
      · left; rw [he]; simp [DataW.weights]
      · right; left; rw [he]; simp [DataW.weights]
      · right; right; left; rw [he]; simp [DataW.weights]
      · right; right; right; left; rw [he]; simp [DataW.weights]
      · right; right; right; right; left; rw [he]; simp [DataW.weights]
    have h0' := hall y0 a0 (by simp) h0.1
    have h1' := hall y1 a1 (by simp) h1.1
    have h2' := hall y2 a2 (by simp) h2.1
    have h3' := hall y3 a3 (by simp) h3.1
    have h4' := hall y4 a4 (by simp) h4.1
    exact ⟨a0, a1, a2, a3, a4, a5, a6, a7, a8, by simp [ptC, e0, e1, e2, e3, e4, e5, e6, e7, e8], by omega, by omega, by omega, by omega, by omega⟩
theorem open_parts {H : Type} {enc : TypeId × Value → H} {W : World} {cs : Array Value} {d : DataW H} {ps : List MemPlace}
    (h : DataW.Trod enc Try.prog W 0 (fun _ => true) true 24 (.agg cs) d ps) (hw : ∀ n ∈ d.weights Try.prog 24, n ≤ reachBytes) : ∃ (sc ho pa qu ma : ByteArray) (b1 b2 b3 b4 : Bool), cs = ptC sc ho pa qu ma b1 b2 b3 b4 ∧ sc.size ≤ 4000000000000000000 ∧ ho.size ≤ 4000000000000000000 ∧ pa.size ≤ 4000000000000000000 ∧ qu.size ≤ 4000000000000000000 ∧ ma.size ≤ 4000000000000000000 := by
  obtain ⟨n, t0⟩ := h
  have t1 : DataW.trod enc Try.prog W 0 (fun _ => true) true n 24 cs.toList = some (d, ps) := by simpa [Value.cells] using t0
  obtain ⟨sc, ho, pa, qu, ma, b1, b2, b3, b4, e, hs⟩ := open_parts_cells t1 hw
  refine ⟨sc, ho, pa, qu, ma, b1, b2, b3, b4, ?_, hs⟩
  obtain ⟨cs⟩ := cs
  simp only at e
  rw [e]
set_option maxRecDepth 100000 in
theorem okWide_two {W : World} {r : Reach} {base : Nat} {v : Value} (h : Value.okWide Try.prog W r base 38 v) : ∃ cs, v = .agg cs := by
  simp only [Value.okWide, Try.underlying38] at h
  obtain ⟨cs, h1, _⟩ := h
  exact ⟨cs, h1⟩
theorem two_cells : Try.prog.cellsOf 38 = 2 := by kernel_rfl
set_option maxRecDepth 100000 in
theorem open_two {H : Type} {enc : TypeId × Value → H} {W : World} {cs : Array Value} {d : DataW H} {ps : List MemPlace}
    (h : DataW.Trod enc Try.prog W 0 (fun _ => true) true 38 (.agg cs) d ps) : ∃ a b : ByteArray, cs = #[.string a, .string b] ∧ a.size ≤ 9223372036854775807 ∧ b.size ≤ 9223372036854775807 := by
  obtain ⟨n, t0⟩ := h
  obtain ⟨xs, k, _, _, hl, hxl, hf⟩ := DataW.trod_array Try.underlying38 t0
  rw [two_cells] at hl
  obtain ⟨cs⟩ := cs
  simp only [Value.cells] at hl hf
  match cs, hl, xs, hxl with
  | [c0, c1], _, [y0, y1], _ =>
    have g0 := hf 0 (by omega)
    have g1 := hf 1 (by omega)
    simp [string_cells] at g0 g1
    obtain ⟨s, e0', h0⟩ := DataW.trod_string Try.underlying9 g0
    obtain ⟨t, e1', h1⟩ := DataW.trod_string Try.underlying9 g1
    simp at e0' e1'
    have h0' := h0.2
    have h1' := h1.2
    simp only [maxLen] at h0' h1'
    exact ⟨s, t, by simp [e0', e1'], by omega, by omega⟩
end Go.Proofs.Ytcpebhecjlcioaa
