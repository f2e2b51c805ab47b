/-
  An argument of type api.Node opened.
-/
import Derived.Test.YtfdhmhdemfbfeaaOFo
namespace Go.Proofs.Ytfdhmhdemfbfeaa
open Go.RowKit Go.Deep Go.WideShapes Go.ChangeShapes
set_option linter.unusedVariables false
set_option linter.unusedSimpArgs false

/-- A node as it is handed over. -/
structure NdA where
  k : Int
  sp : Int
  n : ByteArray
  ats : List (ByteArray × ByteArray)
  tx : ByteArray
  kids : Forest
  qa : Option Addr
  ca : Nat
  qk : Option Addr
  ck : Nat
def NdA.cells (x : NdA) : Array Value := #[.int .i64 x.k, .int .i64 x.sp, .string x.n, .slice x.qa x.ats.length x.ca, .string x.tx, .slice x.qk x.kids.len x.ck]
def NdA.Ok (x : NdA) (W : World) : Prop := Sl x.qa x.ats W ∧ x.kids.len ≤ x.ck ∧ Fo x.qk x.kids W
set_option maxRecDepth 100000 in
theorem open_node {H : Type} {enc : TypeId × Value → H} {W : World} {base : Nat} {v : Value} {d : DataW H} {ps : List MemPlace} (hv : Value.okWide Try.prog W .any base 43 v)
    (h : DataW.Trod enc Try.prog W 0 (fun _ => true) true 43 v d ps) : ∃ x : NdA, v = .agg x.cells ∧ x.Ok W := by
  obtain ⟨cs, rfl, _⟩ := okWide_struct Try.underlying43 hv
  obtain ⟨n, t0⟩ := h
  have t1 : DataW.trod enc Try.prog W 0 (fun _ => true) true n 43 cs.toList = some (d, ps) := by simpa [Value.cells] using t0
  obtain ⟨cs⟩ := cs
  simp only at t1
  obtain ⟨xs, k', _, hxe, hl', hxl, hf⟩ := DataW.trod_struct Try.underlying43 t1
  rw [fnode_cells] at hl'
  match cs, hl', xs, hxl with
  | [c0, c1, c2, c3, c4, c5], _, [y0, y1, y2, y3, y4, y5], _ =>
    have g0 := hf 0 _ rfl
    have g1 := hf 1 _ rfl
    have g2 := hf 2 _ rfl
    have g3 := hf 3 _ rfl
    have g4 := hf 4 _ rfl
    have g5 := hf 5 _ rfl
    simp [fint_cells, fstr_cells, fattrs_cells, fnodes_cells] at g0 g1 g2 g3 g4 g5
    obtain ⟨ki, e0', _⟩ := DataW.trod_int Try.underlying3 g0
    obtain ⟨spi, e1', _⟩ := DataW.trod_int Try.underlying3 g1
    obtain ⟨ni, e2', _⟩ := DataW.trod_string Try.underlying9 g2
    obtain ⟨ats, qa, ca, e3', hsl⟩ := open_fattrs g3
    obtain ⟨ti, e4', _⟩ := DataW.trod_string Try.underlying9 g4
    obtain ⟨y5d, y5p⟩ := y5
    obtain ⟨kf, qk, ck, e5', hck, hkf⟩ := open_forest _ k' c5 y5d y5p (Nat.le_refl _) g5
    simp at e0' e1' e2' e4'
    refine ⟨⟨ki, spi, ni, ats, ti, kf, qa, ca, qk, ck⟩, ?_, hsl, hck, hkf⟩
    unfold NdA.cells
    rw [e0', e1', e2', e3', e4', e5']
end Go.Proofs.Ytfdhmhdemfbfeaa
