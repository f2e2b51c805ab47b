/-
  An argument of type []rectolaw09.Step opened, and one of type [2]string.
-/
import Derived.Test.YtdkjdomacilagaaOSs
import Derived.Test.YtdkjdomacilagaaDSt
namespace Go.Proofs.Ytdkjdomacilagaa
open Go.RowKit Go.Deep Go.WideShapes Go.ChangeShapes
set_option linter.unusedVariables false
set_option linter.unusedSimpArgs false

def stepL (s : Stp) : List Value := [.int .i64 s.wh, .int .i64 s.at', .int .i64 s.id, .int .i64 s.sp, .string s.nm, .string s.na, .string s.nb]
theorem open_steps {H : Type} {enc : TypeId × Value → H} {W : World} {qa : Option Addr} {len cap : Nat} {d : DataW H} {ps : List MemPlace}
    (h : DataW.Trod enc Try.prog W 0 (fun _ => true) true 22 (.slice qa len cap) d ps) :
    ∃ L : List Stp, L.length = len ∧ len ≤ cap ∧ cap ≤ 9223372036854775807 ∧ (L = [] ∨ ∃ g o, qa = some ⟨g, o, none⟩ ∧ Cells7 g o L W) := by
  obtain ⟨n, t0⟩ := h
  rcases open_slice Try.underlying22 t0 with ⟨hc, hx⟩ | ⟨a, len', cap', m, k, D, Pl, hc, _, hl, hm, hmm, hx, hall⟩
  · simp only [Value.cells, List.cons.injEq, and_true, Value.slice.injEq] at hc
    obtain ⟨rfl, rfl, rfl⟩ := hc
    exact ⟨[], rfl, by omega, by omega, Or.inl rfl⟩
  · simp only [Value.cells, List.cons.injEq, and_true, Value.slice.injEq] at hc
    obtain ⟨rfl, rfl, rfl⟩ := hc
    simp only [if_true] at hmm
    subst hmm
    have each : ∀ i, i < m → ∃ e : Stp, ∀ j u, (stepL e)[j]? = some u → W.cell? (a.add (i * 7 + j)) = some u := fun i hi => by
      obtain ⟨cs', h1, h2⟩ := hall i hi
      rw [step_cells] at h1
      obtain ⟨wh, at', id, sp, nm, na, nb, rfl⟩ := open_step_cells h2
      obtain ⟨_, hlen, hcell⟩ := World.cells?_some h1
      refine ⟨⟨wh, at', id, sp, nm, na, nb⟩, fun j u hj => ?_⟩
      have hj3 : j < 7 := by
        have := (List.getElem?_eq_some_iff.1 hj).1
        simpa [stepL] using this
      have := hcell j hj3
      rw [show ([.int .i64 wh, .int .i64 at', .int .i64 id, .int .i64 sp, .string nm, .string na, .string nb] : List Value) = stepL ⟨wh, at', id, sp, nm, na, nb⟩ from rfl, hj] at this
      rw [← this]
      rw [add_addr]
    have hch : ∃ f : Nat → Stp, ∀ i, i < m → ∀ j u, (stepL (f i))[j]? = some u → W.cell? (a.add (i * 7 + j)) = some u :=
      ⟨fun i => if hi : i < m then Classical.choose (each i hi) else s0, fun i hi => by
        have := Classical.choose_spec (each i hi)
        simpa only [dif_pos hi] using this⟩
    obtain ⟨f, hf⟩ := hch
    have hln : ((List.range len).map f).length = len := by simp
    refine ⟨(List.range len).map f, hln, hl, by simp only [maxLen] at hm; omega, ?_⟩
    by_cases h0 : len = 0
    · subst h0; exact Or.inl rfl
    · right
      obtain ⟨b, o, spot⟩ := a
      have hspot : spot = none := by
        have := hf 0 (by omega) 0 _ rfl
        simpa [Addr.add] using World.cell?_spot this
      subst hspot
      refine ⟨b, o, rfl, fun i hi => ?_⟩
      rw [hln] at hi
      have hg : ((List.range len).map f).getD i s0 = f i := by simp [List.getD, hi]
      rw [hg]
      have c := fun j u hj => hf i (by omega) j u hj
      have c0 := c 0 _ rfl
      have c1 := c 1 _ rfl
      have c2 := c 2 _ rfl
      have c3 := c 3 _ rfl
      have c4 := c 4 _ rfl
      have c5 := c 5 _ rfl
      have c6 := c 6 _ rfl
      rw [Addr.add_lit] at c0 c1 c2 c3 c4 c5 c6
      exact ⟨c0, by rw [Nat.add_assoc]; exact c1, by rw [Nat.add_assoc]; exact c2, by rw [Nat.add_assoc]; exact c3, by rw [Nat.add_assoc]; exact c4, by rw [Nat.add_assoc]; exact c5, by rw [Nat.add_assoc]; exact c6⟩
set_option maxRecDepth 100000 in
theorem okWide_two {W : World} {r : Reach} {base : Nat} {v : Value} (h : Value.okWide Try.prog W r base 23 v) : ∃ cs, v = .agg cs := by
  simp only [Value.okWide, Try.underlying23] at h
  obtain ⟨cs, h1, _⟩ := h
  exact ⟨cs, h1⟩
theorem two_cells : Try.prog.cellsOf 23 = 2 := by kernel_rfl
set_option maxRecDepth 100000 in
theorem open_two {H : Type} {enc : TypeId × Value → H} {W : World} {cs : Array Value} {d : DataW H} {ps : List MemPlace}
    (h : DataW.Trod enc Try.prog W 0 (fun _ => true) true 23 (.agg cs) d ps) : ∃ a b, cs = #[.string a, .string b] := by
  obtain ⟨n, t0⟩ := h
  obtain ⟨xs, k, _, _, hl, hxl, hf⟩ := DataW.trod_array Try.underlying23 t0
  rw [two_cells] at hl
  obtain ⟨cs⟩ := cs
  simp only [Value.cells] at hl hf
  match cs, hl, xs, hxl with
  | [c0, c1], _, [y0, y1], _ =>
    have g0 := hf 0 (by omega)
    have g1 := hf 1 (by omega)
    simp [string_cells] at g0 g1
    obtain ⟨s, e0', _⟩ := DataW.trod_string Try.underlying9 g0
    obtain ⟨t, e1', _⟩ := DataW.trod_string Try.underlying9 g1
    simp at e0' e1'
    exact ⟨s, t, by simp [e0', e1']⟩
end Go.Proofs.Ytdkjdomacilagaa
