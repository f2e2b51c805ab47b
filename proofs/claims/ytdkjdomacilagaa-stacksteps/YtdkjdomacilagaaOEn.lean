/-
  An argument of type []stack.Entry opened: the entries behind it.
-/
import Derived.Test.YtdkjdomacilagaaKPl
import Derived.Deep.SlicePairs
import Derived.Deep.Strs
import Derived.Carry
import Derived.OpenShut
namespace Go.Proofs.Ytdkjdomacilagaa
open Go.RowKit Go.Deep Go.WideShapes Go.ChangeShapes
set_option linter.unusedVariables false
set_option linter.unusedSimpArgs false

theorem ent_cells : Try.prog.cellsOf 32 = 3 := by kernel_rfl
theorem int_cells : Try.prog.cellsOf 3 = 1 := by kernel_rfl
theorem string_cells : Try.prog.cellsOf 9 = 1 := by kernel_rfl
theorem add_addr (a : Addr) (x y : Nat) : (a.add x).add y = a.add (x + y) := by
  unfold Addr.add
  by_cases h1 : x = 0
  · subst h1; simp
  · by_cases h2 : y = 0
    · subst h2; simp [h1]
    · simp [h1, h2, Nat.add_assoc]
set_option maxRecDepth 100000 in
theorem open_ent {H : Type} {enc : TypeId × Value → H} {W : World} {fuel : Nat} {cs : List Value} {x : DataW H × List MemPlace}
    (h : DataW.trod enc Try.prog W 0 (fun _ => true) true fuel 32 cs = some x) : ∃ e : Ent, cs = entL e := by
  obtain ⟨y0, y1, y2, n, _, hl, h0, h1, h2⟩ := trod_struct3 Try.underlying32 h
  rw [ent_cells] at hl
  match cs, hl with
  | [c0, c1, c2], _ =>
    obtain ⟨a, e0', _⟩ := DataW.trod_int Try.underlying3 h0
    obtain ⟨b, e1', _⟩ := DataW.trod_int Try.underlying3 h1
    obtain ⟨s, e2', _⟩ := DataW.trod_string Try.underlying9 h2
    simp [int_cells, string_cells] at e0' e1' e2'
    exact ⟨⟨a, b, s⟩, by simp [entL, e0', e1', e2']⟩

theorem open_ents {H : Type} {enc : TypeId × Value → H} {W : World} {qa : Option Addr} {len cap : Nat} {d : DataW H} {ps : List MemPlace}
    (h : DataW.Trod enc Try.prog W 0 (fun _ => true) true 37 (.slice qa len cap) d ps) :
    ∃ L : List Ent, L.length = len ∧ len ≤ cap ∧ cap ≤ 9223372036854775807 ∧ (L = [] ∨ ∃ g o, qa = some ⟨g, o, none⟩ ∧ Cells3 g o L W) := by
  obtain ⟨n, t0⟩ := h
  rcases open_slice Try.underlying37 t0 with ⟨hc, hx⟩ | ⟨a, len', cap', m, k, D, Pl, hc, _, hl, hm, hmm, hx, hall⟩
  · simp only [Value.cells, List.cons.injEq, and_true, Value.slice.injEq] at hc
    obtain ⟨rfl, rfl, rfl⟩ := hc
    exact ⟨[], rfl, by omega, by omega, Or.inl rfl⟩
  · simp only [Value.cells, List.cons.injEq, and_true, Value.slice.injEq] at hc
    obtain ⟨rfl, rfl, rfl⟩ := hc
    simp only [if_true] at hmm
    subst hmm
    have each : ∀ i, i < m → ∃ e : Ent, ∀ j u, (entL e)[j]? = some u → W.cell? (a.add (i * 3 + j)) = some u := fun i hi => by
      obtain ⟨cs', h1, h2⟩ := hall i hi
      rw [ent_cells] at h1
      obtain ⟨e, rfl⟩ := open_ent h2
      obtain ⟨_, hlen, hcell⟩ := World.cells?_some h1
      refine ⟨e, fun j u hj => ?_⟩
      have hj3 : j < 3 := by
        have := (List.getElem?_eq_some_iff.1 hj).1
        simpa [entL] using this
      have := hcell j hj3
      rw [hj] at this
      rw [← this]
      rw [add_addr]
    have hch : ∃ f : Nat → Ent, ∀ i, i < m → ∀ j u, (entL (f i))[j]? = some u → W.cell? (a.add (i * 3 + j)) = some u :=
      ⟨fun i => if hi : i < m then Classical.choose (each i hi) else e0, fun i hi => by
        have := Classical.choose_spec (each i hi)
        simpa only [dif_pos hi] using this⟩
    obtain ⟨f, hf⟩ := hch
    have hln : ((List.range len).map f).length = len := by simp
    refine ⟨(List.range len).map f, hln, hl, by simp only [maxLen] at hm; omega, ?_⟩
    by_cases h0 : len = 0
    · subst h0; exact Or.inl rfl
    · right
      obtain ⟨b, o, spot⟩ := a
      have hspot : spot = none := by
        have := hf 0 (by omega) 0 _ rfl
        simpa [Addr.add] using World.cell?_spot this
      subst hspot
      refine ⟨b, o, rfl, fun i hi => ?_⟩
      rw [hln] at hi
      have hg : ((List.range len).map f).getD i e0 = f i := by simp [List.getD, hi]
      rw [hg]
      have c0 := hf i (by omega) 0 _ rfl
      have c1 := hf i (by omega) 1 _ rfl
      have c2 := hf i (by omega) 2 _ rfl
      rw [Addr.add_lit] at c0 c1 c2
      exact ⟨c0, by rw [Nat.add_assoc]; exact c1, by rw [Nat.add_assoc]; exact c2⟩
end Go.Proofs.Ytdkjdomacilagaa
