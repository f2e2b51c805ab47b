/-
  An argument of type []match.Pair opened: the pairs behind it.
-/
import Derived.Test.YtmbhpkjepegogaaMLl
import Derived.Deep.SlicePairs
import Derived.Deep.Strs
import Derived.Carry
import Derived.OpenShut
namespace Go.Proofs.Ytmbhpkjepegogaa
open Go.RowKit Go.Deep Go.WideShapes Go.ChangeShapes
set_option linter.unusedVariables false
set_option linter.unusedSimpArgs false

/-- Pairs that came in. -/
def PairsA (w : World) (q : Option Addr) (L : List (Int × Int × Bool)) : Prop := 0 < L.length → ∃ g o, q = some ⟨g, o, none⟩ ∧ ∀ k, k < L.length → w.cell? ⟨g, o + k * 3, none⟩ = some (.int .i64 (L.getD k p0).1) ∧ w.cell? ⟨g, o + k * 3 + 1, none⟩ = some (.int .i64 (L.getD k p0).2.1) ∧ w.cell? ⟨g, o + k * 3 + 2, none⟩ = some (.bool (L.getD k p0).2.2)
theorem PairsA.at {w w' : World} {q : Option Addr} {L : List (Int × Int × Bool)} (h : PairsA w q L) (hb : Below w.heap.size w w') (k : Nat) (hk : k < L.length) : ∃ g o, q = some ⟨g, o, none⟩ ∧ w'.cell? ⟨g, o + k * 3, none⟩ = some (.int .i64 (L.getD k p0).1) ∧ w'.cell? ⟨g, o + k * 3 + 1, none⟩ = some (.int .i64 (L.getD k p0).2.1) ∧ w'.cell? ⟨g, o + k * 3 + 2, none⟩ = some (.bool (L.getD k p0).2.2) := by
  obtain ⟨g, o, h1, h2⟩ := h (by omega)
  obtain ⟨x, y, z⟩ := h2 k hk
  have hc : ∀ p v, w.cell? ⟨g, p, none⟩ = some v → w'.cell? ⟨g, p, none⟩ = some v := fun p v hv => (hb.cell (p := ⟨g, p, none⟩) (World.block_lt_of_cell? w _ hv)).trans hv
  exact ⟨g, o, h1, hc _ _ x, hc _ _ y, hc _ _ z⟩
theorem pair_cells : Try.prog.cellsOf 31 = 3 := by kernel_rfl
theorem int_cells : Try.prog.cellsOf 3 = 1 := by kernel_rfl
theorem bool_cells : Try.prog.cellsOf 4 = 1 := by kernel_rfl
theorem add_addr (a : Addr) (x y : Nat) : (a.add x).add y = a.add (x + y) := by
  unfold Addr.add
  by_cases h1 : x = 0
  · subst h1; simp
  · by_cases h2 : y = 0
    · subst h2; simp [h1]
    · simp [h1, h2, Nat.add_assoc]
set_option maxRecDepth 100000 in
theorem open_pair {H : Type} {enc : TypeId × Value → H} {W : World} {fuel : Nat} {cs : List Value} {x : DataW H × List MemPlace}
    (h : DataW.trod enc Try.prog W 0 (fun _ => true) true fuel 31 cs = some x) : ∃ e : Int × Int × Bool, cs = pairL e := by
  obtain ⟨y0, y1, y2, n, _, hl, h0, h1, h2⟩ := trod_struct3 Try.underlying31 h
  rw [pair_cells] at hl
  match cs, hl with
  | [c0, c1, c2], _ =>
    obtain ⟨a, e0', _⟩ := DataW.trod_int Try.underlying3 h0
    obtain ⟨b, e1', _⟩ := DataW.trod_int Try.underlying3 h1
    obtain ⟨s, e2', _⟩ := DataW.trod_bool Try.underlying4 h2
    simp [int_cells, bool_cells] at e0' e1' e2'
    exact ⟨(a, b, s), by simp [pairL, e0', e1', e2']⟩

theorem open_pairs {H : Type} {enc : TypeId × Value → H} {W : World} {qa : Option Addr} {len cap : Nat} {d : DataW H} {ps : List MemPlace}
    (h : DataW.Trod enc Try.prog W 0 (fun _ => true) true 25 (.slice qa len cap) d ps) :
    ∃ L : List (Int × Int × Bool), L.length = len ∧ len ≤ cap ∧ cap ≤ 9223372036854775807 ∧ PairsA W qa L := by
  obtain ⟨n, t0⟩ := h
  rcases open_slice Try.underlying25 t0 with ⟨hc, hx⟩ | ⟨a, len', cap', m, k, D, Pl, hc, _, hl, hm, hmm, hx, hall⟩
  · simp only [Value.cells, List.cons.injEq, and_true, Value.slice.injEq] at hc
    obtain ⟨rfl, rfl, rfl⟩ := hc
    exact ⟨[], rfl, by omega, by omega, fun h => absurd h (Nat.lt_irrefl _)⟩
  · simp only [Value.cells, List.cons.injEq, and_true, Value.slice.injEq] at hc
    obtain ⟨rfl, rfl, rfl⟩ := hc
    simp only [if_true] at hmm
    subst hmm
    have each : ∀ i, i < m → ∃ e : Int × Int × Bool, ∀ j u, (pairL e)[j]? = some u → W.cell? (a.add (i * 3 + j)) = some u := fun i hi => by
      obtain ⟨cs', h1, h2⟩ := hall i hi
      rw [pair_cells] at h1
      obtain ⟨e, rfl⟩ := open_pair h2
      obtain ⟨_, hlen, hcell⟩ := World.cells?_some h1
      refine ⟨e, fun j u hj => ?_⟩
      have hj3 : j < 3 := by
        have := (List.getElem?_eq_some_iff.1 hj).1
        simpa [pairL] using this
      have := hcell j hj3
      rw [hj] at this
      rw [← this]
      rw [add_addr]
    have hch : ∃ f : Nat → Int × Int × Bool, ∀ i, i < m → ∀ j u, (pairL (f i))[j]? = some u → W.cell? (a.add (i * 3 + j)) = some u :=
      ⟨fun i => if hi : i < m then Classical.choose (each i hi) else p0, fun i hi => by
        have := Classical.choose_spec (each i hi)
        simpa only [dif_pos hi] using this⟩
    obtain ⟨f, hf⟩ := hch
    have hln : ((List.range len).map f).length = len := by simp
    refine ⟨(List.range len).map f, hln, hl, by simp only [maxLen] at hm; omega, ?_⟩
    intro h0
    rw [hln] at h0
    · obtain ⟨b, o, spot⟩ := a
      have hspot : spot = none := by
        have := hf 0 (by omega) 0 _ rfl
        simpa [Addr.add] using World.cell?_spot this
      subst hspot
      refine ⟨b, o, rfl, fun i hi => ?_⟩
      rw [hln] at hi
      have hg : ((List.range len).map f).getD i p0 = f i := by simp [List.getD, hi]
      rw [hg]
      have c0 := hf i (by omega) 0 _ rfl
      have c1 := hf i (by omega) 1 _ rfl
      have c2 := hf i (by omega) 2 _ rfl
      rw [Addr.add_lit] at c0 c1 c2
      exact ⟨c0, by rw [Nat.add_assoc]; exact c1, by rw [Nat.add_assoc]; exact c2⟩
end Go.Proofs.Ytmbhpkjepegogaa
