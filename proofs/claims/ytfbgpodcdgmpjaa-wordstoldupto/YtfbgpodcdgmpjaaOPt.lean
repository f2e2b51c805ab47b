/-
  An argument of type []words.Piece opened: the pieces behind it, none longer than what is read in all.
-/
import Derived.Test.YtfbgpodcdgmpjaaXTo
import Derived.Deep.SlicePairs
import Derived.Deep.Strs
import Derived.Carry
import Derived.OpenShut
namespace Go.Proofs.Ytfbgpodcdgmpjaa
open Go.RowKit Go.Deep Go.WideShapes Go.ChangeShapes
set_option linter.unusedVariables false
set_option linter.unusedSimpArgs false

theorem bulk_part {H : Type} {d : DataW H} {l : List (DataW H)} (h : d ∈ l) : Rows.uptoBulk d ≤ Rows.uptoBulkAll l := by
  induction l with
  | nil => cases h
  | cons x r ih =>
    simp only [Rows.uptoBulkAll]
    cases List.mem_cons.1 h with
    | inl e => subst e; omega
    | inr e => have := ih e; omega
theorem pc_cells : Try.prog.cellsOf 41 = 2 := by kernel_rfl
theorem int_cells24 : Try.prog.cellsOf 3 = 1 := by kernel_rfl
theorem string_cells24 : Try.prog.cellsOf 9 = 1 := by kernel_rfl
theorem add_addr24 (a : Addr) (x y : Nat) : (a.add x).add y = a.add (x + y) := by
  unfold Addr.add
  by_cases h1 : x = 0
  · subst h1; simp
  · by_cases h2 : y = 0
    · subst h2; simp [h1]
    · simp [h1, h2, Nat.add_assoc]
set_option maxRecDepth 100000 in
theorem open_piece {H : Type} {enc : TypeId × Value → H} {W : World} {fuel : Nat} {cs : List Value} {x : DataW H × List MemPlace}
    (h : DataW.trod enc Try.prog W 0 (fun _ => true) true fuel 41 cs = some x) : ∃ e : Pc, cs = [.int .i64 e.1, .string e.2] ∧ e.2.size ≤ Rows.uptoBulk x.1 := by
  obtain ⟨y0, y1, n, hx, hl, h0, h1⟩ := trod_struct2 Try.underlying41 h
  rw [pc_cells] at hl
  match cs, hl with
  | [c0, c1], _ =>
    obtain ⟨a, e0', _⟩ := DataW.trod_int Try.underlying3 h0
    obtain ⟨s, e1', e1x, _⟩ := DataW.trod_string Try.underlying9 h1
    simp [int_cells24, string_cells24] at e0' e1'
    refine ⟨(a, s), by simp [e0', e1'], ?_⟩
    rw [hx, e1x]
    simp only [Rows.uptoBulk, Rows.uptoBulkAll]
    have := data_len s
    omega
theorem open_pieces {H : Type} {enc : TypeId × Value → H} {W : World} {qa : Option Addr} {len cap : Nat} {d : DataW H} {ps : List MemPlace}
    (h : DataW.Trod enc Try.prog W 0 (fun _ => true) true 27 (.slice qa len cap) d ps) :
    ∃ L : List Pc, L.length = len ∧ PcA W qa L ∧ ∀ p ∈ L, p.2.size ≤ Rows.uptoBulk d := by
  obtain ⟨n, t0⟩ := h
  rcases open_slice Try.underlying27 t0 with ⟨hc, hx⟩ | ⟨a, len', cap', m, k, D, Pl, hc, _, hl, hm, hmm, hx, hall⟩
  · simp only [Value.cells, List.cons.injEq, and_true, Value.slice.injEq] at hc
    obtain ⟨rfl, rfl, rfl⟩ := hc
    exact ⟨[], rfl, fun h => by simp at h, fun p hp => by cases hp⟩
  · simp only [Value.cells, List.cons.injEq, and_true, Value.slice.injEq] at hc
    obtain ⟨rfl, rfl, rfl⟩ := hc
    simp only [if_true] at hmm
    subst hmm
    have hd : d = .slice ((List.range len).map D) ((List.range (m - len)).map fun j => D (len + j)) := congrArg Prod.fst hx
    have each : ∀ i, i < m → ∃ e : Pc, (∀ j u, ([.int .i64 e.1, .string e.2] : List Value)[j]? = some u → W.cell? (a.add (i * 2 + j)) = some u) ∧ e.2.size ≤ Rows.uptoBulk (D i) := fun i hi => by
      obtain ⟨cs', h1, h2⟩ := hall i hi
      rw [pc_cells] at h1
      obtain ⟨e, rfl, hb⟩ := open_piece h2
      obtain ⟨_, hlen, hcell⟩ := World.cells?_some h1
      refine ⟨e, fun j u hj => ?_, hb⟩
      have hj2 : j < 2 := (List.getElem?_eq_some_iff.1 hj).1
      have := hcell j hj2
      rw [hj] at this
      rw [← this]
      rw [add_addr24]
    have hch : ∃ f : Nat → Pc, ∀ i, i < m → (∀ j u, ([.int .i64 (f i).1, .string (f i).2] : List Value)[j]? = some u → W.cell? (a.add (i * 2 + j)) = some u) ∧ (f i).2.size ≤ Rows.uptoBulk (D i) :=
      ⟨fun i => if hi : i < m then Classical.choose (each i hi) else (0, ByteArray.empty), fun i hi => by
        have := Classical.choose_spec (each i hi)
        simpa only [dif_pos hi] using this⟩
    obtain ⟨f, hf⟩ := hch
    have hln : ((List.range len).map f).length = len := by simp
    refine ⟨(List.range len).map f, hln, fun h0 => ?_, fun p hp => ?_⟩
    · rw [hln] at h0
      obtain ⟨b, o, spot⟩ := a
      have hspot : spot = none := by
        have := (hf 0 (by omega)).1 0 _ rfl
        simpa [Addr.add] using World.cell?_spot this
      subst hspot
      refine ⟨b, o, rfl, fun i hi => ?_⟩
      rw [hln] at hi
      have hg : ((List.range len).map f).getD i (0, ByteArray.empty) = f i := by simp [List.getD, hi]
      rw [hg]
      have c0 := (hf i (by omega)).1 0 _ rfl
      have c1 := (hf i (by omega)).1 1 _ rfl
      have hadd : ∀ z, (⟨b, o, none⟩ : Addr).add z = ⟨b, o + z, none⟩ := fun z => by unfold Addr.add; split <;> simp_all
      rw [hadd] at c0 c1
      exact ⟨c0, by rw [← Nat.add_assoc] at c1; exact c1⟩
    · obtain ⟨i, hi, rfl⟩ := List.mem_map.1 hp
      have hil : i < len := List.mem_range.1 hi
      have h1 := (hf i (by omega)).2
      have h2 : Rows.uptoBulk (D i) ≤ Rows.uptoBulkAll ((List.range len).map D) := bulk_part (List.mem_map.2 ⟨i, hi, rfl⟩)
      rw [hd]
      simp only [Rows.uptoBulk]
      omega
end Go.Proofs.Ytfbgpodcdgmpjaa
