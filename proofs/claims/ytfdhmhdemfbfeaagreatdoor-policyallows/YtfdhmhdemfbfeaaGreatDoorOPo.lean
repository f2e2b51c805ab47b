/-
  Arguments of the types policy.Policy and api.Attr opened.
-/
import Derived.Test.YtfdhmhdemfbfeaaGreatDoorMgAK
import Derived.Test.YtfdhmhdemfbfeaaGreatDoorMgBV
import Derived.Deep.Strs
import Derived.SizedLaws
namespace Go.Proofs.YtfdhmhdemfbfeaaGreatDoor
open Go.RowKit Go.Deep Go.WideShapes Go.ChangeShapes
set_option linter.unusedVariables false
set_option linter.unusedSimpArgs false

theorem pstrs_cells : Tryz.prog.cellsOf 23 = 1 := by kernel_rfl
theorem prule_cells : Tryz.prog.cellsOf 41 = 4 := by kernel_rfl
theorem prules_cells : Tryz.prog.cellsOf 22 = 1 := by kernel_rfl
theorem ppol_cells : Tryz.prog.cellsOf 25 = 4 := by kernel_rfl
theorem open_texts {H : Type} {enc : TypeId × Value → H} {W : World} {fuel : Nat} {v : Value} {x : DataW H × List MemPlace}
    (h : DataW.trod enc Tryz.prog W 0 (fun _ => true) true fuel 23 [v] = some x) :
    ∃ zs : List ByteArray, ViewN W v zs ∧ ∀ s ∈ zs, s.size ≤ 9223372036854775807 := by
  rcases open_strings Tryz.underlying23 Tryz.underlying9 fstr_cells h with ⟨hcs, _⟩ | ⟨y, l, c, ss, hcs, _, hl, hm, hz, _, hcell, hws⟩
  · simp only [List.cons.injEq, and_true] at hcs
    subst hcs
    exact ⟨[], ⟨view_none _, fun n c h => by cases h; rfl⟩, fun s hs => by cases hs⟩
  · simp only [List.cons.injEq, and_true] at hcs
    subst hcs
    exact ⟨ss.take l, ⟨view_in hl hm (by simpa using hz) hcell, fun n c h => by cases h⟩, fun s hs => hws s (List.mem_of_mem_take hs)⟩
theorem view_len {w : World} {v : Value} {zs : List ByteArray} (h : View w v zs) : zs.length ≤ 9223372036854775807 := h.1
set_option maxRecDepth 100000 in
theorem open_rule {H : Type} {enc : TypeId × Value → H} {W : World} {fuel : Nat} {cs : List Value} {x : DataW H × List MemPlace}
    (h : DataW.trod enc Tryz.prog W 0 (fun _ => true) true fuel 41 cs = some x) :
    ∃ (r : PRul) (va vl : Value), cs = [.string r.nm, .int .i64 r.ac, va, vl] ∧ ViewN W va r.ats ∧ ViewN W vl r.lks ∧ RulOk r := by
  obtain ⟨xs, k, _, hxe, hl, hxl, hf⟩ := DataW.trod_struct Tryz.underlying41 h
  rw [prule_cells] at hl
  match cs, hl, xs, hxl with
  | [c0, c1, c2, c3], _, [y0, y1, y2, y3], _ =>
    have g0 := hf 0 _ rfl
    have g1 := hf 1 _ rfl
    have g2 := hf 2 _ rfl
    have g3 := hf 3 _ rfl
    simp [fint_cells, fstr_cells, pstrs_cells] at g0 g1 g2 g3
    obtain ⟨s, e0', _, hz⟩ := DataW.trod_string Tryz.underlying9 g0
    obtain ⟨a, e1', _⟩ := DataW.trod_int Tryz.underlying3 g1
    obtain ⟨za, hva, hsa⟩ := open_texts g2
    obtain ⟨zl, hvl, hsl⟩ := open_texts g3
    simp at e0' e1'
    exact ⟨⟨s, a, za, zl⟩, c2, c3, by simp [e0', e1'], hva, hvl, hz, hsa, hsl, view_len hva.1, view_len hvl.1⟩
theorem open_rules {H : Type} {enc : TypeId × Value → H} {W : World} {fuel : Nat} {v : Value} {x : DataW H × List MemPlace}
    (h : DataW.trod enc Tryz.prog W 0 (fun _ => true) true fuel 22 [v] = some x) :
    ∃ rs : List PRul, RulsV W v rs ∧ ∀ r ∈ rs, RulOk r := by
  rcases open_slice Tryz.underlying22 h with ⟨hc, hx⟩ | ⟨a, len, cap, m, k, D, Pl, hc, _, hl, hm, hmm, hx, hall⟩
  · simp only [List.cons.injEq, and_true] at hc
    subst hc
    exact ⟨[], ⟨by decide, none, 0, rfl, fun h => absurd h (by decide)⟩, fun r hr => by cases hr⟩
  · simp only [List.cons.injEq, and_true] at hc
    subst hc
    simp only [if_true] at hmm
    subst hmm
    have each : ∀ i, i < len → ∃ (r : PRul) (va vl : Value), (∀ j u, ([Value.string r.nm, .int .i64 r.ac, va, vl])[j]? = some u → W.cell? (a.add (i * 4 + j)) = some u) ∧ ViewN W va r.ats ∧ ViewN W vl r.lks ∧ RulOk r := fun i hi => by
      obtain ⟨cs', h1, h2⟩ := hall i (by omega)
      rw [prule_cells] at h1
      obtain ⟨r, va, vl, he, q1, q2, q3⟩ := open_rule h2
      obtain ⟨_, hlen, hcell⟩ := World.cells?_some h1
      refine ⟨r, va, vl, fun j u hj => ?_, q1, q2, q3⟩
      have hj3 : j < 4 := by
        have := (List.getElem?_eq_some_iff.1 hj).1
        simpa using this
      have := hcell j hj3
      rw [he, hj] at this
      rw [← this, fadd_addr]
    have hch : ∃ f : Nat → PRul, ∀ i, i < len → ∃ (va vl : Value), (∀ j u, ([Value.string (f i).nm, .int .i64 (f i).ac, va, vl])[j]? = some u → W.cell? (a.add (i * 4 + j)) = some u) ∧ ViewN W va (f i).ats ∧ ViewN W vl (f i).lks ∧ RulOk (f i) :=
      ⟨fun i => if hi : i < len then Classical.choose (each i hi) else noR, fun i hi => by
        have := Classical.choose_spec (each i hi)
        simpa only [dif_pos hi] using this⟩
    obtain ⟨f, hf⟩ := hch
    have hln : ((List.range len).map f).length = len := by simp
    refine ⟨(List.range len).map f, ⟨by rw [hln]; exact Nat.le_trans hl hm, some a, m, by rw [hln], fun h0 => ?_⟩, ?_⟩
    · rw [hln] at h0
      obtain ⟨b, o, spot⟩ := a
      have hspot : spot = none := by
        obtain ⟨va, vl, h1, _⟩ := hf 0 h0
        have := h1 0 _ rfl
        simpa [Addr.add] using World.cell?_spot this
      subst hspot
      refine ⟨b, o, rfl, fun i hi => ?_⟩
      rw [hln] at hi
      have hg : ((List.range len).map f).getD i noR = f i := by simp [List.getD, hi]
      rw [hg]
      obtain ⟨va, vl, hc, q1, q2, q3⟩ := hf i hi
      have c0 := hc 0 _ rfl
      have c1 := hc 1 _ rfl
      have c2 := hc 2 _ rfl
      have c3 := hc 3 _ rfl
      rw [Addr.add_lit] at c0 c1 c2 c3
      exact ⟨va, vl, c0, by rw [Nat.add_assoc]; exact c1, by rw [Nat.add_assoc]; exact c2, by rw [Nat.add_assoc]; exact c3, q1, q2⟩
    · intro r hr
      obtain ⟨i, hi, rfl⟩ := List.mem_map.1 hr
      obtain ⟨_, _, _, _, _, q3⟩ := hf i (List.mem_range.1 hi)
      exact q3
set_option maxRecDepth 100000 in
theorem open_policy {H : Type} {enc : TypeId × Value → H} {W : World} {base : Nat} {v : Value} {d : DataW H} {ps : List MemPlace} (hv : Value.okWide Tryz.prog W .any base 25 v)
    (h : DataW.Trod enc Tryz.prog W 0 (fun _ => true) true 25 v d ps) : ∃ p : PPol, PolV W v p ∧ PolOk p := by
  obtain ⟨cs, rfl, _⟩ := okWide_struct Tryz.underlying25 hv
  obtain ⟨n, t0⟩ := h
  have t1 : DataW.trod enc Tryz.prog W 0 (fun _ => true) true n 25 cs.toList = some (d, ps) := by simpa [Value.cells] using t0
  obtain ⟨cs⟩ := cs
  simp only at t1
  obtain ⟨xs, k', _, hxe, hl', hxl, hf⟩ := DataW.trod_struct Tryz.underlying25 t1
  rw [ppol_cells] at hl'
  match cs, hl', xs, hxl with
  | [c0, c1, c2, c3], _, [y0, y1, y2, y3], _ =>
    have g0 := hf 0 _ rfl
    have g1 := hf 1 _ rfl
    have g2 := hf 2 _ rfl
    have g3 := hf 3 _ rfl
    simp [fint_cells, prules_cells, pstrs_cells] at g0 g1 g2 g3
    obtain ⟨rs, hrs, hro⟩ := open_rules g0
    obtain ⟨zs, hvs, hss⟩ := open_texts g1
    obtain ⟨a, e2', _⟩ := DataW.trod_int Tryz.underlying3 g2
    obtain ⟨b, e3', _⟩ := DataW.trod_int Tryz.underlying3 g3
    simp at e2' e3'
    refine ⟨⟨rs, zs, a, b⟩, ⟨c0, c1, ?_, hrs, hvs.1⟩, hro, hss⟩
    unfold polC
    rw [e2', e3']
set_option maxRecDepth 100000 in
theorem open_attr {H : Type} {enc : TypeId × Value → H} {W : World} {base : Nat} {v : Value} {d : DataW H} {ps : List MemPlace} (hv : Value.okWide Tryz.prog W .any base 48 v)
    (h : DataW.Trod enc Tryz.prog W 0 (fun _ => true) true 48 v d ps) : ∃ an av : ByteArray, v = .agg #[.string an, .string av] ∧ an.size ≤ 9223372036854775807 ∧ av.size ≤ 9223372036854775807 := by
  obtain ⟨cs, rfl, _⟩ := okWide_struct Tryz.underlying48 hv
  obtain ⟨n, t0⟩ := h
  have t1 : DataW.trod enc Tryz.prog W 0 (fun _ => true) true n 48 cs.toList = some (d, ps) := by simpa [Value.cells] using t0
  obtain ⟨cs⟩ := cs
  simp only at t1
  obtain ⟨xs, k', _, hxe, hl', hxl, hf⟩ := DataW.trod_struct Tryz.underlying48 t1
  rw [fattr_cells] at hl'
  match cs, hl', xs, hxl with
  | [c0, c1], _, [y0, y1], _ =>
    have g0 := hf 0 _ rfl
    have g1 := hf 1 _ rfl
    simp [fstr_cells] at g0 g1
    obtain ⟨a, e0', _, h0⟩ := DataW.trod_string Tryz.underlying9 g0
    obtain ⟨b, e1', _, h1⟩ := DataW.trod_string Tryz.underlying9 g1
    simp at e0' e1'
    exact ⟨a, b, by rw [e0', e1'], h0, h1⟩
end Go.Proofs.YtfdhmhdemfbfeaaGreatDoor
