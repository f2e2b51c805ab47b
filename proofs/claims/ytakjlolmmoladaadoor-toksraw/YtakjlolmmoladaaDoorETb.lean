/-
  From the rows' list of package variables to what the walks ask: the cells of the four tables.
-/
import Derived.Test.YtakjlolmmoladaaDoorEPl
import Derived.Lib.LaidU8
import Derived.ChangeArms
namespace Go.Proofs.YtakjlolmmoladaaDoor
open Go.RowKit Go.Lib
set_option linter.unusedVariables false

theorem tab_of_reads {P : Program} {W : World} {name : String} {k : IntKind} {zs : List Int} {g : Nat} {t e : TypeId} {n : Nat}
    (hg : P.globalNamed name = some g) (hty : (P.globals[g]?).map (·.type) = some t) (ht : P.underlying t = some (.array n e)) (he : P.underlying e = some (.int k)) (hce : P.cellsOf e = 1) (hct : P.cellsOf t = n)
    (h : VarReads P W name (tabData k zs)) : TabIs P W name k zs := by
  obtain ⟨g', t', cs, fuel, p, hg', ht', hvar, hd⟩ := h
  obtain rfl := Option.some.inj (hg.symm.trans hg')
  obtain rfl := Option.some.inj (hty.symm.trans ht')
  unfold TabIs
  rw [hvar, ← cells_of_tab ht he hce hct hd]

def nmData : DataW Unit := .agg (nmT.map fun x => .agg [.lit (.string x.1), .lit (.int .i64 x.2.1), .lit (.bool x.2.2)])
theorem nm_at (k : Nat) (h : k < 28) : (nmT.map fun x => (DataW.agg [.lit (.string x.1), .lit (.int .i64 x.2.1), .lit (.bool x.2.2)] : DataW Unit))[k]? = some (.agg [.lit (.string (nmName k)), .lit (.int .i64 (nmChar k)), .lit (.bool (nmBare k))]) := by
  have hl : k < nmT.length := h
  rw [List.getElem?_map, List.getElem?_eq_getElem hl]
  unfold nmName nmChar nmBare
  rw [List.getD, List.getElem?_eq_getElem hl]; rfl

theorem Tryd.gNames : Tryd.prog.globalNamed "recto/refs.names" = some 3 := by kernel_rfl
theorem Tryd.gOlds : Tryd.prog.globalNamed "recto/refs.olds" = some 2 := by kernel_rfl
theorem Tryd.gHeads : Tryd.prog.globalNamed "recto/utf.heads" = some 0 := by kernel_rfl
theorem Tryd.gEnds : Tryd.prog.globalNamed "recto/utf.ends" = some 1 := by kernel_rfl
theorem Tryd.tNames : (Tryd.prog.globals[3]?).map (·.type) = some 83 := by kernel_rfl
theorem Tryd.tOlds : (Tryd.prog.globals[2]?).map (·.type) = some 79 := by kernel_rfl
theorem Tryd.tHeads : (Tryd.prog.globals[0]?).map (·.type) = some 59 := by kernel_rfl
theorem Tryd.tEnds : (Tryd.prog.globals[1]?).map (·.type) = some 59 := by kernel_rfl
theorem Tryd.cArr5 : Tryd.prog.cellsOf 59 = 5 := by kernel_rfl
theorem Tryd.cArr32 : Tryd.prog.cellsOf 79 = 32 := by kernel_rfl
theorem Tryd.cInt : Tryd.prog.cellsOf 3 = 1 := by kernel_rfl
theorem Tryd.cStr : Tryd.prog.cellsOf 9 = 1 := by kernel_rfl
theorem Tryd.cBool : Tryd.prog.cellsOf 4 = 1 := by kernel_rfl
theorem Tryd.cNamed : Tryd.prog.cellsOf 82 = 3 := by kernel_rfl

theorem one_of_take {cs : List Value} {a b o : Nat} {v : Value} (hb : o < b) (h : (((cs.drop a).take b).drop o).take 1 = [v]) : cs[a + o]? = some v := by
  have h0 := congrArg (fun l => l[0]?) h
  simp only [List.getElem?_cons_zero] at h0
  rw [List.getElem?_take, if_pos (by omega), List.getElem?_drop, List.getElem?_take, if_pos (by omega), List.getElem?_drop] at h0
  simpa using h0

theorem nTab_of {w : World} (h : VarReads Tryd.prog w "recto/refs.names" nmData) : NTab w := by
  obtain ⟨g', t', cs, fuel, p, hg', ht', hvar, hd⟩ := h
  obtain rfl := Option.some.inj (Tryd.gNames.symm.trans hg')
  obtain rfl := Option.some.inj (Tryd.tNames.symm.trans ht')
  intro k hk
  obtain ⟨fuel', d, q, h1, h2⟩ := array_elem Tryd.underlying83 hd k hk
  rw [nm_at k hk] at h1
  obtain rfl := Option.some.inj h1
  rw [Tryd.cNamed] at h2
  obtain ⟨xs, n, _, hx, _, hxl, hf⟩ := DataW.trod_struct Tryd.underlying82 h2
  have hx1 : xs.map (·.1) = [.lit (.string (nmName k)), .lit (.int .i64 (nmChar k)), .lit (.bool (nmBare k))] := by
    have := congrArg Prod.fst hx
    simpa using this.symm
  have f0 := hf 0 _ rfl
  have f1 := hf 1 _ rfl
  have f2 := hf 2 _ rfl
  have x0 : ∀ (i : Nat) (d : DataW Unit), (xs.map (·.1))[i]? = some d → ∃ b : DataW Unit × List MemPlace, xs[i]? = some b ∧ b.1 = d := by
    intro i d h
    rw [List.getElem?_map] at h
    obtain ⟨b, hb, he⟩ := Option.map_eq_some_iff.1 h
    exact ⟨b, hb, he⟩
  obtain ⟨b0, e0, g0⟩ := x0 0 _ (by rw [hx1]; rfl)
  obtain ⟨b1, e1, g1⟩ := x0 1 _ (by rw [hx1]; rfl)
  obtain ⟨b2, e2, g2⟩ := x0 2 _ (by rw [hx1]; rfl)
  rw [e0] at f0
  rw [e1] at f1
  rw [e2] at f2
  obtain ⟨s, c0, y0, _⟩ := DataW.trod_string Tryd.underlying9 f0
  obtain ⟨z, c1, y1, _⟩ := DataW.trod_int Tryd.underlying3 f1
  obtain ⟨b, c2, y2⟩ := DataW.trod_bool Tryd.underlying4 f2
  subst y0; subst y2
  have hs : s = bs (nmName k) := by
    have : s.data.toList = nmName k := by simpa using g0
    rw [← this, bs_self]
  have hb : b = nmBare k := by simpa using g2
  have hz : z = nmChar k := by rw [y1] at g1; simpa using g1
  subst hs; subst hb; subst hz
  have v := World.var?_cell Tryd.gNames hvar
  have c0' : (((cs.toList.drop (k * 3)).take 3).drop 0).take (Tryd.prog.cellsOf 9) = [.string (bs (nmName k))] := c0
  have c1' : (((cs.toList.drop (k * 3)).take 3).drop 1).take (Tryd.prog.cellsOf 3) = [.int .i64 (nmChar k)] := c1
  have c2' : (((cs.toList.drop (k * 3)).take 3).drop 2).take (Tryd.prog.cellsOf 4) = [.bool (nmBare k)] := c2
  rw [Tryd.cStr] at c0'
  rw [Tryd.cInt] at c1'
  rw [Tryd.cBool] at c2'
  have r0 := one_of_take (a := k * 3) (b := 3) (o := 0) (by decide) c0'
  have r1 := one_of_take (a := k * 3) (b := 3) (o := 1) (by decide) c1'
  have r2 := one_of_take (a := k * 3) (b := 3) (o := 2) (by decide) c2'
  refine ⟨?_, ?_, ?_⟩
  · rw [v]; simpa using r0
  · rw [v]; simpa using r1
  · rw [v]; simpa using r2

theorem tab4_of {w : World} (h : laidMet Tryd.prog [("recto/utf.heads", Rows.laid_recto_utf_heads), ("recto/utf.ends", Rows.laid_recto_utf_ends), ("recto/refs.names", Rows.laid_recto_refs_names), ("recto/refs.olds", Rows.laid_recto_refs_olds)] w) : Tab4 w := by
  have h1 : TabIs Tryd.prog w "recto/utf.heads" .i64 [0, 0, 192, 224, 240] := tab_of_reads Tryd.gHeads Tryd.tHeads Tryd.underlying59 Tryd.underlying3 Tryd.cInt Tryd.cArr5 (laidMet.reads h (List.mem_cons_self ..))
  have h2 : TabIs Tryd.prog w "recto/utf.ends" .i64 [0, 128, 2048, 65536, 1114112] := tab_of_reads Tryd.gEnds Tryd.tEnds Tryd.underlying59 Tryd.underlying3 Tryd.cInt Tryd.cArr5 (laidMet.reads h (List.mem_cons_of_mem _ (List.mem_cons_self ..)))
  have h3 : NTab w := nTab_of (laidMet.reads h (List.mem_cons_of_mem _ (List.mem_cons_of_mem _ (List.mem_cons_self ..))))
  have h4 : TabIs Tryd.prog w "recto/refs.olds" .i64 oldT := tab_of_reads Tryd.gOlds Tryd.tOlds Tryd.underlying79 Tryd.underlying3 Tryd.cInt Tryd.cArr32 (laidMet.reads h (List.mem_cons_of_mem _ (List.mem_cons_of_mem _ (List.mem_cons_of_mem _ (List.mem_cons_self ..)))))
  refine ⟨⟨h1.cell Tryd.gHeads 1 (by decide), h1.cell Tryd.gHeads 2 (by decide), h1.cell Tryd.gHeads 3 (by decide), h1.cell Tryd.gHeads 4 (by decide), h2.cell Tryd.gEnds 1 (by decide), h2.cell Tryd.gEnds 2 (by decide), h2.cell Tryd.gEnds 3 (by decide), h2.cell Tryd.gEnds 4 (by decide)⟩, h3, fun k hk => h4.cell Tryd.gOlds k hk⟩
end Go.Proofs.YtakjlolmmoladaaDoor
