/-
  For every text the law ToksNames answers true: no tag has an attribute twice, names have no great letters, an End has no attributes; the four tables of the packages utf and refs start as the program's text lays them (the card ties them); and each argument reads as it did.
-/
import Derived.Test.YtakjlolmmoladaaDoorEPl
import Derived.Lib.LaidU8
import Derived.ChangeArms
import Derived.Test.YtakjlolmmoladaaDoorCards
import Derived.Test.YtakjlolmmoladaaDoorTie
import Derived.Test.YtakjlolmmoladaaDoorLTm
import Derived.ProofKit
import Derived.OpenShut
import Derived.ShutString
import Derived.ChangeOld
import Derived.Below
import Derived.Deep.DeepHandedRow
import Derived.Lib.LaidTab

/-
  From the rows' list of package variables to what the walks ask: the cells of the four tables.
-/
namespace Go.Proofs.YtakjlolmmoladaaDoor
open Go.RowKit Go.Lib
set_option linter.unusedVariables false

theorem tab_of_reads {P : Program} {W : World} {name : String} {k : IntKind} {zs : List Int} {g : Nat} {t e : TypeId} {n : Nat}
    (hg : P.globalNamed name = some g) (hty : (P.globals[g]?).map (·.type) = some t) (ht : P.underlying t = some (.array n e)) (he : P.underlying e = some (.int k)) (hce : P.cellsOf e = 1) (hct : P.cellsOf t = n)
    (h : VarReads P W name (tabData k zs)) : TabIs P W name k zs := by
  obtain ⟨g', t', cs, fuel, p, hg', ht', hvar, hd⟩ := h
  obtain rfl := Option.some.inj (hg.symm.trans hg')
  obtain rfl := Option.some.inj (hty.symm.trans ht')
  unfold TabIs
  rw [hvar, ← cells_of_tab ht he hce hct hd]

def nmData : DataW Unit := .agg (nmT.map fun x => .agg [.lit (.string x.1), .lit (.int .i64 x.2.1), .lit (.bool x.2.2)])
theorem nm_at (k : Nat) (h : k < 28) : (nmT.map fun x => (DataW.agg [.lit (.string x.1), .lit (.int .i64 x.2.1), .lit (.bool x.2.2)] : DataW Unit))[k]? = some (.agg [.lit (.string (nmName k)), .lit (.int .i64 (nmChar k)), .lit (.bool (nmBare k))]) := by
  have hl : k < nmT.length := h
  rw [List.getElem?_map, List.getElem?_eq_getElem hl]
  unfold nmName nmChar nmBare
  rw [List.getD, List.getElem?_eq_getElem hl]; rfl

theorem Tryd.gNames : Tryd.prog.globalNamed "recto/refs.names" = some 3 := by kernel_rfl
theorem Tryd.gOlds : Tryd.prog.globalNamed "recto/refs.olds" = some 2 := by kernel_rfl
theorem Tryd.gHeads : Tryd.prog.globalNamed "recto/utf.heads" = some 0 := by kernel_rfl
theorem Tryd.gEnds : Tryd.prog.globalNamed "recto/utf.ends" = some 1 := by kernel_rfl
theorem Tryd.tNames : (Tryd.prog.globals[3]?).map (·.type) = some 83 := by kernel_rfl
theorem Tryd.tOlds : (Tryd.prog.globals[2]?).map (·.type) = some 79 := by kernel_rfl
theorem Tryd.tHeads : (Tryd.prog.globals[0]?).map (·.type) = some 59 := by kernel_rfl
theorem Tryd.tEnds : (Tryd.prog.globals[1]?).map (·.type) = some 59 := by kernel_rfl
theorem Tryd.cArr5 : Tryd.prog.cellsOf 59 = 5 := by kernel_rfl
theorem Tryd.cArr32 : Tryd.prog.cellsOf 79 = 32 := by kernel_rfl
theorem Tryd.cInt : Tryd.prog.cellsOf 3 = 1 := by kernel_rfl
theorem Tryd.cStr : Tryd.prog.cellsOf 9 = 1 := by kernel_rfl
theorem Tryd.cBool : Tryd.prog.cellsOf 4 = 1 := by kernel_rfl
theorem Tryd.cNamed : Tryd.prog.cellsOf 82 = 3 := by kernel_rfl

theorem one_of_take {cs : List Value} {a b o : Nat} {v : Value} (hb : o < b) (h : (((cs.drop a).take b).drop o).take 1 = [v]) : cs[a + o]? = some v := by
  have h0 := congrArg (fun l => l[0]?) h
  simp only [List.getElem?_cons_zero] at h0
  rw [List.getElem?_take, if_pos (by omega), List.getElem?_drop, List.getElem?_take, if_pos (by omega), List.getElem?_drop] at h0
  simpa using h0

theorem nTab_of {w : World} (h : VarReads Tryd.prog w "recto/refs.names" nmData) : NTab w := by
  obtain ⟨g', t', cs, fuel, p, hg', ht', hvar, hd⟩ := h
  obtain rfl := Option.some.inj (Tryd.gNames.symm.trans hg')
  obtain rfl := Option.some.inj (Tryd.tNames.symm.trans ht')
  intro k hk
  obtain ⟨fuel', d, q, h1, h2⟩ := array_elem Tryd.underlying83 hd k hk
  rw [nm_at k hk] at h1
  obtain rfl := Option.some.inj h1
  rw [Tryd.cNamed] at h2
  obtain ⟨xs, n, _, hx, _, hxl, hf⟩ := DataW.trod_struct Tryd.underlying82 h2
  have hx1 : xs.map (·.1) = [.lit (.string (nmName k)), .lit (.int .i64 (nmChar k)), .lit (.bool (nmBare k))] := by
    have := congrArg Prod.fst hx
    simpa using this.symm
  have f0 := hf 0 _ rfl
  have f1 := hf 1 _ rfl
  have f2 := hf 2 _ rfl
  have x0 : ∀ (i : Nat) (d : DataW Unit), (xs.map (·.1))[i]? = some d → ∃ b : DataW Unit × List MemPlace, xs[i]? = some b ∧ b.1 = d := by
    intro i d h
    rw [List.getElem?_map] at h
    obtain ⟨b, hb, he⟩ := Option.map_eq_some_iff.1 h
    exact ⟨b, hb, he⟩
  obtain ⟨b0, e0, g0⟩ := x0 0 _ (by rw [hx1]; rfl)
  obtain ⟨b1, e1, g1⟩ := x0 1 _ (by rw [hx1]; rfl)
  obtain ⟨b2, e2, g2⟩ := x0 2 _ (by rw [hx1]; rfl)
  rw [e0] at f0
  rw [e1] at f1
  rw [e2] at f2
  obtain ⟨s, c0, y0, _⟩ := DataW.trod_string Tryd.underlying9 f0
  obtain ⟨z, c1, y1, _⟩ := DataW.trod_int Tryd.underlying3 f1
  obtain ⟨b, c2, y2⟩ := DataW.trod_bool Tryd.underlying4 f2
  subst y0; subst y2
  have hs : s = bs (nmName k) := by
    have : s.data.toList = nmName k := by simpa using g0
    rw [← this, bs_self]
  have hb : b = nmBare k := by simpa using g2
  have hz : z = nmChar k := by rw [y1] at g1; simpa using g1
  subst hs; subst hb; subst hz
  have v := World.var?_cell Tryd.gNames hvar
  have c0' : (((cs.toList.drop (k * 3)).take 3).drop 0).take (Tryd.prog.cellsOf 9) = [.string (bs (nmName k))] := c0
  have c1' : (((cs.toList.drop (k * 3)).take 3).drop 1).take (Tryd.prog.cellsOf 3) = [.int .i64 (nmChar k)] := c1
  have c2' : (((cs.toList.drop (k * 3)).take 3).drop 2).take (Tryd.prog.cellsOf 4) = [.bool (nmBare k)] := c2
  rw [Tryd.cStr] at c0'
  rw [Tryd.cInt] at c1'
  rw [Tryd.cBool] at c2'
  have r0 := one_of_take (a := k * 3) (b := 3) (o := 0) (by decide) c0'
  have r1 := one_of_take (a := k * 3) (b := 3) (o := 1) (by decide) c1'
  have r2 := one_of_take (a := k * 3) (b := 3) (o := 2) (by decide) c2'
  refine ⟨?_, ?_, ?_⟩
  · rw [v]; simpa using r0
  · rw [v]; simpa using r1
  · rw [v]; simpa using r2

theorem tab4_of {w : World} (h : laidMet Tryd.prog [("recto/utf.heads", Rows.laid_recto_utf_heads), ("recto/utf.ends", Rows.laid_recto_utf_ends), ("recto/refs.names", Rows.laid_recto_refs_names), ("recto/refs.olds", Rows.laid_recto_refs_olds)] w) : Tab4 w := by
  have h1 : TabIs Tryd.prog w "recto/utf.heads" .i64 [0, 0, 192, 224, 240] := tab_of_reads Tryd.gHeads Tryd.tHeads Tryd.underlying59 Tryd.underlying3 Tryd.cInt Tryd.cArr5 (laidMet.reads h (List.mem_cons_self ..))
  have h2 : TabIs Tryd.prog w "recto/utf.ends" .i64 [0, 128, 2048, 65536, 1114112] := tab_of_reads Tryd.gEnds Tryd.tEnds Tryd.underlying59 Tryd.underlying3 Tryd.cInt Tryd.cArr5 (laidMet.reads h (List.mem_cons_of_mem _ (List.mem_cons_self ..)))
  have h3 : NTab w := nTab_of (laidMet.reads h (List.mem_cons_of_mem _ (List.mem_cons_of_mem _ (List.mem_cons_self ..))))
  have h4 : TabIs Tryd.prog w "recto/refs.olds" .i64 oldT := tab_of_reads Tryd.gOlds Tryd.tOlds Tryd.underlying79 Tryd.underlying3 Tryd.cInt Tryd.cArr32 (laidMet.reads h (List.mem_cons_of_mem _ (List.mem_cons_of_mem _ (List.mem_cons_of_mem _ (List.mem_cons_self ..)))))
  refine ⟨⟨h1.cell Tryd.gHeads 1 (by decide), h1.cell Tryd.gHeads 2 (by decide), h1.cell Tryd.gHeads 3 (by decide), h1.cell Tryd.gHeads 4 (by decide), h2.cell Tryd.gEnds 1 (by decide), h2.cell Tryd.gEnds 2 (by decide), h2.cell Tryd.gEnds 3 (by decide), h2.cell Tryd.gEnds 4 (by decide)⟩, h3, fun k hk => h4.cell Tryd.gOlds k hk⟩
end Go.Proofs.YtakjlolmmoladaaDoor

namespace Go.Proofs.YtakjlolmmoladaaDoor.namesF
open Go.ChangeShapes Go.WideShapes Go.ChangeAt Go.RowKit
open Go.ChangeMaps (open_string shut_string)
set_option linter.unusedVariables false

theorem own : ownKnob Tryd.prog.godebug = none := by kernel_rfl
theorem tabs {W : World} (h : laidMetH Tryd.prog Rows.toksNamesRow.laid W) : Tab4 W := tab4_of h

theorem mx {W : World} (h : W.ShapedOpen Tryd.prog) : Mx W :=
  Go.Proofs.cell_of_shapedOpen_int (zero := #[.int .i64 0]) (t := 3) h (of_decide_eq_true (by kernel_rfl)) (by kernel_rfl) rfl (by kernel_rfl) (by kernel_rfl) Tryd.underlying3
theorem laidOut : laidOutB Tryd.prog = true := by kernel_rfl

set_option maxRecDepth 100000 in
theorem contract (H : Type) (enc : TypeId × Value → H) (W : World) (base : Nat) (args : Array Value) (ds gs : List (DataW H)) (before : List MemPlace)
    (hval : ∀ (j : Nat) t v, Tryd.f4.params[j]? = some t → args[j]? = some v → Value.okWide Tryd.prog W .any base t v)
    (hW : DataW.Whole enc Tryd.prog Tryd.f4.params.toList Rows.toksNamesSpec.vars false W args.toList ds gs before) (hL : laidMetH Tryd.prog Rows.toksNamesRow.laid W) (hSO : W.ShapedOpen Tryd.prog) :
    Calls Tryd.prog 4 args W fun e W' => ∃ v, e = .returned v ∧ Rows.toksNamesSpec.post enc Tryd.prog Tryd.f4 false true false false W args v W' := by
  have hW' := hW
  obtain ⟨p, q, hA0, hV, rfl, hfz, hnd⟩ := hW
  have hA : DataW.TrodAll enc Tryd.prog W 0 (fun _ => true) true Tryd.f4.params.toList args.toList ds p := hA0
  rw [Tryd.params4] at hA hval
  obtain ⟨v0, vs0, d0, ds0, p0, q0, hargs, rfl, rfl, h0, r0⟩ := trodAll_cons hA
  obtain ⟨rfl, rfl, rfl⟩ := trodAll_nil r0
  obtain rfl : args = #[v0] := by cases args; simp_all
  obtain ⟨rfl, rfl⟩ := trodVars_none hV
  obtain ⟨a0, rfl, rfl, rfl, w0⟩ := open_string Tryd.underlying9 (hval 0 9 v0 rfl rfl) h0
  clear hA0
  refine (names_walk a0 W (tabs hL) (mx hSO)).mono fun e W' ⟨he, bel⟩ => ?_
  subst he
  exact ⟨_, rfl, _, _, _, [], _, [], hW', trodAll_mk1 (shut_bool Tryd.underlying4 _), (trodAll_cons_mk (shut_string Tryd.underlying9 w0) trodAll_mk0), rfl, bel.frame _, fun h => by cases h⟩

/-- What the tables' initialisers lay. -/
def lay0 : Obj → Obj
  | .cells _ t frozen => .cells #[.int .i64 0, .int .i64 0, .int .i64 192, .int .i64 224, .int .i64 240] t frozen
  | o => o
def layN : Obj → Obj
  | .cells _ t frozen => .cells #[.string ⟨#[97, 109, 112]⟩, .int .i64 38, .bool true, .string ⟨#[108, 116]⟩, .int .i64 60, .bool true, .string ⟨#[103, 116]⟩, .int .i64 62, .bool true, .string ⟨#[113, 117, 111, 116]⟩, .int .i64 34, .bool true, .string ⟨#[110, 98, 115, 112]⟩, .int .i64 160, .bool true, .string ⟨#[99, 111, 112, 121]⟩, .int .i64 169, .bool true, .string ⟨#[114, 101, 103]⟩, .int .i64 174, .bool true, .string ⟨#[110, 111, 116]⟩, .int .i64 172, .bool true, .string ⟨#[110, 111, 116, 105, 110]⟩, .int .i64 8713, .bool false, .string ⟨#[116, 105, 109, 101, 115]⟩, .int .i64 215, .bool true, .string ⟨#[112, 97, 114, 97]⟩, .int .i64 182, .bool true, .string ⟨#[115, 101, 99, 116]⟩, .int .i64 167, .bool true, .string ⟨#[101, 97, 99, 117, 116, 101]⟩, .int .i64 233, .bool true, .string ⟨#[69, 97, 99, 117, 116, 101]⟩, .int .i64 201, .bool true, .string ⟨#[97, 117, 109, 108]⟩, .int .i64 228, .bool true, .string ⟨#[65, 117, 109, 108]⟩, .int .i64 196, .bool true, .string ⟨#[115, 122, 108, 105, 103]⟩, .int .i64 223, .bool true, .string ⟨#[101, 117, 114, 111]⟩, .int .i64 8364, .bool false, .string ⟨#[104, 101, 108, 108, 105, 112]⟩, .int .i64 8230, .bool false, .string ⟨#[109, 100, 97, 115, 104]⟩, .int .i64 8212, .bool false, .string ⟨#[110, 100, 97, 115, 104]⟩, .int .i64 8211, .bool false, .string ⟨#[97, 108, 112, 104, 97]⟩, .int .i64 945, .bool false, .string ⟨#[98, 101, 116, 97]⟩, .int .i64 946, .bool false, .string ⟨#[114, 97, 114, 114]⟩, .int .i64 8594, .bool false, .string ⟨#[108, 97, 114, 114]⟩, .int .i64 8592, .bool false, .string ⟨#[97, 112, 111, 115]⟩, .int .i64 39, .bool false, .string ⟨#[121, 101, 110]⟩, .int .i64 165, .bool true, .string ⟨#[109, 105, 99, 114, 111]⟩, .int .i64 181, .bool true] t frozen
  | o => o
def layO : Obj → Obj
  | .cells _ t frozen => .cells #[.int .i64 8364, .int .i64 0, .int .i64 8218, .int .i64 402, .int .i64 8222, .int .i64 8230, .int .i64 8224, .int .i64 8225, .int .i64 710, .int .i64 8240, .int .i64 352, .int .i64 8249, .int .i64 338, .int .i64 0, .int .i64 381, .int .i64 0, .int .i64 0, .int .i64 8216, .int .i64 8217, .int .i64 8220, .int .i64 8221, .int .i64 8226, .int .i64 8211, .int .i64 8212, .int .i64 732, .int .i64 8482, .int .i64 353, .int .i64 8250, .int .i64 339, .int .i64 0, .int .i64 382, .int .i64 376] t frozen
  | o => o
def lay1 : Obj → Obj
  | .cells _ t frozen => .cells #[.int .i64 0, .int .i64 128, .int .i64 2048, .int .i64 65536, .int .i64 1114112] t frozen
  | o => o
theorem laid_met (os : Os) : laidMet Tryd.prog Rows.toksNamesRow.laid (({ World.holding Tryd.prog os ⟨#[], #[], []⟩ with heap := ((((World.holding Tryd.prog os ⟨#[], #[], []⟩).heap.modify 3 layN).modify 2 layO).modify 0 lay0).modify 1 lay1 } : World).forCall (fun _ _ => 0) ⟨#[], #[.string ⟨#[]⟩], []⟩).memory :=
  laidMet_of_run' 8 (by kernel_rfl) (by kernel_rfl)
theorem reads (os : Os) {H : Type} (enc : TypeId × Value → H) : ∃ places, DataW.whole enc Tryd.prog (({ World.holding Tryd.prog os ⟨#[], #[], []⟩ with heap := ((((World.holding Tryd.prog os ⟨#[], #[], []⟩).heap.modify 3 layN).modify 2 layO).modify 0 lay0).modify 1 lay1 } : World).forCall (fun _ _ => 0) ⟨#[], #[.string ⟨#[]⟩], []⟩).memory Tryd.f4.params.toList Rows.toksNamesSpec.vars false #[Value.string ⟨#[]⟩].toList 8 = some ([.lit (.string [])], [], places) :=
  ⟨[], by kernel_rfl⟩

set_option maxRecDepth 100000 in
theorem lifted (os : Os) (started : os.Started) (H : Type) (enc : TypeId × Value → H) (F : Stop.Interp) :
    ReturnsInHanded {} Tryd.checked os 4 .any ((OpenSpec.ofChange Rows.toksNamesSpec).preRow enc Tryd.prog Tryd.f4 Rows.toksNamesRow.domain false Rows.toksNamesRow.laid) (((OpenSpec.ofChange Rows.toksNamesSpec).at F).post enc Tryd.prog Tryd.f4 false true false false) := by
  obtain ⟨places, hx⟩ := reads os enc
  refine returnsInHanded_of_row (C := Tryd.checked) (s := OpenSpec.ofChange Rows.toksNamesSpec) own started (by kernel_rfl) Tryd.func4
    (witness_row_at (enc := enc) (C := Tryd.checked) false ({ World.holding Tryd.prog os ⟨#[], #[], []⟩ with heap := ((((World.holding Tryd.prog os ⟨#[], #[], []⟩).heap.modify 3 layN).modify 2 layO).modify 0 lay0).modify 1 lay1 } : World) #[.string ⟨#[]⟩] rfl (by kernel_rfl) (by kernel_rfl) (by kernel_rfl)
      (OpenSpec.preRow_of_cond 8 hx (by kernel_rfl) (fun k hk => by cases hk) (by kernel_rfl) (laid_met os))) ?_
  intro W base args ds gs before hval hW _ _ _ hL hSO _
  exact contract H enc W base args ds gs before hval hW hL hSO

theorem said : Rows.ToksNamesSaid :=
  OpenClaim.holds_of_cond 4 Tryd.f4 rfl rfl rfl rfl rfl rfl rfl ⟨rfl, rfl, rfl, rfl, rfl⟩ rfl rfl rfl rfl rfl (by kernel_rfl) Tryd.func4 (by kernel_rfl)
    (of_decide_eq_true (by kernel_rfl)) (by unfold Func.isWrapper; first | (rw [if_pos (by decide +kernel)]; kernel_rfl) | (rw [if_neg (by decide +kernel)]; exact ⟨rfl, rfl⟩))
    (fun os started H enc _ F => by rw [OpenClaim.pre_eq_preRow]; exact lifted os started H enc F)

theorem plain (f : FuncId) (fn : Func) (hf : Tryd.pinned.checked.prog.funcNamed "recto/rectolaw05.ToksNames" = some f) (hfn : Tryd.pinned.checked.prog.funcs[f]? = some fn) :
    false = Tryd.pinned.checked.prog.looks [] ∧ ∀ (j : Nat) t, fn.params[j]? = some t → Tryd.pinned.checked.prog.wantsStandIn t = false := by
  obtain rfl : f = 4 := Option.some.inj ((show Tryd.prog.funcNamed "recto/rectolaw05.ToksNames" = some 4 by kernel_rfl).symm.trans hf) |>.symm
  obtain rfl : fn = Tryd.f4 := (Option.some.inj (Tryd.func4.symm.trans hfn)).symm
  refine ⟨by kernel_rfl, fun j t ht => ?_⟩
  rw [Tryd.params4] at ht
  obtain rfl : t = 9 := by simpa using Array.mem_of_getElem? ht
  exact (show Tryd.prog.wantsStandIn 9 = false by kernel_rfl)

theorem card : Rows.ToksNamesCardSaid :=
  Claim7.holds_tied_plain_at .later [] _ _ _ _ said (fun _ h => by cases h) (by kernel_rfl) (fun _ h => by cases h) toksNames_row_tie rfl ⟨rfl, rfl⟩ (by kernel_rfl) rfl plain (by kernel_rfl)
end Go.Proofs.YtakjlolmmoladaaDoor.namesF

namespace Go.Proofs.YtakjlolmmoladaaDoor
theorem toksNames_card : Rows.ToksNamesCardSaid := namesF.card
end Go.Proofs.YtakjlolmmoladaaDoor
