/-
  Several texts in one: what the functions of the program and of the document's answer do.
-/
import Derived.Test.YtbabmkilbbbmoaaDoorRows
import Derived.Test.YtbabmkilbbbmoaaDoorMgAA
import Derived.Shelf.Strings.Builder1
import Derived.Shelf.Strings.BuilderK
import Derived.Lib.FrozenHead2
import Derived.Test.YtbabmkilbbbmoaaDoorSh
import Derived.Deep.RegionWith

/-
  What the methods of strings.Builder do that the program calls: the library's contracts, laid at this program: the builder holds the bytes that were written, one behind the other, and tells them.
-/
namespace Go.Proofs.YtbabmkilbbbmoaaDoor
open Go.RowKit
set_option linter.unusedVariables false

def Tryd.renB : Go.Shelf.Ren := ⟨fun | 166 => 110 | 169 => 65 | 240 => 121 | 276 => 126 | n => n,
  fun | 0 => 0 | 3 => 3 | 4 => 4 | 5 => 5 | 9 => 9 | 20 => 20 | 37 => 120 | 70 => 119 | 72 => 122 | 75 => 188 | 80 => 126 | 127 => 158 | 164 => 205 | n => n,
  fun n => n⟩

theorem Tryd.lays166 : Go.Proofs.Lays.n166 Tryd.prog Tryd.renB where
  mixed := by kernel_rfl
  f166 := Tryd.func110.trans (congrArg some (by kernel_rfl))
  f240 := Tryd.func121.trans (congrArg some (by kernel_rfl))
  f276 := Tryd.func126.trans (congrArg some (by kernel_rfl))
  t0 := Tryd.underlying0
  a0 := Tryd.isAgg0
  z0 := Tryd.sizeOf0
  v0 := Tryd.zeroValue0
  t3 := Tryd.underlying3
  a3 := Tryd.isAgg3
  z3 := Tryd.sizeOf3
  v3 := Tryd.zeroValue3
  t4 := Tryd.underlying4
  a4 := Tryd.isAgg4
  z4 := Tryd.sizeOf4
  v4 := Tryd.zeroValue4
  t9 := Tryd.underlying9
  a9 := Tryd.isAgg9
  z9 := Tryd.sizeOf9
  v9 := Tryd.zeroValue9
  t20 := Tryd.underlying20
  a20 := Tryd.isAgg20
  z20 := Tryd.sizeOf20
  v20 := Tryd.zeroValue20
  t37 := Tryd.underlying120
  a37 := Tryd.isAgg120
  z37 := Tryd.sizeOf120
  v37 := Tryd.zeroValue120
  t70 := Tryd.underlying119
  a70 := Tryd.isAgg119
  z70 := Tryd.sizeOf119
  v70 := Tryd.zeroValue119
  t72 := Tryd.underlying122
  a72 := Tryd.isAgg122
  z72 := Tryd.sizeOf122
  v72 := Tryd.zeroValue122
  t75 := Tryd.underlying188
  a75 := Tryd.isAgg188
  z75 := Tryd.sizeOf188
  v75 := Tryd.zeroValue188
  t164 := Tryd.underlying205
  a164 := Tryd.isAgg205
  z164 := Tryd.sizeOf205
  v164 := Tryd.zeroValue205
theorem Tryd.lays169 : Go.Proofs.Lays.n169 Tryd.prog Tryd.renB where
  mixed := by kernel_rfl
  f169 := Tryd.func65.trans (congrArg some (by kernel_rfl))
  t0 := Tryd.underlying0
  a0 := Tryd.isAgg0
  z0 := Tryd.sizeOf0
  v0 := Tryd.zeroValue0
  t3 := Tryd.underlying3
  a3 := Tryd.isAgg3
  z3 := Tryd.sizeOf3
  v3 := Tryd.zeroValue3
  t9 := Tryd.underlying9
  a9 := Tryd.isAgg9
  z9 := Tryd.sizeOf9
  v9 := Tryd.zeroValue9
  t37 := Tryd.underlying120
  a37 := Tryd.isAgg120
  z37 := Tryd.sizeOf120
  v37 := Tryd.zeroValue120
  t70 := Tryd.underlying119
  a70 := Tryd.isAgg119
  z70 := Tryd.sizeOf119
  v70 := Tryd.zeroValue119
  t72 := Tryd.underlying122
  a72 := Tryd.isAgg122
  z72 := Tryd.sizeOf122
  v72 := Tryd.zeroValue122
  t127 := Tryd.underlying158
  a127 := Tryd.isAgg158
  z127 := Tryd.sizeOf158
  v127 := Tryd.zeroValue158
theorem Tryd.extraB : Builder.Extra Tryd.prog Tryd.renB where
  sizeBuilder := by kernel_rfl
  liesBuilder := by kernel_rfl
  t5 := Tryd.underlying5
  a5 := Tryd.isAgg5
  z5 := Tryd.sizeOf5
  v5 := Tryd.zeroValue5
  infoByte := by kernel_rfl
  cellsByte := by kernel_rfl
  sizeByte := by kernel_rfl
  neB5 := by decide

def Bld (B b : Nat) (l : List UInt8) (w : World) : Prop := Lib.IsBuilder 122 5 B b (Lib.byteCells l) w

theorem writeString_any (B b : Nat) (l : List UInt8) (s : ByteArray) (w : World) (h : Bld B b l w) (hlen : l.length + s.size ≤ 140737488355328) (hBw : B ≤ w.heap.size) :
    Calls Tryd.prog 110 #[.pointer (some ⟨b, 0, none⟩), .string s] w fun e w' => e = .returned (.tuple #[.int .i64 s.size, .nilIface]) ∧ Bld B b (l ++ s.data.toList) w' ∧ Below B w w' := by
  refine (Any.Builder_WriteString Tryd.lays166 Tryd.extraB B b (Lib.byteCells l) s w h (by rw [Lib.byteCells_length]; exact hlen) hBw).mono ?_
  rintro e w' ⟨he, hb, hbl⟩
  refine ⟨he, .inr ?_, hbl⟩
  rw [Lib.byteCells_append, ← Lib.strCells_eq]
  exact hb

theorem string_any (B b : Nat) (l : List UInt8) (w : World) (h : Bld B b l w) (h0 : l ≠ []) :
    Calls Tryd.prog 65 #[.pointer (some ⟨b, 0, none⟩)] w fun e w' => e = .returned (.string ⟨l.toArray⟩) ∧ Below B w w' :=
  Any.Builder_String Tryd.lays169 Tryd.extraB B b l w h h0

theorem string_nil (b : Nat) (p : Value) (w : World) (hbk : w.heap[b]? = some (.cells #[p, .slice none 0 0] 122 (0, 0))) :
    Calls Tryd.prog 65 #[.pointer (some ⟨b, 0, none⟩)] w fun e w' => e = .returned (.string ⟨#[]⟩) ∧ Below w.heap.size w w' :=
  Any.Builder_String_nil Tryd.lays169 Tryd.extraB w.heap.size b p w hbk

theorem bld_below {B b : Nat} {l : List UInt8} {w w1 : World} (h : Bld B b l w) (hb : Below w.heap.size w w1) : Bld B b l w1 := by
  have one : ∀ p, Lib.BuilderAt 122 5 B b p (Lib.byteCells l) w → Lib.BuilderAt 122 5 B b p (Lib.byteCells l) w1 := by
    intro p h
    have hlt := h.lt
    obtain ⟨hB, v, hbk, hown, hne⟩ := h
    refine ⟨hB, v, (hb.block b hlt).trans hbk, ?_, hne⟩
    obtain ⟨hl, h⟩ := hown
    refine ⟨hl, ?_⟩
    rcases h with h | ⟨g, cap, cur, h1, h2, h3, h4⟩
    · exact .inl h
    · refine .inr ⟨g, cap, cur, h1, h2, ?_, h4⟩
      have hg : g < w.heap.size := by
        rcases Nat.lt_or_ge g w.heap.size with h | h
        · exact h
        · rw [Array.getElem?_eq_none h] at h3; cases h3
      rw [hb.block g hg]; exact h3
  rcases h with h | h
  · exact .inl (one _ h)
  · exact .inr (one _ h)

theorem bld_new (w : World) : Bld w.heap.size w.heap.size [] (w.alloc (.cells #[.pointer none, .slice none 0 0] 122)) := by
  refine .inl ⟨Nat.le_refl _, .slice none 0 0, ?_, World.ownsRow_nil _ _ _ _, by simp [Value.ownBlock]⟩
  exact heap_alloc_new _ _
end Go.Proofs.YtbabmkilbbbmoaaDoor

/-
  What the methods of strings.Builder do that the program calls, with the frame that reaches above the builder: the library's contracts, laid at this program.
-/
namespace Go.Proofs.YtbabmkilbbbmoaaDoor
open Go.RowKit
set_option linter.unusedVariables false

def BldF (B b : Nat) (l : List UInt8) (w : World) : Prop := Lib.IsBuilderF 122 5 B b (Lib.byteCells l) w
def Oth (b : Nat) (w w' : World) : Prop := Lib.OthersKept 5 (some b) w w'

theorem writeStringK (B b : Nat) (l : List UInt8) (s : ByteArray) (w : World) (h : BldF B b l w) (hlen : l.length + s.size ≤ 140737488355328) (hBw : B ≤ w.heap.size) :
    Calls Tryd.prog 110 #[.pointer (some ⟨b, 0, none⟩), .string s] w fun e w' => e = .returned (.tuple #[.int .i64 s.size, .nilIface]) ∧ BldF B b (l ++ s.data.toList) w' ∧ Below B w w' ∧ Oth b w w' := by
  refine (Any.Builder_WriteString_k Tryd.lays166 Tryd.extraB B b (Lib.byteCells l) s w h (by rw [Lib.byteCells_length]; exact hlen) hBw).mono ?_
  rintro e w' ⟨he, hb, hbl, ho⟩
  refine ⟨he, .inr ?_, hbl, ho⟩
  rw [Lib.byteCells_append, ← Lib.strCells_eq]
  exact hb

theorem stringK (B b : Nat) (l : List UInt8) (w : World) (h : BldF B b l w) (hBw : B ≤ w.heap.size) :
    Calls Tryd.prog 65 #[.pointer (some ⟨b, 0, none⟩)] w fun e w' => e = .returned (.string (bs l)) ∧ Below B w w' := by
  refine (Any.Builder_String_any_k Tryd.lays169 Tryd.extraB B b l w h hBw).mono ?_
  rintro e w' ⟨he, _, hbl, _⟩
  exact ⟨he, hbl⟩

theorem bldF_below {B b : Nat} {l : List UInt8} {w w1 : World} (h : BldF B b l w) (hb : Below w.heap.size w w1) : BldF B b l w1 := by
  have one : ∀ p, Lib.BuilderAtF 122 5 B b p (Lib.byteCells l) w → Lib.BuilderAtF 122 5 B b p (Lib.byteCells l) w1 := by
    intro p h
    have hlt := h.lt
    obtain ⟨hB, v, hbk, hown, hne⟩ := h
    refine ⟨hB, v, (hb.block b hlt).trans hbk, ?_, hne⟩
    obtain ⟨hl, h⟩ := hown
    refine ⟨hl, ?_⟩
    rcases h with h | ⟨g, cap, cur, fz, h1, h2, h3, h4⟩
    · exact .inl h
    · refine .inr ⟨g, cap, cur, fz, h1, h2, ?_, h4⟩
      have hg : g < w.heap.size := by
        rcases Nat.lt_or_ge g w.heap.size with h | h
        · exact h
        · rw [Array.getElem?_eq_none h] at h3; cases h3
      rw [hb.block g hg]; exact h3
  rcases h with h | h
  · exact .inl (one _ h)
  · exact .inr (one _ h)
theorem bldF_new (w : World) : BldF w.heap.size w.heap.size [] (w.alloc (.cells #[.pointer none, .slice none 0 0] 122)) := Lib.IsBuilderF.of (bld_new w)
theorem bldF_alloc {B b : Nat} {l : List UInt8} {w : World} (h : BldF B b l w) (o : Obj) : BldF B b l (w.alloc o) := Lib.IsBuilderF.alloc h o
theorem bldF_iter {B b : Nat} {l : List UInt8} {w : World} (h : BldF B b l w) {k : Nat} {s : ByteArray} {pos : Nat} (hk : w.heap[k]? = some (.stringIter s pos)) (pos' : Nat) : BldF B b l (w.iterAt k s pos') := Lib.IsBuilderF.iterAt h hk pos'
theorem oth_iter {b : Nat} {w w' : World} (h : Oth b w w') {k : Nat} {s : ByteArray} {pos : Nat} (hk : w.heap[k]? = some (.stringIter s pos)) (hkb : k ≠ b) : w'.heap[k]? = some (.stringIter s pos) := Lib.OthersKept.iter h hk hkb
theorem iter_keeps {w w' : World} (h : Below w.heap.size w w') {k : Nat} {s : ByteArray} {pos : Nat} (hk : w.heap[k]? = some (.stringIter s pos)) : w'.heap[k]? = some (.stringIter s pos) := by
  have hlt : k < w.heap.size := by
    rcases Nat.lt_or_ge k w.heap.size with h | h
    · exact h
    · rw [Array.getElem?_eq_none h] at hk; cases hk
  rw [h.block k hlt]; exact hk
end Go.Proofs.YtbabmkilbbbmoaaDoor

/-
  A strings.Builder that lies in a tree.writer, ahead of its error: what WriteString and String do there; the writer's num and text.
-/
namespace Go.Proofs.YtbabmkilbbbmoaaDoor
open Go.RowKit
set_option linter.unusedVariables false
set_option linter.unusedSimpArgs false

/-- A writer in block b: its builder holds these bytes; er is its error. -/
def KwtAt (B b : Nat) (p : Value) (bs : List Value) (w : World) : Prop :=
  B ≤ b ∧ ∃ v, w.heap[b]? = some (.cells #[p, v] 124 (0, 0)) ∧ w.ownsRowF B 5 1 v bs.length bs ∧ v.ownBlock ≠ some b
def Kwt (B b : Nat) (l : List UInt8) (w : World) : Prop := KwtAt B b (.pointer none) (Lib.byteCells l) w ∨ KwtAt B b (.pointer (some ⟨b, 0, none⟩)) (Lib.byteCells l) w
theorem KwtAt.lt {B b : Nat} {p : Value} {bs : List Value} {w : World} (h : KwtAt B b p bs w) : b < w.heap.size := by
  obtain ⟨_, v, hb, _⟩ := h
  rcases Nat.lt_or_ge b w.heap.size with h' | h'
  · exact h'
  · rw [Array.getElem?_eq_none h'] at hb; cases hb
theorem KwtAt.used {B b : Nat} {p : Value} {bs : List Value} {w : World} (h : KwtAt B b p bs w) (q : Value) : KwtAt B b q bs (w.setCell ⟨b, 0, none⟩ q) := by
  obtain ⟨hB, v, hb, hown, hne⟩ := h
  refine ⟨hB, v, ?_, ?_, hne⟩
  · simp [World.setCell, Array.getElem?_modify, hb]
  · exact hown.kept (row := some b) ⟨rfl, rfl, rfl, by simp [World.setCell], fun k _ hk => Below.heap_setCell _ _ _ _ (fun e => hk (by simp [e]))⟩ (Or.inr hne)
theorem KwtAt.put {B b : Nat} {p v v' : Value} {bs' : List Value} {w : World} (hB : B ≤ b) (hb : w.heap[b]? = some (.cells #[p, v] 124 (0, 0))) (hown : w.ownsRowF B 5 1 v' bs'.length bs') : KwtAt B b p bs' (w.setCell ⟨b, 1, none⟩ v') := by
  have hne := Lib.ownBlock_neF hown hb (by decide)
  refine ⟨hB, v', ?_, ?_, hne⟩
  · simp [World.setCell, Array.getElem?_modify, hb]
  · exact hown.kept (row := some b) ⟨rfl, rfl, rfl, by simp [World.setCell], fun k _ hk => Below.heap_setCell _ _ _ _ (fun e => hk (by simp [e]))⟩ (Or.inr hne)
theorem kwt_any {B b : Nat} {l : List UInt8} {w : World} (h : Kwt B b l w) : ∃ p v, (p = .pointer none ∨ p = .pointer (some ⟨b, 0, none⟩)) ∧ B ≤ b ∧ w.heap[b]? = some (.cells #[p, v] 124 (0, 0)) ∧ w.ownsRowF B 5 1 v (Lib.byteCells l).length (Lib.byteCells l) ∧ v.ownBlock ≠ some b := by
  rcases h with ⟨h1, v, h2⟩ | ⟨h1, v, h2⟩
  · exact ⟨_, v, .inl rfl, h1, h2⟩
  · exact ⟨_, v, .inr rfl, h1, h2⟩
theorem kwt_of {B b : Nat} {l : List UInt8} {w : World} {p v : Value} (hp : p = .pointer none ∨ p = .pointer (some ⟨b, 0, none⟩)) (h : B ≤ b ∧ w.heap[b]? = some (.cells #[p, v] 124 (0, 0)) ∧ w.ownsRowF B 5 1 v (Lib.byteCells l).length (Lib.byteCells l) ∧ v.ownBlock ≠ some b) : Kwt B b l w := by
  rcases hp with rfl | rfl
  · exact .inl ⟨h.1, v, h.2⟩
  · exact .inr ⟨h.1, v, h.2⟩
/-- A writer stands where its block and its buffer do. -/
theorem kwt_keep {B b : Nat} {l : List UInt8} {w w1 : World} (h : Kwt B b l w) (hk : ∀ (k : Nat) (c : Array Value) (t : TypeId) (fz : Nat × Nat), w.heap[k]? = some (Obj.cells c t fz) → (t = 124 ∨ t = 5) → w1.heap[k]? = some (Obj.cells c t fz)) : Kwt B b l w1 := by
  obtain ⟨p, v, hp, hB, hbk, hown, hne⟩ := kwt_any h
  refine kwt_of hp ⟨hB, hk _ _ _ _ hbk (.inl rfl), ?_, hne⟩
  obtain ⟨hl, h⟩ := hown
  refine ⟨hl, ?_⟩
  rcases h with h | ⟨g, cap, cur, fz, h1, h2, h3, h4⟩
  · exact .inl h
  · exact .inr ⟨g, cap, cur, fz, h1, h2, hk _ _ _ _ h3 (.inr rfl), h4⟩
theorem kwt_below {B b : Nat} {l : List UInt8} {w w1 : World} (h : Kwt B b l w) (hb : Below w.heap.size w w1) : Kwt B b l w1 :=
  kwt_keep h (fun k c t fz hk _ => (hb.block k (Array.getElem?_eq_some_iff.1 hk).1).trans hk)
theorem oth_of_belowK {b : Nat} {w w' : World} (h : Below w.heap.size w w') : Oth b w w' := fun k o hk _ _ => (h.block k (Array.getElem?_eq_some_iff.1 hk).1).trans hk
theorem kwt_new (w : World) : Kwt w.heap.size w.heap.size [] (w.alloc (.cells #[.pointer none, .slice none 0 0] 124)) :=
  .inl ⟨Nat.le_refl _, .slice none 0 0, heap_alloc_new _ _, World.ownsRowF_of (World.ownsRow_nil _ _ _ _), by simp [Value.ownBlock]⟩

theorem liesKwt : liesAt Tryd.prog Tryd.prog.depth 124 (2 / Tryd.prog.cellsOf 124) 0 122 1 = true := by kernel_rfl
theorem sizeBldK : (Tryd.prog.info? 122).map (fun i => i.size) = some 2 := by kernel_rfl

set_option maxHeartbeats 1000000 in
set_option maxRecDepth 100000 in
theorem kcopy_used (b : Nat) (w : World) (h0 : w.cell? ⟨b, 0, none⟩ = some (.pointer (some ⟨b, 0, none⟩))) :
    Calls Tryd.prog 121 #[.pointer (some ⟨b, 0, none⟩)] w fun e w' => e = .returned (.tuple #[]) ∧ w' = w := by
  obtain ⟨j, hj, _⟩ := Option.map_eq_some_iff.1 sizeBldK
  go_enter Tryd.func121, Tryd.ntmps121
  go_wp2
  rw [Lib.run_neq_ptr_same w _ Tryd.underlying119 hj]
  go_wp2
  refine bodyPost_end (v := .tuple #[]) (results_none Tryd.results121 _ _ _) rfl ?_
  exact ⟨rfl, rfl⟩
set_option maxHeartbeats 1000000 in
set_option maxRecDepth 100000 in
theorem kcopy_fresh (b : Nat) (w : World) (h0 : w.cell? ⟨b, 0, none⟩ = some (.pointer none)) (hsh : w.shape? b = some (124, 2)) (hfz : w.frozen? ⟨b, 0, none⟩ = false) :
    Calls Tryd.prog 121 #[.pointer (some ⟨b, 0, none⟩)] w fun e w' => e = .returned (.tuple #[]) ∧ w' = w.setCell ⟨b, 0, none⟩ (.pointer (some ⟨b, 0, none⟩)) := by
  obtain ⟨j, hj, hjs⟩ := Option.map_eq_some_iff.1 sizeBldK
  go_enter Tryd.func121, Tryd.ntmps121
  go_wp2
  rw [Lib.run_to_unsafe w ⟨b, 0, none⟩ Tryd.underlying119 Tryd.underlying205 hj (by rw [hjs]; decide) hsh (Nat.zero_lt_succ 1)]
  simp only [Result.andThen]
  rw [Oper.upon_value]
  go_wp2
  rw [run_callFunc_extern Tryd.func126 (by kernel_rfl) (by kernel_rfl) (by kernel_rfl) (e := Extern.AbiNoEscape.same) (by kernel_rfl)]
  rw [Lib.run_noEscape]
  simp only [Result.andThen]
  rw [Oper.upon_value]
  go_wp2
  rw [Lib.run_from_unsafe w ⟨b, 0, none⟩ Tryd.underlying205 Tryd.underlying119 hj hsh liesKwt]
  simp only [Result.andThen]
  rw [Oper.upon_value]
  go_wp2
  refine bodyPost_end (v := .tuple #[]) (results_none Tryd.results121 _ _ _) rfl ?_
  exact ⟨rfl, rfl⟩
theorem kcopy_any (B b : Nat) (l : List UInt8) (w : World) (h : Kwt B b l w) :
    Calls Tryd.prog 121 #[.pointer (some ⟨b, 0, none⟩)] w fun e w' => e = .returned (.tuple #[]) ∧ KwtAt B b (.pointer (some ⟨b, 0, none⟩)) (Lib.byteCells l) w' ∧ Below B w w' ∧ Oth b w w' := by
  rcases h with h | h
  · have hbk := h
    obtain ⟨hB, v, hb, hown, hne⟩ := hbk
    refine (kcopy_fresh b w (by rw [Lib.cell_of_heap hb]; rfl) (by simp [World.shape?, hb]) (by simp [World.frozen?, hb])).mono ?_
    rintro e w' ⟨rfl, rfl⟩
    exact ⟨rfl, h.used _, (Below.refl B w).setCell (p := ⟨b, 0, none⟩) hB _, (Lib.OthersKept.refl _ _ w).setCell ⟨b, 0, none⟩ rfl _⟩
  · have hbk := h
    obtain ⟨hB, v, hb, hown, hne⟩ := hbk
    refine (kcopy_used b w (by rw [Lib.cell_of_heap hb]; rfl)).mono ?_
    rintro e w' ⟨rfl, rfl⟩
    exact ⟨rfl, h, Below.refl B _, Lib.OthersKept.refl _ _ _⟩

theorem infoByteK : (Tryd.prog.info? 5).map (fun i => (i.zero, i.size, i.bytes)) = some (some (.int .u8 0), 1, 1) := by kernel_rfl
theorem infoBytes : ∃ i, Tryd.prog.info? 5 = some i ∧ i.zero = some (.int .u8 0) ∧ i.size = 1 ∧ i.bytes = 1 := by
  have h := infoByteK
  cases hi : Tryd.prog.info? 5 with
  | none => rw [hi] at h; cases h
  | some i =>
    rw [hi] at h
    simp only [Option.map_some, Option.some.injEq, Prod.mk.injEq] at h
    exact ⟨i, rfl, h.1, h.2.1, h.2.2⟩
set_option maxHeartbeats 2000000 in
set_option maxRecDepth 100000 in
theorem kwrite_any (B b : Nat) (l : List UInt8) (s : ByteArray) (w : World) (h : Kwt B b l w) (hlen : l.length + s.size ≤ 140737488355328) (hBw : B ≤ w.heap.size) :
    Calls Tryd.prog 110 #[.pointer (some ⟨b, 0, none⟩), .string s] w fun e w' => e = .returned (.tuple #[.int .i64 s.size, .nilIface]) ∧ Kwt B b (l ++ s.data.toList) w' ∧ Below B w w' ∧ Oth b w w' := by
  obtain ⟨i0, hi, hz0, hz1, hz2⟩ := infoBytes
  have CC := hide (kcopy_any B b l w h)
  clear h
  go_enter Tryd.func110, Tryd.ntmps110
  go_wp2_with fail
  refine (unhide CC).mono ?_
  rintro e w1 ⟨rfl, h1, hb1, hk1⟩
  clear CC
  obtain ⟨hB, v, hbk, hown, hne⟩ := h1
  rw [Lib.byteCells_length] at hown
  have c0 : w1.cell? ⟨b, 0, none⟩ = some (.pointer (some ⟨b, 0, none⟩)) := by rw [Lib.cell_of_heap hbk]; rfl
  have c1 : w1.cell? ⟨b, 1, none⟩ = some v := by rw [Lib.cell_of_heap hbk]; rfl
  go_wp2_with (at_builtin; refine Lib.wpList_append_own_stringF _ rfl _ _ 120 9 rfl B 5 i0 Tryd.underlying120 Tryd.underlying9 hi hz0 hz1 hz2 _ _ _ rfl hown s rfl ?c3 ?c4 ?c5 ?_)
  case c3 => unfold maxLen; omega
  case c4 => omega
  case c5 => have := hb1.size; omega
  intro v' w2 hown' hgrow _
  have hlt : b < w1.heap.size := (Array.getElem?_eq_some_iff.1 hbk).1
  have hb2 : w2.heap[b]? = some (.cells #[.pointer (some ⟨b, 0, none⟩), v] 124 (0, 0)) := by
    rw [hgrow.block b hlt (fun e => hne e.symm)]
    exact hbk
  have d0 : w2.cell? ⟨b, 0, none⟩ = some (.pointer (some ⟨b, 0, none⟩)) := by rw [Lib.cell_of_heap hb2]; rfl
  have d1 : w2.cell? ⟨b, 1, none⟩ = some v := by rw [Lib.cell_of_heap hb2]; rfl
  have f1 : w2.frozen? ⟨b, 1, none⟩ = false := Lib.frozen_of_heap hb2 1
  have HW : Hid (Kwt B b (l ++ s.data.toList) (w2.setCell ⟨b, 1, none⟩ v')) := hide (.inr (KwtAt.put hB hb2 (by rw [Lib.byteCells_append, ← Lib.strCells_eq, List.length_append, Lib.byteCells_length, Lib.strCells_length]; exact hown')))
  have HB : Hid (Below B w (w2.setCell ⟨b, 1, none⟩ v')) := hide ((hb1.grown hgrow (by have := hb1.size; omega) (fun k hk => (hown.lt k hk).1)).setCell (p := ⟨b, 1, none⟩) hB _)
  have HO : Hid (Oth b w (w2.setCell ⟨b, 1, none⟩ v')) := hide ((hk1.grown hgrow (Lib.ownsRowF_kind hown)).setCell ⟨b, 1, none⟩ rfl _)
  obtain ⟨ao, n', cap, rfl⟩ : ∃ ao n' cap, v' = .slice ao n' cap := by
    rcases hown'.2 with ⟨hv, _⟩ | ⟨g, cap, cur, fz, hv, _⟩
    · exact ⟨_, _, _, hv⟩
    · exact ⟨_, _, _, hv⟩
  clear hown hown' hgrow hb1 hk1 hbk hb2 hne
  go_wp2
  go_ret2
  exact ⟨rfl, unhide HW, unhide HB, unhide HO⟩

set_option maxHeartbeats 2000000 in
set_option maxRecDepth 100000 in
theorem kbyte_any (B b : Nat) (l : List UInt8) (c : Nat) (w : World) (h : Kwt B b l w) (hc : c < 256) (hlen : l.length + 1 ≤ 140737488355328) (hBw : B ≤ w.heap.size) :
    Calls Tryd.prog 112 #[.pointer (some ⟨b, 0, none⟩), .int .u8 (c : Int)] w fun e w' => e = .returned .nilIface ∧ Kwt B b (l ++ [byt c]) w' ∧ Below B w w' ∧ Oth b w w' := by
  obtain ⟨i0, hi, hz0, hz1, hz2⟩ := infoBytes
  have CC := hide (kcopy_any B b l w h)
  clear h
  go_enter Tryd.func112, Tryd.ntmps112
  go_wp2_with fail
  refine (unhide CC).mono ?_
  rintro e w1 ⟨rfl, h1, hb1, hk1⟩
  clear CC
  obtain ⟨hB, v, hbk, hown, hne⟩ := h1
  rw [Lib.byteCells_length] at hown
  have c0 : w1.cell? ⟨b, 0, none⟩ = some (.pointer (some ⟨b, 0, none⟩)) := by rw [Lib.cell_of_heap hbk]; rfl
  have c1 : w1.cell? ⟨b, 1, none⟩ = some v := by rw [Lib.cell_of_heap hbk]; rfl
  have HOW := hide hown
  obtain ⟨ao0, n0, cap0, rfl⟩ : ∃ ao n' cap, v = .slice ao n' cap := by
    rcases hown.2 with ⟨hv, _⟩ | ⟨g, cap, cur, fz, hv, _⟩
    · exact ⟨_, _, _, hv⟩
    · exact ⟨_, _, _, hv⟩
  have HC8 : Hid (IntKind.u8.wrap (c : Int) = (c : Int)) := hide (by rw [IntKind.wrap_u8]; omega)
  go_wp2_with (at_builtin; refine wpList_append_ownF _ rfl _ _ 120 rfl B 5 i0 (.int .u8 0) 1 1 Tryd.underlying120 hi hz0 hz1 hz2 rfl (by decide) (.slice ao0 n0 cap0) _ _ rfl ((unhide HOW).alloc _) ⟨w1.heap.size, 0, none⟩ 1 1 [.int .u8 (c : Int)] rfl rfl ?c1 ?c2 ?c3 ?c4 ?c5 ?_)
  case c1 =>
    intro j u hj
    have e : (⟨w1.heap.size, 0, none⟩ : Addr).add j = ⟨w1.heap.size, 0 + j, none⟩ := by unfold Addr.add; split <;> simp_all
    rw [e, Nat.zero_add]
    exact ((Blk.new w1 #[.int .u8 (c : Int)] 5).cell j).trans (by simpa using hj)
  case c2 => simp [Value.oneCell']
  case c3 => unfold maxLen; omega
  case c4 => omega
  case c5 => have := hb1.size; simp; omega
  intro v' w2 hown' hgrow _
  have hlt : b < w1.heap.size := (Array.getElem?_eq_some_iff.1 hbk).1
  have hb2 : w2.heap[b]? = some (.cells #[.pointer (some ⟨b, 0, none⟩), .slice ao0 n0 cap0] 124 (0, 0)) := by
    rw [hgrow.block b (by simp; omega) (fun e => hne e.symm)]
    exact (((Below.refl w1.heap.size w1).alloc (Nat.le_refl _) _).block b hlt).trans hbk
  have d0 : w2.cell? ⟨b, 0, none⟩ = some (.pointer (some ⟨b, 0, none⟩)) := by rw [Lib.cell_of_heap hb2]; rfl
  have d1 : w2.cell? ⟨b, 1, none⟩ = some (.slice ao0 n0 cap0) := by rw [Lib.cell_of_heap hb2]; rfl
  have f1 : w2.frozen? ⟨b, 1, none⟩ = false := Lib.frozen_of_heap hb2 1
  have HW : Hid (Kwt B b (l ++ [byt c]) (w2.setCell ⟨b, 1, none⟩ v')) := hide (.inr (KwtAt.put hB hb2 (by rw [Lib.byteCells_append, List.length_append, Lib.byteCells_length]; rw [show Lib.byteCells [byt c] = [.int .u8 (c : Int)] from by simp [Lib.byteCells, byt_nat c hc]]; exact hown')))
  have HB : Hid (Below B w (w2.setCell ⟨b, 1, none⟩ v')) := hide (((hb1.alloc (by have := hb1.size; omega) _).grown hgrow (by have := hb1.size; simp; omega) (fun k hk => (hown.lt k hk).1)).setCell (p := ⟨b, 1, none⟩) hB _)
  have HO : Hid (Oth b w (w2.setCell ⟨b, 1, none⟩ v')) := hide (((Lib.OthersKept.alloc hk1 _).grown hgrow (Lib.ownsRowF_kind (hown.alloc _))).setCell ⟨b, 1, none⟩ rfl _)
  obtain ⟨ao, n', cap, rfl⟩ : ∃ ao n' cap, v' = .slice ao n' cap := by
    rcases hown'.2 with ⟨hv, _⟩ | ⟨g, cap, cur, fz, hv, _⟩
    · exact ⟨_, _, _, hv⟩
    · exact ⟨_, _, _, hv⟩
  clear hown hown' hgrow hb1 hk1 hbk hb2 hne
  go_wp2
  go_ret
  exact ⟨rfl, unhide HW, unhide HB, unhide HO⟩

set_option maxHeartbeats 1000000 in
set_option maxRecDepth 100000 in
theorem kstring_any (B b : Nat) (l : List UInt8) (w : World) (h : Kwt B b l w) (h0 : l ≠ []) :
    Calls Tryd.prog 65 #[.pointer (some ⟨b, 0, none⟩)] w fun e w' => e = .returned (.string (bs l)) ∧ Below B w w' := by
  obtain ⟨p, v, hp, hB, hbk, hown, hne⟩ := kwt_any h
  have hl0 : l.length ≠ 0 := by simpa using h0
  rw [Lib.byteCells_length] at hown
  obtain ⟨g, cap, cur, fz, rfl, hbg, hg, hfz, hnc, hcm, hcs, htake⟩ : ∃ g cap cur fz, v = .slice (some ⟨g, 0, none⟩) l.length cap ∧ B ≤ g ∧ w.heap[g]? = some (.cells cur 5 fz) ∧ fz.2 ≤ l.length * 1 ∧ l.length ≤ cap ∧ cap ≤ maxLen ∧ cur.size = cap * 1 ∧ cur.toList.take (l.length * 1) = Lib.byteCells l := by
    rcases hown.2 with ⟨_, hz⟩ | ⟨g, cap, cur, fz, hv, r⟩
    · exact absurd hz hl0
    · exact ⟨g, cap, cur, fz, hv, r⟩
  have c1 : w.drew.cell? ⟨b, 1, none⟩ = some (.slice (some ⟨g, 0, none⟩) l.length cap) := by
    have : w.drew.heap[b]? = some (.cells #[p, .slice (some ⟨g, 0, none⟩) l.length cap] 124 (0, 0)) := hbk
    rw [Lib.cell_of_heap this]; rfl
  have hSD : (Builtin.unsafeSliceData_ #[120] 158 #[.slice (some ⟨g, 0, none⟩) l.length cap]).run Tryd.prog w.drew = .ok (.pointer (some ⟨g, 0, none⟩)) w.drew :=
    Lib.run_unsafeSliceData_row _ _ _ _ _ _ (by omega)
  have hUS : (Builtin.unsafeString_ #[158, 3] 9 #[.pointer (some ⟨g, 0, none⟩), .int .i64 l.length]).run Tryd.prog w.drew = .ok (.string ⟨l.toArray⟩) (w.drew.freeze ⟨g, 0, none⟩ l.length) := by
    refine Lib.run_unsafeString_row w.drew 158 3 9 5 Tryd.underlying158 (by kernel_rfl) g cur.size (by have hg' : w.drew.heap[g]? = some (.cells cur 5 fz) := hg; simp [World.shape?, hg']) l h0 (by omega) (by unfold maxLen at hcm; omega) ?_
    intro j x hx
    exact hown.cells (g := g) rfl j (.int .u8 x.toNat) (by simp [Lib.byteCells, hx])
  have HBL := hide hbg
  clear hown htake hbk h hg hfz hcs hnc hcm hbg hne
  go_enter Tryd.func65, Tryd.ntmps65
  go_wp2
  go_region
  all_goals (go_wp2; go_ret; exact ⟨rfl, Lib.below_freeze (Below.drew (Below.refl B w)) (p := ⟨g, 0, none⟩) (unhide HBL) _⟩)
end Go.Proofs.YtbabmkilbbbmoaaDoor

/-
  What a keys.writer's num, text and label write.
-/
namespace Go.Proofs.YtbabmkilbbbmoaaDoor
open Go.RowKit
set_option linter.unusedVariables false
set_option linter.unusedSimpArgs false

def itoB (n : Int) : List UInt8 := Lib.itoa n
def numB (n : Int) : List UInt8 := itoB n ++ [32]
def textB (s : ByteArray) : List UInt8 := numB (s.size : Nat) ++ s.data.toList
def labelB (k sp : Int) (n : ByteArray) : List UInt8 := numB k ++ (numB sp ++ textB n)
/-- strconv.Itoa tells a number in whatever world comes behind this one. -/
def ItoaAt (w0 : World) (n : Int) : Prop := (itoB n).length ≤ 21 ∧ ∀ W, Below w0.heap.size w0 W → Calls Tryd.prog 111 #[.int .i64 n] W fun e W' => e = .returned (.string (bs (itoB n))) ∧ Below W.heap.size W W'
/-- What a call of the writer leaves. -/
def KwN (w0 : World) (B b : Nat) (l : List UInt8) (w w' : World) : Prop := Kwt B b l w' ∧ Below w0.heap.size w0 w' ∧ Below B w w' ∧ Oth b w w'
theorem KwN.trans {w0 : World} {B b : Nat} {l l' : List UInt8} {w w1 w2 : World} (h : KwN w0 B b l w w1) (h' : KwN w0 B b l' w1 w2) : KwN w0 B b l' w w2 := ⟨h'.1, h'.2.1, h.2.2.1.trans h'.2.2.1, Lib.OthersKept.trans h.2.2.2 h'.2.2.2⟩
set_option maxHeartbeats 2000000 in
set_option maxRecDepth 100000 in
theorem knum_any (w0 : World) (B b : Nat) (l : List UInt8) (n : Int) (w : World) (h : Kwt B b l w) (hb : Below w0.heap.size w0 w) (hB : w0.heap.size ≤ B) (hBw : B ≤ w.heap.size) (hn : ItoaAt w0 n) (hlen : l.length ≤ 100000000000000) :
    Calls Tryd.prog 86 #[.pointer (some ⟨b, 0, none⟩), .int .i64 n] w fun e w' => e = .returned (.tuple #[]) ∧ KwN w0 B b (l ++ numB n) w w' := by
  obtain ⟨hi20, hi⟩ := hn
  have hbsz : (bs (itoB n)).size = (itoB n).length := by simp [bs, ByteArray.size]
  have CI := hide (fun W (hW : Below w.heap.size w W) => hi W (tr2 hb hW))
  have CW := hide (fun W (hW : Below w.heap.size w W) => kwrite_any B b l (bs (itoB n)) W (kwt_below h hW) (by omega) (by have := hW.size; omega))
  rw [show (bs (itoB n)).data.toList = itoB n from by simp [bs]] at CW
  have CB := hide (fun W (h' : Kwt B b (l ++ itoB n) W) (hs : B ≤ W.heap.size) => kbyte_any B b (l ++ itoB n) 32 W h' (by omega) (by rw [List.length_append]; omega) hs)
  rw [show ((32 : Nat) : Int) = 32 from rfl] at CB
  have hby : byt 32 = 32 := rfl
  rw [show l ++ itoB n ++ [byt 32] = l ++ numB n by rw [hby, numB, List.append_assoc]] at CB
  have HB := hide hb
  have H := hide h
  generalize bs (itoB n) = z at *
  generalize l ++ numB n = l2 at *
  generalize l ++ itoB n = l1 at *
  clear h hb hi hby hbsz
  go_enter Tryd.func86, Tryd.ntmps86
  go_wp2
  go_region_with (first
    | (go_at_call 111; refine Calls.mono (unhide CI _ ?_) ?_; exact (Below.refl _ _).drew; rintro e w1 ⟨rfl, hb1⟩; have HB1 := hide (show Below w.heap.size w w1 from tr2 ((Below.refl _ _).drew) hb1); clear hb1)
    | (go_at_call 110; refine Calls.mono (unhide CW _ (unhide HB1)) ?_; rintro e w2 ⟨rfl, h2, hb2, ho2⟩; have H2 := hide (And.intro h2 (And.intro hb2 ho2)); clear h2 hb2 ho2))
  all_goals (
    have hs2 : B ≤ w2.heap.size := by have := (unhide HB1).size; have := (unhide H2).2.1.size; omega
    have CB2 := hide (unhide CB w2 (unhide H2).1 hs2)
    clear hs2 CB CW CI
    go_wp2_with fail
    refine (unhide CB2).mono ?_
    rintro e w3 ⟨rfl, h3, hb3, ho3⟩
    have H3 := hide (And.intro h3 (And.intro hb3 ho3))
    clear h3 hb3 ho3 CB2
    go_wp2
    refine bodyPost_end (v := .tuple #[]) (results_none Tryd.results86 _ _ _) rfl ?_
    have hB1 : Below B w w1 := (unhide HB1).mono hBw
    have hBB : Below B w w3 := hB1.trans ((unhide H2).2.1.trans (unhide H3).2.1)
    exact ⟨rfl, (unhide H3).1, (unhide HB).trans (hBB.mono hB), hBB, Lib.OthersKept.trans (Lib.OthersKept.trans (oth_of_belowK (unhide HB1)) (unhide H2).2.2) (unhide H3).2.2⟩)
end Go.Proofs.YtbabmkilbbbmoaaDoor
