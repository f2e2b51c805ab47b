/-
  Several texts in one: what the functions of the program and of the document's answer do.
-/
import Derived.Test.YtemccomnhjhjeaaDoorMgAB
import Derived.Test.YtemccomnhjhjeaaDoorMgAA
import Derived.Maps.AppendAt

/-
  A node opened, with the ranges of the Kinds and Spaces of all that is below it (made by mk_ofr.py).
-/
namespace Go.Proofs.YtemccomnhjhjeaaDoor
open Go.RowKit Go.Deep Go.WideShapes Go.ChangeShapes
set_option linter.unusedVariables false
set_option linter.unusedSimpArgs false

def I64 (z : Int) : Prop := -9223372036854775808 ≤ z ∧ z ≤ 9223372036854775807
/-- Kinds and Spaces that a program can have. -/
def RngF : Forest → Prop
  | .nil => True
  | .cons k sp n ats tx kids rest => (I64 k ∧ I64 sp ∧ RngF kids) ∧ RngF rest
/-- One node at a place. -/
def NodeAtR (g o : Nat) (w : World) : Prop := ∃ k sp n ats tx kids, (I64 k ∧ I64 sp ∧ RngF (kids : Forest)) ∧
  w.cell? ⟨g, o, none⟩ = some (.int .i64 k) ∧ w.cell? ⟨g, o + 1, none⟩ = some (.int .i64 sp) ∧ w.cell? ⟨g, o + 2, none⟩ = some (.string n) ∧
      (∃ qa ca, w.cell? ⟨g, o + 3, none⟩ = some (.slice qa (ats : List (ByteArray × ByteArray)).length ca) ∧ Sl qa ats w) ∧ w.cell? ⟨g, o + 4, none⟩ = some (.string tx) ∧
      ∃ qk ck, w.cell? ⟨g, o + 5, none⟩ = some (.slice qk (kids : Forest).len ck) ∧ kids.len ≤ ck ∧ (kids = .nil ∨ ∃ g' o', qk = some ⟨g', o', none⟩ ∧ Lies kids g' o' w)
theorem forest_ofR {g : Nat} {w : World} : ∀ (len o : Nat), (∀ i, i < len → NodeAtR g (o + i * 6) w) → ∃ f : Forest, f.len = len ∧ Lies f g o w ∧ RngF f
  | 0, o, h => ⟨.nil, rfl, trivial, trivial⟩
  | len + 1, o, h => by
    obtain ⟨k, sp, n, ats, tx, kids, hr, hn⟩ := h 0 (by omega)
    obtain ⟨f, hf, hl, hrf⟩ := forest_ofR len (o + 6) (fun i hi => by have := h (i + 1) (by omega); rw [show o + (i + 1) * 6 = o + 6 + i * 6 by omega] at this; exact this)
    rw [Nat.zero_mul, Nat.add_zero] at hn
    exact ⟨.cons k sp n ats tx kids f, by simp [Forest.len, hf], ⟨hn, hl⟩, hr, hrf⟩
set_option maxRecDepth 100000 in
theorem open_forestR {H : Type} {enc : TypeId × Value → H} {W : World} : ∀ (sz : Nat) (fuel : Nat) (v : Value) (d : DataW H) (ps : List MemPlace), SizeOf.sizeOf d ≤ sz →
    DataW.trod enc Tryd.prog W 0 (fun _ => true) true fuel 22 [v] = some (d, ps) → ∃ (f : Forest) (q : Option Addr) (cap : Nat), v = .slice q f.len cap ∧ f.len ≤ cap ∧ Fo q f W ∧ RngF f
  | 0, fuel, v, d, ps, hs, h => by cases d <;> simp at hs
  | sz + 1, fuel, v, d, ps, hs, h => by
    rcases open_slice Tryd.underlying22 h with ⟨hc, hx⟩ | ⟨a, len, cap, m, k, D, Pl, hc, _, hl, hm, hmm, hx, hall⟩
    · simp only [List.cons.injEq, and_true] at hc
      exact ⟨.nil, none, 0, hc, Nat.le_refl _, Or.inl rfl, trivial⟩
    · simp only [List.cons.injEq, and_true] at hc
      simp only [if_true] at hmm
      subst hmm
      have hd : d = .slice ((List.range len).map D) ((List.range (m - len)).map fun j => D (len + j)) := congrArg Prod.fst hx
      have hsz : ∀ i, i < len → SizeOf.sizeOf (D i) < SizeOf.sizeOf d := fun i hi => by
        have h1 : D i ∈ (List.range len).map D := List.mem_map.2 ⟨i, List.mem_range.2 hi, rfl⟩
        have h2 := size_mem h1
        rw [hd]
        simp only [DataW.slice.sizeOf_spec]
        omega
      by_cases h0 : len = 0
      · subst h0
        exact ⟨.nil, some a, m, hc, Nat.zero_le _, Or.inl rfl, trivial⟩
      have each : ∀ i, i < len → ∃ cs', (∀ j, j < 6 → W.cell? (a.add (i * 6 + j)) = cs'[j]?) ∧ DataW.trod enc Tryd.prog W 0 (fun _ => true) true k 34 cs' = some (D i, Pl i) := fun i hi => by
        obtain ⟨cs', h1, h2⟩ := hall i (by omega)
        rw [fnode_cells] at h1
        obtain ⟨_, hlen, hcell⟩ := World.cells?_some h1
        exact ⟨cs', fun j hj => by have := hcell j hj; rw [fadd_addr] at this; exact this, h2⟩
      obtain ⟨b, o, spot⟩ := a
      have hspot : spot = none := by
        obtain ⟨cs', h1, h2⟩ := each 0 (by omega)
        obtain ⟨xs, k', _, _, hl', _, _⟩ := DataW.trod_struct Tryd.underlying34 h2
        rw [fnode_cells] at hl'
        have h3 := h1 0 (by omega)
        rw [List.getElem?_eq_getElem (by omega)] at h3
        simpa [Addr.add] using World.cell?_spot h3
      subst hspot
      have hnode : ∀ i, i < len → NodeAtR b (o + i * 6) W := fun i hi => by
        obtain ⟨cs', h1, h2⟩ := each i hi
        have hszi := hsz i hi
        generalize D i = di at *
        generalize Pl i = pi at *
        obtain ⟨xs, k', _, hxe, hl', hxl, hf⟩ := DataW.trod_struct Tryd.underlying34 h2
        rw [fnode_cells] at hl'
        match cs', hl', xs, hxl with
        | [c0, c1, c2, c3, c4, c5], _, [y0, y1, y2, y3, y4, y5], _ =>
          have g0 := hf 0 _ rfl
          have g1 := hf 1 _ rfl
          have g2 := hf 2 _ rfl
          have g3 := hf 3 _ rfl
          have g4 := hf 4 _ rfl
          have g5 := hf 5 _ rfl
          simp [fint_cells, fstr_cells, fattrs_cells, fnodes_cells] at g0 g1 g2 g3 g4 g5
          obtain ⟨ki, e0', w0'⟩ := DataW.trod_int Tryd.underlying3 g0
          obtain ⟨spi, e1', w1'⟩ := DataW.trod_int Tryd.underlying3 g1
          obtain ⟨ni, e2', _⟩ := DataW.trod_string Tryd.underlying9 g2
          obtain ⟨ats, qa, ca, e3', hsl⟩ := open_fattrs g3
          obtain ⟨ti, e4', _⟩ := DataW.trod_string Tryd.underlying9 g4
          obtain ⟨y5d, y5p⟩ := y5
          have hdi : di = .agg [y0.1, y1.1, y2.1, y3.1, y4.1, y5d] := by have := congrArg Prod.fst hxe; simpa using this
          have hs5 : SizeOf.sizeOf y5d ≤ sz := by
            rw [hdi] at hszi
            simp only [DataW.agg.sizeOf_spec, List.cons.sizeOf_spec] at hszi
            omega
          obtain ⟨kf, qk, ck, e5', hck, hkf, hkr⟩ := open_forestR sz k' c5 y5d y5p hs5 g5
          simp at e0' e1' e2' e4'
          have z := fun j hj => h1 j hj
          have z0 := z 0 (by omega)
          have z1 := z 1 (by omega)
          have z2 := z 2 (by omega)
          have z3 := z 3 (by omega)
          have z4 := z 4 (by omega)
          have z5 := z 5 (by omega)
          rw [Addr.add_lit] at z0 z1 z2 z3 z4 z5
          simp only [List.getElem?_cons_zero, List.getElem?_cons_succ] at z0 z1 z2 z3 z4 z5
          refine ⟨ki, spi, ni, ats, ti, kf, ⟨bounds_i64 w0'.2, bounds_i64 w1'.2, hkr⟩, ?_, ?_, ?_, ⟨qa, ca, ?_, hsl⟩, ?_, qk, ck, ?_, hck, hkf⟩
          · rw [← e0']; exact z0
          · rw [Nat.add_assoc, ← e1']; exact z1
          · rw [Nat.add_assoc, ← e2']; exact z2
          · rw [Nat.add_assoc, ← e3']; exact z3
          · rw [Nat.add_assoc, ← e4']; exact z4
          · rw [Nat.add_assoc, ← e5']; exact z5
      obtain ⟨f, hf, hlf, hrf⟩ := forest_ofR len o hnode
      exact ⟨f, some ⟨b, o, none⟩, m, by rw [hf]; exact hc, by omega, Or.inr ⟨b, o, rfl, hlf⟩, hrf⟩
set_option maxRecDepth 100000 in
theorem open_nodeR {H : Type} {enc : TypeId × Value → H} {W : World} {base : Nat} {v : Value} {d : DataW H} {ps : List MemPlace} (hv : Value.okWide Tryd.prog W .any base 34 v)
    (h : DataW.Trod enc Tryd.prog W 0 (fun _ => true) true 34 v d ps) : ∃ x : NdA, v = .agg x.cells ∧ x.Ok W ∧ (I64 x.k ∧ I64 x.sp ∧ RngF x.kids) := by
  obtain ⟨cs, rfl, _⟩ := okWide_struct Tryd.underlying34 hv
  obtain ⟨n, t0⟩ := h
  have t1 : DataW.trod enc Tryd.prog W 0 (fun _ => true) true n 34 cs.toList = some (d, ps) := by simpa [Value.cells] using t0
  obtain ⟨cs⟩ := cs
  simp only at t1
  obtain ⟨xs, k', _, hxe, hl', hxl, hf⟩ := DataW.trod_struct Tryd.underlying34 t1
  rw [fnode_cells] at hl'
  match cs, hl', xs, hxl with
  | [c0, c1, c2, c3, c4, c5], _, [y0, y1, y2, y3, y4, y5], _ =>
    have g0 := hf 0 _ rfl
    have g1 := hf 1 _ rfl
    have g2 := hf 2 _ rfl
    have g3 := hf 3 _ rfl
    have g4 := hf 4 _ rfl
    have g5 := hf 5 _ rfl
    simp [fint_cells, fstr_cells, fattrs_cells, fnodes_cells] at g0 g1 g2 g3 g4 g5
    obtain ⟨ki, e0', w0'⟩ := DataW.trod_int Tryd.underlying3 g0
    obtain ⟨spi, e1', w1'⟩ := DataW.trod_int Tryd.underlying3 g1
    obtain ⟨ni, e2', _⟩ := DataW.trod_string Tryd.underlying9 g2
    obtain ⟨ats, qa, ca, e3', hsl⟩ := open_fattrs g3
    obtain ⟨ti, e4', _⟩ := DataW.trod_string Tryd.underlying9 g4
    obtain ⟨y5d, y5p⟩ := y5
    obtain ⟨kf, qk, ck, e5', hck, hkf, hkr⟩ := open_forestR _ k' c5 y5d y5p (Nat.le_refl _) g5
    simp at e0' e1' e2' e4'
    refine ⟨⟨ki, spi, ni, ats, ti, kf, qa, ca, qk, ck⟩, ?_, ⟨hsl, hck, hkf⟩, bounds_i64 w0'.2, bounds_i64 w1'.2, hkr⟩
    unfold NdA.cells
    rw [e0', e1', e2', e3', e4', e5']
end Go.Proofs.YtemccomnhjhjeaaDoor

/-
  keys.Items: the items of nodes, told plainly; how keys.walk's levels lie; what its closure does.
-/
namespace Go.Proofs.YtemccomnhjhjeaaDoor
open Go.RowKit Go.Maps
set_option linter.unusedVariables false
set_option linter.unusedSimpArgs false

/-- A node's item without its size: its number, its parent's, its place, how deep it lies. -/
abbrev It := Int × Int × Int × Int
def itm : Forest → Nat → Int → Nat → Nat → List It
  | .nil, _, _, _, _ => []
  | .cons _ _ _ _ _ kids rest, num, par, pl, dep => ((num : Int), par, (pl : Int), (dep : Int)) :: (itm kids (num + 1) (num : Int) 0 (dep + 1) ++ itm rest (num + 1 + kids.count) par (pl + 1) dep)
theorem itm_len : ∀ (f : Forest) (num : Nat) (par : Int) (pl dep : Nat), (itm f num par pl dep).length = f.count
  | .nil, _, _, _, _ => rfl
  | .cons _ _ _ _ _ kids rest, num, par, pl, dep => by
    simp only [itm, List.length_cons, List.length_append, itm_len kids, itm_len rest, Forest.count]; omega
/-- A list that is gone through. -/
structure Lev where
  F : Forest
  q : Option Addr
  cap : Nat
  par : Int
  nx : Nat
def levL (l : Lev) : List Value := [.slice l.q l.F.len l.cap, .int .i64 l.par, .int .i64 (l.nx : Int)]
def rowL : List Lev → List Value
  | [] => []
  | l :: st => rowL st ++ levL l
theorem rowL_len : ∀ st : List Lev, (rowL st).length = st.length * 3
  | [] => rfl
  | l :: st => by simp only [rowL, List.length_append, rowL_len st, levL, List.length_cons, List.length_nil]; omega
def tdo : List Lev → Nat → List It
  | [], _ => []
  | l :: st, num => itm (l.F.drop l.nx) num l.par l.nx st.length ++ tdo st (num + (l.F.drop l.nx).count)
def cntL : List Lev → Nat
  | [] => 0
  | l :: st => (l.F.drop l.nx).count + cntL st
theorem tdo_pop (l : Lev) (st : List Lev) (num : Nat) (h : l.F.drop l.nx = .nil) : tdo (l :: st) num = tdo st num ∧ cntL (l :: st) = cntL st := by
  simp only [tdo, cntL, h, itm, Forest.count, List.nil_append, Nat.add_zero, Nat.zero_add, and_self]
theorem tdo_push (l : Lev) (st : List Lev) (num : Nat) {k sp : Int} {n : ByteArray} {ats : List (ByteArray × ByteArray)} {tx : ByteArray} {kids : Forest} (q : Option Addr) (c : Nat) (h : l.F.drop l.nx = .cons k sp n ats tx kids (l.F.drop (l.nx + 1))) :
    tdo (l :: st) num = ((num : Int), l.par, (l.nx : Int), (st.length : Int)) :: tdo (⟨kids, q, c, (num : Int), 0⟩ :: { l with nx := l.nx + 1 } :: st) (num + 1) ∧ cntL (l :: st) = cntL (⟨kids, q, c, (num : Int), 0⟩ :: { l with nx := l.nx + 1 } :: st) + 1 := by
  constructor
  · simp only [tdo, h, itm, Forest.drop_zero, List.length_cons, List.cons_append, List.append_assoc, Forest.count]
    rw [show num + (1 + kids.count + (l.F.drop (l.nx + 1)).count) = num + 1 + kids.count + (l.F.drop (l.nx + 1)).count by omega]
  · simp only [cntL, h, Forest.drop_zero, Forest.count]; omega

/-! ### items in memory -/
def itL (x : It) : List Value := [.int .i64 x.1, .int .i64 x.2.1, .int .i64 x.2.2.1, .int .i64 x.2.2.2, .int .i64 0]
def flatI : List It → List Value
  | [] => []
  | x :: r => itL x ++ flatI r
theorem flatI_app (a b : List It) : flatI (a ++ b) = flatI a ++ flatI b := by
  induction a with
  | nil => rfl
  | cons e r ih => simp only [List.cons_append, flatI, ih, List.append_assoc]
theorem infoItem0 : (Tryd.prog.info? 29).map (fun i => (i.zero, i.size, i.bytes)) = some (some (.agg #[.int .i64 0, .int .i64 0, .int .i64 0, .int .i64 0, .int .i64 0]), 5, 40) := by kernel_rfl
theorem infoItem : ∃ i, Tryd.prog.info? 29 = some i ∧ i.zero = some (.agg #[.int .i64 0, .int .i64 0, .int .i64 0, .int .i64 0, .int .i64 0]) ∧ i.size = 5 ∧ i.bytes = 40 := by
  have h := infoItem0
  cases hi : Tryd.prog.info? 29 with
  | none => rw [hi] at h; cases h
  | some i =>
    rw [hi] at h
    simp only [Option.map_some, Option.some.injEq, Prod.mk.injEq] at h
    exact ⟨i, rfl, h.1, h.2.1, h.2.2⟩
def AllV (w : World) (G : Nat) (acc : List It) : Prop := ∃ u, Blk w G #[u] 25 ∧ w.ownsRow (G + 1) 29 5 u acc.length (flatI acc)
/-- What the closure may touch: its variable, rows of items, and what is new. -/
def KeepI (G : Nat) (w w' : World) : Prop := w'.os = w.os ∧ w'.tape = w.tape ∧ w'.output = w.output ∧ w.heap.size ≤ w'.heap.size ∧ ∀ b, b < w.heap.size → b ≠ G → (G < b → ∀ cs z, w.heap[b]? ≠ some (.cells cs 29 z)) → w'.heap[b]? = w.heap[b]?
theorem blk_grown {w w' : World} {b : Nat} {vs : Array Value} {t : TypeId} {row : Option Nat} (h : Blk w b vs t) (hg : w.grownBy w' row) (hr : some b ≠ row) : Blk w' b vs t := (hg.block b h.lt hr).trans h
theorem cell_five_new (w : World) (a b c d e : Value) (t : TypeId) : ∀ j u, [a, b, c, d, e][j]? = some u → (w.alloc (Obj.cells #[a, b, c, d, e] t)).cell? ((⟨w.heap.size, 0, none⟩ : Addr).add j) = some u := by
  intro j u h
  have e' : (⟨w.heap.size, 0, none⟩ : Addr).add j = ⟨w.heap.size, j, none⟩ := by unfold Addr.add; split <;> simp_all
  rw [e', (Blk.new w #[a, b, c, d, e] t).cell j]
  simpa using h
theorem owns_blockI {w : World} {base : Nat} {e : TypeId} {size : Nat} {v : Value} {n : Nat} {xs : List Value} (h : w.ownsRow base e size v n xs) {k : Nat} (hk : v.ownBlock = some k) : base ≤ k ∧ ∃ cur, w.heap[k]? = some (.cells cur e (0, 0)) := by
  rcases h.2 with ⟨rfl, _⟩ | ⟨g, cap, cur, rfl, hb, h3, _⟩
  · cases hk
  · simp only [Value.ownBlock, Option.some.injEq] at hk
    subst hk
    exact ⟨hb, cur, h3⟩
theorem owns_awayI {w : World} {base : Nat} {e : TypeId} {size : Nat} {v : Value} {n : Nat} {xs : List Value} (h : w.ownsRow base e size v n xs) {c o : Nat} {x : Value} (hc : ∀ k, some k = v.ownBlock → k ≠ c) : (w.setCell ⟨c, o, none⟩ x).ownsRow base e size v n xs := by
  obtain ⟨hl, h⟩ := h
  refine ⟨hl, ?_⟩
  rcases h with h | ⟨g, cap, cur, h1, h2, h3, h4, h5, h6, h7⟩
  · exact .inl h
  · refine .inr ⟨g, cap, cur, h1, h2, ?_, h4, h5, h6, h7⟩
    have hg : g ≠ c := hc g (by rw [h1]; rfl)
    rw [Below.heap_setCell w ⟨c, o, none⟩ x g hg]; exact h3

set_option maxHeartbeats 1000000 in
theorem itemsC_any (p : Value) (x : It) (G : Nat) (acc : List It) (w : World) (h : AllV w G acc) (hl : acc.length ≤ 1000000) :
    Calls Tryd.prog 28 #[p, .agg #[.int .i64 x.1, .int .i64 x.2.1, .int .i64 x.2.2.1, .int .i64 x.2.2.2, .int .i64 0], .pointer (some ⟨G, 0, none⟩)] w fun e w' => e = .returned (.tuple #[]) ∧ AllV w' G (acc ++ [x]) ∧ KeepI G w w' := by
  obtain ⟨i0, hi0, hi1, hi2, hi3⟩ := infoItem
  obtain ⟨u, hb, hr⟩ := h
  obtain ⟨xq, xn, xc, hu⟩ := slice_of hr
  subst hu
  obtain ⟨x1, x2, x3, x4⟩ := x
  dsimp only
  have hG := hb.lt
  have HB := hide hb
  have HR := hide hr
  have k1 : Hid (Blk ((w.alloc (Obj.cells #[.int .i64 x1, .int .i64 x2, .int .i64 x3, .int .i64 x4, .int .i64 0] 29)).alloc (Obj.cells #[.int .i64 x1, .int .i64 x2, .int .i64 x3, .int .i64 x4, .int .i64 0] 29)) G #[.slice xq xn xc] 25) := hide ((hb.alloc _).alloc _)
  have c0 : w.cell? ⟨G, 0, none⟩ = some (.slice xq xn xc) := hb.cell 0
  have hrb : Hid (∀ j, some j = (Value.slice xq xn xc).ownBlock → G + 1 ≤ j ∧ ∃ cur, w.heap[j]? = some (.cells cur 29 (0, 0))) := hide (fun j hj => owns_blockI (unhide HR) hj.symm)
  clear hb hr
  go_enter Tryd.func28, Tryd.ntmps28
  go_wp2_with (at_builtin; refine wpList_append_own_at _ rfl _ _ 25 rfl (G + 1) 29 i0 (.agg #[.int .i64 0, .int .i64 0, .int .i64 0, .int .i64 0, .int .i64 0]) 5 40 Tryd.underlying25 hi0 hi1 hi2 hi3 rfl (by decide) (.slice xq xn xc) _ _ rfl (((unhide HR).alloc _).alloc _) ⟨w.heap.size + 1, 0, none⟩ 1 1 [.int .i64 x1, .int .i64 x2, .int .i64 x3, .int .i64 x4, .int .i64 0] rfl rfl (by have := cell_five_new (w.alloc (Obj.cells #[.int .i64 x1, .int .i64 x2, .int .i64 x3, .int .i64 x4, .int .i64 0] 29)) (.int .i64 x1) (.int .i64 x2) (.int .i64 x3) (.int .i64 x4) (.int .i64 0) 29; simpa using this) (by simp [Value.oneCell']) (by simp only [maxLen]; omega) (by omega) (by simp; omega) ?_; intro u' w3 hown hgr _ _; obtain ⟨yq, yn, yc, rfl⟩ := slice_of hown; have k3 := blk_grown (unhide k1) hgr (fun e => by have := (unhide hrb _ e).1; omega); have d0 : w3.cell? ⟨G, 0, none⟩ = some (.slice xq xn xc) := k3.cell 0; have g0 := k3.frozen 0)
  refine bodyPost_end (v := .tuple #[]) (results_none Tryd.results28 _ _ _) rfl ?_
  refine ⟨rfl, ⟨_, k3.set 0 (by simp) _, ?_⟩, ?_⟩
  · rw [List.length_append, flatI_app]
    refine owns_awayI hown (fun j hj => ?_)
    have := (owns_blockI hown hj.symm).1
    omega
  · have hz := hgr.size
    refine ⟨hgr.os, hgr.tape, hgr.output, ?_, fun b hlt hne hnot => ?_⟩
    · simp at hz ⊢; omega
    · rw [Below.heap_setCell w3 ⟨G, 0, none⟩ _ b hne, hgr.block b (by simp; omega) (fun e => ?_)]
      · exact ((((Below.refl w.heap.size w).alloc (Nat.le_refl _) _).alloc (by simp) _).block b hlt)
      · obtain ⟨h1, cur, h2⟩ := unhide hrb b e
        exact hnot (by omega) _ _ h2
end Go.Proofs.YtemccomnhjhjeaaDoor
