/-
  Several texts in one: what the functions of the program and of the document's answer do.
-/
import Derived.Test.YtbabmkilbbbmoaaDoorMgAX
import Derived.Test.YtbabmkilbbbmoaaDoorMgAC
import Derived.Test.YtbabmkilbbbmoaaDoorMgAT
import Derived.Deep.RegionWith
import Derived.Test.YtbabmkilbbbmoaaDoorMgAO
import Derived.Test.YtbabmkilbbbmoaaDoorMgAP

/-
  A node opened, with the ranges of the Kinds and Spaces of all that is below it (made by mk_ofr.py).
-/
namespace Go.Proofs.YtbabmkilbbbmoaaDoor
open Go.RowKit Go.Deep Go.WideShapes Go.ChangeShapes
set_option linter.unusedVariables false
set_option linter.unusedSimpArgs false

def I64 (z : Int) : Prop := -9223372036854775808 ≤ z ∧ z ≤ 9223372036854775807
/-- Kinds and Spaces that a program can have. -/
def RngF : Forest → Prop
  | .nil => True
  | .cons k sp n ats tx kids rest => (I64 k ∧ I64 sp ∧ RngF kids) ∧ RngF rest
/-- One node at a place. -/
def NodeAtR (g o : Nat) (w : World) : Prop := ∃ k sp n ats tx kids, (I64 k ∧ I64 sp ∧ RngF (kids : Forest)) ∧
  w.cell? ⟨g, o, none⟩ = some (.int .i64 k) ∧ w.cell? ⟨g, o + 1, none⟩ = some (.int .i64 sp) ∧ w.cell? ⟨g, o + 2, none⟩ = some (.string n) ∧
      (∃ qa ca, w.cell? ⟨g, o + 3, none⟩ = some (.slice qa (ats : List (ByteArray × ByteArray)).length ca) ∧ Sl qa ats w) ∧ w.cell? ⟨g, o + 4, none⟩ = some (.string tx) ∧
      ∃ qk ck, w.cell? ⟨g, o + 5, none⟩ = some (.slice qk (kids : Forest).len ck) ∧ kids.len ≤ ck ∧ (kids = .nil ∨ ∃ g' o', qk = some ⟨g', o', none⟩ ∧ Lies kids g' o' w)
theorem forest_ofR {g : Nat} {w : World} : ∀ (len o : Nat), (∀ i, i < len → NodeAtR g (o + i * 6) w) → ∃ f : Forest, f.len = len ∧ Lies f g o w ∧ RngF f
  | 0, o, h => ⟨.nil, rfl, trivial, trivial⟩
  | len + 1, o, h => by
    obtain ⟨k, sp, n, ats, tx, kids, hr, hn⟩ := h 0 (by omega)
    obtain ⟨f, hf, hl, hrf⟩ := forest_ofR len (o + 6) (fun i hi => by have := h (i + 1) (by omega); rw [show o + (i + 1) * 6 = o + 6 + i * 6 by omega] at this; exact this)
    rw [Nat.zero_mul, Nat.add_zero] at hn
    exact ⟨.cons k sp n ats tx kids f, by simp [Forest.len, hf], ⟨hn, hl⟩, hr, hrf⟩
set_option maxRecDepth 100000 in
theorem open_forestR {H : Type} {enc : TypeId × Value → H} {W : World} : ∀ (sz : Nat) (fuel : Nat) (v : Value) (d : DataW H) (ps : List MemPlace), SizeOf.sizeOf d ≤ sz →
    DataW.trod enc Tryd.prog W 0 (fun _ => true) true fuel 22 [v] = some (d, ps) → ∃ (f : Forest) (q : Option Addr) (cap : Nat), v = .slice q f.len cap ∧ f.len ≤ cap ∧ Fo q f W ∧ RngF f
  | 0, fuel, v, d, ps, hs, h => by cases d <;> simp at hs
  | sz + 1, fuel, v, d, ps, hs, h => by
    rcases open_slice Tryd.underlying22 h with ⟨hc, hx⟩ | ⟨a, len, cap, m, k, D, Pl, hc, _, hl, hm, hmm, hx, hall⟩
    · simp only [List.cons.injEq, and_true] at hc
      exact ⟨.nil, none, 0, hc, Nat.le_refl _, Or.inl rfl, trivial⟩
    · simp only [List.cons.injEq, and_true] at hc
      simp only [if_true] at hmm
      subst hmm
      have hd : d = .slice ((List.range len).map D) ((List.range (m - len)).map fun j => D (len + j)) := congrArg Prod.fst hx
      have hsz : ∀ i, i < len → SizeOf.sizeOf (D i) < SizeOf.sizeOf d := fun i hi => by
        have h1 : D i ∈ (List.range len).map D := List.mem_map.2 ⟨i, List.mem_range.2 hi, rfl⟩
        have h2 := size_mem h1
        rw [hd]
        simp only [DataW.slice.sizeOf_spec]
        omega
      by_cases h0 : len = 0
      · subst h0
        exact ⟨.nil, some a, m, hc, Nat.zero_le _, Or.inl rfl, trivial⟩
      have each : ∀ i, i < len → ∃ cs', (∀ j, j < 6 → W.cell? (a.add (i * 6 + j)) = cs'[j]?) ∧ DataW.trod enc Tryd.prog W 0 (fun _ => true) true k 44 cs' = some (D i, Pl i) := fun i hi => by
        obtain ⟨cs', h1, h2⟩ := hall i (by omega)
        rw [fnode_cells] at h1
        obtain ⟨_, hlen, hcell⟩ := World.cells?_some h1
        exact ⟨cs', fun j hj => by have := hcell j hj; rw [fadd_addr] at this; exact this, h2⟩
      obtain ⟨b, o, spot⟩ := a
      have hspot : spot = none := by
        obtain ⟨cs', h1, h2⟩ := each 0 (by omega)
        obtain ⟨xs, k', _, _, hl', _, _⟩ := DataW.trod_struct Tryd.underlying44 h2
        rw [fnode_cells] at hl'
        have h3 := h1 0 (by omega)
        rw [List.getElem?_eq_getElem (by omega)] at h3
        simpa [Addr.add] using World.cell?_spot h3
      subst hspot
      have hnode : ∀ i, i < len → NodeAtR b (o + i * 6) W := fun i hi => by
        obtain ⟨cs', h1, h2⟩ := each i hi
        have hszi := hsz i hi
        generalize D i = di at *
        generalize Pl i = pi at *
        obtain ⟨xs, k', _, hxe, hl', hxl, hf⟩ := DataW.trod_struct Tryd.underlying44 h2
        rw [fnode_cells] at hl'
        match cs', hl', xs, hxl with
        | [c0, c1, c2, c3, c4, c5], _, [y0, y1, y2, y3, y4, y5], _ =>
          have g0 := hf 0 _ rfl
          have g1 := hf 1 _ rfl
          have g2 := hf 2 _ rfl
          have g3 := hf 3 _ rfl
          have g4 := hf 4 _ rfl
          have g5 := hf 5 _ rfl
          simp [fint_cells, fstr_cells, fattrs_cells, fnodes_cells] at g0 g1 g2 g3 g4 g5
          obtain ⟨ki, e0', w0'⟩ := DataW.trod_int Tryd.underlying3 g0
          obtain ⟨spi, e1', w1'⟩ := DataW.trod_int Tryd.underlying3 g1
          obtain ⟨ni, e2', _⟩ := DataW.trod_string Tryd.underlying9 g2
          obtain ⟨ats, qa, ca, e3', hsl⟩ := open_fattrs g3
          obtain ⟨ti, e4', _⟩ := DataW.trod_string Tryd.underlying9 g4
          obtain ⟨y5d, y5p⟩ := y5
          have hdi : di = .agg [y0.1, y1.1, y2.1, y3.1, y4.1, y5d] := by have := congrArg Prod.fst hxe; simpa using this
          have hs5 : SizeOf.sizeOf y5d ≤ sz := by
            rw [hdi] at hszi
            simp only [DataW.agg.sizeOf_spec, List.cons.sizeOf_spec] at hszi
            omega
          obtain ⟨kf, qk, ck, e5', hck, hkf, hkr⟩ := open_forestR sz k' c5 y5d y5p hs5 g5
          simp at e0' e1' e2' e4'
          have z := fun j hj => h1 j hj
          have z0 := z 0 (by omega)
          have z1 := z 1 (by omega)
          have z2 := z 2 (by omega)
          have z3 := z 3 (by omega)
          have z4 := z 4 (by omega)
          have z5 := z 5 (by omega)
          rw [Addr.add_lit] at z0 z1 z2 z3 z4 z5
          simp only [List.getElem?_cons_zero, List.getElem?_cons_succ] at z0 z1 z2 z3 z4 z5
          refine ⟨ki, spi, ni, ats, ti, kf, ⟨bounds_i64 w0'.2, bounds_i64 w1'.2, hkr⟩, ?_, ?_, ?_, ⟨qa, ca, ?_, hsl⟩, ?_, qk, ck, ?_, hck, hkf⟩
          · rw [← e0']; exact z0
          · rw [Nat.add_assoc, ← e1']; exact z1
          · rw [Nat.add_assoc, ← e2']; exact z2
          · rw [Nat.add_assoc, ← e3']; exact z3
          · rw [Nat.add_assoc, ← e4']; exact z4
          · rw [Nat.add_assoc, ← e5']; exact z5
      obtain ⟨f, hf, hlf, hrf⟩ := forest_ofR len o hnode
      exact ⟨f, some ⟨b, o, none⟩, m, by rw [hf]; exact hc, by omega, Or.inr ⟨b, o, rfl, hlf⟩, hrf⟩
set_option maxRecDepth 100000 in
theorem open_nodeR {H : Type} {enc : TypeId × Value → H} {W : World} {base : Nat} {v : Value} {d : DataW H} {ps : List MemPlace} (hv : Value.okWide Tryd.prog W .any base 44 v)
    (h : DataW.Trod enc Tryd.prog W 0 (fun _ => true) true 44 v d ps) : ∃ x : NdA, v = .agg x.cells ∧ x.Ok W ∧ (I64 x.k ∧ I64 x.sp ∧ RngF x.kids) := by
  obtain ⟨cs, rfl, _⟩ := okWide_struct Tryd.underlying44 hv
  obtain ⟨n, t0⟩ := h
  have t1 : DataW.trod enc Tryd.prog W 0 (fun _ => true) true n 44 cs.toList = some (d, ps) := by simpa [Value.cells] using t0
  obtain ⟨cs⟩ := cs
  simp only at t1
  obtain ⟨xs, k', _, hxe, hl', hxl, hf⟩ := DataW.trod_struct Tryd.underlying44 t1
  rw [fnode_cells] at hl'
  match cs, hl', xs, hxl with
  | [c0, c1, c2, c3, c4, c5], _, [y0, y1, y2, y3, y4, y5], _ =>
    have g0 := hf 0 _ rfl
    have g1 := hf 1 _ rfl
    have g2 := hf 2 _ rfl
    have g3 := hf 3 _ rfl
    have g4 := hf 4 _ rfl
    have g5 := hf 5 _ rfl
    simp [fint_cells, fstr_cells, fattrs_cells, fnodes_cells] at g0 g1 g2 g3 g4 g5
    obtain ⟨ki, e0', w0'⟩ := DataW.trod_int Tryd.underlying3 g0
    obtain ⟨spi, e1', w1'⟩ := DataW.trod_int Tryd.underlying3 g1
    obtain ⟨ni, e2', _⟩ := DataW.trod_string Tryd.underlying9 g2
    obtain ⟨ats, qa, ca, e3', hsl⟩ := open_fattrs g3
    obtain ⟨ti, e4', _⟩ := DataW.trod_string Tryd.underlying9 g4
    obtain ⟨y5d, y5p⟩ := y5
    obtain ⟨kf, qk, ck, e5', hck, hkf, hkr⟩ := open_forestR _ k' c5 y5d y5p (Nat.le_refl _) g5
    simp at e0' e1' e2' e4'
    refine ⟨⟨ki, spi, ni, ats, ti, kf, qa, ca, qk, ck⟩, ?_, ⟨hsl, hck, hkf⟩, bounds_i64 w0'.2, bounds_i64 w1'.2, hkr⟩
    unfold NdA.cells
    rw [e0', e1', e2', e3', e4', e5']
end Go.Proofs.YtbabmkilbbbmoaaDoor

/-
  Nodes' ways: plain facts.
-/
namespace Go.Proofs.YtbabmkilbbbmoaaDoor
open Go.RowKit
set_option linter.unusedVariables false
set_option linter.unusedSimpArgs false

/-- The places from a number up to the first nodes. -/
inductive Up (all : List It) : Int → List Int → Prop where
  | top (p : Int) (h : p < 0) : Up all p []
  | nd (i : Nat) (x : It) (l : List Int) (h : all[i]? = some x) (hu : Up all x.2.1 l) : Up all (i : Int) (x.2.2.1 :: l)
/-- The way of the node of a number, the first of these nodes having a place. -/
def wayF : Forest → Nat → Int → List Int
  | .nil, _, _ => []
  | .cons _ _ _ _ _ kids rest, i, num => if num = 0 then [(i : Int)] else if 0 < num ∧ num < 1 + (kids.count : Int) then (i : Int) :: wayF kids 0 (num - 1) else wayF rest (i + 1) (num - 1 - (kids.count : Int))
theorem wayF_len : ∀ (f : Forest) (i : Nat) (num : Int), (wayF f i num).length ≤ f.count
  | .nil, i, num => Nat.le_refl _
  | .cons _ _ _ _ _ kids rest, i, num => by
    have h1 := wayF_len kids 0 (num - 1)
    have h2 := wayF_len rest (i + 1) (num - 1 - (kids.count : Int))
    simp only [wayF, Forest.count]
    split
    · simp; omega
    · split
      · simp; omega
      · omega
theorem wayF_out : ∀ (f : Forest) (i : Nat) (num : Int), (num < 0 ∨ (f.count : Int) ≤ num) → wayF f i num = []
  | .nil, i, num, h => rfl
  | .cons _ _ _ _ _ kids rest, i, num, h => by
    simp only [wayF, Forest.count] at h ⊢
    rw [if_neg (by omega), if_neg (by omega)]
    exact wayF_out rest _ _ (by omega)
theorem up_way : ∀ (f : Forest) (num : Nat) (par : Int) (pl dep : Nat) (all : List It) (l : List Int), (∀ j x, (itm f num par pl dep)[j]? = some x → all[num + j]? = some x) → Up all par l →
    ∀ j, j < f.count → Up all ((num + j : Nat) : Int) ((wayF f pl (j : Int)).reverse ++ l)
  | .nil, num, par, pl, dep, all, l, ha, hu, j, hj => by simp [Forest.count] at hj
  | .cons k sp n ats tx kids rest, num, par, pl, dep, all, l, ha, hu, j, hj => by
    have hj' : j < 1 + kids.count + rest.count := hj
    have h0 : all[num]? = some ((num : Int), par, (pl : Int), (dep : Int)) := ha 0 _ (by simp [itm])
    have hn : Up all (num : Int) ((pl : Int) :: l) := Up.nd num _ l h0 hu
    by_cases hj0 : j = 0
    · subst hj0
      simp only [wayF]
      rw [if_pos (show ((0 : Nat) : Int) = 0 from rfl)]
      exact hn
    · by_cases hk : j < 1 + kids.count
      · have ih := up_way kids (num + 1) (num : Int) 0 (dep + 1) all ((pl : Int) :: l) (fun i x hx => by
          have := ha (i + 1) x (by
            simp only [itm, List.getElem?_cons_succ]
            rw [List.getElem?_append_left (List.getElem?_eq_some_iff.1 hx).1]; exact hx)
          rw [← this]; congr 1; omega) hn (j - 1) (by omega)
        simp only [wayF]
        rw [if_neg (by omega), if_pos (by omega)]
        rw [show ((j : Int) - 1) = ((j - 1 : Nat) : Int) by omega, List.reverse_cons, List.append_assoc]
        rw [show num + j = num + 1 + (j - 1) by omega]
        exact ih
      · have ih := up_way rest (num + 1 + kids.count) par (pl + 1) dep all l (fun i x hx => by
          have := ha (1 + kids.count + i) x (by
            simp only [itm]
            rw [show 1 + kids.count + i = kids.count + i + 1 by omega, List.getElem?_cons_succ, List.getElem?_append_right (by rw [itm_len]; omega), itm_len, show kids.count + i - kids.count = i by omega]; exact hx)
          rw [← this]; congr 1; omega) hu (j - 1 - kids.count) (by omega)
        simp only [wayF]
        rw [if_neg (by omega), if_neg (by omega)]
        rw [show ((j : Int) - 1 - (kids.count : Int)) = ((j - 1 - kids.count : Nat) : Int) by omega]
        rw [show num + j = num + 1 + kids.count + (j - 1 - kids.count) by omega]
        exact ih
theorem up_top (f : Forest) (j : Nat) (hj : j < f.count) : Up (itm f 0 (-1) 0 0) (j : Int) (wayF f 0 (j : Int)).reverse := by
  have := up_way f 0 (-1) 0 0 (itm f 0 (-1) 0 0) [] (fun i x hx => by rw [Nat.zero_add]; exact hx) (Up.top _ (by omega)) j hj
  rw [List.append_nil, Nat.zero_add] at this
  exact this
/-- A slice of numbers as it lies in memory. -/
def IntsV (q : Option Addr) (n : Nat) (zs : List Int) (w : World) : Prop :=
  n = zs.length ∧ (0 < n → ∃ g o, q = some ⟨g, o, none⟩ ∧ ∀ j, j < n → w.cell? ⟨g, o + j, none⟩ = some (.int .i64 (zs.getD j 0)))
theorem IntsV.below {q : Option Addr} {n : Nat} {zs : List Int} {w w' : World} (h : IntsV q n zs w) (hb : Below w.heap.size w w') : IntsV q n zs w' := by
  obtain ⟨h1, h3⟩ := h
  refine ⟨h1, fun h0 => ?_⟩
  obtain ⟨g, o, h4, h5⟩ := h3 h0
  exact ⟨g, o, h4, fun j hj => (hb.cell (p := ⟨g, o + j, none⟩) (World.block_lt_of_cell? w _ (h5 j hj))).trans (h5 j hj)⟩
theorem IntsV.nil (q : Option Addr) (w : World) : IntsV q 0 [] w := ⟨rfl, fun h => absurd h (by omega)⟩
theorem infoInt0 : (Tryd.prog.info? 3).map (fun i => (i.zero, i.size, i.bytes)) = some (some (.int .i64 0), 1, 8) := by kernel_rfl
theorem infoInt : ∃ i, Tryd.prog.info? 3 = some i ∧ i.zero = some (.int .i64 0) ∧ i.size = 1 ∧ i.bytes = 8 := by
  have h := infoInt0
  cases hi : Tryd.prog.info? 3 with
  | none => rw [hi] at h; cases h
  | some i =>
    rw [hi] at h
    simp only [Option.map_some, Option.some.injEq, Prod.mk.injEq] at h
    exact ⟨i, rfl, h.1, h.2.1, h.2.2⟩
theorem lit1i {X : World} {v : Value} {t : TypeId} {j : Nat} {u : Value} (h : [v][j]? = some u) : (X.alloc (.cells #[v] t)).cell? ((⟨X.heap.size, 0, none⟩ : Addr).add j) = some u := by
  have e : (⟨X.heap.size, 0, none⟩ : Addr).add j = ⟨X.heap.size, 0 + j, none⟩ := by unfold Addr.add; split <;> simp_all
  rw [e, Nat.zero_add]
  exact ((Blk.new X #[v] t).cell j).trans (by simpa using h)
theorem ints_of_row {w : World} {base : Nat} {v : Value} {n : Nat} {zs : List Int} (h : w.ownsRow base 3 1 v n (zs.map (Value.int .i64))) : ∃ q c, v = .slice q n c ∧ n = zs.length ∧ n ≤ c ∧ IntsV q n zs w := by
  obtain ⟨hl, h⟩ := h
  have hn : n = zs.length := by simpa using hl.symm
  rcases h with ⟨rfl, h⟩ | ⟨g, cap, cur, rfl, h1, h2, h3, h4, h5, h6⟩
  · exact ⟨none, 0, by rw [h], hn, by omega, hn, fun h0 => by omega⟩
  · refine ⟨_, cap, rfl, hn, h3, hn, fun h0 => ⟨g, 0, rfl, fun j hj => ?_⟩⟩
    rw [Nat.zero_add, Joins.cell_of_block h2]
    have := congrArg (fun l => l[j]?) h6
    simp only [Nat.mul_one] at this
    rw [List.getElem?_take, if_pos hj, List.getElem?_map] at this
    have hj2 : j < zs.length := by omega
    rw [List.getElem?_eq_getElem hj2] at this
    simpa [List.getD, hj2] using this
end Go.Proofs.YtbabmkilbbbmoaaDoor

/-
  What keys.lead does.
-/
namespace Go.Proofs.YtbabmkilbbbmoaaDoor
open Go.RowKit Go.Maps
set_option linter.unusedVariables false
set_option linter.unusedSimpArgs false

def kidsAt (f : Forest) (p : Nat) : Forest := match f.drop p with
  | .cons _ _ _ _ _ kids _ => kids
  | .nil => .nil
theorem kidsAt_eq {f : Forest} {p : Nat} {k sp : Int} {n : ByteArray} {ats : List (ByteArray × ByteArray)} {tx : ByteArray} {kids rest : Forest} (h : f.drop p = .cons k sp n ats tx kids rest) : kidsAt f p = kids := by unfold kidsAt; rw [h]
/-- The list into which places lead. -/
def ledF : Forest → List Int → Option Forest
  | f, [] => some f
  | f, p :: r => if p < 0 ∨ (f.len : Int) ≤ p then none else ledF (kidsAt f p.toNat) r
/-- .. and where its slice lies. -/
inductive Led (w : World) : Forest → Nat → Nat → List Int → Forest → Nat → Nat → Prop where
  | here (f : Forest) (b o : Nat) : Led w f b o [] f b o
  | down (f : Forest) (b o g og c p : Nat) (r : List Int) (f' : Forest) (b' o' : Nat) (h1 : w.cell? ⟨b, o, none⟩ = some (.slice (some ⟨g, og, none⟩) f.len c)) (h2 : Lies f g og w) (h3 : p < f.len) (h4 : Led w (kidsAt f p) g (og + p * 6 + 5) r f' b' o') : Led w f b o ((p : Int) :: r) f' b' o'
/-- A slice of nodes in a cell. -/
def FoC (w : World) (b o : Nat) (f : Forest) : Prop := ∃ q c, w.cell? ⟨b, o, none⟩ = some (.slice q f.len c) ∧ f.len ≤ c ∧ Fo q f w
def LeadSaid (w : World) (f : Forest) (b o : Nat) (ys : List Int) (z : Int) (more : Nat) (e : Ending) (w' : World) : Prop :=
  Below w.heap.size w w' ∧ (((ledF f ys = none ∨ ∃ g, ledF f ys = some g ∧ (z < 0 ∨ (g.len : Int) + (more : Int) ≤ z)) ∧ e = .returned (.tuple #[.pointer none, .int .i64 6])) ∨
    ∃ g b' o', ledF f ys = some g ∧ 0 ≤ z ∧ z < (g.len : Int) + (more : Int) ∧ Led w f b o ys g b' o' ∧ FoC w b' o' g ∧ e = .returned (.tuple #[.pointer (some ⟨b', o', none⟩), .int .i64 0]))
def LeAt (w : World) (f : Forest) (b o : Nat) (ys : List Int) (j : Nat) (bj oj : Nat) (fj : Forest) : Prop :=
  ledF f ys = ledF fj (ys.drop j) ∧ FoC w bj oj fj ∧ fj.len ≤ 1000000 ∧ fj.count ≤ 1000000 ∧ ∀ f' b' o', Led w fj bj oj (ys.drop j) f' b' o' → Led w f b o ys f' b' o'
theorem LeAt.step {w : World} {f : Forest} {b o : Nat} {ys : List Int} {j bj oj : Nat} {fj : Forest} {p g og c : Nat} (h : LeAt w f b o ys j bj oj fj) (hj : j < ys.length) (hz : ys.getD j 0 = (p : Int)) (hp : p < fj.len) (hc : w.cell? ⟨bj, oj, none⟩ = some (.slice (some ⟨g, og, none⟩) fj.len c)) (hl : Lies fj g og w) : LeAt w f b o ys (j + 1) g (og + p * 6 + 5) (kidsAt fj p) := by
  obtain ⟨h1, h2, h3, hcn, h4⟩ := h
  have hd : ys.drop j = (p : Int) :: ys.drop (j + 1) := by
    rw [List.drop_eq_getElem_cons hj]
    congr 1
    simpa [List.getD, hj] using hz
  obtain ⟨k, sp, n, ats, tx, kids, hdr⟩ := fj.drop_cons p hp
  have hk := kidsAt_eq hdr
  have hll := hl.drop p
  rw [hdr] at hll
  obtain ⟨⟨_, _, _, _, _, ⟨qk, ck, c5, hck, hfo⟩⟩, _⟩ := hll
  have hkc : kids.count ≤ 1000000 := by
    have := Forest.count_drop p fj
    rw [hdr] at this
    simp only [Forest.count] at this
    omega
  refine ⟨?_, ⟨qk, ck, by rw [hk]; exact c5, by rw [hk]; exact hck, by rw [hk]; exact hfo⟩, by rw [hk]; have := kids.len_count; omega, by rw [hk]; exact hkc, fun f' b' o' hL => h4 f' b' o' ?_⟩
  · rw [h1, hd, ledF, if_neg (by omega)]
    rfl
  · rw [hd]
    exact Led.down fj bj oj g og c p _ f' b' o' hc hl hp hL
theorem LeAt.no {w : World} {f : Forest} {b o : Nat} {ys : List Int} {j bj oj : Nat} {fj : Forest} {x : Int} (h : LeAt w f b o ys j bj oj fj) (hj : j < ys.length) (hz : ys.getD j 0 = x) (hx : x < 0 ∨ (fj.len : Int) ≤ x) : ledF f ys = none := by
  have hd : ys.drop j = x :: ys.drop (j + 1) := by
    rw [List.drop_eq_getElem_cons hj]
    congr 1
    simpa [List.getD, hj] using hz
  rw [h.1, hd, ledF, if_pos hx]
set_option maxHeartbeats 4000000 in
set_option maxRecDepth 100000 in
theorem lead_none (b o : Nat) (qw : Option Addr) (cw : Nat) (more : Int) (w : World) :
    Calls Tryd.prog 46 #[.pointer (some ⟨b, o, none⟩), .slice qw 0 cw, .int .i64 more] w fun e w' => e = .returned (.tuple #[.pointer none, .int .i64 1]) ∧ w' = w := by
  go_enter Tryd.func46, Tryd.ntmps46
  go_wp2
  go_ret2
  exact ⟨rfl, rfl⟩
set_option maxHeartbeats 4000000 in
set_option maxRecDepth 100000 in
theorem lead_any (f : Forest) (b o : Nat) (qw : Option Addr) (n cw : Nat) (ys : List Int) (z : Int) (more : Nat) (w : World) (hF : FoC w b o f) (hfc : f.count ≤ 1000000) (hw : IntsV qw n (ys ++ [z]) w) (hcw : n ≤ cw) (hn : n ≤ 1000000) (hm : more ≤ 1) :
    Calls Tryd.prog 46 #[.pointer (some ⟨b, o, none⟩), .slice qw n cw, .int .i64 (more : Int)] w fun e w' => LeadSaid w f b o ys z more e w' := by
  obtain ⟨hnl, hcells⟩ := hw
  obtain ⟨m, hm1⟩ : ∃ m, ys.length = m := ⟨_, rfl⟩
  have hnm : n = m + 1 := by rw [hnl, List.length_append, hm1]; rfl
  subst hnm
  obtain ⟨gw, ow, rfl, hcz⟩ := hcells (by omega)
  have hczl : w.cell? ⟨gw, ow + m, none⟩ = some (.int .i64 z) := by
    have := hcz m (by omega)
    rw [this]; simp [List.getD, ← hm1]
  have hczj : Hid (∀ j, j < m → w.cell? ⟨gw, ow + j, none⟩ = some (.int .i64 (ys.getD j 0))) := hide (fun j hj => by
    have := hcz j (by omega)
    rw [this]; simp [List.getD, List.getElem?_append_left (show j < ys.length by omega)])
  have HAT : Hid (LeAt w f b o ys 0 b o f) := hide ⟨by rw [List.drop_zero], hF, by have := f.len_count; omega, hfc, fun f' b' o' h => by rw [List.drop_zero] at h; exact h⟩
  have HM := hide hm1
  have hmi : (m : Int) + 1 ≤ 1000000 := by omega
  have hcwi : (m : Int) + 1 ≤ (cw : Int) := by omega
  have hne1 : ((m : Int) + 1 == 0) = false := beq_eq_false_iff_ne.2 (by omega)
  have hne2 : ¬ ((m : Int) + 1 = 0) := by omega
  have hm0 : (0 : Int) ≤ (m : Int) := by omega
  clear hcells hcz hF hm1 hnl hcw hn
  go_enter Tryd.func46, Tryd.ntmps46
  go_wp2
  go_loopw [0, 21] (fun a i wr => ∃ (j bj oj : Nat) (fj : Forest), j ≤ m ∧ i = .int .i64 (j : Int) ∧ a = .pointer (some ⟨bj, oj, none⟩) ∧ LeAt w f b o ys j bj oj fj ∧ wr = w) (fun _ i _ => m - (intOf i).toNat)
  case atStart => exact ⟨0, b, o, f, Nat.zero_le _, rfl, rfl, unhide HAT, rfl⟩
  case round =>
    clear HAT
    obtain ⟨j, bj, oj, fj, hj, rfl, rfl, hat, rfl⟩ := hrel
    obtain ⟨qj, cj, d0, hcj, hfo⟩ := hat.2.1
    have hfl := hat.2.2.1
    have HAT := hide hat
    by_cases hjm : j < m
    · have hji : (j : Int) < (m : Int) := by omega
      have cz := unhide hczj j hjm
      have HZ : Hid (ys.getD j 0 = ys.getD j 0) := hide rfl
      obtain ⟨x, hx⟩ : ∃ x, ys.getD j 0 = x := ⟨_, rfl⟩
      rw [hx] at cz
      have HXE := hide hx
      clear hat hx HZ
      have hjl : j < ys.length := by rw [unhide HM]; exact hjm
      by_cases hx0 : x < 0
      · have hx0' : decide (x < 0) = true := decide_eq_true hx0
        have HNO := hide ((unhide HAT).no hjl (unhide HXE) (Or.inl hx0))
        clear HAT hfo hcj hfl hjl
        go_wp2
        go_ret2
        exact ⟨Below.refl _ _, Or.inl ⟨Or.inl (unhide HNO), rfl⟩⟩
      · by_cases hx1 : (fj.len : Int) ≤ x
        · have hx0' : decide (x < 0) = false := decide_eq_false hx0
          have HNO := hide ((unhide HAT).no hjl (unhide HXE) (Or.inr hx1))
          clear HAT hfo hcj hjl
          go_wp2
          go_ret2
          exact ⟨Below.refl _ _, Or.inl ⟨Or.inl (unhide HNO), rfl⟩⟩
        · obtain ⟨xn, rfl⟩ : ∃ xn : Nat, x = (xn : Int) := ⟨x.toNat, by omega⟩
          have hxl : xn < fj.len := by omega
          obtain ⟨g, og, hq, hl⟩ : ∃ g og, qj = some ⟨g, og, none⟩ ∧ Lies fj g og wr := by
            rcases hfo with h | h
            · rw [h] at hxl; simp [Forest.len] at hxl
            · exact h
          subst hq
          have HST := hide ((unhide HAT).step hjl (unhide HXE) hxl d0 hl)
          have hx0' : decide ((xn : Int) < 0) = false := decide_eq_false hx0
          have hx1' : decide (fj.len ≤ xn) = false := decide_eq_false (by omega)
          have hx2 : (xn : Int) < (fj.len : Int) := by omega
          have hx3 : (0 : Int) ≤ (xn : Int) := by omega
          generalize fj.len = fl at *
          clear HAT hfo hcj hl hjl hx0 hx1 hxl
          go_wp2
          go_roundw
          case rel => exact ⟨j + 1, g, og + xn * 6 + 5, _, by omega, by go_num, rfl, unhide HST, by first | rfl | trivial⟩
          case measure => simp [intOf]; omega
    · obtain rfl : j = m := by omega
      have HL : Hid (ledF f ys = some fj) := hide (by rw [hat.1, ← unhide HM, List.drop_length]; rfl)
      have HLED : Hid (Led wr f b o ys fj bj oj) := hide (hat.2.2.2.2 fj bj oj (by rw [← unhide HM, List.drop_length]; exact Led.here _ _ _))
      have HFC := hide hat.2.1
      have hmm : ¬ (j : Int) < (j : Int) := by omega
      clear hat HAT hfo hcj hj
      by_cases hx0 : z < 0
      · have hx0' : decide (z < 0) = true := decide_eq_true hx0
        go_wp2
        go_region
        all_goals (
          go_wp2
          go_ret2
          exact ⟨by first | exact Below.refl _ _ | exact (Below.refl _ _).drew | exact below_draws _ _, Or.inl ⟨Or.inr ⟨_, unhide HL, Or.inl hx0⟩, rfl⟩⟩)
      · have hx0' : decide (z < 0) = false := decide_eq_false hx0
        by_cases hx1 : (fj.len : Int) + (more : Int) ≤ z
        · have hx1' : decide ((fj.len : Int) + (more : Int) ≤ z) = true := decide_eq_true hx1
          go_wp2
          go_region
          all_goals (
            go_wp2
            go_ret2
            exact ⟨by first | exact Below.refl _ _ | exact (Below.refl _ _).drew | exact below_draws _ _, Or.inl ⟨Or.inr ⟨_, unhide HL, Or.inr hx1⟩, rfl⟩⟩)
        · have hx1' : decide ((fj.len : Int) + (more : Int) ≤ z) = false := decide_eq_false hx1
          go_wp2
          go_region
          all_goals (
            go_wp2
            go_ret2
            exact ⟨by first | exact Below.refl _ _ | exact (Below.refl _ _).drew | exact below_draws _ _, Or.inr ⟨fj, bj, oj, unhide HL, by omega, by omega, unhide HLED, unhide HFC, rfl⟩⟩)
end Go.Proofs.YtbabmkilbbbmoaaDoor

/-
  The node at a way: plain facts.
-/
namespace Go.Proofs.YtbabmkilbbbmoaaDoor
open Go.RowKit
set_option linter.unusedVariables false
set_option linter.unusedSimpArgs false

/-- The error of a way, and the list from the node on to which it leads. -/
def atE : Forest → List Int → Int
  | _, [] => 1
  | f, p :: r => if p < 0 ∨ (f.len : Int) ≤ p then 6 else if r = [] then 0 else atE (kidsAt f p.toNat) r
def atN : Forest → List Int → Forest
  | _, [] => .nil
  | f, p :: r => if r = [] then f.drop p.toNat else atN (kidsAt f p.toNat) r
theorem at_led : ∀ (ys : List Int) (f : Forest) (z : Int), (∀ g, ledF f ys = some g → atN f (ys ++ [z]) = g.drop z.toNat ∧ atE f (ys ++ [z]) = if z < 0 ∨ (g.len : Int) ≤ z then 6 else 0) ∧ (ledF f ys = none → atE f (ys ++ [z]) = 6)
  | [], f, z => ⟨fun g h => by
      simp only [ledF, Option.some.injEq] at h; subst h
      refine ⟨?_, ?_⟩
      · simp [atN]
      · show atE f [z] = _
        unfold atE; rw [if_pos rfl], fun h => by simp [ledF] at h⟩
  | p :: r, f, z => by
    have ih := at_led r (kidsAt f p.toNat) z
    have hne : r ++ [z] ≠ [] := by simp
    refine ⟨fun g h => ?_, fun h => ?_⟩
    · simp only [ledF] at h
      by_cases hp : p < 0 ∨ (f.len : Int) ≤ p
      · rw [if_pos hp] at h; cases h
      · rw [if_neg hp] at h
        obtain ⟨i1, i2⟩ := ih.1 g h
        refine ⟨?_, ?_⟩
        · show atN f (p :: (r ++ [z])) = _
          unfold atN; rw [if_neg hne]; exact i1
        · show atE f (p :: (r ++ [z])) = _
          unfold atE; rw [if_neg hp, if_neg hne]; exact i2
    · simp only [ledF] at h
      show atE f (p :: (r ++ [z])) = _
      by_cases hp : p < 0 ∨ (f.len : Int) ≤ p
      · unfold atE; rw [if_pos hp]
      · rw [if_neg hp] at h
        unfold atE; rw [if_neg hp, if_neg hne]; exact ih.2 h
theorem SmF.kidsAt {f : Forest} (h : SmF f) (p : Nat) : SmF (kidsAt f p) := by
  have hd := SmF.drop p f h
  unfold Proofs.YtbabmkilbbbmoaaDoor.kidsAt
  cases e : f.drop p with
  | nil => trivial
  | cons k sp n ats tx kids rest => rw [e] at hd; exact hd.2.1
theorem kidsAt_count (f : Forest) (p : Nat) : (kidsAt f p).count ≤ f.count := by
  have := Forest.count_drop p f
  unfold kidsAt
  cases e : f.drop p with
  | nil => simp [Forest.count]
  | cons k sp n ats tx kids rest => rw [e] at this; simp only [Forest.count] at this; show kids.count ≤ _; omega
theorem led_small : ∀ (ys : List Int) (f g : Forest), ledF f ys = some g → SmF f → SmF g ∧ g.count ≤ f.count
  | [], f, g, h, hs => by simp only [ledF, Option.some.injEq] at h; subst h; exact ⟨hs, Nat.le_refl _⟩
  | p :: r, f, g, h, hs => by
    simp only [ledF] at h
    by_cases hp : p < 0 ∨ (f.len : Int) ≤ p
    · rw [if_pos hp] at h; cases h
    · rw [if_neg hp] at h
      have := led_small r _ g h (hs.kidsAt p.toNat)
      exact ⟨this.1, Nat.le_trans this.2 (kidsAt_count f _)⟩
def zeroNd : Value := .agg #[.int .i64 0, .int .i64 0, .string ⟨#[]⟩, .slice none 0 0, .string ⟨#[]⟩, .slice none 0 0]
def NodS (f : Forest) (zs : List Int) (v : Value) (w : World) : Prop :=
  (atE f zs ≠ 0 ∧ v = zeroNd) ∨ (atE f zs = 0 ∧ ∃ k sp n ats tx kids rest, atN f zs = .cons k sp n ats tx kids rest ∧ NdV k sp n ats tx kids v w)
theorem NodS.below {f : Forest} {zs : List Int} {v : Value} {w w' : World} (h : NodS f zs v w) (hb : Below w.heap.size w w') : NodS f zs v w' :=
  h.imp id fun ⟨h1, k, sp, n, ats, tx, kids, rest, h2, h3⟩ => ⟨h1, k, sp, n, ats, tx, kids, rest, h2, h3.below hb⟩
theorem split_last {zs : List Int} (h : zs ≠ []) : ∃ ys z, zs = ys ++ [z] := ⟨zs.dropLast, zs.getLast h, (List.dropLast_concat_getLast h).symm⟩
end Go.Proofs.YtbabmkilbbbmoaaDoor

/-
  What the plain comparison of numbers does.
-/
namespace Go.Proofs.YtbabmkilbbbmoaaDoor
open Go.RowKit Go.Maps
set_option linter.unusedVariables false
set_option linter.unusedSimpArgs false

theorem IntsV.at {q : Option Addr} {n : Nat} {zs : List Int} {w w' : World} (h : IntsV q n zs w) (hb : Below w.heap.size w w') (j : Nat) (hj : j < n) : ∃ g o, q = some ⟨g, o, none⟩ ∧ w'.cell? ⟨g, o + j, none⟩ = some (.int .i64 (zs.getD j 0)) := by
  obtain ⟨g, o, hq, hc⟩ := (h.below hb).2 (by omega)
  exact ⟨g, o, hq, hc j hj⟩
theorem ints_ext {za zb : List Int} (hl : za.length = zb.length) (h : ∀ j, j < za.length → za.getD j 0 = zb.getD j 0) : za = zb := by
  apply List.ext_getElem hl
  intro j h1 h2
  have := h j h1
  simpa [List.getD, h1, h2] using this
end Go.Proofs.YtbabmkilbbbmoaaDoor

/-
  What the reference's At does (made by mk_rae.py).
-/
namespace Go.Proofs.YtbabmkilbbbmoaaDoor
open Go.RowKit
set_option linter.unusedVariables false
set_option linter.unusedSimpArgs false

def GotSaid (w0 w : World) (f : Forest) (zs : List Int) (e : Ending) (w' : World) : Prop := ∃ (k sp : Int) (n tx : ByteArray) (qa qk : Option Addr) (la ca lk ck : Nat), e = .returned (.agg #[.slice none 0 0, .int .i64 k, .int .i64 sp, .string n, .slice qa la ca, .string tx, .slice qk lk ck, .int .i64 (atE f zs)]) ∧ NodS f zs (ndV k sp n qa la ca tx qk lk ck) w0 ∧ Below w.heap.size w w'
theorem ints_tail {g o n : Nat} {z : Int} {r : List Int} {w : World} (h : IntsV (some ⟨g, o, none⟩) (n + 1) (z :: r) w) : IntsV (some ⟨g, o + 1, none⟩) n r w := by
  obtain ⟨h1, h2⟩ := h
  refine ⟨by simpa using h1, fun h0 => ⟨g, o + 1, rfl, fun j hj => ?_⟩⟩
  obtain ⟨g', o', e, hc⟩ := h2 (by omega)
  injection e with e
  injection e with e1 e2
  subst e1 e2
  have := hc (j + 1) (by omega)
  rw [show o + 1 + j = o + (j + 1) by omega, this]
  simp [List.getD]
end Go.Proofs.YtbabmkilbbbmoaaDoor

/-
  rectolaw19.large; the plain comparison of one node told twice.
-/
namespace Go.Proofs.YtbabmkilbbbmoaaDoor
open Go.RowKit
set_option linter.unusedVariables false
set_option linter.unusedSimpArgs false

theorem zeroNd_is (w : World) : NdV 0 0 ⟨#[]⟩ [] ⟨#[]⟩ .nil zeroNd w := ⟨none, 0, none, 0, rfl, Or.inl rfl, Or.inl rfl, Nat.le_refl _⟩
theorem ndv_same (k sp : Int) (n : ByteArray) (ats : List (ByteArray × ByteArray)) (tx : ByteArray) (kids : Forest) (v1 v2 : Value) (w : World) (h1 : NdV k sp n ats tx kids v1 w) (h2 : NdV k sp n ats tx kids v2 w) (hs : SmF kids) (hl : ats.length ≤ 1000000000) (hc : kids.count ≤ 1000000) :
    Calls Tryd.prog 20 #[v1, v2] w fun e w' => e = .returned (.bool true) ∧ Below w.heap.size w w' := by
  obtain ⟨qa, ca, qk, ck, rfl, a1, a2, a3⟩ := h1
  obtain ⟨qa', ca', qk', ck', rfl, b1, b2, b3⟩ := h2
  have hkl := kids.len_count
  have hsk : sameF kids kids = true := (sameF_eq kids kids).2 rfl
  have := pnode_any k sp n ats tx k sp n ats tx qa qa' qk qk' ca ca' ck ck' kids.len kids.len true w a1 b1 hl hl (fun W hW => by
    have := nodes_any kids.count kids (Nat.le_refl _) hc hs kids qk qk' ck ck' W (a2.below hW) (b2.below hW) hs (by omega)
    rw [hsk] at this
    exact this)
  have hal : alikeN k sp n ats tx k sp n ats tx = true := by
    unfold alikeN
    simp only [decide_true, Bool.true_and]
    exact decide_eq_true rfl
  rw [hal, Bool.true_and] at this
  exact this
/-- One node, told twice. -/
theorem nods_same (f : Forest) (zs : List Int) (v1 v2 : Value) (w : World) (h1 : NodS f zs v1 w) (h2 : NodS f zs v2 w) (hs : SmF (atN f zs)) (hc : (atN f zs).count ≤ 1000000) :
    Calls Tryd.prog 20 #[v1, v2] w fun e w' => e = .returned (.bool true) ∧ Below w.heap.size w w' := by
  rcases h1 with ⟨h1, rfl⟩ | ⟨h1, k, sp, n, ats, tx, kids, rest, e1, n1⟩
  · rcases h2 with ⟨_, rfl⟩ | ⟨h2, _⟩
    · exact ndv_same 0 0 ⟨#[]⟩ [] ⟨#[]⟩ .nil zeroNd zeroNd w (zeroNd_is w) (zeroNd_is w) trivial (by simp) (by simp [Forest.count])
    · exact absurd h2 h1
  · rcases h2 with ⟨h2, _⟩ | ⟨_, k', sp', n', ats', tx', kids', rest', e2, n2⟩
    · exact absurd h1 h2
    · rw [e1] at e2 hs hc
      injection e2 with a1 a2 a3 a4 a5 a6 a7
      subst a1 a2 a3 a4 a5 a6
      have hf : Fits ats := hs.1.2.2.1
      simp only [Forest.count] at hc
      exact ndv_same k sp n ats tx kids v1 v2 w n1 n2 hs.2.1 (by have := hf.1; omega) (by omega)
theorem atN_small : ∀ (zs : List Int) (f : Forest), SmF f → SmF (atN f zs) ∧ (atN f zs).count ≤ f.count
  | [], f, h => ⟨trivial, Nat.zero_le _⟩
  | p :: r, f, h => by
    unfold atN
    by_cases hr : r = []
    · rw [if_pos hr]; exact ⟨SmF.drop _ f h, Forest.count_drop _ f⟩
    · rw [if_neg hr]
      have := atN_small r (kidsAt f p.toNat) (h.kidsAt p.toNat)
      exact ⟨this.1, Nat.le_trans this.2 (kidsAt_count f _)⟩
theorem atE_cases (f : Forest) (zs : List Int) : 0 ≤ atE f zs ∧ atE f zs ≤ 6 := by
  induction zs generalizing f with
  | nil => unfold atE; omega
  | cons p r ih =>
    unfold atE
    split
    · omega
    · split
      · omega
      · exact ih _
end Go.Proofs.YtbabmkilbbbmoaaDoor
