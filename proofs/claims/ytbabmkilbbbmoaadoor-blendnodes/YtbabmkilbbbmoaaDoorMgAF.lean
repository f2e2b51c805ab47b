/-
  Several texts in one: what the functions of the program and of the document's answer do.
-/
import Derived.Test.YtbabmkilbbbmoaaDoorMgAE
import Derived.Test.YtbabmkilbbbmoaaDoorMgAA
import Derived.Test.YtbabmkilbbbmoaaDoorMgAB
import Derived.Lib.AppendZeros

/-
  What match.Line does.
-/
namespace Go.Proofs.YtbabmkilbbbmoaaDoor
open Go.RowKit Go.Maps
set_option linter.unusedVariables false
set_option linter.unusedSimpArgs false

/-- Are two texts the same? -/
def eqT (ss tt : List ByteArray) (i j : Nat) : Bool := decide ((tx ss i).data.toList = (tx tt j).data.toList)
theorem getD_nums (D : List (List UInt8)) (l : List (List UInt8)) (i : Nat) (h : i < l.length) : (numsK D l).getD i 0 = numT (addAll D l) (l.getD i []) := by
  unfold numsK
  simp [List.getD, List.getElem?_map, List.getElem?_eq_getElem h]
theorem txs_getD (ss : List ByteArray) (i : Nat) (h : i < ss.length) : (txs ss).getD i [] = (tx ss i).data.toList := by
  unfold txs tx
  simp [List.getD, List.getElem?_map, List.getElem?_eq_getElem h]
theorem nums_eq (ss tt : List ByteArray) (i j : Nat) (hi : i < ss.length) (hj : j < tt.length) : eqZ (numsK [] (txs ss)) (numsK (addAll [] (txs ss)) (txs tt)) i j = eqT ss tt i j := by
  have li : i < (txs ss).length := by unfold txs; rw [List.length_map]; exact hi
  have lj : j < (txs tt).length := by unfold txs; rw [List.length_map]; exact hj
  unfold eqZ eqT
  rw [getD_nums _ _ _ li, getD_nums _ _ _ lj, ← txs_getD _ _ hi, ← txs_getD _ _ hj]
  have m1 : (txs ss).getD i [] ∈ txs ss := by rw [List.getD, List.getElem?_eq_getElem li]; exact List.getElem_mem li
  have m2 : (txs tt).getD j [] ∈ txs tt := by rw [List.getD, List.getElem?_eq_getElem lj]; exact List.getElem_mem lj
  have n1 := addAll_mem (txs ss) [] _ m1
  have n2 := addAll_mem (txs tt) (addAll [] (txs ss)) _ m2
  have p := addAll_pre (txs tt) (addAll [] (txs ss))
  rw [← numT_pre p n1]
  have := numT_inj (p.subset n1) n2
  by_cases e : (txs ss).getD i [] = (txs tt).getD j []
  · rw [decide_eq_true e, e]; simp
  · rw [decide_eq_false e]
    exact beq_eq_false_iff_ne.2 (fun x => e (this.1 x))
theorem ints_owns {w : World} {base : Nat} {q : Option Addr} {n c : Nat} {zs : List Int} (h : w.ownsRow base 3 1 (.slice q n c) zs.length (zs.map intV)) : n = zs.length ∧ n ≤ c ∧ MtsV q n zs w := by
  obtain ⟨_, h⟩ := h
  rcases h with ⟨h1, h0⟩ | ⟨g, cap, cur, h0, h1, h2, h3, h4, h5, h6⟩
  · cases h1
    exact ⟨h0.symm, Nat.le_refl _, h0.symm, fun x => absurd x (Nat.lt_irrefl _)⟩
  · cases h0
    refine ⟨rfl, h3, rfl, fun hp => ⟨g, 0, rfl, fun i hi => ?_⟩⟩
    rw [Joins.cell_of_block h2]
    have e : cur.toList[i]? = some (.int .i64 (zs.getD i 0)) := by
      have : (cur.toList.take (zs.length * 1))[i]? = some (.int .i64 (zs.getD i 0)) := by
        rw [h6, List.getElem?_map, List.getD, List.getElem?_eq_getElem hi]; rfl
      rw [List.getElem?_take, if_pos (by omega)] at this
      exact this
    simpa using e
theorem owns_mono {w : World} {base base' : Nat} {e : TypeId} {size : Nat} {v : Value} {n : Nat} {xs : List Value} (h : w.ownsRow base e size v n xs) (hb : base' ≤ base) : w.ownsRow base' e size v n xs := by
  obtain ⟨hl, h⟩ := h
  refine ⟨hl, ?_⟩
  rcases h with h | ⟨g, cap, cur, h1, h2, h3⟩
  · exact .inl h
  · exact .inr ⟨g, cap, cur, h1, by omega, h3⟩
theorem grown_is_below {w w1 : World} {o : Obj} (h : (w.alloc o).grownBy w1 (some w.heap.size)) : Below w.heap.size w w1 :=
  ⟨h.os, h.tape, h.output, Nat.le_trans (by simp) h.size, fun k hk => (h.block k (by simp; omega) (by simp; omega)).trans (((Below.refl w.heap.size w).alloc (Nat.le_refl _) o).block k hk)⟩
theorem numsK_len (D l : List (List UInt8)) : (numsK D l).length = l.length := by unfold numsK; rw [List.length_map]
theorem txs_len (ss : List ByteArray) : (txs ss).length = ss.length := by unfold txs; rw [List.length_map]

theorem view_slice {w : World} {v : Value} {zs : List ByteArray} (h : View w v zs) : ∃ a cap, v = .slice a zs.length cap := by
  obtain ⟨_, a, cap, h, _⟩ := h
  exact ⟨a, cap, h⟩
def LineSaid (ss tt : List ByteArray) (w : World) (e : Ending) (w' : World) : Prop := ∃ u, e = .returned u ∧ PairsV w' w.heap.size u (whP (lnP (eqT ss tt) ss.length tt.length 0 0)) ∧ Below w.heap.size w w'
set_option maxHeartbeats 1000000 in
theorem mline_any (va vb : Value) (ss tt : List ByteArray) (w : World) (ha : View w va ss) (hb : View w vb tt) (h1 : ∀ k, k < ss.length → (tx ss k).size ≤ 9223372036854775807) (h2 : ∀ k, k < tt.length → (tx tt k).size ≤ 9223372036854775807) (hn : ss.length ≤ 1000) (hm : tt.length ≤ 1000) :
    Calls Tryd.prog 28 #[va, vb] w (LineSaid ss tt w) := by
  have hmm := @run_makeMap Tryd.prog
  have C1 := hide (ofTexts_any w.heap.size [] va ss _ (numM_new w) (view_alloc ha _) h1 (by simp; omega))
  have C2 := hide (fun W hN hB => ofTexts_any w.heap.size (addAll [] (txs ss)) vb tt W hN (view_below hb hB) h2 (by have := addAll_len (txs ss) []; rw [txs_len] at this; simp at this; omega))
  have HE : Hid (lnP (eqZ (numsK [] (txs ss)) (numsK (addAll [] (txs ss)) (txs tt))) ss.length tt.length 0 0 = lnP (eqT ss tt) ss.length tt.length 0 0) := hide (lnP_same _ _ _ _ (fun a b hx hy => nums_eq ss tt a b hx hy) _ 0 0)
  unfold LineSaid
  rw [← unhide HE]
  have L1 : Hid (ss.length = (numsK [] (txs ss)).length) := hide (by rw [numsK_len, txs_len])
  have L2 : Hid (tt.length = (numsK (addAll [] (txs ss)) (txs tt)).length) := hide (by rw [numsK_len, txs_len])
  generalize numsK [] (txs ss) = za at *
  generalize numsK (addAll [] (txs ss)) (txs tt) = zb at *
  generalize addAll (addAll [] (txs ss)) (txs tt) = D2 at *
  generalize addAll [] (txs ss) = D1 at *
  clear HE h1 h2
  rw [unhide L1] at C1
  rw [unhide L2] at C2
  have hal := view_slice ha
  have hbl := view_slice hb
  obtain ⟨a1, c1, rfl⟩ := hal
  obtain ⟨a2, c2, rfl⟩ := hbl
  clear ha hb
  go_enter Tryd.func28, Tryd.ntmps28
  go_wp2_with fail
  refine (unhide C1).mono ?_
  rintro e w1 ⟨u1, rfl, hr1, hn1, hg1⟩
  have b1 := grown_is_below hg1
  have hz1 : w.heap.size < (w.alloc (.map #[] 0)).heap.size := by simp
  clear C1
  obtain ⟨q1, m1, k1, hu1⟩ := slice_of hr1
  subst hu1
  go_wp2_with fail
  refine (unhide C2 w1 hn1 b1).mono ?_
  rintro e w2 ⟨u2, rfl, hr2, hn2, hg2⟩
  have hlt := hn1.lt
  have hr1' := owns_grown hr1 hg2 hz1
  obtain ⟨q2, m2, k2, hu2⟩ := slice_of hr2
  subst hu2
  have b2 : Below w.heap.size w w2 := b1.trans ⟨hg2.os, hg2.tape, hg2.output, hg2.size, fun k hk => hg2.block k (by omega) (by simp; omega)⟩
  obtain ⟨e1, le1, i1⟩ := ints_owns hr1'
  obtain ⟨e2, le2, i2⟩ := ints_owns hr2
  have C3 := hide (line_any q1 q2 m1 m2 k1 k2 za zb w2 i1 i2 (by rw [e1, ← unhide L1]; omega) (by rw [e2, ← unhide L2]; omega) le1 le2)
  have X1 : Hid (m1 = ss.length) := hide (e1.trans (unhide L1).symm)
  have X2 : Hid (m2 = tt.length) := hide (e2.trans (unhide L2).symm)
  have B2 := hide b2
  clear hr1 hr2 hr1' hn1 hn2 hg1 hg2 e1 e2 i1 i2 le1 le2 C2 L1 L2 hz1 hlt b1 b2
  rw [unhide X1, unhide X2] at C3
  rw [unhide X1, unhide X2]
  go_wp2_with fail
  refine (unhide C3).mono ?_
  rintro e w3 ⟨u3, rfl, hp, hb3⟩
  have HP := hide hp
  have HB3 := hide hb3
  have hz := (unhide B2).size
  clear hp hb3
  obtain ⟨q3, m3, k3, hu3⟩ := slice_of (unhide HP)
  subst hu3
  go_wp2
  go_ret
  exact ⟨_, rfl, owns_mono (unhide HP) hz, (unhide B2).trans ((unhide HB3).mono hz)⟩
end Go.Proofs.YtbabmkilbbbmoaaDoor

/-
  The small case of rectolaw20: lines.
-/
namespace Go.Proofs.YtbabmkilbbbmoaaDoor
open Go.RowKit Go.Maps
set_option linter.unusedVariables false
set_option linter.unusedSimpArgs false

def p0 : Int × Int × Bool := (0, 0, false)
theorem flatP_split (L : List (Int × Int × Bool)) (k : Nat) (h : k < L.length) (j : Nat) (hj : j < 3) : (flatP L)[k * 3 + j]? = (pairL (L.getD k p0))[j]? := by
  induction L generalizing k with
  | nil => simp at h
  | cons e r ih =>
    cases k with
    | zero =>
      simp only [flatP, Nat.zero_mul, Nat.zero_add]
      rw [List.getElem?_append_left (by simp [pairL]; omega)]
      rfl
    | succ k =>
      simp only [flatP]
      rw [List.getElem?_append_right (by simp [pairL]; omega)]
      have : (k + 1) * 3 + j - (pairL e).length = k * 3 + j := by simp [pairL]; omega
      rw [this, ih k (by simpa using h)]
      rfl
/-- Pairs in memory, cell by cell. -/
theorem PairsV.cells {w : World} {base : Nat} {u : Value} {L : List (Int × Int × Bool)} (h : PairsV w base u L) : ∃ q c, u = .slice q L.length c ∧ (0 < L.length → ∃ g, q = some ⟨g, 0, none⟩ ∧ g < w.heap.size ∧ ∀ k, k < L.length → w.cell? ⟨g, k * 3, none⟩ = some (.int .i64 (L.getD k p0).1) ∧ w.cell? ⟨g, k * 3 + 1, none⟩ = some (.int .i64 (L.getD k p0).2.1) ∧ w.cell? ⟨g, k * 3 + 2, none⟩ = some (.bool (L.getD k p0).2.2)) := by
  obtain ⟨_, h⟩ := h
  rcases h with ⟨h1, h0⟩ | ⟨g, cap, cur, h0, h1, h2, h3, h4, h5, h6⟩
  · exact ⟨none, 0, by rw [h0]; exact h1, fun x => by omega⟩
  · refine ⟨_, cap, h0, fun hp => ⟨g, rfl, ?_, fun k hk => ?_⟩⟩
    · rcases Nat.lt_or_ge g w.heap.size with h' | h'
      · exact h'
      · rw [Array.getElem?_eq_none h'] at h2; cases h2
    · have hc : ∀ j, j < 3 → w.cell? ⟨g, k * 3 + j, none⟩ = (pairL (L.getD k p0))[j]? := by
        intro j hj
        rw [Joins.cell_of_block h2, ← flatP_split L k hk j hj, ← h6, List.getElem?_take, if_pos (by omega)]
        simp
      exact ⟨hc 0 (by decide), hc 1 (by decide), hc 2 (by decide)⟩
def lit3 (a b c : UInt8) : List ByteArray := [⟨#[a]⟩, ⟨#[b]⟩, ⟨#[c]⟩]
theorem view_lit (W W' : World) (a b c : UInt8) (h : Below (W.alloc (Obj.cells #[.string ⟨#[a]⟩, .string ⟨#[b]⟩, .string ⟨#[c]⟩] 9)).heap.size (W.alloc (Obj.cells #[.string ⟨#[a]⟩, .string ⟨#[b]⟩, .string ⟨#[c]⟩] 9)) W') : View W' (.slice (some ⟨W.heap.size, 0, none⟩) 3 3) (lit3 a b c) := by
  refine view_below ?_ h
  refine ⟨by show 3 ≤ _; decide, _, 3, rfl, fun _ => ⟨W.heap.size, 0, rfl, fun i hi => ?_⟩⟩
  have k := Blk.new W #[.string ⟨#[a]⟩, .string ⟨#[b]⟩, .string ⟨#[c]⟩] 9
  rw [Nat.zero_add, k.cell i]
  have hi' : i < 3 := hi
  rcases i with _ | _ | _ | i
  · rfl
  · rfl
  · rfl
  · omega
theorem lines_plain : whP (lnP (eqT (lit3 97 98 99) (lit3 98 120 99)) 3 3 0 0) = [((1 : Int), (0 : Int), true), ((2 : Int), (2 : Int), true)] := by kernel_rfl

set_option maxHeartbeats 1000000 in
theorem lines_any (w : World) : Calls Tryd.prog 9 #[] w fun e w' => e = .returned (.bool true) ∧ Below w.heap.size w w' := by
  have A1 : Below w.heap.size w (w.alloc (Obj.cells #[.string ⟨#[97]⟩, .string ⟨#[98]⟩, .string ⟨#[99]⟩] 9)) := (Below.refl _ _).alloc (Nat.le_refl _) _
  have A2 := A1.alloc A1.size (Obj.cells #[.string ⟨#[98]⟩, .string ⟨#[120]⟩, .string ⟨#[99]⟩] 9)
  have V1 := view_lit w _ 97 98 99 ((Below.refl _ _).alloc (Nat.le_refl _) (Obj.cells #[.string ⟨#[98]⟩, .string ⟨#[120]⟩, .string ⟨#[99]⟩] 9))
  have V2 := view_lit (w.alloc (Obj.cells #[.string ⟨#[97]⟩, .string ⟨#[98]⟩, .string ⟨#[99]⟩] 9)) _ 98 120 99 (Below.refl _ _)
  have C := hide (mline_any _ _ _ _ _ V1 V2 (fun k hk => by have hk' : k < 3 := hk; rcases k with _ | _ | _ | k <;> first | decide | omega) (fun k hk => by have hk' : k < 3 := hk; rcases k with _ | _ | _ | k <;> first | decide | omega) (by decide) (by decide))
  have HA := hide A2
  clear A1 A2 V1 V2
  go_enter Tryd.func9, Tryd.ntmps9
  go_wp2_with fail
  refine Calls.mono (by simpa using unhide C) ?_
  rintro e w2 ⟨u, rfl, hp, hb2⟩
  have e3 : whP (lnP (eqT (lit3 97 98 99) (lit3 98 120 99)) (lit3 97 98 99).length (lit3 98 120 99).length 0 0) = _ := lines_plain
  rw [e3] at hp
  obtain ⟨q, c, rfl, hc⟩ := hp.cells
  obtain ⟨g, rfl, hg, hcell⟩ := hc (by decide)
  obtain ⟨x0, x1, x2⟩ := hcell 0 (by decide)
  obtain ⟨y0, y1, y2⟩ := hcell 1 (by decide)
  have HB2 := hide hb2
  clear hp hcell hb2 hc e3 C
  simp only [List.getD, List.getElem?_cons_zero, List.getElem?_cons_succ, Option.getD_some, Nat.zero_mul, Nat.one_mul, Nat.zero_add, List.length_cons, List.length_nil] at x0 x1 x2 y0 y1 y2 ⊢
  go_wp2
  go_ret
  exact ⟨rfl, (unhide HA).trans ((unhide HB2).mono (unhide HA).size)⟩
end Go.Proofs.YtbabmkilbbbmoaaDoor

/-
  What the reference's best of layer 20 keeps: rows of numbers, rows of rows.
-/
namespace Go.Proofs.YtbabmkilbbbmoaaDoor
open Go.RowKit Go.Maps
set_option linter.unusedVariables false
set_option linter.unusedSimpArgs false

theorem Blk.grown {w w' : World} {b : Nat} {vs : Array Value} {t : TypeId} {row : Option Nat} (h : Blk w b vs t) (hg : w.grownBy w' row) (hr : some b ≠ row) : Blk w' b vs t := (hg.block b h.lt hr).trans h
/-- A row of numbers, told by the place. -/
def IntsF (w : World) (q : Option Addr) (n : Nat) (f : Nat → Int) : Prop := ∃ g o, q = some ⟨g, o, none⟩ ∧ ∀ k, k < n → w.cell? ⟨g, o + k, none⟩ = some (.int .i64 (f k))
theorem cellB {w w' : World} {b o : Nat} {v : Value} (hb : Below w.heap.size w w') (h : w.cell? ⟨b, o, none⟩ = some v) : w'.cell? ⟨b, o, none⟩ = some v := (hb.cell (p := ⟨b, o, none⟩) (World.block_lt_of_cell? w _ h)).trans h
theorem IntsF.below {w w' : World} {q : Option Addr} {n : Nat} {f : Nat → Int} (h : IntsF w q n f) (hb : Below w.heap.size w w') : IntsF w' q n f := by
  obtain ⟨g, o, h1, h2⟩ := h
  exact ⟨g, o, h1, fun k hk => cellB hb (h2 k hk)⟩
theorem IntsF.congr {w : World} {q : Option Addr} {n : Nat} {f f' : Nat → Int} (h : IntsF w q n f) (e : ∀ k, k < n → f k = f' k) : IntsF w q n f' := by
  obtain ⟨g, o, h1, h2⟩ := h
  exact ⟨g, o, h1, fun k hk => by rw [← e k hk]; exact h2 k hk⟩
/-- Cells of an own row. -/
theorem owns_cells {w : World} {base : Nat} {e : TypeId} {v : Value} {n : Nat} {xs : List Value} (h : w.ownsRow base e 1 v n xs) (h0 : 0 < n) : ∃ g cap, v = .slice (some ⟨g, 0, none⟩) n cap ∧ base ≤ g ∧ n ≤ cap ∧ ∀ k, k < n → w.cell? ⟨g, k, none⟩ = xs[k]? := by
  obtain ⟨_, h⟩ := h
  rcases h with ⟨_, h1⟩ | ⟨g, cap, cur, h0, h1, h2, h3, h4, h5, h6⟩
  · omega
  · refine ⟨g, cap, h0, h1, h3, fun k hk => ?_⟩
    rw [Joins.cell_of_block h2, ← h6, List.getElem?_take, if_pos (by omega)]
    simp
theorem owns_lit (w : World) (x : Value) (t : TypeId) : (w.alloc (.cells #[x] t)).ownsRow w.heap.size t 1 (.slice (some ⟨w.heap.size, 0, none⟩) 1 1) 1 [x] :=
  ⟨rfl, .inr ⟨w.heap.size, 1, #[x], rfl, Nat.le_refl _, Blk.new w _ _, Nat.le_refl _, by decide, rfl, rfl⟩⟩
/-- Rows of rows: t of them. -/
def RestsV (w : World) (u : Value) (t : Nat) (m : Nat) (F : Nat → Nat → Int) : Prop :=
  ∃ g o c, u = .slice (some ⟨g, o, none⟩) t c ∧ t ≤ c ∧ ∀ i, i < t → ∃ q d, w.cell? ⟨g, o + i, none⟩ = some (.slice q (m + 1) d) ∧ IntsF w q (m + 1) (F i)
theorem RestsV.below {w w' : World} {u : Value} {t m : Nat} {F : Nat → Nat → Int} (h : RestsV w u t m F) (hb : Below w.heap.size w w') : RestsV w' u t m F := by
  obtain ⟨g, o, c, h1, h2, h3⟩ := h
  refine ⟨g, o, c, h1, h2, fun i hi => ?_⟩
  obtain ⟨q, d, h4, h5⟩ := h3 i hi
  exact ⟨q, d, cellB hb h4, h5.below hb⟩
/-- The values of a row's cells. -/
theorem RestsV.vals {w : World} {g o t m c : Nat} {F : Nat → Nat → Int} (h : RestsV w (.slice (some ⟨g, o, none⟩) t c) t m F) : ∃ vs : List Value, vs.length = t ∧ (∀ j u, vs[j]? = some u → w.cell? ⟨g, o + j, none⟩ = some u ∧ u.oneCell' = true) ∧ ∀ i, i < t → ∃ q d, vs[i]? = some (.slice q (m + 1) d) ∧ IntsF w q (m + 1) (F i) := by
  obtain ⟨g', o', c', h1, h2, h3⟩ := h
  cases h1
  have hch : ∃ f : Nat → Option Addr × Nat, ∀ i, i < t → w.cell? ⟨g, o + i, none⟩ = some (.slice (f i).1 (m + 1) (f i).2) ∧ IntsF w (f i).1 (m + 1) (F i) :=
    ⟨fun i => if hi : i < t then (Classical.choose (h3 i hi), Classical.choose (Classical.choose_spec (h3 i hi))) else (none, 0), fun i hi => by
      simp only [dif_pos hi]
      exact Classical.choose_spec (Classical.choose_spec (h3 i hi))⟩
  obtain ⟨f, hf⟩ := hch
  refine ⟨(List.range t).map (fun i => .slice (f i).1 (m + 1) (f i).2), by simp, fun j u hj => ?_, fun i hi => ?_⟩
  · have hjt : j < t := by
      have := (List.getElem?_eq_some_iff.1 hj).1
      simpa using this
    simp [hjt] at hj
    subst hj
    exact ⟨(hf j hjt).1, rfl⟩
  · exact ⟨(f i).1, (f i).2, by simp [hi], (hf i hi).2⟩
theorem vals_at {w w' : World} {g o : Nat} {vs : List Value} (h : ∀ j u, vs[j]? = some u → w.cell? ⟨g, o + j, none⟩ = some u ∧ u.oneCell' = true) (hb : Below w.heap.size w w') : ∀ j u, vs[j]? = some u → w'.cell? ((⟨g, o, none⟩ : Addr).add j) = some u := by
  intro j u hj
  have e : (⟨g, o, none⟩ : Addr).add j = ⟨g, o + j, none⟩ := by unfold Addr.add; split <;> simp_all
  rw [e]; exact cellB hb (h j u hj).1
theorem vals_one {w : World} {g o : Nat} {vs : List Value} (h : ∀ j u, vs[j]? = some u → w.cell? ⟨g, o + j, none⟩ = some u ∧ u.oneCell' = true) : ∀ u ∈ vs, u.oneCell' = true := by
  intro u hu
  obtain ⟨j, hj⟩ := List.mem_iff_getElem?.1 hu
  exact (h j u hj).2
theorem ints_vals {w : World} {g o n : Nat} {f : Nat → Int} (h : ∀ k, k < n → w.cell? ⟨g, o + k, none⟩ = some (.int .i64 (f k))) : ∀ j u, ((List.range n).map (fun k => Value.int .i64 (f k)))[j]? = some u → w.cell? ((⟨g, o, none⟩ : Addr).add j) = some u := by
  intro j u hj
  have hjn : j < n := by
    have := (List.getElem?_eq_some_iff.1 hj).1
    simpa using this
  simp [hjn] at hj
  subst hj
  have e : (⟨g, o, none⟩ : Addr).add j = ⟨g, o + j, none⟩ := by unfold Addr.add; split <;> simp_all
  rw [e]; exact h j hjn
theorem ints_one (n : Nat) (f : Nat → Int) : ∀ u ∈ (List.range n).map (fun k => Value.int .i64 (f k)), u.oneCell' = true := by
  intro u hu
  obtain ⟨k, _, rfl⟩ := List.mem_map.1 hu
  rfl
/-- A number put ahead of a row. -/
theorem ints_cons {w : World} {base : Nat} {v : Value} {n : Nat} {z : Int} {f : Nat → Int} (h : w.ownsRow base 3 1 v (1 + n) ([.int .i64 z] ++ (List.range n).map (fun k => Value.int .i64 (f k)))) : ∃ q c, v = .slice q (1 + n) c ∧ IntsF w q (1 + n) (fun k => if k = 0 then z else f (k - 1)) := by
  obtain ⟨g, cap, rfl, _, _, hc⟩ := owns_cells h (by omega)
  refine ⟨_, cap, rfl, g, 0, rfl, fun k hk => ?_⟩
  rw [Nat.zero_add, hc k hk]
  cases k with
  | zero => rfl
  | succ k =>
    have hk' : k < n := by omega
    simp [hk']
/-- A row put ahead of rows. -/
theorem rests_cons {w : World} {base : Nat} {v : Value} {t m d : Nat} {q : Option Addr} {vs : List Value} {F : Nat → Nat → Int} {f : Nat → Int} (h : w.ownsRow base 162 1 v (1 + t) ([.slice q (m + 1) d] ++ vs)) (hl : vs.length = t) (hq : IntsF w q (m + 1) f) (hv : ∀ i, i < t → ∃ q d, vs[i]? = some (.slice q (m + 1) d) ∧ IntsF w q (m + 1) (F i)) : RestsV w v (1 + t) m (fun i => if i = 0 then f else F (i - 1)) := by
  obtain ⟨g, cap, rfl, _, hcap, hc⟩ := owns_cells h (by omega)
  refine ⟨g, 0, cap, rfl, hcap, fun i hi => ?_⟩
  rw [Nat.zero_add, hc i hi]
  cases i with
  | zero => exact ⟨q, d, rfl, hq⟩
  | succ i =>
    obtain ⟨q', d', h1, h2⟩ := hv i (by omega)
    exact ⟨q', d', by simpa using h1, by simpa using h2⟩
theorem RestsV.congr {w : World} {u : Value} {t t' m : Nat} {F F' : Nat → Nat → Int} (h : RestsV w u t m F) (ht : t = t') (e : ∀ i k, i < t → k < m + 1 → F i k = F' i k) : RestsV w u t' m F' := by
  subst ht
  obtain ⟨g, o, c, h1, h2, h3⟩ := h
  refine ⟨g, o, c, h1, h2, fun i hi => ?_⟩
  obtain ⟨q, d, h4, h5⟩ := h3 i hi
  exact ⟨q, d, h4, h5.congr (fun k hk => e i k hi hk)⟩
end Go.Proofs.YtbabmkilbbbmoaaDoor

/-
  What 'blend.one', 'blend.same' of texts and 'slices.EqualFunc' under it do.
-/
namespace Go.Proofs.YtbabmkilbbbmoaaDoor
open Go.RowKit
set_option linter.unusedVariables false
set_option linter.unusedSimpArgs false

theorem one_any (x : Int) (w : World) (h0 : 0 ≤ x) (h1 : x < 1000000000) :
    Calls Tryd.prog 107 #[.int .i64 x] w fun e w' => e = .returned (.agg #[.int .i64 x, .int .i64 (x + 1)]) ∧ Below w.heap.size w w' := by
  have hw : (x : Int) + 1 < 9223372036854775808 := by omega
  go_enter Tryd.func107, Tryd.ntmps107
  go_wp2
  refine bodyPost_ret (v := .agg #[.int .i64 x, .int .i64 (x + 1)]) (by simp [results, Tryd.results107, go_sem]) rfl ?_
  exact ⟨rfl, (Below.refl _ _).alloc (Nat.le_refl _) _⟩
theorem eqs_any (a b : ByteArray) (w : World) :
    Calls Tryd.prog 75 #[.string a, .string b] w fun e w' => e = .returned (.bool (decide (a = b))) ∧ Below w.heap.size w w' := by
  have he : (a.toList == b.toList) = decide (a = b) := by
    by_cases h : a = b
    · rw [beq_yes h, decide_eq_true h]
    · rw [beq_no h, decide_eq_false h]
  go_enter Tryd.func75, Tryd.ntmps75
  go_wp2
  go_ret
  exact ⟨rfl, Below.refl _ _⟩
def eqK (ta tb : List ByteArray) (k : Nat) : Prop := ∀ j, j < k → ta.getD j ByteArray.empty = tb.getD j ByteArray.empty
def fEq : Value := .func (Fn.func 75) #[] #[]
set_option maxHeartbeats 1000000 in
theorem eqfT_any (va vb : Value) (ta tb : List ByteArray) (w : World) (ha : View w va ta) (hb : View w vb tb) :
    Calls Tryd.prog 125 #[va, vb, .func (Fn.func 75) #[] #[]] w fun e w' => e = .returned (.bool (sameT ta tb)) ∧ Below w.heap.size w w' := by
  have HA := hide ha
  have HB := hide hb
  obtain ⟨hl1, a1, c1, rfl, _⟩ := ha
  obtain ⟨hl2, a2, c2, rfl, _⟩ := hb
  have hneq : ¬ ta.length = tb.length → sameT ta tb = false := fun h => sameT_false (fun e => h (by rw [e]))
  by_cases hl : ta.length = tb.length
  · have CC := hide (fun (k : Nat) w => eqs_any (ta.getD k ByteArray.empty) (tb.getD k ByteArray.empty) w)
    have hli : (ta.length : Int) = (tb.length : Int) := by omega
    have HF : Hid (eqK ta tb ta.length → sameT ta tb = true) := hide (fun h => sameT_true (same_of _ _ hl h))
    have HL := hide hl
    have HG : Hid (∀ k, ¬ ta.getD k ByteArray.empty = tb.getD k ByteArray.empty → sameT ta tb = false) := hide (fun k h => sameT_false (fun e => h (by rw [e])))
    generalize hst : sameT ta tb = st at *
    rw [← hl]
    clear hl hli hneq
    go_enter Tryd.func125, Tryd.ntmps125
    go_wp2
    go_loopw [17] (fun i wr => ∃ k : Nat, k ≤ ta.length ∧ i = .int .i64 k ∧ eqK ta tb k ∧ Below w.heap.size w wr) (fun i _ => ta.length - (intOf i).toNat)
    case atStart => exact ⟨0, Nat.zero_le _, rfl, fun j hj => absurd hj (Nat.not_lt_zero _), Below.refl _ _⟩
    case round =>
      obtain ⟨k, hk, rfl, hr, hbw⟩ := hrel
      have HR := hide hr
      clear hr
      by_cases hp : k < ta.length
      · have hpi : (k : Int) < (ta.length : Int) := by omega
        obtain ⟨_, a9, c9, e9, hc⟩ := view_below (unhide HA) hbw
        cases e9
        obtain ⟨b, off, rfl, hcell⟩ := hc (by omega)
        obtain ⟨_, a8, c8, e8, hc'⟩ := view_below (unhide HB) hbw
        cases e8
        obtain ⟨b', off', rfl, hcell'⟩ := hc' (by have := unhide HL; omega)
        have hck := hcell k hp
        have hck' := hcell' k (by have := unhide HL; omega)
        have C := hide (unhide CC k)
        have HR2 : Hid (ta.getD k ByteArray.empty = tb.getD k ByteArray.empty → eqK ta tb (k + 1)) := hide (fun hx j hj => by
          by_cases ej : j = k
          · rw [ej]; exact hx
          · exact unhide HR j (by omega))
        have HG2 := hide (unhide HG k)
        clear hcell hc hcell' hc'
        generalize ta.getD k ByteArray.empty = x at *
        generalize tb.getD k ByteArray.empty = y at *
        by_cases hx : x = y
        · rw [decide_eq_true hx] at C
          have H := hide (unhide HR2 hx)
          clear HR2 hx HG2
          go_wp2_with fail
          refine (unhide C _).mono ?_
          rintro e1 w1 ⟨rfl, hb1⟩
          go_wp2
          go_roundw
          case rel => exact ⟨k + 1, by omega, by go_num, unhide H, tr2 hbw hb1⟩
          case measure => simp [intOf]; omega
        · rw [decide_eq_false hx] at C
          have H := hide (unhide HG2 hx)
          clear HR2 hx HG2
          go_wp2_with fail
          refine (unhide C _).mono ?_
          rintro e1 w1 ⟨rfl, hb1⟩
          go_wp2
          go_ret
          exact ⟨by rw [unhide H]; rfl, tr2 hbw hb1⟩
      · have hkn : k = ta.length := by omega
        have H := hide (unhide HF (by rw [← hkn]; exact unhide HR))
        have hpi : ¬ (k : Int) < (ta.length : Int) := by omega
        go_wp2
        go_ret
        exact ⟨by rw [unhide H]; rfl, hbw⟩
  · rw [hneq hl]
    have hli : ¬ (ta.length : Int) = (tb.length : Int) := by omega
    have hlb : ((ta.length : Int) == (tb.length : Int)) = false := beq_eq_false_iff_ne.2 hli
    go_enter Tryd.func125, Tryd.ntmps125
    go_wp2
    go_ret
    exact ⟨rfl, Below.refl _ _⟩
theorem bsame_any (va vb : Value) (ta tb : List ByteArray) (w : World) (ha : View w va ta) (hb : View w vb tb) :
    Calls Tryd.prog 119 #[va, vb, .func (Fn.func 75) #[] #[]] w fun e w' => e = .returned (.bool (sameT ta tb)) ∧ Below w.heap.size w w' := by
  have C := hide (eqfT_any va vb ta tb w ha hb)
  obtain ⟨hl1, a1, c1, rfl, _⟩ := ha
  obtain ⟨hl2, a2, c2, rfl, _⟩ := hb
  generalize sameT ta tb = st at *
  go_enter Tryd.func119, Tryd.ntmps119
  go_wp2_with fail
  refine (unhide C).mono ?_
  rintro e1 w1 ⟨rfl, hb1⟩
  go_wp2
  go_ret
  exact ⟨rfl, hb1⟩
end Go.Proofs.YtbabmkilbbbmoaaDoor

/-
  An append to a row of the call's own: the row's block is the old one or a new one; blocks but one row's stay.
-/
namespace Go.Proofs.YtbabmkilbbbmoaaDoor
open Go.RowKit
set_option linter.unusedVariables false
set_option linter.unusedSimpArgs false

/-- Blocks but one row's stay. -/
def FrB (w : World) (v u : Value) : Prop := ∀ k, u.ownBlock = some k → v.ownBlock = some k ∨ w.heap.size ≤ k
def KpB (w : World) (v : Value) (w' : World) : Prop := ∀ b, b < w.heap.size → some b ≠ v.ownBlock → w'.heap[b]? = w.heap[b]?
theorem append_fresh {P : Program} (w : World) (base : Nat) (t ty e : TypeId) (i : TypeInfo) (z : Value) (size bytes : Nat) (ht : P.underlying t = some (.slice e)) (hi : P.info? e = some i) (hz : i.zero = some z)
    (hsize : i.size = size) (hby : i.bytes = bytes) (hzs : z.cells.size = size) (hsz : 0 < size)
    (v : Value) (n : Nat) (xs : List Value) (hown : w.ownsRow base e size v n xs)
    (a : Addr) (m c : Nat) (news : List Value) (hl : news.length = m * size) (hnews : ∀ j u, news[j]? = some u → w.cell? (a.add j) = some u) (h1 : ∀ u ∈ news, u.oneCell' = true)
    (h63 : n + m ≤ maxLen) (hbytes : (n + m) * bytes ≤ 140737488355328) (hbase : base ≤ w.heap.size) :
    ∃ v' w', (Builtin.append_ #[t, t] ty #[v, .slice (some a) m c]).run P w = .ok v' w' ∧ w'.ownsRow base e size v' (n + m) (xs ++ news) ∧ w.grownBy w' v.ownBlock ∧
      (∀ k, v'.ownBlock = some k → v.ownBlock = some k ∨ w.heap.size ≤ k) := by
  obtain ⟨v', w', hr, h2, h3, h4⟩ := run_append_own (P := P) w base t ty e i z size bytes ht hi hz hsize hby hzs hsz v n xs hown a m c news hl hnews h1 h63 hbytes hbase
  refine ⟨v', w', hr, h2, h3, ?_⟩
  subst hsize
  subst hby
  rcases hown.2 with ⟨rfl, rfl⟩ | ⟨g, cap, cur, rfl, hbg, hg, hnc, hcm, hcs, htake⟩
  · by_cases hm : m = 0
    · rw [h4.2 ⟨rfl, hm⟩]
      intro k hk
      cases hk
    · have hr' := run_append_nil (P := P) w t ty e i z ht hi hz a m c news hl hnews (by omega) (by simp only [maxLen] at h63; omega) (by have hb := hbytes; simp only [Nat.zero_add] at hb; omega)
      rw [hr'] at hr
      cases hr
      intro k hk
      have : w.heap.size = k := by simpa [Value.ownBlock] using hk
      exact .inr (by omega)
  · by_cases hroom : n + m ≤ cap
    · have hfit : n * i.size + news.length ≤ cur.size := by rw [hl, hcs, ← Nat.add_mul]; exact Nat.mul_le_mul_right _ hroom
      have hr' := run_append_room (P := P) w t ty e i ht hi g n cap cur hg a m c news hl hnews h1 hroom hfit
      rw [hr'] at hr
      cases hr
      intro k hk
      exact .inl hk
    · have holds : ∀ j u, xs[j]? = some u → w.cell? ((⟨g, 0, none⟩ : Addr).add j) = some u := hown.cells (g := g) rfl
      have hr' := run_append_grow (P := P) w t ty e i z ht hi hz ⟨g, 0, none⟩ n cap xs hown.1 holds a m c news hl hnews (by omega) (by simp only [maxLen] at h63; omega) (growslice_fits (by omega) hbytes)
      rw [hr'] at hr
      cases hr
      intro k hk
      have : w.heap.size = k := by simpa [Value.ownBlock] using hk
      exact .inr (by omega)
theorem wpList_append_fresh {P : Program} (w : World) {ops : Array Oper} {rest : List Oper} {o : Oper} {a : Act} {Q : Exit → Act → World → Prop} (hgd : o.guard = none) (s x : Operand) (t : TypeId)
    (ho : o.op = .call { callee := .builtin .append, args := #[s, x], argTypes := #[t, t] })
    (base : Nat) (e : TypeId) (i : TypeInfo) (z : Value) (size bytes : Nat) (ht : P.underlying t = some (.slice e)) (hi : P.info? e = some i) (hz : i.zero = some z)
    (hsize : i.size = size) (hby : i.bytes = bytes) (hzs : z.cells.size = size) (hsz : 0 < size)
    (v : Value) (n : Nat) (xs : List Value) (hs : a.eval s = v) (hown : w.ownsRow base e size v n xs)
    (ad : Addr) (m c : Nat) (news : List Value) (hx : a.eval x = .slice (some ad) m c) (hl : news.length = m * size) (hnews : ∀ j u, news[j]? = some u → w.cell? (ad.add j) = some u) (h1 : ∀ u ∈ news, u.oneCell' = true)
    (h63 : n + m ≤ maxLen) (hbytes : (n + m) * bytes ≤ 140737488355328) (hbase : base ≤ w.heap.size)
    (h : ∀ v' w', w'.ownsRow base e size v' (n + m) (xs ++ news) → w.grownBy w' v.ownBlock → (∀ k, v'.ownBlock = some k → v.ownBlock = some k ∨ w.heap.size ≤ k) → wpList P ops Q rest (a.put o.dst v') w') : wpList P ops Q (o :: rest) a w := by
  obtain ⟨v', w', hr, h2, h3, h4⟩ := append_fresh (P := P) w base t o.type e i z size bytes ht hi hz hsize hby hzs hsz v n xs hown ad m c news hl hnews h1 h63 hbytes hbase
  exact Lib.wpList_append_run w hgd s x t t ho v _ hs hx v' w' hr (h v' w' h2 h3 h4)
end Go.Proofs.YtbabmkilbbbmoaaDoor
