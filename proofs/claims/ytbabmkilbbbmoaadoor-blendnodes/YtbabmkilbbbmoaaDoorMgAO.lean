/-
  Several texts in one: what the functions of the program and of the document's answer do.
-/
import Derived.Test.YtbabmkilbbbmoaaDoorMgAN
import Derived.Maps.AppendAt
import Derived.Deep.RegionWith
import Derived.Deep.Cut

/-
  keys.Items: the items of nodes, told plainly; how keys.walk's levels lie; what its closure does.
-/
namespace Go.Proofs.YtbabmkilbbbmoaaDoor
open Go.RowKit Go.Maps
set_option linter.unusedVariables false
set_option linter.unusedSimpArgs false

/-- A node's item without its size: its number, its parent's, its place, how deep it lies. -/
abbrev It := Int × Int × Int × Int
def itm : Forest → Nat → Int → Nat → Nat → List It
  | .nil, _, _, _, _ => []
  | .cons _ _ _ _ _ kids rest, num, par, pl, dep => ((num : Int), par, (pl : Int), (dep : Int)) :: (itm kids (num + 1) (num : Int) 0 (dep + 1) ++ itm rest (num + 1 + kids.count) par (pl + 1) dep)
theorem itm_len : ∀ (f : Forest) (num : Nat) (par : Int) (pl dep : Nat), (itm f num par pl dep).length = f.count
  | .nil, _, _, _, _ => rfl
  | .cons _ _ _ _ _ kids rest, num, par, pl, dep => by
    simp only [itm, List.length_cons, List.length_append, itm_len kids, itm_len rest, Forest.count]; omega
/-- A list that is gone through. -/
structure Lev where
  F : Forest
  q : Option Addr
  cap : Nat
  par : Int
  nx : Nat
def levL (l : Lev) : List Value := [.slice l.q l.F.len l.cap, .int .i64 l.par, .int .i64 (l.nx : Int)]
def rowL : List Lev → List Value
  | [] => []
  | l :: st => rowL st ++ levL l
theorem rowL_len : ∀ st : List Lev, (rowL st).length = st.length * 3
  | [] => rfl
  | l :: st => by simp only [rowL, List.length_append, rowL_len st, levL, List.length_cons, List.length_nil]; omega
def tdo : List Lev → Nat → List It
  | [], _ => []
  | l :: st, num => itm (l.F.drop l.nx) num l.par l.nx st.length ++ tdo st (num + (l.F.drop l.nx).count)
def cntL : List Lev → Nat
  | [] => 0
  | l :: st => (l.F.drop l.nx).count + cntL st
theorem tdo_pop (l : Lev) (st : List Lev) (num : Nat) (h : l.F.drop l.nx = .nil) : tdo (l :: st) num = tdo st num ∧ cntL (l :: st) = cntL st := by
  simp only [tdo, cntL, h, itm, Forest.count, List.nil_append, Nat.add_zero, Nat.zero_add, and_self]
theorem tdo_push (l : Lev) (st : List Lev) (num : Nat) {k sp : Int} {n : ByteArray} {ats : List (ByteArray × ByteArray)} {tx : ByteArray} {kids : Forest} (q : Option Addr) (c : Nat) (h : l.F.drop l.nx = .cons k sp n ats tx kids (l.F.drop (l.nx + 1))) :
    tdo (l :: st) num = ((num : Int), l.par, (l.nx : Int), (st.length : Int)) :: tdo (⟨kids, q, c, (num : Int), 0⟩ :: { l with nx := l.nx + 1 } :: st) (num + 1) ∧ cntL (l :: st) = cntL (⟨kids, q, c, (num : Int), 0⟩ :: { l with nx := l.nx + 1 } :: st) + 1 := by
  constructor
  · simp only [tdo, h, itm, Forest.drop_zero, List.length_cons, List.cons_append, List.append_assoc, Forest.count]
    rw [show num + (1 + kids.count + (l.F.drop (l.nx + 1)).count) = num + 1 + kids.count + (l.F.drop (l.nx + 1)).count by omega]
  · simp only [cntL, h, Forest.drop_zero, Forest.count]; omega

/-! ### items in memory -/
def itL (x : It) : List Value := [.int .i64 x.1, .int .i64 x.2.1, .int .i64 x.2.2.1, .int .i64 x.2.2.2, .int .i64 0]
def flatI : List It → List Value
  | [] => []
  | x :: r => itL x ++ flatI r
theorem flatI_app (a b : List It) : flatI (a ++ b) = flatI a ++ flatI b := by
  induction a with
  | nil => rfl
  | cons e r ih => simp only [List.cons_append, flatI, ih, List.append_assoc]
theorem infoItem0 : (Tryd.prog.info? 49).map (fun i => (i.zero, i.size, i.bytes)) = some (some (.agg #[.int .i64 0, .int .i64 0, .int .i64 0, .int .i64 0, .int .i64 0]), 5, 40) := by kernel_rfl
theorem infoItem : ∃ i, Tryd.prog.info? 49 = some i ∧ i.zero = some (.agg #[.int .i64 0, .int .i64 0, .int .i64 0, .int .i64 0, .int .i64 0]) ∧ i.size = 5 ∧ i.bytes = 40 := by
  have h := infoItem0
  cases hi : Tryd.prog.info? 49 with
  | none => rw [hi] at h; cases h
  | some i =>
    rw [hi] at h
    simp only [Option.map_some, Option.some.injEq, Prod.mk.injEq] at h
    exact ⟨i, rfl, h.1, h.2.1, h.2.2⟩
def AllV (w : World) (G : Nat) (acc : List It) : Prop := ∃ u, Blk w G #[u] 34 ∧ w.ownsRow (G + 1) 49 5 u acc.length (flatI acc)
/-- What the closure may touch: its variable, rows of items, and what is new. -/
def KeepI (G : Nat) (w w' : World) : Prop := w'.os = w.os ∧ w'.tape = w.tape ∧ w'.output = w.output ∧ w.heap.size ≤ w'.heap.size ∧ ∀ b, b < w.heap.size → b ≠ G → (G < b → ∀ cs z, w.heap[b]? ≠ some (.cells cs 49 z)) → w'.heap[b]? = w.heap[b]?
theorem blk_grown {w w' : World} {b : Nat} {vs : Array Value} {t : TypeId} {row : Option Nat} (h : Blk w b vs t) (hg : w.grownBy w' row) (hr : some b ≠ row) : Blk w' b vs t := (hg.block b h.lt hr).trans h
theorem cell_five_new (w : World) (a b c d e : Value) (t : TypeId) : ∀ j u, [a, b, c, d, e][j]? = some u → (w.alloc (Obj.cells #[a, b, c, d, e] t)).cell? ((⟨w.heap.size, 0, none⟩ : Addr).add j) = some u := by
  intro j u h
  have e' : (⟨w.heap.size, 0, none⟩ : Addr).add j = ⟨w.heap.size, j, none⟩ := by unfold Addr.add; split <;> simp_all
  rw [e', (Blk.new w #[a, b, c, d, e] t).cell j]
  simpa using h
theorem owns_blockI {w : World} {base : Nat} {e : TypeId} {size : Nat} {v : Value} {n : Nat} {xs : List Value} (h : w.ownsRow base e size v n xs) {k : Nat} (hk : v.ownBlock = some k) : base ≤ k ∧ ∃ cur, w.heap[k]? = some (.cells cur e (0, 0)) := by
  rcases h.2 with ⟨rfl, _⟩ | ⟨g, cap, cur, rfl, hb, h3, _⟩
  · cases hk
  · simp only [Value.ownBlock, Option.some.injEq] at hk
    subst hk
    exact ⟨hb, cur, h3⟩
theorem owns_awayI {w : World} {base : Nat} {e : TypeId} {size : Nat} {v : Value} {n : Nat} {xs : List Value} (h : w.ownsRow base e size v n xs) {c o : Nat} {x : Value} (hc : ∀ k, some k = v.ownBlock → k ≠ c) : (w.setCell ⟨c, o, none⟩ x).ownsRow base e size v n xs := by
  obtain ⟨hl, h⟩ := h
  refine ⟨hl, ?_⟩
  rcases h with h | ⟨g, cap, cur, h1, h2, h3, h4, h5, h6, h7⟩
  · exact .inl h
  · refine .inr ⟨g, cap, cur, h1, h2, ?_, h4, h5, h6, h7⟩
    have hg : g ≠ c := hc g (by rw [h1]; rfl)
    rw [Below.heap_setCell w ⟨c, o, none⟩ x g hg]; exact h3

set_option maxHeartbeats 1000000 in
theorem itemsC_any (p : Value) (x : It) (G : Nat) (acc : List It) (w : World) (h : AllV w G acc) (hl : acc.length ≤ 1000000) :
    Calls Tryd.prog 44 #[p, .agg #[.int .i64 x.1, .int .i64 x.2.1, .int .i64 x.2.2.1, .int .i64 x.2.2.2, .int .i64 0], .pointer (some ⟨G, 0, none⟩)] w fun e w' => e = .returned (.tuple #[]) ∧ AllV w' G (acc ++ [x]) ∧ KeepI G w w' := by
  obtain ⟨i0, hi0, hi1, hi2, hi3⟩ := infoItem
  obtain ⟨u, hb, hr⟩ := h
  obtain ⟨xq, xn, xc, hu⟩ := slice_of hr
  subst hu
  obtain ⟨x1, x2, x3, x4⟩ := x
  dsimp only
  have hG := hb.lt
  have HB := hide hb
  have HR := hide hr
  have k1 : Hid (Blk ((w.alloc (Obj.cells #[.int .i64 x1, .int .i64 x2, .int .i64 x3, .int .i64 x4, .int .i64 0] 49)).alloc (Obj.cells #[.int .i64 x1, .int .i64 x2, .int .i64 x3, .int .i64 x4, .int .i64 0] 49)) G #[.slice xq xn xc] 34) := hide ((hb.alloc _).alloc _)
  have c0 : w.cell? ⟨G, 0, none⟩ = some (.slice xq xn xc) := hb.cell 0
  have hrb : Hid (∀ j, some j = (Value.slice xq xn xc).ownBlock → G + 1 ≤ j ∧ ∃ cur, w.heap[j]? = some (.cells cur 49 (0, 0))) := hide (fun j hj => owns_blockI (unhide HR) hj.symm)
  clear hb hr
  go_enter Tryd.func44, Tryd.ntmps44
  go_wp2_with (at_builtin; refine wpList_append_own_at _ rfl _ _ 34 rfl (G + 1) 49 i0 (.agg #[.int .i64 0, .int .i64 0, .int .i64 0, .int .i64 0, .int .i64 0]) 5 40 Tryd.underlying34 hi0 hi1 hi2 hi3 rfl (by decide) (.slice xq xn xc) _ _ rfl (((unhide HR).alloc _).alloc _) ⟨w.heap.size + 1, 0, none⟩ 1 1 [.int .i64 x1, .int .i64 x2, .int .i64 x3, .int .i64 x4, .int .i64 0] rfl rfl (by have := cell_five_new (w.alloc (Obj.cells #[.int .i64 x1, .int .i64 x2, .int .i64 x3, .int .i64 x4, .int .i64 0] 49)) (.int .i64 x1) (.int .i64 x2) (.int .i64 x3) (.int .i64 x4) (.int .i64 0) 49; simpa using this) (by simp [Value.oneCell']) (by simp only [maxLen]; omega) (by omega) (by simp; omega) ?_; intro u' w3 hown hgr _ _; obtain ⟨yq, yn, yc, rfl⟩ := slice_of hown; have k3 := blk_grown (unhide k1) hgr (fun e => by have := (unhide hrb _ e).1; omega); have d0 : w3.cell? ⟨G, 0, none⟩ = some (.slice xq xn xc) := k3.cell 0; have g0 := k3.frozen 0)
  refine bodyPost_end (v := .tuple #[]) (results_none Tryd.results44 _ _ _) rfl ?_
  refine ⟨rfl, ⟨_, k3.set 0 (by simp) _, ?_⟩, ?_⟩
  · rw [List.length_append, flatI_app]
    refine owns_awayI hown (fun j hj => ?_)
    have := (owns_blockI hown hj.symm).1
    omega
  · have hz := hgr.size
    refine ⟨hgr.os, hgr.tape, hgr.output, ?_, fun b hlt hne hnot => ?_⟩
    · simp at hz ⊢; omega
    · rw [Below.heap_setCell w3 ⟨G, 0, none⟩ _ b hne, hgr.block b (by simp; omega) (fun e => ?_)]
      · exact ((((Below.refl w.heap.size w).alloc (Nat.le_refl _) _).alloc (by simp) _).block b hlt)
      · obtain ⟨h1, cur, h2⟩ := unhide hrb b e
        exact hnot (by omega) _ _ h2
end Go.Proofs.YtbabmkilbbbmoaaDoor

/-
  What keys.walk does (whole) under the closure of keys.Items.
-/
namespace Go.Proofs.YtbabmkilbbbmoaaDoor
open Go.RowKit Go.Maps
set_option linter.unusedVariables false
set_option linter.unusedSimpArgs false

theorem infoLev0 : (Tryd.prog.info? 137).map (fun i => (i.zero, i.size, i.bytes)) = some (some (.agg #[.slice none 0 0, .int .i64 0, .int .i64 0]), 3, 40) := by kernel_rfl
theorem infoLev : ∃ i, Tryd.prog.info? 137 = some i ∧ i.zero = some (.agg #[.slice none 0 0, .int .i64 0, .int .i64 0]) ∧ i.size = 3 ∧ i.bytes = 40 := by
  have h := infoLev0
  cases hi : Tryd.prog.info? 137 with
  | none => rw [hi] at h; cases h
  | some i =>
    rw [hi] at h
    simp only [Option.map_some, Option.some.injEq, Prod.mk.injEq] at h
    exact ⟨i, rfl, h.1, h.2.1, h.2.2⟩
def LevOk (w0 : World) (l : Lev) : Prop := Fo l.q l.F w0 ∧ l.F.len ≤ l.cap ∧ l.nx ≤ l.F.len ∧ l.F.len ≤ 1000000
/-- The top level's cells. -/
theorem top_cells {w : World} {base : Nat} {v : Value} {l : Lev} {st : List Lev} (h : w.ownsRow base 137 3 v (st.length + 1) (rowL (l :: st))) : ∃ g cap, v = .slice (some ⟨g, 0, none⟩) (st.length + 1) cap ∧ base ≤ g ∧ st.length + 1 ≤ cap ∧ w.cell? ⟨g, st.length * 3, none⟩ = some (.slice l.q l.F.len l.cap) ∧ w.cell? ⟨g, st.length * 3 + 1, none⟩ = some (.int .i64 l.par) ∧ w.cell? ⟨g, st.length * 3 + 2, none⟩ = some (.int .i64 (l.nx : Int)) ∧ (∀ o, w.frozen? ⟨g, o, none⟩ = false) ∧ w.ownsRow base 137 3 (.slice (some ⟨g, 0, none⟩) st.length cap) st.length (rowL st) ∧ ∀ z : Int, (w.setCell ⟨g, st.length * 3 + 2, none⟩ (.int .i64 z)).ownsRow base 137 3 (.slice (some ⟨g, 0, none⟩) (st.length + 1) cap) (st.length + 1) (rowL st ++ [.slice l.q l.F.len l.cap, .int .i64 l.par, .int .i64 z]) := by
  obtain ⟨hl, h⟩ := h
  rcases h with ⟨_, h⟩ | ⟨g, cap, cur, rfl, h1, h2, h3, h4, h5, h6⟩
  · omega
  · have hln := rowL_len st
    have hc : ∀ j, j < 3 → w.cell? ⟨g, st.length * 3 + j, none⟩ = (levL l)[j]? := by
      intro j hj
      rw [Joins.cell_of_block h2]
      have e : (cur.toList.take ((st.length + 1) * 3))[st.length * 3 + j]? = (levL l)[j]? := by
        rw [h6, rowL, List.getElem?_append_right (by omega)]
        congr 1
        omega
      rw [List.getElem?_take, if_pos (by omega)] at e
      simpa using e
    refine ⟨g, cap, rfl, h1, h3, hc 0 (by decide), hc 1 (by decide), hc 2 (by decide), fun o => by simp [World.frozen?, h2], ⟨by rw [hln], .inr ⟨g, cap, cur, rfl, h1, h2, by omega, h4, h5, ?_⟩⟩, fun z => ⟨by simp [hln]; omega, .inr ⟨g, cap, cur.setIfInBounds (st.length * 3 + 2) (.int .i64 z), rfl, h1, ?_, h3, h4, by simpa using h5, ?_⟩⟩⟩
    · have := congrArg (List.take (st.length * 3)) h6
      rw [List.take_take, Nat.min_eq_left (by omega), rowL, List.take_append_of_le_length (by omega)] at this
      rw [this]
      exact List.take_of_length_le (by omega)
    · simp [World.setCell, Array.getElem?_modify, h2]
    · rw [Array.toList_setIfInBounds]
      apply List.ext_getElem?
      intro k
      have hk : (cur.toList.take ((st.length + 1) * 3))[k]? = (rowL (l :: st))[k]? := by rw [h6]
      rw [List.getElem?_take] at hk ⊢
      by_cases hlt : k < (st.length + 1) * 3
      · rw [if_pos hlt] at hk ⊢
        rw [List.getElem?_set]
        by_cases e : st.length * 3 + 2 = k
        · rw [if_pos e, if_pos (by simp; omega), ← e, List.getElem?_append_right (by omega)]
          rw [show st.length * 3 + 2 - (rowL st).length = 2 by omega]
          rfl
        · rw [if_neg e, hk, rowL]
          by_cases hlo : k < st.length * 3
          · rw [List.getElem?_append_left (by omega), List.getElem?_append_left (by omega)]
          · rw [List.getElem?_append_right (by omega), List.getElem?_append_right (by omega)]
            obtain ⟨d, hd⟩ : ∃ d, k - (rowL st).length = d := ⟨_, rfl⟩
            rw [hd]
            have hd2 : d < 2 := by omega
            rcases d with _ | _ | d
            · rfl
            · rfl
            · omega
      · rw [if_neg hlt, List.getElem?_eq_none (by simp [hln]; omega)]

theorem three_new (w : World) (x y z : Value) (t : TypeId) : ∀ j u, [x, y, z][j]? = some u → (w.alloc (Obj.cells #[x, y, z] t)).cell? ((⟨w.heap.size, 0, none⟩ : Addr).add j) = some u := by
  intro j u h
  have e : (⟨w.heap.size, 0, none⟩ : Addr).add j = ⟨w.heap.size, j, none⟩ := by unfold Addr.add; split <;> simp_all
  rw [e, (Blk.new w #[x, y, z] t).cell j]
  simpa using h
theorem keep_blk {G : Nat} {w w' : World} (h : KeepI G w w') {b : Nat} {cs : Array Value} {t : TypeId} {z : Nat × Nat} (hb : w.heap[b]? = some (.cells cs t z)) (hne : b ≠ G) (ht : t ≠ 49) : w'.heap[b]? = some (.cells cs t z) := by
  have hlt : b < w.heap.size := by
    rcases Nat.lt_or_ge b w.heap.size with h | h
    · exact h
    · rw [Array.getElem?_eq_none h] at hb; cases hb
  rw [h.2.2.2.2 b hlt hne (fun _ cs' z' e => by rw [hb] at e; injection e with e; injection e with _ e; exact ht e)]
  exact hb
theorem keep_row {G : Nat} {w w' : World} (h : KeepI G w w') {base : Nat} {v : Value} {n : Nat} {xs : List Value} (hr : w.ownsRow base 137 3 v n xs) (hG : G < base) : w'.ownsRow base 137 3 v n xs := by
  obtain ⟨hl, hr⟩ := hr
  refine ⟨hl, ?_⟩
  rcases hr with hr | ⟨g, cap, cur, h1, h2, h3, h4⟩
  · exact .inl hr
  · exact .inr ⟨g, cap, cur, h1, h2, keep_blk h h3 (by omega) (by decide), h4⟩
theorem keep_below {G : Nat} {w0 w w' : World} (h : KeepI G w w') (hb : Below w0.heap.size w0 w) (hG : w0.heap.size ≤ G) : Below w0.heap.size w0 w' :=
  ⟨h.1.trans hb.os, h.2.1.trans hb.tape, h.2.2.1.trans hb.output, Nat.le_trans hb.size h.2.2.2.1, fun k hk => by
    have hz := hb.size
    rw [h.2.2.2.2 k (by omega) (by omega) (fun hx => by omega)]
    exact hb.block k hk⟩
theorem AllV.keeps {w w' : World} {G : Nat} {acc : List It} (h : AllV w G acc) (hk : ∀ b, b < w.heap.size → G ≤ b → (∀ cs z, w.heap[b]? ≠ some (.cells cs 137 z)) → w'.heap[b]? = w.heap[b]?) : AllV w' G acc := by
  obtain ⟨u, h1, h2⟩ := h
  have hlt := h1.lt
  refine ⟨u, (hk G hlt (Nat.le_refl _) (fun cs z e => ?_)).trans h1, ?_⟩
  · have := h1.symm.trans e
    simp at this
  · obtain ⟨hl, hr⟩ := h2
    refine ⟨hl, ?_⟩
    rcases hr with hr | ⟨g, cap, cur, q1, q2, q3, q4⟩
    · exact .inl hr
    · refine .inr ⟨g, cap, cur, q1, q2, ?_, q4⟩
      have hglt : g < w.heap.size := by
        rcases Nat.lt_or_ge g w.heap.size with h | h
        · exact h
        · rw [Array.getElem?_eq_none h] at q3; cases q3
      rw [hk g hglt (by omega) (fun cs z e => by rw [q3] at e; simp at e)]
      exact q3
/-- What holds each round. -/
def WkAt (w0 : World) (G B1 : Nat) (all : List It) (gk : Nat) (num : Nat) (left : Value) (wr : World) : Prop :=
  ∃ (st : List Lev) (acc : List It), cntL st + num ≤ 1000000 ∧ num = acc.length ∧ st.length + cntL st ≤ 1000001 ∧ 2 * cntL st + st.length = gk ∧ (∀ l ∈ st, LevOk w0 l) ∧ wr.ownsRow B1 137 3 left st.length (rowL st) ∧ acc ++ tdo st num = all ∧ AllV wr G acc ∧ Below w0.heap.size w0 wr

set_option maxHeartbeats 4000000 in
set_option maxRecDepth 100000 in
theorem kwalk_items (f : Forest) (q : Option Addr) (cap G : Nat) (w0 w : World) (hf : Fo q f w0) (hcap : f.len ≤ cap) (hc : f.count ≤ 500000) (hA : AllV w G []) (hb : Below w0.heap.size w0 w) (hG : w0.heap.size ≤ G) :
    Calls Tryd.prog 43 #[.slice q f.len cap, .func (.func 44) #[] #[.pointer (some ⟨G, 0, none⟩)]] w fun e w' => e = .returned (.tuple #[]) ∧ AllV w' G (itm f 0 (-1) 0 0) ∧ Below w0.heap.size w0 w' := by
  obtain ⟨i0, hi0, hi1, hi2, hi3⟩ := infoLev
  have hGlt : G < w.heap.size := by obtain ⟨u, h1, _⟩ := hA; exact h1.lt
  have hrow0 : (w.alloc (Obj.cells #[.slice q f.len cap, .int .i64 (-1), .int .i64 0] 137)).ownsRow w.heap.size 137 3 (.slice (some ⟨w.heap.size, 0, none⟩) 1 1) 1 (rowL [⟨f, q, cap, -1, 0⟩]) :=
    ⟨rfl, Or.inr ⟨w.heap.size, 1, #[.slice q f.len cap, .int .i64 (-1), .int .i64 0], rfl, Nat.le_refl _, Blk.new w _ _, Nat.le_refl _, by unfold maxLen; omega, rfl, rfl⟩⟩
  have HAT : Hid (WkAt w0 G w.heap.size (itm f 0 (-1) 0 0) (2 * f.count + 1) 0 (.slice (some ⟨w.heap.size, 0, none⟩) 1 1) (w.alloc (Obj.cells #[.slice q f.len cap, .int .i64 (-1), .int .i64 0] 137))) := hide
    ⟨[⟨f, q, cap, -1, 0⟩], [], by simp [cntL, Forest.drop_zero]; omega, rfl, by simp [cntL, Forest.drop_zero]; omega, by simp [cntL, Forest.drop_zero], fun l hl => by simp at hl; subst hl; exact ⟨hf, hcap, Nat.zero_le _, by have := f.len_count; show f.len ≤ _; omega⟩, hrow0, by simp [tdo, Forest.drop_zero], hA.keeps (fun b hlt _ _ => ((Below.refl w.heap.size w).alloc (Nat.le_refl _) _).block b hlt), hb.alloc (by have := hb.size; omega) _⟩
  have hbs := hb.size
  clear hrow0 hA hf hb
  go_enter Tryd.func43, Tryd.ntmps43
  go_wp2
  go_loopg [4, 5] (2 * f.count + 1) (fun gk nv left wr => ∃ num : Nat, nv = .int .i64 (num : Int) ∧ WkAt w0 G w.heap.size (itm f 0 (-1) 0 0) gk num left wr)
  case atStart => exact ⟨0, rfl, unhide HAT⟩
  case round =>
    clear HAT
    obtain ⟨num, rfl, st, acc, hc1, hnum, hc2, hgk, hok, hrow, htl, hall, hbw⟩ := hrel
    rcases st with _ | ⟨l, st⟩
    · obtain ⟨a4, n4, cap4, hv4⟩ := slice_of hrow
      have hn4 : n4 = 0 := by
        rcases hrow.2 with ⟨h, _⟩ | ⟨g, cap, cur, h, _⟩ <;> (rw [hv4] at h; cases h; rfl)
      subst hv4
      subst hn4
      have HF : Hid (acc = itm f 0 (-1) 0 0) := hide (by rw [← htl]; simp [tdo])
      have HX := hide (And.intro hall hbw)
      clear htl hok hrow hall hbw
      go_wp2
      refine bodyPost_end (v := .tuple #[]) (results_none Tryd.results43 _ _ _) rfl ?_
      exact ⟨rfl, by rw [← unhide HF]; exact (unhide HX).1, (unhide HX).2⟩
    · obtain ⟨b, capb, rfl, hbb, hcb, c0, c1, c2, cf, hpop, hset⟩ := top_cells hrow
      have hokl := hok l (List.mem_cons_self ..)
      have HOK := hide (show ∀ x ∈ st, LevOk w0 x from fun e he => hok e (List.mem_cons_of_mem _ he))
      have hln : (st.length : Int) + 1 ≤ 1000001 := by simp at hc2; omega
      have hcbi : (st.length : Int) + 1 ≤ (capb : Int) := by omega
      obtain ⟨hfo, hlc, hnx, hfl⟩ := hokl
      have hflc : l.F.len ≤ 500000000 ∨ True := Or.inr trivial
      by_cases hend : l.nx = l.F.len
      · have hnil := Forest.drop_out l.nx l.F (by omega)
        obtain ⟨e1, e2⟩ := tdo_pop l st num hnil
        have HT : Hid (acc ++ tdo st num = itm f 0 (-1) 0 0) := hide (by rw [← e1]; exact htl)
        have HX := hide (And.intro hall (And.intro hbw hpop))
        have hg' : 2 * cntL st + st.length < gk := by rw [e2] at hgk; simp at hgk; omega
        have hc1' : cntL st + num ≤ 1000000 := by rw [e2] at hc1; omega
        have hc2' : st.length + cntL st ≤ 1000001 := by rw [e2] at hc2; simp at hc2; omega
        have f2 := cf (st.length * 3 + 2)
        rw [hend] at c2
        generalize l.F.len = fl at *
        clear htl hok hrow hall hbw hset hpop hfo hgk hc1 hc2 e1 e2 cf hend hnil
        go_wp2
        go_region
        go_wp2
        go_roundg (2 * cntL st + st.length)
        case measure => exact hg'
        case rel => exact ⟨num, rfl, st, acc, hc1', hnum, hc2', rfl, unhide HOK, (unhide HX).2.2, unhide HT, (unhide HX).1, (unhide HX).2.1.drew⟩
      · have hlt : l.nx < l.F.len := by omega
        obtain ⟨k, sp, n, ats, tx, kids, hd⟩ := Forest.drop_cons l.nx l.F hlt
        rcases hfo with h | ⟨g, o, hq, hl⟩
        · rw [h] at hlt; simp [Forest.len] at hlt
        have hld := hl.drop l.nx
        rw [hd] at hld
        obtain ⟨⟨-, -, -, -, -, ⟨qk, ck, l5, hck, hfk⟩⟩, -⟩ := hld
        have hgw : g < w0.heap.size := World.block_lt_of_cell? w0 _ l5
        obtain ⟨e1, e2⟩ := tdo_push l st num qk ck hd
        have HT : Hid ((acc ++ [((num : Int), l.par, (l.nx : Int), (st.length : Int))]) ++ tdo (⟨kids, qk, ck, (num : Int), 0⟩ :: { l with nx := l.nx + 1 } :: st) (num + 1) = itm f 0 (-1) 0 0) := hide (by rw [List.append_assoc, List.singleton_append, ← e1]; exact htl)
        have hcu : cntL (⟨kids, qk, ck, (num : Int), 0⟩ :: { l with nx := l.nx + 1 } :: st) + 1 = cntL (l :: st) := e2.symm
        have HC : Hid (2 * cntL (⟨kids, qk, ck, (num : Int), 0⟩ :: { l with nx := l.nx + 1 } :: st) + (st.length + 2) < gk ∧ cntL (⟨kids, qk, ck, (num : Int), 0⟩ :: { l with nx := l.nx + 1 } :: st) + (num + 1) ≤ 1000000 ∧ (st.length + 2) + cntL (⟨kids, qk, ck, (num : Int), 0⟩ :: { l with nx := l.nx + 1 } :: st) ≤ 1000001) := hide (by simp at hgk hc2; omega)
        have HOK2 : Hid (∀ x ∈ (⟨kids, qk, ck, (num : Int), 0⟩ :: { l with nx := l.nx + 1 } :: st : List Lev), LevOk w0 x) := hide (fun x hx => by
          rcases List.mem_cons.1 hx with rfl | hx
          · exact ⟨hfk, hck, Nat.zero_le _, by have := kids.len_count; simp only [cntL, hd, Forest.count] at hc1; show kids.len ≤ _; omega⟩
          · rcases List.mem_cons.1 hx with rfl | hx
            · exact ⟨Or.inr ⟨g, o, hq, hl⟩, hlc, hlt, hfl⟩
            · exact unhide HOK x hx)
        have hnl : acc.length ≤ 1000000 := by omega
        have hnumb : (num : Int) + 1 ≤ 1000001 := by omega
        have HNUM := hide hnum
        have hwst : IntKind.i64.wrap (st.length : Int) = (st.length : Int) := by rw [IntKind.wrap_i64]; omega
        have CC := hide (fun W hW => itemsC_any (.pointer (some ⟨g, o + l.nx * 6, none⟩)) ((num : Int), l.par, (l.nx : Int), (st.length : Int)) G acc W hW hnl)
        have HALL := hide hall
        have HBW := hide hbw
        have HROW := hide hrow
        have f2 := cf (st.length * 3 + 2)
        have hltn : (l.nx : Int) < (l.F.len : Int) := by omega
        have hnf : ((l.nx : Int) == (l.F.len : Int)) = false := beq_eq_false_iff_ne.2 (by omega)
        have hnfN : (l.nx == l.F.len) = false := beq_eq_false_iff_ne.2 hend
        have hb0 : w0.heap.size ≤ b := by omega
        have L5 := hide l5
        dsimp only at CC
        rw [hq] at c0
        have HRL : Hid (∀ z : Int, rowL st ++ [.slice l.q l.F.len l.cap, .int .i64 l.par, .int .i64 z] = rowL st ++ [.slice l.q l.F.len l.cap, .int .i64 l.par, .int .i64 z]) := hide (fun _ => rfl)
        clear hnum hset hpop htl hok hrow hall hbw hl hlc hnx hd l5 hfk hck e1 e2 hcu cf hend hlt hflc hgk hc1 hc2
        go_wp2
        go_region
        go_wp2
        go_region
        go_wp2
        go_region_with (go_at_call 44; refine Calls.mono (unhide CC _ (unhide HALL)) ?_; rintro e w2 ⟨rfl, hall2, hk2⟩; have HALL2 := hide hall2; have HK2 := hide hk2; clear hall2 hk2)
        all_goals (
          go_upto_region 8 with fail
          have HROW2 := hide (keep_row (unhide HK2) (unhide HROW) (by omega))
          obtain ⟨b', cap', eb, -, -, d0, d1, d2, df, -, hset⟩ := top_cells (unhide HROW2)
          cases eb
          have HSET := hide (hset ((l.nx : Int) + 1))
          have HB2 := hide (keep_below (unhide HK2) (unhide HBW).drew.drew.drew hG)
          have k5 : w2.cell? ⟨g, o + l.nx * 6 + 5, none⟩ = some (.slice qk kids.len ck) := cell_later (unhide HB2) (unhide L5)
          have g2 := df (st.length * 3 + 2)
          have k6 : (w2.setCell ⟨b, st.length * 3 + 2, none⟩ (.int .i64 ((l.nx : Int) + 1))).cell? ⟨g, o + l.nx * 6 + 5, none⟩ = some (.slice qk kids.len ck) := (World.cell?_of_block (w := w2) (a := ⟨g, o + l.nx * 6 + 5, none⟩) (Below.heap_setCell w2 ⟨b, st.length * 3 + 2, none⟩ _ _ (by show g ≠ b; omega))).trans k5
          have hsz2 := (unhide HB2).size
          have hb2lt : b < w2.heap.size := World.block_lt_of_cell? w2 _ d0
          have HNX : Hid (rowL ({ l with nx := l.nx + 1 } :: st) = rowL st ++ [.slice l.q l.F.len l.cap, .int .i64 l.par, .int .i64 ((l.nx : Int) + 1)]) := hide rfl
          have hn1 : (l.nx : Int) + 1 ≤ 1000001 := by omega
          have hsl : (st.length : Int) + 1 ≤ 1000001 := by omega
          clear hset df c0 c1 c2 f2 CC HALL HBW HROW d0 d1 hwst hltn hnf hnfN hfl hln k5 hcb hcbi hc hcap hbs hnl
          iterate 30 go_step
          go_wp2_with (at_builtin; refine wpList_append_own_at _ rfl _ _ 138 rfl w.heap.size 137 i0 (.agg #[.slice none 0 0, .int .i64 0, .int .i64 0]) 3 40 Tryd.underlying138 hi0 hi1 hi2 hi3 rfl (by decide) (.slice (some ⟨b, 0, none⟩) (st.length + 1) capb) _ _ rfl ((unhide HSET).alloc _) ⟨w2.heap.size, 0, none⟩ 1 1 [.slice qk kids.len ck, .int .i64 (num : Int), .int .i64 0] rfl rfl (by have := three_new (w2.setCell ⟨b, st.length * 3 + 2, none⟩ (.int .i64 ((l.nx : Int) + 1))) (.slice qk kids.len ck) (.int .i64 (num : Int)) (.int .i64 0) 137; simpa using this) (by simp [Value.oneCell']) (by simp only [maxLen]; omega) (by omega) (by simp; omega) ?_; intro v' w3 hown hgr _ _; obtain ⟨yq, yn, yc, rfl⟩ := slice_of hown)
          have HO := hide hown
          have HGR := hide hgr
          have hz3 : w2.heap.size ≤ w3.heap.size := by have := hgr.size; simp at this; omega
          have hob : ∀ j, some j = (Value.slice (some (⟨b, 0, none⟩ : Addr)) (st.length + 1) capb).ownBlock → j = b := fun j hj => by simp [Value.ownBlock] at hj; exact hj
          have HB3 : Hid (Below w0.heap.size w0 w3) := hide ((((unhide HB2).setCell (p := ⟨b, st.length * 3 + 2, none⟩) hb0 _).alloc (by simp; omega) _).grown hgr (by simp; omega) (fun j hj => by have := hob j hj.symm; omega))
          clear hown hgr
          go_wp2
          go_roundg (2 * cntL (⟨kids, qk, ck, (num : Int), 0⟩ :: { l with nx := l.nx + 1 } :: st) + (st.length + 2))
          case measure => exact (unhide HC).1
          case rel =>
            refine ⟨num + 1, by go_num, _, _, (unhide HC).2.1, by simp [unhide HNUM], (unhide HC).2.2, rfl, unhide HOK2, unhide HO, unhide HT, ?_, unhide HB3⟩
            obtain ⟨_, cur, hcur⟩ := owns_blockI (unhide HROW2) (k := b) rfl
            refine (unhide HALL2).keeps (fun c hlt hGc hnot => ?_)
            have hcb : c ≠ b := by
              rintro rfl
              exact hnot _ _ hcur
            rw [(unhide HGR).block c (by simp; omega) (fun e => hcb (hob c e))]
            have e1 := (((Below.refl (w2.setCell ⟨b, st.length * 3 + 2, none⟩ (.int .i64 ((l.nx : Int) + 1))).heap.size (w2.setCell ⟨b, st.length * 3 + 2, none⟩ (.int .i64 ((l.nx : Int) + 1)))).alloc (Nat.le_refl _) (Obj.cells #[.slice qk kids.len ck, .int .i64 (num : Int), .int .i64 0] 137)).block c (by simp; omega))
            rw [e1, Below.heap_setCell w2 ⟨b, st.length * 3 + 2, none⟩ _ c hcb])
end Go.Proofs.YtbabmkilbbbmoaaDoor
