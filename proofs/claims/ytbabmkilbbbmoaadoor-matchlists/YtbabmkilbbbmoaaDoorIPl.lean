/-
  keys.Items: the items of nodes, told plainly; how keys.walk's levels lie; what its closure does.
-/
import Derived.Test.YtbabmkilbbbmoaaDoorMgAG
import Derived.Maps.AppendAt
namespace Go.Proofs.YtbabmkilbbbmoaaDoor
open Go.RowKit Go.Maps
set_option linter.unusedVariables false
set_option linter.unusedSimpArgs false

/-- A node's item without its size: its number, its parent's, its place, how deep it lies. -/
abbrev It := Int × Int × Int × Int
def itm : Forest → Nat → Int → Nat → Nat → List It
  | .nil, _, _, _, _ => []
  | .cons _ _ _ _ _ kids rest, num, par, pl, dep => ((num : Int), par, (pl : Int), (dep : Int)) :: (itm kids (num + 1) (num : Int) 0 (dep + 1) ++ itm rest (num + 1 + kids.count) par (pl + 1) dep)
theorem itm_len : ∀ (f : Forest) (num : Nat) (par : Int) (pl dep : Nat), (itm f num par pl dep).length = f.count
  | .nil, _, _, _, _ => rfl
  | .cons _ _ _ _ _ kids rest, num, par, pl, dep => by
    simp only [itm, List.length_cons, List.length_append, itm_len kids, itm_len rest, Forest.count]; omega
/-- A list that is gone through. -/
structure Lev where
  F : Forest
  q : Option Addr
  cap : Nat
  par : Int
  nx : Nat
def levL (l : Lev) : List Value := [.slice l.q l.F.len l.cap, .int .i64 l.par, .int .i64 (l.nx : Int)]
def rowL : List Lev → List Value
  | [] => []
  | l :: st => rowL st ++ levL l
theorem rowL_len : ∀ st : List Lev, (rowL st).length = st.length * 3
  | [] => rfl
  | l :: st => by simp only [rowL, List.length_append, rowL_len st, levL, List.length_cons, List.length_nil]; omega
def tdo : List Lev → Nat → List It
  | [], _ => []
  | l :: st, num => itm (l.F.drop l.nx) num l.par l.nx st.length ++ tdo st (num + (l.F.drop l.nx).count)
def cntL : List Lev → Nat
  | [] => 0
  | l :: st => (l.F.drop l.nx).count + cntL st
theorem tdo_pop (l : Lev) (st : List Lev) (num : Nat) (h : l.F.drop l.nx = .nil) : tdo (l :: st) num = tdo st num ∧ cntL (l :: st) = cntL st := by
  simp only [tdo, cntL, h, itm, Forest.count, List.nil_append, Nat.add_zero, Nat.zero_add, and_self]
theorem tdo_push (l : Lev) (st : List Lev) (num : Nat) {k sp : Int} {n : ByteArray} {ats : List (ByteArray × ByteArray)} {tx : ByteArray} {kids : Forest} (q : Option Addr) (c : Nat) (h : l.F.drop l.nx = .cons k sp n ats tx kids (l.F.drop (l.nx + 1))) :
    tdo (l :: st) num = ((num : Int), l.par, (l.nx : Int), (st.length : Int)) :: tdo (⟨kids, q, c, (num : Int), 0⟩ :: { l with nx := l.nx + 1 } :: st) (num + 1) ∧ cntL (l :: st) = cntL (⟨kids, q, c, (num : Int), 0⟩ :: { l with nx := l.nx + 1 } :: st) + 1 := by
  constructor
  · simp only [tdo, h, itm, Forest.drop_zero, List.length_cons, List.cons_append, List.append_assoc, Forest.count]
    rw [show num + (1 + kids.count + (l.F.drop (l.nx + 1)).count) = num + 1 + kids.count + (l.F.drop (l.nx + 1)).count by omega]
  · simp only [cntL, h, Forest.drop_zero, Forest.count]; omega

/-! ### items in memory -/
def itL (x : It) : List Value := [.int .i64 x.1, .int .i64 x.2.1, .int .i64 x.2.2.1, .int .i64 x.2.2.2, .int .i64 0]
def flatI : List It → List Value
  | [] => []
  | x :: r => itL x ++ flatI r
theorem flatI_app (a b : List It) : flatI (a ++ b) = flatI a ++ flatI b := by
  induction a with
  | nil => rfl
  | cons e r ih => simp only [List.cons_append, flatI, ih, List.append_assoc]
theorem infoItem0 : (Tryd.prog.info? 49).map (fun i => (i.zero, i.size, i.bytes)) = some (some (.agg #[.int .i64 0, .int .i64 0, .int .i64 0, .int .i64 0, .int .i64 0]), 5, 40) := by kernel_rfl
theorem infoItem : ∃ i, Tryd.prog.info? 49 = some i ∧ i.zero = some (.agg #[.int .i64 0, .int .i64 0, .int .i64 0, .int .i64 0, .int .i64 0]) ∧ i.size = 5 ∧ i.bytes = 40 := by
  have h := infoItem0
  cases hi : Tryd.prog.info? 49 with
  | none => rw [hi] at h; cases h
  | some i =>
    rw [hi] at h
    simp only [Option.map_some, Option.some.injEq, Prod.mk.injEq] at h
    exact ⟨i, rfl, h.1, h.2.1, h.2.2⟩
def AllV (w : World) (G : Nat) (acc : List It) : Prop := ∃ u, Blk w G #[u] 34 ∧ w.ownsRow (G + 1) 49 5 u acc.length (flatI acc)
/-- What the closure may touch: its variable, rows of items, and what is new. -/
def KeepI (G : Nat) (w w' : World) : Prop := w'.os = w.os ∧ w'.tape = w.tape ∧ w'.output = w.output ∧ w.heap.size ≤ w'.heap.size ∧ ∀ b, b < w.heap.size → b ≠ G → (G < b → ∀ cs z, w.heap[b]? ≠ some (.cells cs 49 z)) → w'.heap[b]? = w.heap[b]?
theorem blk_grown {w w' : World} {b : Nat} {vs : Array Value} {t : TypeId} {row : Option Nat} (h : Blk w b vs t) (hg : w.grownBy w' row) (hr : some b ≠ row) : Blk w' b vs t := (hg.block b h.lt hr).trans h
theorem cell_five_new (w : World) (a b c d e : Value) (t : TypeId) : ∀ j u, [a, b, c, d, e][j]? = some u → (w.alloc (Obj.cells #[a, b, c, d, e] t)).cell? ((⟨w.heap.size, 0, none⟩ : Addr).add j) = some u := by
  intro j u h
  have e' : (⟨w.heap.size, 0, none⟩ : Addr).add j = ⟨w.heap.size, j, none⟩ := by unfold Addr.add; split <;> simp_all
  rw [e', (Blk.new w #[a, b, c, d, e] t).cell j]
  simpa using h
theorem owns_blockI {w : World} {base : Nat} {e : TypeId} {size : Nat} {v : Value} {n : Nat} {xs : List Value} (h : w.ownsRow base e size v n xs) {k : Nat} (hk : v.ownBlock = some k) : base ≤ k ∧ ∃ cur, w.heap[k]? = some (.cells cur e (0, 0)) := by
  rcases h.2 with ⟨rfl, _⟩ | ⟨g, cap, cur, rfl, hb, h3, _⟩
  · cases hk
  · simp only [Value.ownBlock, Option.some.injEq] at hk
    subst hk
    exact ⟨hb, cur, h3⟩
theorem owns_awayI {w : World} {base : Nat} {e : TypeId} {size : Nat} {v : Value} {n : Nat} {xs : List Value} (h : w.ownsRow base e size v n xs) {c o : Nat} {x : Value} (hc : ∀ k, some k = v.ownBlock → k ≠ c) : (w.setCell ⟨c, o, none⟩ x).ownsRow base e size v n xs := by
  obtain ⟨hl, h⟩ := h
  refine ⟨hl, ?_⟩
  rcases h with h | ⟨g, cap, cur, h1, h2, h3, h4, h5, h6, h7⟩
  · exact .inl h
  · refine .inr ⟨g, cap, cur, h1, h2, ?_, h4, h5, h6, h7⟩
    have hg : g ≠ c := hc g (by rw [h1]; rfl)
    rw [Below.heap_setCell w ⟨c, o, none⟩ x g hg]; exact h3

set_option maxHeartbeats 1000000 in
theorem itemsC_any (p : Value) (x : It) (G : Nat) (acc : List It) (w : World) (h : AllV w G acc) (hl : acc.length ≤ 1000000) :
    Calls Tryd.prog 44 #[p, .agg #[.int .i64 x.1, .int .i64 x.2.1, .int .i64 x.2.2.1, .int .i64 x.2.2.2, .int .i64 0], .pointer (some ⟨G, 0, none⟩)] w fun e w' => e = .returned (.tuple #[]) ∧ AllV w' G (acc ++ [x]) ∧ KeepI G w w' := by
  obtain ⟨i0, hi0, hi1, hi2, hi3⟩ := infoItem
  obtain ⟨u, hb, hr⟩ := h
  obtain ⟨xq, xn, xc, hu⟩ := slice_of hr
  subst hu
  obtain ⟨x1, x2, x3, x4⟩ := x
  dsimp only
  have hG := hb.lt
  have HB := hide hb
  have HR := hide hr
  have k1 : Hid (Blk ((w.alloc (Obj.cells #[.int .i64 x1, .int .i64 x2, .int .i64 x3, .int .i64 x4, .int .i64 0] 49)).alloc (Obj.cells #[.int .i64 x1, .int .i64 x2, .int .i64 x3, .int .i64 x4, .int .i64 0] 49)) G #[.slice xq xn xc] 34) := hide ((hb.alloc _).alloc _)
  have c0 : w.cell? ⟨G, 0, none⟩ = some (.slice xq xn xc) := hb.cell 0
  have hrb : Hid (∀ j, some j = (Value.slice xq xn xc).ownBlock → G + 1 ≤ j ∧ ∃ cur, w.heap[j]? = some (.cells cur 49 (0, 0))) := hide (fun j hj => owns_blockI (unhide HR) hj.symm)
  clear hb hr
  go_enter Tryd.func44, Tryd.ntmps44
  go_wp2_with (at_builtin; refine wpList_append_own_at _ rfl _ _ 34 rfl (G + 1) 49 i0 (.agg #[.int .i64 0, .int .i64 0, .int .i64 0, .int .i64 0, .int .i64 0]) 5 40 Tryd.underlying34 hi0 hi1 hi2 hi3 rfl (by decide) (.slice xq xn xc) _ _ rfl (((unhide HR).alloc _).alloc _) ⟨w.heap.size + 1, 0, none⟩ 1 1 [.int .i64 x1, .int .i64 x2, .int .i64 x3, .int .i64 x4, .int .i64 0] rfl rfl (by have := cell_five_new (w.alloc (Obj.cells #[.int .i64 x1, .int .i64 x2, .int .i64 x3, .int .i64 x4, .int .i64 0] 49)) (.int .i64 x1) (.int .i64 x2) (.int .i64 x3) (.int .i64 x4) (.int .i64 0) 49; simpa using this) (by simp [Value.oneCell']) (by simp only [maxLen]; omega) (by omega) (by simp; omega) ?_; intro u' w3 hown hgr _ _; obtain ⟨yq, yn, yc, rfl⟩ := slice_of hown; have k3 := blk_grown (unhide k1) hgr (fun e => by have := (unhide hrb _ e).1; omega); have d0 : w3.cell? ⟨G, 0, none⟩ = some (.slice xq xn xc) := k3.cell 0; have g0 := k3.frozen 0)
  refine bodyPost_end (v := .tuple #[]) (results_none Tryd.results44 _ _ _) rfl ?_
  refine ⟨rfl, ⟨_, k3.set 0 (by simp) _, ?_⟩, ?_⟩
  · rw [List.length_append, flatI_app]
    refine owns_awayI hown (fun j hj => ?_)
    have := (owns_blockI hown hj.symm).1
    omega
  · have hz := hgr.size
    refine ⟨hgr.os, hgr.tape, hgr.output, ?_, fun b hlt hne hnot => ?_⟩
    · simp at hz ⊢; omega
    · rw [Below.heap_setCell w3 ⟨G, 0, none⟩ _ b hne, hgr.block b (by simp; omega) (fun e => ?_)]
      · exact ((((Below.refl w.heap.size w).alloc (Nat.le_refl _) _).alloc (by simp) _).block b hlt)
      · obtain ⟨h1, cur, h2⟩ := unhide hrb b e
        exact hnot (by omega) _ _ h2
end Go.Proofs.YtbabmkilbbbmoaaDoor
