/-
  Several texts in one: what the functions of the program and of the document's answer do.
-/
import Derived.Test.YtfbgpodcdgmpjaaDoorMgBG
import Derived.Test.YtfbgpodcdgmpjaaDoorYLg
import Derived.Test.YtfbgpodcdgmpjaaDoorMgAG
import Derived.Deep.RegionLaw
import Derived.Lib.Overlaps
import Derived.Laws.IdiomCopy
import Derived.Laws.CopyRow
import Derived.Lib.AppendZerosOnto
import Derived.Maps.AppendAt
import Derived.Test.YtfbgpodcdgmpjaaDoorMgBF
import Derived.Deep.LoopGhost
import Derived.Laws.EntriesVeiled
import Derived.Laws.AppendOwn
import Derived.Deep.Cut

/-
  'tree.Check': 'tree.walk' under its closure (made by mk_yck.py).
-/
namespace Go.Proofs.YtfbgpodcdgmpjaaDoor
open Go.RowKit
set_option linter.unusedVariables false
set_option linter.unusedSimpArgs false

/-- Nodes of which none is great. -/
def SmF : Forest → Prop
  | .nil => True
  | .cons k sp n ats tx kids rest => (tx.size ≤ 5000 ∧ n.size ≤ 5000 ∧ Fits ats ∧ kids.count ≤ 1000000) ∧ SmF kids ∧ SmF rest
def StackOkS (w0 : World) (st : List Entry) : Prop := ∀ e ∈ st, Fo e.2.1 e.1 w0 ∧ e.1.len ≤ e.2.2 ∧ SmF e.1
def WalkAtS {σ : Type} (stp : σ → Item → σ × Bool) (Inv : σ → World → Prop) (w0 : World) (B1 : Nat) (fin : σ) (gk : Nat) (left : Value) (wr : World) : Prop :=
  ∃ (st : List Entry) (s : σ), cnt st ≤ 1000000 ∧ st.length + cnt st ≤ 1000001 ∧ 2 * cnt st + st.length = gk ∧ StackOkS w0 st ∧ wr.ownsRow B1 22 1 left st.length (rowOf st) ∧ tell stp s (todo (st.map (·.1))) = fin ∧ Inv s wr ∧ Below w0.heap.size w0 wr ∧ B1 ≤ wr.heap.size
theorem any_false {ats : List (ByteArray × ByteArray)} (h : ats.any lgA = false) (k : Nat) (hk : k < ats.length) : (an ats k).size ≤ 100 ∧ (av ats k).size ≤ 2000 := by
  have h1 := List.any_eq_false.1 h ats[k] (List.getElem_mem hk)
  have h2 : lgA ats[k] = false := by simpa using h1
  unfold lgA at h2
  have h3 : ats.getD k (ByteArray.empty, ByteArray.empty) = ats[k] := by simp [List.getD, List.getElem?_eq_getElem hk]
  unfold an av
  rw [h3]
  simp at h2
  omega
theorem lgT_split {d : Nat} {f : Forest} {N N' : Int} (h : lgT d f N = (false, N')) : lgL d f N = (false, N') := by
  unfold lgT at h
  split at h
  · injection h with h1; cases h1
  · exact h
/-- What is not large is small, and there is room for all of it. -/
theorem lgL_small : ∀ (f : Forest) (d : Nat) (N N' : Int), N ≤ 1200 → lgL d f N = (false, N') → SmF f ∧ N' + (f.count : Int) ≤ N
  | .nil, d, N, N', hN, h => by
    rw [lgL] at h
    injection h with h1 h2
    exact ⟨trivial, by rw [← h2]; simp [Forest.count]⟩
  | .cons k sp n ats tx kids rest, d, N, N', hN, h => by
    by_cases h1 : N - 1 < 0 ∨ 40 < ats.length ∨ 5000 < tx.size ∨ 100 < n.size
    · rw [lgL, if_pos h1] at h; injection h with h1; cases h1
    · cases ha : ats.any lgA with
      | true => rw [lgL, if_neg h1, if_pos ha] at h; injection h with h1; cases h1
      | false =>
        rw [lgL_cons d k sp n ats tx kids rest N h1 ha] at h
        obtain ⟨r, hr⟩ : ∃ r, lgT (d + 1) kids (lgN N tx ats) = r := ⟨_, rfl⟩
        rw [hr] at h
        obtain ⟨rb, rN⟩ := r
        cases rb with
        | true => rw [if_pos rfl] at h; injection h with h1; cases h1
        | false =>
          rw [if_neg (by simp)] at h
          have hle := lgN_le N tx ats
          have hrm := lgT_room (d + 1) kids _ rN hr
          obtain ⟨s1, c1⟩ := lgL_small kids (d + 1) _ _ (by omega) (lgT_split hr)
          obtain ⟨s2, c2⟩ := lgL_small rest d _ _ (by omega) h
          refine ⟨⟨⟨by omega, by omega, ⟨by omega, fun k hk => ?_⟩, by omega⟩, s1, s2⟩, ?_⟩
          · have := any_false ha k hk; omega
          · have : lgN N tx ats ≤ N - 1 := by
              unfold lgN
              have : (0 : Int) ≤ ((tx.size / 16 : Nat) : Int) := Int.natCast_nonneg _
              omega
            simp only [Forest.count]
            omega
theorem lgT_small {d : Nat} {f : Forest} {N N' : Int} (hN : N ≤ 1200) (h : lgT d f N = (false, N')) : SmF f ∧ N' + (f.count : Int) ≤ N := lgL_small f d N N' hN (lgT_split h)

def ckStep (b : Bool) (it : Item) : Bool × Bool := (b && (raB it.k it.sp it.n it.ats it.tx it.kids.len && apartB it.kids), b && (raB it.k it.sp it.n it.ats it.tx it.kids.len && apartB it.kids))
def CkAt (G : Nat) (b : Bool) (w : World) : Prop := Blk w G #[.bool b] 4
def checkN (f : Forest) : Int := if greatB f = true then 2 else if tell ckStep (apartB f) (items f 1) = true then 0 else 4
end Go.Proofs.YtfbgpodcdgmpjaaDoor

/-
  Steps of a walk whose run is known: append and copy inside a region that draws its order; rows of cells cut and joined.
-/
namespace Go.Proofs.YtfbgpodcdgmpjaaDoor
open Go.RowKit
set_option linter.unusedVariables false

theorem step_append_run {P : Program} {ops : Array Oper} {o : Oper} {a : Act} {w : World} {K : Act → World → Prop} {Q : Exit → Act → World → Prop} {E : Prop}
    (hg : o.guard = none) (d x : Operand) (dT sT : TypeId) (hop : o.op = Op.call { callee := Callee.builtin Builtin.append, args := #[d, x], argTypes := #[dT, sT] })
    (v u : Value) (hd : a.eval d = v) (hx : a.eval x = u) {v' : Value} {w' : World} (hr : (Builtin.append_ #[dT, sT] o.type #[v, u]).run P w = .ok v' w') (hK : K (a.put o.dst v') w') :
    if Region.wanted o (yielded ops a.tmps) = true then Oper.wp P o a w K Q else E := by
  have hw : Region.wanted o (yielded ops a.tmps) = true := by simp [Region.wanted, hg]
  rw [if_pos hw]
  unfold Oper.wp
  simp [execOp, hop, resolve, invoke, builtin, hd, hx, hr, Result.andThen]
  exact hK
theorem step_copy_run {P : Program} {ops : Array Oper} {o : Oper} {a : Act} {w : World} {K : Act → World → Prop} {Q : Exit → Act → World → Prop} {E : Prop}
    (hg : o.guard = none) (d x : Operand) (dT sT : TypeId) (hop : o.op = Op.call { callee := Callee.builtin Builtin.copy, args := #[d, x], argTypes := #[dT, sT] })
    (v u : Value) (hd : a.eval d = v) (hx : a.eval x = u) {v' : Value} {w' : World} (hr : (Builtin.copy_ #[dT, sT] o.type #[v, u]).run P w = .ok v' w') (hK : K (a.put o.dst v') w') :
    if Region.wanted o (yielded ops a.tmps) = true then Oper.wp P o a w K Q else E := by
  have hw : Region.wanted o (yielded ops a.tmps) = true := by simp [Region.wanted, hg]
  rw [if_pos hw]
  unfold Oper.wp
  simp [execOp, hop, resolve, invoke, builtin, hd, hx, hr, Result.andThen]
  exact hK
theorem wp_builtin_run {P : Program} (w : World) {o : Oper} {a : Act} {K : Act → World → Prop} {Q : Exit → Act → World → Prop} (d : Operand) (t : TypeId)
    (ho : o.op = .call { callee := .builtin .clear, args := #[d], argTypes := #[t] }) (v : Value) (hd : a.eval d = v) {v' : Value} {w' : World}
    (hr : (Builtin.clear_ #[t] o.type #[v]).run P w = .ok v' w') (h : K (a.put o.dst v') w') : o.wp P a w K Q := by
  unfold Oper.wp execOp
  simp only [ho, resolve, invoke, builtin, Sem.run_bind, Sem.run_pure, Result.andThen_ok, List.map_toArray, List.map_cons, List.map_nil, hd, hr]
  exact h
theorem wpList_clear_run {P : Program} (w : World) {ops : Array Oper} {rest : List Oper} {o : Oper} {a : Act} {Q : Exit → Act → World → Prop} (hgd : o.guard = none) (d : Operand) (t : TypeId)
    (ho : o.op = .call { callee := .builtin .clear, args := #[d], argTypes := #[t] }) (v : Value) (hd : a.eval d = v) {v' : Value} {w' : World}
    (hr : (Builtin.clear_ #[t] o.type #[v]).run P w = .ok v' w') (h : wpList P ops Q rest (a.put o.dst v') w') : wpList P ops Q (o :: rest) a w :=
  wpList_plain hgd fun _ hK => wp_builtin_run w d t ho v hd hr (hK _ _ h)
theorem wp_copy_run {P : Program} (w : World) {o : Oper} {a : Act} {K : Act → World → Prop} {Q : Exit → Act → World → Prop} (d s : Operand) (t t' : TypeId)
    (ho : o.op = .call { callee := .builtin .copy, args := #[d, s], argTypes := #[t, t'] }) (v u : Value) (hd : a.eval d = v) (hs : a.eval s = u) {v' : Value} {w' : World}
    (hr : (Builtin.copy_ #[t, t'] o.type #[v, u]).run P w = .ok v' w') (h : K (a.put o.dst v') w') : o.wp P a w K Q := by
  unfold Oper.wp execOp
  simp only [ho, resolve, invoke, builtin, Sem.run_bind, Sem.run_pure, Result.andThen_ok, List.map_toArray, List.map_cons, List.map_nil, hd, hs, hr]
  exact h
theorem wpList_copy_run {P : Program} (w : World) {ops : Array Oper} {rest : List Oper} {o : Oper} {a : Act} {Q : Exit → Act → World → Prop} (hgd : o.guard = none) (d s : Operand) (t t' : TypeId)
    (ho : o.op = .call { callee := .builtin .copy, args := #[d, s], argTypes := #[t, t'] }) (v u : Value) (hd : a.eval d = v) (hs : a.eval s = u) {v' : Value} {w' : World}
    (hr : (Builtin.copy_ #[t, t'] o.type #[v, u]).run P w = .ok v' w') (h : wpList P ops Q rest (a.put o.dst v') w') : wpList P ops Q (o :: rest) a w :=
  wpList_plain hgd fun _ hK => wp_copy_run w d s t t' ho v u hd hs hr (hK _ _ h)
theorem wp_append_run {P : Program} (w : World) {o : Oper} {a : Act} {K : Act → World → Prop} {Q : Exit → Act → World → Prop} (s x : Operand) (t tn : TypeId)
    (ho : o.op = .call { callee := .builtin .append, args := #[s, x], argTypes := #[t, tn] }) (vs vx : Value) (hs : a.eval s = vs) (hx : a.eval x = vx)
    {v' : Value} {w' : World} (hr : (Builtin.append_ #[t, tn] o.type #[vs, vx]).run P w = .ok v' w') (h : K (a.put o.dst v') w') : o.wp P a w K Q := by
  unfold Oper.wp execOp
  simp only [ho, resolve, invoke, builtin, Sem.run_bind, Sem.run_pure, Result.andThen_ok, List.map_toArray, List.map_cons, List.map_nil, hs, hx, hr]
  exact h
theorem wpList_append_run {P : Program} (w : World) {ops : Array Oper} {rest : List Oper} {o : Oper} {a : Act} {Q : Exit → Act → World → Prop} (hgd : o.guard = none) (s x : Operand) (t tn : TypeId)
    (ho : o.op = .call { callee := .builtin .append, args := #[s, x], argTypes := #[t, tn] }) (vs vx : Value) (hs : a.eval s = vs) (hx : a.eval x = vx)
    {v' : Value} {w' : World} (hr : (Builtin.append_ #[t, tn] o.type #[vs, vx]).run P w = .ok v' w') (h : wpList P ops Q rest (a.put o.dst v') w') : wpList P ops Q (o :: rest) a w :=
  wpList_plain hgd fun _ hK => wp_append_run w s x t tn ho vs vx hs hx hr (hK _ _ h)

/-- clear of a row's part, of whatever type. -/
theorem run_clear_row {P : Program} (w : World) (t e ty : TypeId) (z : Value) (ht : P.underlying t = some (.slice e)) (hv : ∀ w, (zeroValue e).run P w = .ok z w) (g o n c : Nat) (hn : 0 < n) (cur : Array Value)
    (hg : w.heap[g]? = some (.cells cur e (0, 0))) (zs : List Value) (hzs : (Builtin.zeroCells z.cells n).toList = zs) (hz1 : ∀ u ∈ zs, u.oneCell' = true) (hfit : o + zs.length ≤ cur.size) :
    (Builtin.clear_ #[t] ty #[.slice (some ⟨g, o, none⟩) n c]).run P w = .ok (.tuple #[]) (w.setRow g (cur.toList.take o ++ zs ++ cur.toList.drop (o + zs.length)).toArray) := by
  have hst := run_storeCells_at P g o e zs 0 cur w hg (by simpa using hfit) hz1
  simp only [Nat.add_zero] at hst
  obtain ⟨m, rfl⟩ : ∃ m, n = m + 1 := ⟨n - 1, by omega⟩
  simp [Builtin.clear_, run_underlying ht, hv, hzs, hst]

theorem run_copy_rowK {P : Program} (w : World) (dT sT ty elem : TypeId) (g o dLen dCap : Nat) (a : Addr) (sLen sCap : Nat) (cur : Array Value) (t : TypeId) (cs : List Value) (sz n : Nat)
    (hu : P.underlying dT = some (.slice elem)) (hs : (P.info? elem).map (·.size) = some sz)
    (hg : w.heap[g]? = some (.cells cur t (0, 0))) (hn : n = Nat.min sLen dLen) (hl : cs.length = n * sz)
    (hsrc : ∀ j v, cs[j]? = some v → w.cell? (a.add j) = some v) (hfit : o + cs.length ≤ cur.size) (h1 : ∀ v ∈ cs, v.oneCell' = true) :
    (Builtin.copy_ #[dT, sT] ty #[.slice (some ⟨g, o, none⟩) dLen dCap, .slice (some a) sLen sCap]).run P w =
      .ok (goInt n) (w.setRow g (cur.toList.take o ++ cs ++ cur.toList.drop (o + cs.length)).toArray) := by
  have hf := run_firstCells_some (P := P) w sz n a sLen sCap cs hl hsrc
  have hst := run_storeCells_at P g o t cs 0 cur w hg (by simpa using hfit) h1
  cases hq : P.info? elem with
  | none => simp [hq] at hs
  | some i =>
    have hi : i.size = sz := by simpa [hq] using hs
    simp [Builtin.copy_, run_underlying hu, Builtin.lenOf, sizeOf, typeInfo, hq, hi, ← hn, hf, hst]
theorem shape_blk {w : World} {b : Nat} {vs : Array Value} {t : TypeId} (h : Blk w b vs t) : w.shape? b = some (t, vs.size) := by
  have h' : w.heap[b]? = some (.cells vs t (0, 0)) := h
  simp [World.shape?, h']

theorem grown_drewN {w w' : World} {row : Option Nat} (h : w.grownBy w' row) (q : Nat) : w.grownBy (w'.drewN q) row := ⟨h.os, h.tape, h.output, h.size, h.block⟩
theorem grown_setRow {w w' : World} {g : Nat} (h : w.grownBy w' (some g)) (cs : Array Value) : w.grownBy (w'.setRow g cs) (some g) :=
  ⟨h.os, h.tape, h.output, by rw [size_setRow]; exact h.size, fun k hk hne => (setRow_other w' g k cs (fun e => hne (by rw [e]))).trans (h.block k hk hne)⟩
theorem grown_refl (w : World) (row : Option Nat) : w.grownBy w row := ⟨rfl, rfl, rfl, Nat.le_refl _, fun _ _ _ => rfl⟩
end Go.Proofs.YtfbgpodcdgmpjaaDoor

/-
  Nodes' text, plainly; and how far it is written, as a row of levels.
-/
namespace Go.Proofs.YtfbgpodcdgmpjaaDoor
open Go.RowKit
set_option linter.unusedVariables false
set_option linter.unusedSimpArgs false

def endL (n : List UInt8) : List UInt8 := [60, 47] ++ (n ++ [62])
def txF : Forest → Bool → List UInt8
  | .nil, _ => []
  | .cons k sp n ats tx kids rest, raw => ahL k n.data.toList ats tx.data.toList raw ++ ((if k = 1 ∧ vdB sp n = false then txF kids (rwB k sp n) ++ endL n.data.toList else []) ++ txF rest raw)
structure Lev where
  fo : Forest
  q : Option Addr
  cap : Nat
  raw : Bool
  en : ByteArray
def Lev.cells (e : Lev) : List Value := [.slice e.q e.fo.len e.cap, .bool e.raw, .string e.en]
def rowL : List Lev → List Value
  | [] => []
  | e :: st => rowL st ++ e.cells
theorem rowL_len : ∀ st : List Lev, (rowL st).length = st.length * 3
  | [] => rfl
  | e :: st => by rw [rowL, List.length_append, rowL_len st, List.length_cons]; show _ + 3 = _; omega
def cntL : List Lev → Nat
  | [] => 0
  | e :: st => e.fo.count + cntL st
def tdL : List Lev → List UInt8
  | [] => []
  | e :: st => txF e.fo e.raw ++ (e.en.data.toList ++ tdL st)
theorem row_last3 {w : World} {base : Nat} {e : TypeId} {v x0 x1 x2 : Value} {n : Nat} {xs : List Value} (h : w.ownsRow base e 3 v (n + 1) (xs ++ [x0, x1, x2])) (hl : xs.length = n * 3) :
    ∃ b cap, v = .slice (some ⟨b, 0, none⟩) (n + 1) cap ∧ base ≤ b ∧ n + 1 ≤ cap ∧ (w.cell? ⟨b, n * 3, none⟩ = some x0 ∧ w.cell? ⟨b, n * 3 + 1, none⟩ = some x1 ∧ w.cell? ⟨b, n * 3 + 2, none⟩ = some x2) ∧ w.frozen? ⟨b, n * 3, none⟩ = false ∧ b < w.heap.size ∧
      w.ownsRow base e 3 (.slice (some ⟨b, 0, none⟩) n cap) n xs ∧ ∀ y, (w.setCell ⟨b, n * 3, none⟩ y).ownsRow base e 3 (.slice (some ⟨b, 0, none⟩) (n + 1) cap) (n + 1) (xs ++ [y, x1, x2]) := by
  obtain ⟨hlen, h⟩ := h
  rcases h with ⟨_, h0⟩ | ⟨b, cap, cur, rfl, h1, h2, h3, h4, h5, h6⟩
  · omega
  have kb : Blk w b cur e := h2
  have hsz : n * 3 + 2 < cur.size := by rw [h5]; omega
  have hx : ∀ j x, ([x0, x1, x2] : List Value)[j]? = some x → cur[n * 3 + j]? = some x := fun j x hj => by
    have hj3 : j < 3 := (List.getElem?_eq_some_iff.1 hj).1
    have := congrArg (fun l => l[n * 3 + j]?) h6
    rw [List.getElem?_take, if_pos (by omega), List.getElem?_append_right (by omega), hl, show n * 3 + j - n * 3 = j by omega, hj] at this
    simpa using this
  have hc : ∀ j x, ([x0, x1, x2] : List Value)[j]? = some x → w.cell? ⟨b, n * 3 + j, none⟩ = some x := fun j x hj => (kb.cell _).trans (hx j x hj)
  refine ⟨b, cap, rfl, h1, h3, ⟨hc 0 _ rfl, hc 1 _ rfl, hc 2 _ rfl⟩, kb.frozen _, kb.lt, ⟨hl, Or.inr ⟨b, cap, cur, rfl, h1, h2, by omega, h4, h5, ?_⟩⟩, fun y => ⟨by simp [hl]; omega, Or.inr ⟨b, cap, cur.set (n * 3) y (by omega), rfl, h1, kb.set (n * 3) (by omega) y, h3, h4, by rw [Array.size_set]; exact h5, ?_⟩⟩⟩
  · have := congrArg (fun l => l.take (n * 3)) h6
    rw [List.take_take, Nat.min_eq_left (by omega), List.take_left' hl] at this
    exact this
  · rw [Array.toList_set, List.take_set, h6, List.set_append_right _ _ (by omega), hl, Nat.sub_self]
    rfl
theorem row_tyL {w : World} {base : Nat} {e : TypeId} {size : Nat} {b cap0 n : Nat} {xs : List Value} (h : w.ownsRow base e size (.slice (some ⟨b, 0, none⟩) n cap0) n xs) : ∃ c, w.heap[b]? = some (.cells c e (0, 0)) := by
  rcases h.2 with ⟨h, h0⟩ | ⟨g, cap, cur, h1, h2, h3, _⟩
  · cases h
  · injection h1 with h1
    injection h1 with h1
    injection h1 with h1
    subst h1
    exact ⟨cur, h3⟩
theorem kept_setL {w : World} {b o : Nat} {e : TypeId} (h : ∃ c, w.heap[b]? = some (.cells c e (0, 0))) (v : Value) : Lib.OthersKept e none w (w.setCell ⟨b, o, none⟩ v) := by
  intro k x hk _ hx
  by_cases hkb : k = b
  · subst hkb
    obtain ⟨c, hc⟩ := h
    rw [hc] at hk
    injection hk with hk
    exact absurd hk.symm (hx _ _)
  · exact (Below.heap_setCell w ⟨b, o, none⟩ v k hkb).trans hk
def LevOk (w0 : World) (st : List Lev) : Prop := ∀ e ∈ st, Fo e.q e.fo w0 ∧ e.fo.len ≤ e.cap ∧ SmF e.fo ∧ e.en.size ≤ 10000
theorem lit3 {X : World} {x0 x1 x2 : Value} {t : TypeId} {j : Nat} {u : Value} (h : [x0, x1, x2][j]? = some u) : (X.alloc (.cells #[x0, x1, x2] t)).cell? ((⟨X.heap.size, 0, none⟩ : Addr).add j) = some u := by
  have e : (⟨X.heap.size, 0, none⟩ : Addr).add j = ⟨X.heap.size, 0 + j, none⟩ := by unfold Addr.add; split <;> simp_all
  rw [e, Nat.zero_add]
  exact ((Blk.new X #[x0, x1, x2] t).cell j).trans (by simpa using h)
theorem end_bs (n : ByteArray) : (⟨#[60, 47]⟩ : ByteArray) ++ n ++ ⟨#[62]⟩ = bs (endL n.data.toList) := by
  have h1 : (⟨#[60, 47]⟩ : ByteArray) = bs [60, 47] := rfl
  have h2 : (⟨#[62]⟩ : ByteArray) = bs [62] := rfl
  rw [h1, h2, bs_add, bs_bs]; unfold endL; simp
def KeepE (g o : Nat) (n : ByteArray) (qk : Option Addr) (kl ck : Nat) (W : World) : Prop := W.cell? ⟨g, o + 2, none⟩ = some (.string n) ∧ W.cell? ⟨g, o + 5, none⟩ = some (.slice qk kl ck)
end Go.Proofs.YtfbgpodcdgmpjaaDoor

/-
  What 'print.Text' and 'print.Size' do.
-/
namespace Go.Proofs.YtfbgpodcdgmpjaaDoor
open Go.RowKit
set_option linter.unusedVariables false
set_option linter.unusedSimpArgs false

theorem ah_len {k : Int} {n tx : ByteArray} {ats : List (ByteArray × ByteArray)} {raw : Bool} (hf : Fits ats) (hn : n.size ≤ 5000) (ht : tx.size ≤ 5000) : (ahL k n.data.toList ats tx.data.toList raw).length ≤ 90000000 := by
  have h1 := att_len hf ats.length (Nat.le_refl _)
  have h2 := hf.1
  have h3 := data_len n
  have h4 := data_len tx
  have h5 := esc_len false tx.data.toList false
  have h6 : (escL false tx.data.toList).length ≤ 6 * tx.data.toList.length := h5
  unfold ahL
  split
  · unfold openL; simp only [List.length_append, List.length_cons, List.length_nil]; omega
  split
  · unfold noteL; simp only [List.length_append, List.length_cons, List.length_nil]; omega
  split
  · split <;> omega
  · simp
theorem tx_len : ∀ (f : Forest) (raw : Bool), SmF f → (txF f raw).length ≤ 100000000 * f.count
  | .nil, raw, _ => by simp [txF]
  | .cons k sp n ats tx kids rest, raw, h => by
    have h1 := tx_len kids (rwB k sp n) h.2.1
    have h2 := tx_len rest raw h.2.2
    have h3 := ah_len (k := k) (raw := raw) h.1.2.2.1 h.1.2.1 h.1.1
    have h4 := data_len n
    have h5 := h.1.2.1
    rw [txF]
    simp only [Forest.count, List.length_append]
    split
    · rw [List.length_append]
      unfold endL
      simp only [List.length_append, List.length_cons, List.length_nil]
      omega
    · rw [List.length_nil]; omega
def SzAt (G : Nat) (l : List UInt8) (w : World) : Prop := Blk w G #[.int .i64 (l.length : Int)] 3
end Go.Proofs.YtfbgpodcdgmpjaaDoor
