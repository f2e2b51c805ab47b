/-
  Several texts in one: what the functions of the program and of the document's answer do.
-/
import Derived.Test.YtfdhmhdemfbfeaaGreatDoorMgAM
import Derived.Test.YtfdhmhdemfbfeaaGreatDoorMgAI
import Derived.Deep.RegionLaw
import Derived.Lib.Overlaps
import Derived.Laws.IdiomCopy
import Derived.Laws.CopyRow
import Derived.Lib.AppendZerosOnto
import Derived.Maps.AppendAt
import Derived.Test.YtfdhmhdemfbfeaaGreatDoorMgAK
import Derived.Laws.AppendOwnNone

/-
  'policy.mayBeKept', 'hasSmallSchemes'.
-/
namespace Go.Proofs.YtfdhmhdemfbfeaaGreatDoor
open Go.RowKit
set_option linter.unusedVariables false

def imgS : ByteArray := ⟨#[105, 109, 97, 103, 101]⟩
def imgB (s : ByteArray) : Bool := s.toList == [105, 109, 97, 103, 101]
/-- Is a name's group one that may not be kept? -/
def badG (g : Nat) : Bool := decide (g = 15 ∨ g = 13 ∨ g = 14 ∨ g = 16 ∨ g = 1 ∨ g = 17)
def kepB (r : PRul) : Bool := !decide (r.ac = 1) || (!badG (ofN r.nm.toList) && !imgB r.nm)

set_option maxHeartbeats 2000000 in
theorem kept_any (v : Value) (r : PRul) (w : World) (hv : RulV w v r) :
    Calls Tryz.prog 49 #[v] w fun e w' => e = .returned (.bool (kepB r)) ∧ Below w.heap.size w w' := by
  obtain ⟨va, vl, rfl, h1, h2⟩ := hv
  obtain ⟨a1, c1, rfl⟩ := h1.1.slice
  obtain ⟨a2, c2, rfl⟩ := h2.1.slice
  unfold rulC kepB
  clear h1 h2
  obtain ⟨nm, ac, ats, lks⟩ := r
  dsimp only at *
  have C := hide (fun w => group_any nm w)
  generalize ats.length = n1 at *
  generalize lks.length = n2 at *
  have al := (Below.refl w.heap.size w).alloc (Nat.le_refl _) (Obj.cells #[.string nm, .int .i64 ac, .slice a1 n1 c1, .slice a2 n2 c2] 41)
  by_cases i1 : ac = 1
  · subst i1
    generalize hg : ofN nm.toList = g at *
    clear hg
    by_cases hb : g = 15 ∨ g = 13 ∨ g = 14 ∨ g = 16 ∨ g = 1 ∨ g = 17
    · rw [badG, decide_eq_true hb]
      rcases hb with h | h | h | h | h | h
      all_goals subst h
      all_goals go_enter Tryz.func49, Tryz.ntmps49
      all_goals go_wp2_with fail
      all_goals refine (unhide C _).mono ?_
      all_goals rintro e1 w1 ⟨rfl, hw1⟩
      all_goals subst hw1
      all_goals go_wp2
      all_goals go_ret
      all_goals exact ⟨rfl, al⟩
    · rw [badG, decide_eq_false hb]
      have g1 : ((g : Int) == 15) = false := bneI (by omega)
      have g2 : ((g : Int) == 13) = false := bneI (by omega)
      have g3 : ((g : Int) == 14) = false := bneI (by omega)
      have g4 : ((g : Int) == 16) = false := bneI (by omega)
      have g5 : ((g : Int) == 1) = false := bneI (by omega)
      have g6 : ((g : Int) == 17) = false := bneI (by omega)
      clear hb
      go_enter Tryz.func49, Tryz.ntmps49
      go_wp2_with fail
      refine (unhide C _).mono ?_
      rintro e1 w1 ⟨rfl, hw1⟩
      subst hw1
      go_wp2
      go_ret
      exact ⟨by simp [imgB], al⟩
  · have j1 : (ac == 1) = false := beqI _ _ i1
    have j2 : (ac != 1) = true := bneI' _ _ i1
    rw [decide_eq_false i1]
    clear i1
    go_enter Tryz.func49, Tryz.ntmps49
    go_wp2
    go_ret
    exact ⟨rfl, al⟩

/-- Is a scheme right? -/
def smlB (s : ByteArray) : Bool := !s.toList.isEmpty && decide (lowL s.data.toList = s.data.toList)
def smK (zs : List ByteArray) (k : Nat) : Prop := ∀ j, j < k → smlB (zs.getD j ByteArray.empty) = true
theorem sm_all {zs : List ByteArray} (h : smK zs zs.length) : zs.all smlB = true := by
  rw [List.all_eq_true]
  intro x hx
  obtain ⟨j, hj, e⟩ := List.getElem_of_mem hx
  have := h j hj
  rw [List.getD, List.getElem?_eq_getElem hj] at this
  rw [← e]; exact this
theorem sm_not {zs : List ByteArray} {k : Nat} (hk : k < zs.length) (h : smlB (zs.getD k ByteArray.empty) = false) : zs.all smlB = false := by
  rw [List.all_eq_false]
  refine ⟨zs.getD k ByteArray.empty, getD_in _ _ _ hk, by rw [h]; decide⟩

set_option maxHeartbeats 2000000 in
theorem smsc_any (v : Value) (p : PPol) (w : World) (hv : PolV w v p) (ho : PolOk p) :
    Calls Tryz.prog 51 #[v] w fun e w' => e = .returned (.bool (p.sc.all smlB)) ∧ Below w.heap.size w w' := by
  obtain ⟨vr, vs, rfl, h1, h2⟩ := hv
  have HV := hide h2
  obtain ⟨a2, c2, rfl⟩ := h2.slice
  obtain ⟨_, a1, c1, rfl, _⟩ := h1
  unfold polC
  have hso := ho.2
  clear h2 ho
  obtain ⟨rs, zs, ot, st⟩ := p
  dsimp only at *
  generalize rs.length = n1 at *
  have hzl : zs.length ≤ 9223372036854775807 := (unhide HV).1
  have HN := hide (@sm_all zs)
  have HY := hide (fun k hk h => @sm_not zs k hk h)
  have CC := hide (fun k (hk : k < zs.length) w => lower_any (zs.getD k ByteArray.empty) w (hso _ (getD_in _ _ _ hk)))
  go_enter Tryz.func51, Tryz.ntmps51
  go_wp2
  go_loopw [8] (fun i wr => ∃ k : Nat, k ≤ zs.length ∧ i = .int .i64 k ∧ smK zs k ∧ Below w.heap.size w wr) (fun i _ => zs.length - (intOf i).toNat)
  case atStart => exact ⟨0, Nat.zero_le _, rfl, fun j hj => absurd hj (Nat.not_lt_zero _), (Below.refl _ _).alloc (Nat.le_refl _) _⟩
  case round =>
    obtain ⟨k, hk, rfl, hr, hbw⟩ := hrel
    have HR := hide hr
    clear hr
    by_cases hp : k < zs.length
    · have hpi : (k : Int) < (zs.length : Int) := by omega
      obtain ⟨_, a9, c9, e9, hc⟩ := view_below (unhide HV) hbw
      cases e9
      obtain ⟨b, off, rfl, hcell⟩ := hc (by omega)
      have hck := hcell k hp
      have hyk := unhide HY k hp
      have C := hide (unhide CC k hp)
      have HR2 : Hid (smlB (zs.getD k ByteArray.empty) = true → smK zs (k + 1)) := hide (fun hx j hj => by
        by_cases ej : j = k
        · rw [ej]; exact hx
        · exact unhide HR j (by omega))
      clear hcell hc
      cases he : (zs.getD k ByteArray.empty).toList.isEmpty with
      | true =>
        have H := hide (hyk (by unfold smlB; rw [he]; rfl))
        clear hyk HR2 C
        generalize zs.getD k ByteArray.empty = y at *
        go_wp2
        go_ret
        exact ⟨by rw [unhide H]; rfl, hbw⟩
      | false =>
        by_cases hlo : lowL (zs.getD k ByteArray.empty).data.toList = (zs.getD k ByteArray.empty).data.toList
        · have H := hide (unhide HR2 (by unfold smlB; rw [he, decide_eq_true hlo]; rfl))
          have hx : bs (lowL (zs.getD k ByteArray.empty).data.toList) = zs.getD k ByteArray.empty := by rw [hlo, bs_self]
          rw [hx] at C
          clear hyk HR2 hlo hx
          generalize zs.getD k ByteArray.empty = y at *
          have hyy := beq_yes (rfl : y = y)
          go_wp2_with fail
          refine (unhide C _).mono ?_
          rintro e1 w1 ⟨rfl, hb1⟩
          go_wp2
          go_roundw
          case rel => exact ⟨k + 1, by omega, by go_num, unhide H, tr2 hbw hb1⟩
          case measure => simp [intOf]; omega
        · have H := hide (hyk (by unfold smlB; rw [he, decide_eq_false hlo]; rfl))
          have hx : ¬ bs (lowL (zs.getD k ByteArray.empty).data.toList) = zs.getD k ByteArray.empty := fun e => hlo (by have := congrArg (fun x : ByteArray => x.data.toList) e; simpa [bs_toList] using this)
          have hyy := beq_no hx
          clear hyk HR2 hlo
          generalize bs (lowL (zs.getD k ByteArray.empty).data.toList) = z at *
          generalize zs.getD k ByteArray.empty = y at *
          clear hx
          go_wp2_with fail
          refine (unhide C _).mono ?_
          rintro e1 w1 ⟨rfl, hb1⟩
          go_wp2
          go_ret
          exact ⟨by rw [unhide H]; rfl, tr2 hbw hb1⟩
    · have hkn : k = zs.length := by omega
      have hn := unhide HN (by rw [← hkn]; exact unhide HR)
      have H := hide hn
      clear hn
      go_wp2
      go_ret
      exact ⟨by rw [unhide H]; rfl, hbw⟩
end Go.Proofs.YtfdhmhdemfbfeaaGreatDoor

/-
  Steps of a walk whose run is known: append and copy inside a region that draws its order; rows of cells cut and joined.
-/
namespace Go.Proofs.YtfdhmhdemfbfeaaGreatDoor
open Go.RowKit
set_option linter.unusedVariables false

theorem step_append_run {P : Program} {ops : Array Oper} {o : Oper} {a : Act} {w : World} {K : Act → World → Prop} {Q : Exit → Act → World → Prop} {E : Prop}
    (hg : o.guard = none) (d x : Operand) (dT sT : TypeId) (hop : o.op = Op.call { callee := Callee.builtin Builtin.append, args := #[d, x], argTypes := #[dT, sT] })
    (v u : Value) (hd : a.eval d = v) (hx : a.eval x = u) {v' : Value} {w' : World} (hr : (Builtin.append_ #[dT, sT] o.type #[v, u]).run P w = .ok v' w') (hK : K (a.put o.dst v') w') :
    if Region.wanted o (yielded ops a.tmps) = true then Oper.wp P o a w K Q else E := by
  have hw : Region.wanted o (yielded ops a.tmps) = true := by simp [Region.wanted, hg]
  rw [if_pos hw]
  unfold Oper.wp
  simp [execOp, hop, resolve, invoke, builtin, hd, hx, hr, Result.andThen]
  exact hK
theorem step_copy_run {P : Program} {ops : Array Oper} {o : Oper} {a : Act} {w : World} {K : Act → World → Prop} {Q : Exit → Act → World → Prop} {E : Prop}
    (hg : o.guard = none) (d x : Operand) (dT sT : TypeId) (hop : o.op = Op.call { callee := Callee.builtin Builtin.copy, args := #[d, x], argTypes := #[dT, sT] })
    (v u : Value) (hd : a.eval d = v) (hx : a.eval x = u) {v' : Value} {w' : World} (hr : (Builtin.copy_ #[dT, sT] o.type #[v, u]).run P w = .ok v' w') (hK : K (a.put o.dst v') w') :
    if Region.wanted o (yielded ops a.tmps) = true then Oper.wp P o a w K Q else E := by
  have hw : Region.wanted o (yielded ops a.tmps) = true := by simp [Region.wanted, hg]
  rw [if_pos hw]
  unfold Oper.wp
  simp [execOp, hop, resolve, invoke, builtin, hd, hx, hr, Result.andThen]
  exact hK
theorem wp_builtin_run {P : Program} (w : World) {o : Oper} {a : Act} {K : Act → World → Prop} {Q : Exit → Act → World → Prop} (d : Operand) (t : TypeId)
    (ho : o.op = .call { callee := .builtin .clear, args := #[d], argTypes := #[t] }) (v : Value) (hd : a.eval d = v) {v' : Value} {w' : World}
    (hr : (Builtin.clear_ #[t] o.type #[v]).run P w = .ok v' w') (h : K (a.put o.dst v') w') : o.wp P a w K Q := by
  unfold Oper.wp execOp
  simp only [ho, resolve, invoke, builtin, Sem.run_bind, Sem.run_pure, Result.andThen_ok, List.map_toArray, List.map_cons, List.map_nil, hd, hr]
  exact h
theorem wpList_clear_run {P : Program} (w : World) {ops : Array Oper} {rest : List Oper} {o : Oper} {a : Act} {Q : Exit → Act → World → Prop} (hgd : o.guard = none) (d : Operand) (t : TypeId)
    (ho : o.op = .call { callee := .builtin .clear, args := #[d], argTypes := #[t] }) (v : Value) (hd : a.eval d = v) {v' : Value} {w' : World}
    (hr : (Builtin.clear_ #[t] o.type #[v]).run P w = .ok v' w') (h : wpList P ops Q rest (a.put o.dst v') w') : wpList P ops Q (o :: rest) a w :=
  wpList_plain hgd fun _ hK => wp_builtin_run w d t ho v hd hr (hK _ _ h)
theorem wp_copy_run {P : Program} (w : World) {o : Oper} {a : Act} {K : Act → World → Prop} {Q : Exit → Act → World → Prop} (d s : Operand) (t t' : TypeId)
    (ho : o.op = .call { callee := .builtin .copy, args := #[d, s], argTypes := #[t, t'] }) (v u : Value) (hd : a.eval d = v) (hs : a.eval s = u) {v' : Value} {w' : World}
    (hr : (Builtin.copy_ #[t, t'] o.type #[v, u]).run P w = .ok v' w') (h : K (a.put o.dst v') w') : o.wp P a w K Q := by
  unfold Oper.wp execOp
  simp only [ho, resolve, invoke, builtin, Sem.run_bind, Sem.run_pure, Result.andThen_ok, List.map_toArray, List.map_cons, List.map_nil, hd, hs, hr]
  exact h
theorem wpList_copy_run {P : Program} (w : World) {ops : Array Oper} {rest : List Oper} {o : Oper} {a : Act} {Q : Exit → Act → World → Prop} (hgd : o.guard = none) (d s : Operand) (t t' : TypeId)
    (ho : o.op = .call { callee := .builtin .copy, args := #[d, s], argTypes := #[t, t'] }) (v u : Value) (hd : a.eval d = v) (hs : a.eval s = u) {v' : Value} {w' : World}
    (hr : (Builtin.copy_ #[t, t'] o.type #[v, u]).run P w = .ok v' w') (h : wpList P ops Q rest (a.put o.dst v') w') : wpList P ops Q (o :: rest) a w :=
  wpList_plain hgd fun _ hK => wp_copy_run w d s t t' ho v u hd hs hr (hK _ _ h)
theorem wp_append_run {P : Program} (w : World) {o : Oper} {a : Act} {K : Act → World → Prop} {Q : Exit → Act → World → Prop} (s x : Operand) (t tn : TypeId)
    (ho : o.op = .call { callee := .builtin .append, args := #[s, x], argTypes := #[t, tn] }) (vs vx : Value) (hs : a.eval s = vs) (hx : a.eval x = vx)
    {v' : Value} {w' : World} (hr : (Builtin.append_ #[t, tn] o.type #[vs, vx]).run P w = .ok v' w') (h : K (a.put o.dst v') w') : o.wp P a w K Q := by
  unfold Oper.wp execOp
  simp only [ho, resolve, invoke, builtin, Sem.run_bind, Sem.run_pure, Result.andThen_ok, List.map_toArray, List.map_cons, List.map_nil, hs, hx, hr]
  exact h
theorem wpList_append_run {P : Program} (w : World) {ops : Array Oper} {rest : List Oper} {o : Oper} {a : Act} {Q : Exit → Act → World → Prop} (hgd : o.guard = none) (s x : Operand) (t tn : TypeId)
    (ho : o.op = .call { callee := .builtin .append, args := #[s, x], argTypes := #[t, tn] }) (vs vx : Value) (hs : a.eval s = vs) (hx : a.eval x = vx)
    {v' : Value} {w' : World} (hr : (Builtin.append_ #[t, tn] o.type #[vs, vx]).run P w = .ok v' w') (h : wpList P ops Q rest (a.put o.dst v') w') : wpList P ops Q (o :: rest) a w :=
  wpList_plain hgd fun _ hK => wp_append_run w s x t tn ho vs vx hs hx hr (hK _ _ h)

/-- clear of a row's part, of whatever type. -/
theorem run_clear_row {P : Program} (w : World) (t e ty : TypeId) (z : Value) (ht : P.underlying t = some (.slice e)) (hv : ∀ w, (zeroValue e).run P w = .ok z w) (g o n c : Nat) (hn : 0 < n) (cur : Array Value)
    (hg : w.heap[g]? = some (.cells cur e (0, 0))) (zs : List Value) (hzs : (Builtin.zeroCells z.cells n).toList = zs) (hz1 : ∀ u ∈ zs, u.oneCell' = true) (hfit : o + zs.length ≤ cur.size) :
    (Builtin.clear_ #[t] ty #[.slice (some ⟨g, o, none⟩) n c]).run P w = .ok (.tuple #[]) (w.setRow g (cur.toList.take o ++ zs ++ cur.toList.drop (o + zs.length)).toArray) := by
  have hst := run_storeCells_at P g o e zs 0 cur w hg (by simpa using hfit) hz1
  simp only [Nat.add_zero] at hst
  obtain ⟨m, rfl⟩ : ∃ m, n = m + 1 := ⟨n - 1, by omega⟩
  simp [Builtin.clear_, run_underlying ht, hv, hzs, hst]

theorem run_copy_rowK {P : Program} (w : World) (dT sT ty elem : TypeId) (g o dLen dCap : Nat) (a : Addr) (sLen sCap : Nat) (cur : Array Value) (t : TypeId) (cs : List Value) (sz n : Nat)
    (hu : P.underlying dT = some (.slice elem)) (hs : (P.info? elem).map (·.size) = some sz)
    (hg : w.heap[g]? = some (.cells cur t (0, 0))) (hn : n = Nat.min sLen dLen) (hl : cs.length = n * sz)
    (hsrc : ∀ j v, cs[j]? = some v → w.cell? (a.add j) = some v) (hfit : o + cs.length ≤ cur.size) (h1 : ∀ v ∈ cs, v.oneCell' = true) :
    (Builtin.copy_ #[dT, sT] ty #[.slice (some ⟨g, o, none⟩) dLen dCap, .slice (some a) sLen sCap]).run P w =
      .ok (goInt n) (w.setRow g (cur.toList.take o ++ cs ++ cur.toList.drop (o + cs.length)).toArray) := by
  have hf := run_firstCells_some (P := P) w sz n a sLen sCap cs hl hsrc
  have hst := run_storeCells_at P g o t cs 0 cur w hg (by simpa using hfit) h1
  cases hq : P.info? elem with
  | none => simp [hq] at hs
  | some i =>
    have hi : i.size = sz := by simpa [hq] using hs
    simp [Builtin.copy_, run_underlying hu, Builtin.lenOf, sizeOf, typeInfo, hq, hi, ← hn, hf, hst]
theorem shape_blk {w : World} {b : Nat} {vs : Array Value} {t : TypeId} (h : Blk w b vs t) : w.shape? b = some (t, vs.size) := by
  have h' : w.heap[b]? = some (.cells vs t (0, 0)) := h
  simp [World.shape?, h']

theorem grown_drewN {w w' : World} {row : Option Nat} (h : w.grownBy w' row) (q : Nat) : w.grownBy (w'.drewN q) row := ⟨h.os, h.tape, h.output, h.size, h.block⟩
theorem grown_setRow {w w' : World} {g : Nat} (h : w.grownBy w' (some g)) (cs : Array Value) : w.grownBy (w'.setRow g cs) (some g) :=
  ⟨h.os, h.tape, h.output, by rw [size_setRow]; exact h.size, fun k hk hne => (setRow_other w' g k cs (fun e => hne (by rw [e]))).trans (h.block k hk hne)⟩
theorem grown_refl (w : World) (row : Option Nat) : w.grownBy w row := ⟨rfl, rfl, rfl, Nat.le_refl _, fun _ _ _ => rfl⟩
end Go.Proofs.YtfdhmhdemfbfeaaGreatDoor

/-
  Whether a name stands twice in a list: 'policy.hasTwice', 'hasRulesOnce'; and slices.Concat of two lists.
-/
namespace Go.Proofs.YtfdhmhdemfbfeaaGreatDoor
open Go.RowKit
set_option linter.unusedVariables false

/-- A slice of texts that may be cut. -/
def TxV (w : World) (v : Value) (zs : List ByteArray) : Prop := zs.length ≤ 9223372036854775807 ∧ ∃ a cap, v = .slice a zs.length cap ∧ zs.length ≤ cap ∧ (0 < zs.length → ∃ b off, a = some ⟨b, off, none⟩ ∧ ∀ i, i < zs.length → w.cell? ⟨b, off + i, none⟩ = some (.string (zs.getD i ByteArray.empty)))
theorem TxV.view {w : World} {v : Value} {zs : List ByteArray} (h : TxV w v zs) : View w v zs := by
  obtain ⟨h1, a, cap, h2, _, h3⟩ := h
  exact ⟨h1, a, cap, h2, h3⟩
theorem tx_of_owns {w : World} {base : Nat} {v : Value} {ts : List ByteArray} (h : w.ownsRow base 9 1 v ts.length (ts.map Value.string)) : TxV w v ts := by
  obtain ⟨h1, a, cap, h2, h3⟩ := view_of_owns h
  refine ⟨h1, a, cap, h2, ?_, h3⟩
  obtain ⟨_, h⟩ := h
  rcases h with ⟨rfl, h0⟩ | ⟨g, cap', cur, rfl, g1, g2, g3, g4, g5, g6⟩
  · rw [h0]; omega
  · cases h2; exact g3

/-- Does a text stand ahead of its place already? -/
def twK (zs : List ByteArray) (k : Nat) : Prop := ∀ i, i < k → isIn (zs.getD i ByteArray.empty) (zs.take i) = false
def twB (zs : List ByteArray) : Bool := (List.range zs.length).any fun i => isIn (zs.getD i ByteArray.empty) (zs.take i)
theorem tw_no {zs : List ByteArray} (h : twK zs zs.length) : twB zs = false := by
  rw [twB, List.any_eq_false]
  intro i hi
  rw [h i (List.mem_range.1 hi)]; decide
theorem tw_yes {zs : List ByteArray} {k : Nat} (hk : k < zs.length) (h : isIn (zs.getD k ByteArray.empty) (zs.take k) = true) : twB zs = true := by
  rw [twB, List.any_eq_true]
  exact ⟨k, List.mem_range.2 hk, h⟩

set_option maxHeartbeats 1000000 in
theorem twice_any (v : Value) (zs : List ByteArray) (w : World) (hv : TxV w v zs) :
    Calls Tryz.prog 62 #[v] w fun e w' => e = .returned (.bool (twB zs)) ∧ w' = w := by
  obtain ⟨hl, a, cap, rfl, hcap, hc⟩ := hv
  have HC := hide hc
  have HN := hide (@tw_no zs)
  have HY := hide (fun k hk h => @tw_yes zs k hk h)
  have HCC := hide (fun v x k h => contains_any v (zs.take k) x w h)
  clear hc
  go_enter Tryz.func62, Tryz.ntmps62
  go_wp2
  go_loopw [7] (fun i wr => ∃ k : Nat, k ≤ zs.length ∧ i = .int .i64 k ∧ twK zs k ∧ wr = w) (fun i _ => zs.length - (intOf i).toNat)
  case atStart => exact ⟨0, Nat.zero_le _, rfl, fun j hj => absurd hj (Nat.not_lt_zero _), rfl⟩
  case round =>
    obtain ⟨k, hk, rfl, hr, hw⟩ := hrel
    have hw' := hw.symm
    subst hw'
    have HR := hide hr
    clear hr hw
    by_cases hp : k < zs.length
    · have hpi : (k : Int) < (zs.length : Int) := by omega
      have hkc : (k : Int) ≤ (cap : Int) := by omega
      obtain ⟨b, off, rfl, hcell⟩ := unhide HC (by omega)
      have hck := hcell k hp
      have hvk : View w (.slice (some ⟨b, off, none⟩) k cap) (zs.take k) := by
        have hlk : (zs.take k).length = k := by rw [List.length_take]; omega
        refine ⟨by omega, some ⟨b, off, none⟩, cap, by rw [hlk], fun _ => ⟨b, off, rfl, fun i hi => ?_⟩⟩
        rw [hlk] at hi
        rw [hcell i (by omega), List.getD, List.getD, List.getElem?_take_of_lt hi]
      have hyk := unhide HY k hp
      have C := hide (unhide HCC _ (zs.getD k ByteArray.empty) k hvk)
      have HR2 : Hid (isIn (zs.getD k ByteArray.empty) (zs.take k) = false → twK zs (k + 1)) := hide (fun hx j hj => by
        by_cases ej : j = k
        · rw [ej]; exact hx
        · exact unhide HR j (by omega))
      clear hcell hvk
      cases hx : isIn (zs.getD k ByteArray.empty) (zs.take k) with
      | true =>
        rw [hx] at C
        have H := hide (hyk hx)
        clear hyk hx HR2
        generalize zs.getD k ByteArray.empty = y at *
        go_wp2_with fail
        refine (unhide C).mono ?_
        rintro e1 w1 ⟨rfl, hw1⟩
        obtain rfl : w = w1 := hw1.symm
        go_wp2
        go_ret
        exact ⟨by rw [unhide H]; rfl, rfl⟩
      | false =>
        rw [hx] at C
        have H := hide (unhide HR2 hx)
        clear hyk hx HR2
        generalize zs.getD k ByteArray.empty = y at *
        go_wp2_with fail
        refine (unhide C).mono ?_
        rintro e1 w1 ⟨rfl, hw1⟩
        obtain rfl : w = w1 := hw1.symm
        go_wp2
        go_roundw
        case rel => exact ⟨k + 1, by omega, by go_num, unhide H, by first | rfl | trivial⟩
        case measure => simp [intOf]; omega
    · have hkn : k = zs.length := by omega
      have hn := unhide HN (by rw [← hkn]; exact unhide HR)
      have H := hide hn
      clear hn
      go_wp2
      go_ret
      exact ⟨by rw [unhide H]; rfl, rfl⟩
end Go.Proofs.YtfdhmhdemfbfeaaGreatDoor
