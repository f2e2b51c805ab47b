/-
  What 'blend.triples' does.
-/
import Derived.Test.YtbabmkilbbbmoaaDoorMgBF
import Derived.Deep.RegionWith
import Derived.Deep.RegionHeld
namespace Go.Proofs.YtbabmkilbbbmoaaDoor
open Go.RowKit
set_option linter.unusedVariables false
set_option linter.unusedSimpArgs false

/-- Pairs from an address on. -/
def PrAt (w : World) (q : Option Addr) (L : List (Nat × Nat)) : Prop := 0 < L.length → ∃ g o, q = some ⟨g, o, none⟩ ∧ ∀ k, k < L.length → w.cell? ⟨g, o + k * 3, none⟩ = some (.int .i64 ((L.getD k (0, 0)).1 : Int)) ∧ w.cell? ⟨g, o + k * 3 + 1, none⟩ = some (.int .i64 ((L.getD k (0, 0)).2 : Int)) ∧ ∃ b : Bool, w.cell? ⟨g, o + k * 3 + 2, none⟩ = some (.bool b)
theorem PrAt.below {w w' : World} {q : Option Addr} {L : List (Nat × Nat)} (h : PrAt w q L) (hb : Below w.heap.size w w') : PrAt w' q L := fun h0 => by
  obtain ⟨g, o, h1, h2⟩ := h h0
  exact ⟨g, o, h1, fun k hk => ⟨cellB hb (h2 k hk).1, cellB hb (h2 k hk).2.1, (h2 k hk).2.2.imp fun _ h => cellB hb h⟩⟩
def fromQ3 (q : Option Addr) (s c : Nat) : Option Addr := if c = s then q else q.map (·.add (s * 3))
theorem run_fromM (q : Option Addr) (n c s : Nat) (h : s ≤ n) (w : World) : (Instr.slice 26 (.slice q n c) (some (.int .i64 (s : Int))) none none).run Tryd.prog w = .ok (.slice (fromQ3 q s c) (n - s) (c - s)) w := by
  have ht : Tryd.prog.underlying 26 = some (.slice (Tryd.prog.elem 26)) := by kernel_rfl
  have hs : (sizeOf (Tryd.prog.elem 26)).run Tryd.prog w = .ok 3 w := by kernel_rfl
  rw [run_slice_l w 26 q n c ht .i64 (s : Int) (by omega) (by omega), hs]
  simp [Result.andThen, sliced, fromQ3]
theorem PrAt.tail {w : World} {q : Option Addr} {p : Nat × Nat} {r : List (Nat × Nat)} {c : Nat} (h : PrAt w q (p :: r)) (hc : (p :: r).length ≤ c) : PrAt w (fromQ3 q 1 c) r := fun h0 => by
  obtain ⟨g, o, rfl, h2⟩ := h (by simp)
  rw [List.length_cons] at hc
  refine ⟨g, o + 3, ?_, fun k hk => ?_⟩
  · unfold fromQ3
    rw [if_neg (by omega)]
    simp [Addr.add]
  · have := h2 (k + 1) (by rw [List.length_cons]; omega)
    rw [show o + 3 + k * 3 = o + (k + 1) * 3 by omega]
    simpa using this
theorem pairsV_at {w : World} {base : Nat} {u : Value} {L : List (Nat × Nat)} (h : PairsV w base u (whP L)) : ∃ q c, u = .slice q L.length c ∧ L.length ≤ c ∧ c ≤ 9223372036854775807 ∧ PrAt w q L := by
  have hl : (whP L).length = L.length := by unfold whP; rw [List.length_map]
  obtain ⟨q, c, h1, h2⟩ := PairsV.cells h
  rw [hl] at h1 h2
  have hcc : L.length ≤ c ∧ c ≤ 9223372036854775807 := by
    obtain ⟨_, h⟩ := h
    rcases h with ⟨e1, e2⟩ | ⟨g, cap, cur, e1, e2, e3, e4, e5, e6⟩
    · rw [hl] at e2
      have e9 : c = 0 := by rw [h1] at e1; injection e1
      rw [e2, e9]; exact ⟨Nat.zero_le _, by decide⟩
    · have e9 : cap = c := by rw [h1] at e1; injection e1 with _ _ h; exact h.symm
      rw [hl] at e4
      simp only [maxLen] at e5
      omega
  refine ⟨q, c, h1, hcc.1, hcc.2, fun h0 => ?_⟩
  · obtain ⟨g, hq, _, h4⟩ := h2 h0
    refine ⟨g, 0, hq, fun k hk => ?_⟩
    have e : (whP L).getD k p0 = (((L.getD k (0, 0)).1 : Int), ((L.getD k (0, 0)).2 : Int), true) := by
      unfold whP
      rw [List.getD, List.getD, List.getElem?_map, List.getElem?_eq_getElem hk]
      rfl
    have := h4 k hk
    rw [e] at this
    exact ⟨by simpa using this.1, by simpa using this.2.1, true, by simpa using this.2.2⟩
def slen : Value → Nat
  | .slice _ n _ => n
  | _ => 0
/-- Behind the two boxes of pairs. -/
structure TrS (w : World) (base : Nat) (u : Value) (K : List PT) (b6 b7 : Nat) (p q : Nat × Nat) (X : World) : Prop where
  bl : Below w.heap.size w X
  row : PartsV X base u K
  x0 : X.cell? ⟨b6, 0, none⟩ = some (.int .i64 (p.1 : Int))
  x1 : X.cell? ⟨b6, 1, none⟩ = some (.int .i64 (p.2 : Int))
  y0 : X.cell? ⟨b7, 0, none⟩ = some (.int .i64 (q.1 : Int))
  y1 : X.cell? ⟨b7, 1, none⟩ = some (.int .i64 (q.2 : Int))
theorem TrS.below {w : World} {base : Nat} {u : Value} {K : List PT} {b6 b7 : Nat} {p q : Nat × Nat} {X X' : World} (h : TrS w base u K b6 b7 p q X) (hb : Below X.heap.size X X') : TrS w base u K b6 b7 p q X' :=
  ⟨tr2 h.bl hb, ownsRow_below h.row hb, cellB hb h.x0, cellB hb h.x1, cellB hb h.y0, cellB hb h.y1⟩
theorem TrS.drew {w : World} {base : Nat} {u : Value} {K : List PT} {b6 b7 : Nat} {p q : Nat × Nat} {X : World} (h : TrS w base u K b6 b7 p q X) : TrS w base u K b6 b7 p q X.drew := h.below (below_draws X 1)
theorem trS_new (w wr : World) (base : Nat) (u : Value) (K : List PT) (p q : Nat × Nat) (bp bq : Bool) (t t' : TypeId) (hb : Below w.heap.size w wr) (hr : PartsV wr base u K) :
    TrS w base u K wr.heap.size (wr.heap.size + 1) p q ((wr.alloc (Obj.cells #[.int .i64 (p.1 : Int), .int .i64 (p.2 : Int), .bool bp] t)).alloc (Obj.cells #[.int .i64 (q.1 : Int), .int .i64 (q.2 : Int), .bool bq] t')) ∧
    TrS w base u K (wr.heap.size + 1) wr.heap.size p q ((wr.alloc (Obj.cells #[.int .i64 (q.1 : Int), .int .i64 (q.2 : Int), .bool bq] t')).alloc (Obj.cells #[.int .i64 (p.1 : Int), .int .i64 (p.2 : Int), .bool bp] t)) := by
  have aux : ∀ (p q : Nat × Nat) (bp bq : Bool) (t t' : TypeId), TrS w base u K wr.heap.size (wr.heap.size + 1) p q ((wr.alloc (Obj.cells #[.int .i64 (p.1 : Int), .int .i64 (p.2 : Int), .bool bp] t)).alloc (Obj.cells #[.int .i64 (q.1 : Int), .int .i64 (q.2 : Int), .bool bq] t')) := by
    intro p q bp bq t t'
    have e1 : (wr.alloc (Obj.cells #[.int .i64 (p.1 : Int), .int .i64 (p.2 : Int), .bool bp] t)).heap.size = wr.heap.size + 1 := by simp
    have A := (Blk.new wr #[.int .i64 (p.1 : Int), .int .i64 (p.2 : Int), .bool bp] t).alloc (.cells #[.int .i64 (q.1 : Int), .int .i64 (q.2 : Int), .bool bq] t')
    have B := Blk.new (wr.alloc (Obj.cells #[.int .i64 (p.1 : Int), .int .i64 (p.2 : Int), .bool bp] t)) #[.int .i64 (q.1 : Int), .int .i64 (q.2 : Int), .bool bq] t'
    rw [e1] at B
    exact ⟨(hb.alloc hb.size _).alloc (by have := hb.size; rw [e1]; omega) _, (hr.alloc _).alloc _, A.cell 0, A.cell 1, B.cell 0, B.cell 1⟩
  have h2 := aux q p bq bp t' t
  exact ⟨aux p q bp bq t t', ⟨h2.bl, h2.row, h2.y0, h2.y1, h2.x0, h2.x1⟩⟩

theorem step_append_run2 {P : Program} {ops : Array Oper} {o : Oper} {a : Act} {w : World} {K : Act → World → Prop} {Q : Exit → Act → World → Prop} {E : Prop}
    (hg : o.guard = none) (d x : Operand) (dT sT : TypeId) (hop : o.op = Op.call { callee := Callee.builtin Builtin.append, args := #[d, x], argTypes := #[dT, sT] })
    (v u : Value) (hd : a.eval d = v) (hx : a.eval x = u) {v' : Value} {w' : World} (hr : (Builtin.append_ #[dT, sT] o.type #[v, u]).run P w = .ok v' w') (hK : K (a.put o.dst v') w') :
    if Region.wanted o (yielded ops a.tmps) = true then Oper.wp P o a w K Q else E := by
  have hw : Region.wanted o (yielded ops a.tmps) = true := by simp [Region.wanted, hg]
  rw [if_pos hw]
  unfold Oper.wp
  simp [execOp, hop, resolve, invoke, builtin, hd, hx, hr, Result.andThen]
  exact hK
/-- The two boxes, read. -/
def RdS (w : World) (b6 b7 : Nat) (p q : Nat × Nat) (X : World) : Prop :=
  Below w.heap.size w X ∧ X.cell? ⟨b6, 0, none⟩ = some (.int .i64 (p.1 : Int)) ∧ X.cell? ⟨b6, 1, none⟩ = some (.int .i64 (p.2 : Int)) ∧ X.cell? ⟨b7, 0, none⟩ = some (.int .i64 (q.1 : Int)) ∧ X.cell? ⟨b7, 1, none⟩ = some (.int .i64 (q.2 : Int))
theorem TrS.rd {w : World} {base : Nat} {u : Value} {K : List PT} {b6 b7 : Nat} {p q : Nat × Nat} {X : World} (h : TrS w base u K b6 b7 p q X) : RdS w b6 b7 p q X := ⟨h.bl, h.x0, h.x1, h.y0, h.y1⟩
theorem RdS.grown {w : World} {u : Value} {b6 b7 : Nat} {p q : Nat × Nat} {X X' : World} (h : RdS w b6 b7 p q X) (hg : X.grownBy X' u.ownBlock) (h1 : ∀ k, u.ownBlock = some k → w.heap.size ≤ k ∧ k < b6 ∧ k < b7) : RdS w b6 b7 p q X' := by
  obtain ⟨a, b, c, d, e⟩ := h
  have cc : ∀ b o v, (∀ k, u.ownBlock = some k → k < b) → X.cell? ⟨b, o, none⟩ = some v → X'.cell? ⟨b, o, none⟩ = some v := fun b o v hb hc => by
    have hlt := World.block_lt_of_cell? X _ hc
    have he := hg.block b hlt (fun e => by have := hb b e.symm; omega)
    unfold World.cell? at hc ⊢
    simp only [he]
    exact hc
  exact ⟨a.grown hg a.size (fun k hk => (h1 k hk).1), cc _ _ _ (fun k hk => (h1 k hk).2.1) b, cc _ _ _ (fun k hk => (h1 k hk).2.1) c, cc _ _ _ (fun k hk => (h1 k hk).2.2) d, cc _ _ _ (fun k hk => (h1 k hk).2.2) e⟩

set_option maxHeartbeats 4000000 in
set_option maxRecDepth 100000 in
theorem triples_any (q1 q2 : Option Addr) (c1 c2 n a b : Nat) (L1 L2 : List (Nat × Nat)) (w : World) (h1 : PrAt w q1 L1) (h2 : PrAt w q2 L2) (hc1 : L1.length ≤ c1) (hc2 : L2.length ≤ c2) (r1 : RiseP n a 0 0 L1) (r2 : RiseP n b 0 0 L2) (hn : n ≤ 1000) (ha : a ≤ 1000) (hb : b ≤ 1000) (hm1 : c1 ≤ 9223372036854775807) (hm2 : c2 ≤ 9223372036854775807) :
    Calls Tryd.prog 80 #[.slice q1 L1.length c1, .slice q2 L2.length c2] w fun e w' => ∃ u, e = .returned u ∧ PartsV w' w.heap.size u ((trF L1 L2).map keptT) ∧ Below w.heap.size w w' := by
  obtain ⟨i0, hi0, hi1, hi2, hi3⟩ := infoPart
  have HTL : Hid (∀ K, K ++ trF L1 L2 = trF L1 L2 → True) := hide (fun _ _ => trivial)
  have hup := upT_len n a b _ 0 0 0 (trF_up r1 r2)
  have START : Hid (PrAt w q1 L1 ∧ PrAt w q2 L2 ∧ RiseP n a 0 0 L1 ∧ RiseP n b 0 0 L2) := hide ⟨h1, h2, r1, r2⟩
  generalize hT : trF L1 L2 = TT at *
  have HT := hide hT
  clear h1 h2 r1 r2 hT HTL
  go_enter Tryd.func80, Tryd.ntmps80
  go_wp2
  go_loopw [0, 1, 5] (fun u1 u2 u wr => ∃ l m K q c q' c' i j k, u1 = .slice q l.length c ∧ u2 = .slice q' m.length c' ∧ l.length ≤ c ∧ m.length ≤ c' ∧ c ≤ 9223372036854775807 ∧ c' ≤ 9223372036854775807 ∧ PrAt w q l ∧ PrAt w q' m ∧ RiseP n a i j l ∧ RiseP n b i k m ∧ PartsV wr w.heap.size u (K.map keptT) ∧ K ++ trF l m = TT ∧ Below w.heap.size w wr) (fun u1 u2 _ _ => slen u1 + slen u2)
  case atStart => exact ⟨L1, L2, [], q1, c1, q2, c2, 0, 0, 0, rfl, rfl, hc1, hc2, hm1, hm2, (unhide START).1, (unhide START).2.1, (unhide START).2.2.1, (unhide START).2.2.2, World.ownsRow_nil _ _ _ _, unhide HT, Below.refl _ _⟩
  case round =>
    clear START HT
    obtain ⟨l, m, K, q, c, q', c', i, j, k, rfl, rfl, hlc, hmc, hcm, hcm', hl, hm, rl, rm, hrow, heq, hbl⟩ := hrel
    obtain ⟨uq, un, uc, hu⟩ := slice_of hrow
    subst hu
    have HR := hide hrow
    have HB := hide hbl
    have HEQ := hide heq
    have hsz := hbl.size
    have hKl : K.length ≤ 1000 := by
      have := congrArg List.length heq
      rw [List.length_append] at this
      omega
    cases l with
    | nil =>
      have hK : K = TT := by rw [trF_nil, List.append_nil] at heq; exact heq
      have HO : Hid (PartsV wr w.heap.size (.slice uq un uc) (TT.map keptT)) := hide (by rw [← hK]; exact hrow)
      clear hrow heq hK hl hm rl rm HEQ HR
      simp only [List.length_nil] at *
      go_wp2
      go_ret
      exact ⟨_, rfl, unhide HO, unhide HB⟩
    | cons p r =>
      cases m with
      | nil =>
        have hK : K = TT := by rw [trF_none, List.append_nil] at heq; exact heq
        have HO : Hid (PartsV wr w.heap.size (.slice uq un uc) (TT.map keptT)) := hide (by rw [← hK]; exact hrow)
        have hli : (0 : Int) < ((p :: r).length : Int) := by rw [List.length_cons]; omega
        generalize (p :: r).length = ln at *
        clear hrow heq hK hl hm rl rm HEQ HR
        simp only [List.length_nil] at *
        go_wp2
        go_ret
        exact ⟨_, rfl, unhide HO, unhide HB⟩
      | cons q0 s =>
        obtain ⟨g1, o1, rfl, f1⟩ := hl (by simp)
        obtain ⟨g2, o2, rfl, f2⟩ := hm (by simp)
        have P := hide hl
        have M := hide hm
        have RL := hide rl
        have RM := hide rm
        obtain ⟨x1, x2, x3, x4, x5⟩ := risep_cons rl
        obtain ⟨y1, y2, y3, y4, y5⟩ := risep_cons rm
        have a0 := f1 0 (by simp)
        have b0 := f2 0 (by simp)
        simp only [Nat.zero_mul, Nat.add_zero, List.getD_cons_zero] at a0 b0
        obtain ⟨a0, a1, bp, a2⟩ := a0
        obtain ⟨b0, b1, bq, b2⟩ := b0
        have hbb := bcell hbl
        have cv : ∀ g o v, w.cell? ⟨g, o, none⟩ = some v → wr.cell? ⟨g, o, none⟩ = some v := fun g o v h => cellB hbl h
        replace a0 := cv _ _ _ a0
        replace a1 := cv _ _ _ a1
        replace a2 := cv _ _ _ a2
        replace b0 := cv _ _ _ b0
        replace b1 := cv _ _ _ b1
        replace b2 := cv _ _ _ b2
        have TS := hide (trS_new w wr w.heap.size (.slice uq un uc) (K.map keptT) p q0 bp bq 37 37 hbl hrow)
        have T1 := hide (PrAt.tail hl hlc)
        have T2 := hide (PrAt.tail hm hmc)
        have F1 := run_fromM (some ⟨g1, o1, none⟩) (p :: r).length c 1 (by simp)
        have F2 := run_fromM (some ⟨g2, o2, none⟩) (q0 :: s).length c' 1 (by simp)
        have hli : (0 : Int) < ((p :: r).length : Int) := by rw [List.length_cons]; omega
        have hmi : (0 : Int) < ((q0 :: s).length : Int) := by rw [List.length_cons]; omega
        have hl1 : (p :: r).length - 1 = r.length := by simp
        have hm1' : (q0 :: s).length - 1 = s.length := by simp
        have hll : (p :: r).length = r.length + 1 := rfl
        have hml : (q0 :: s).length = s.length + 1 := rfl
        have hg1 : g1 < wr.heap.size := World.block_lt_of_cell? wr _ a0
        have hg2 : g2 < wr.heap.size := World.block_lt_of_cell? wr _ b0
        clear F1 F2
        have FQ1 : Hid ((if c = 1 then some (⟨g1, o1, none⟩ : Addr) else some ⟨g1, o1 + 3, none⟩) = fromQ3 (some ⟨g1, o1, none⟩) 1 c) := hide (by unfold fromQ3; split <;> simp [Addr.add])
        have FQ2 : Hid ((if c' = 1 then some (⟨g2, o2, none⟩ : Addr) else some ⟨g2, o2 + 3, none⟩) = fromQ3 (some ⟨g2, o2, none⟩) 1 c') := hide (by unfold fromQ3; split <;> simp [Addr.add])
        have E1 : Hid (p.1 < q0.1 → K ++ trF r (q0 :: s) = TT) := hide (fun h => by rw [← trF_lt _ _ _ _ h]; exact heq)
        have E2 : Hid (q0.1 < p.1 → K ++ trF (p :: r) s = TT) := hide (fun h => by rw [← trF_gt _ _ _ _ h]; exact heq)
        have E3 : Hid (p.1 = q0.1 → (K ++ [(p.1, p.2, q0.2)]) ++ trF r s = TT) := hide (fun h => by rw [List.append_assoc]; rw [trF_eq _ _ _ _ h] at heq; exact heq)
        have G1 := hide x5
        have G2 := hide y5
        have C1 := hide (fun X => one_any (p.1 : Int) X (by omega) (by omega))
        have C2 := hide (fun X => one_any (p.2 : Int) X (by omega) (by omega))
        have C3 := hide (fun X => one_any (q0.2 : Int) X (by omega) (by omega))
        have RM1 : Hid (p.1 < q0.1 → RiseP n b (p.1 + 1) k (q0 :: s)) := hide (fun h => risep_mk (by omega) y2 y3 y4 y5)
        have RL1 : Hid (q0.1 < p.1 → RiseP n a (q0.1 + 1) j (p :: r)) := hide (fun h => risep_mk (by omega) x2 x3 x4 x5)
        clear hrow heq hl hm rl rm hbb cv f1 f2 hbl x1 x2 x3 x4 x5 y1 y2 y3 y4 y5
        have HLN : Hid ((p :: r).length = r.length + 1) := hide hll
        have HMN : Hid ((q0 :: s).length = s.length + 1) := hide hml
        have hlnl : (p :: r).length ≤ c := hlc
        have hmnl : (q0 :: s).length ≤ c' := hmc
        clear hl1 hm1'
        generalize hln : (p :: r).length = ln at *
        generalize hmn : (q0 :: s).length = mn at *
        have HLN2 := hide hln
        have HMN2 := hide hmn
        clear hln hmn hll hml
        go_wp2
        go_region
        · first
            | (have HS := hide (unhide TS).1; generalize (wr.alloc (Obj.cells #[.int .i64 (p.1 : Int), .int .i64 (p.2 : Int), .bool bp] 37)).alloc (Obj.cells #[.int .i64 (q0.1 : Int), .int .i64 (q0.2 : Int), .bool bq] 37) = W at HS ⊢; change Exit.then _ _ _ _ (World.drew W); obtain ⟨B6, hB6⟩ : ∃ B6, B6 = wr.heap.size := ⟨_, rfl⟩; obtain ⟨B7, hB7⟩ : ∃ B7, B7 = wr.heap.size + 1 := ⟨_, rfl⟩; rw [← hB7, ← hB6] at HS ⊢)
            | (have HS := hide (unhide TS).2; generalize (wr.alloc (Obj.cells #[.int .i64 (q0.1 : Int), .int .i64 (q0.2 : Int), .bool bq] 37)).alloc (Obj.cells #[.int .i64 (p.1 : Int), .int .i64 (p.2 : Int), .bool bp] 37) = W at HS ⊢; change Exit.then _ _ _ _ (World.drew W); obtain ⟨B7, hB7⟩ : ∃ B7, B7 = wr.heap.size := ⟨_, rfl⟩; obtain ⟨B6, hB6⟩ : ∃ B6, B6 = wr.heap.size + 1 := ⟨_, rfl⟩; rw [← hB6, ← hB7] at HS ⊢)
          have HB6 : Hid (wr.heap.size ≤ B6) := hide (by omega)
          have HB7 : Hid (wr.heap.size ≤ B7) := hide (by omega)
          clear TS a0 a1 a2 b0 b1 b2 hB6 hB7
          have f1 := (unhide HS).x0
          have f2 := (unhide HS).x1
          have f3 := (unhide HS).y0
          have f4 := (unhide HS).y1
          by_cases h1 : p.1 < q0.1
          · have h1i : (p.1 : Int) < (q0.1 : Int) := by omega
            have X1 := hide (unhide E1 h1)
            have X2 := hide (unhide RM1 h1)
            have HR2 := hide (unhide HS).row
            have HB2 := hide (unhide HS).bl
            clear E1 E2 E3 C1 C2 C3 RM1 RL1
            go_wp2
            go_roundw
            case rel => exact ⟨r, q0 :: s, K, fromQ3 (some ⟨g1, o1, none⟩) 1 c, c - 1, some ⟨g2, o2, none⟩, c', p.1 + 1, p.2 + 1, k, by rw [unhide FQ1, unhide HLN]; rfl, by rw [unhide HMN2], by rw [unhide HLN] at hlnl; omega, by rw [unhide HMN2]; exact hmnl, by omega, hcm', unhide T1, unhide M, unhide G1, unhide X2, unhide HR2, unhide X1, (unhide HB2).drew⟩
            case measure => simp [slen]; rw [unhide HLN]; omega
          · by_cases h2 : q0.1 < p.1
            · have h1i : ¬ (p.1 : Int) < (q0.1 : Int) := by omega
              have h2i : (q0.1 : Int) < (p.1 : Int) := by omega
              have X1 := hide (unhide E2 h2)
              have X2 := hide (unhide RL1 h2)
              have HR2 := hide (unhide HS).row
              have HB2 := hide (unhide HS).bl
              clear E1 E2 E3 C1 C2 C3 RM1 RL1
              go_wp2
              go_roundw
              case rel => exact ⟨p :: r, s, K, some ⟨g1, o1, none⟩, c, fromQ3 (some ⟨g2, o2, none⟩) 1 c', c' - 1, q0.1 + 1, j, q0.2 + 1, by rw [unhide HLN2], by rw [unhide FQ2, unhide HMN]; rfl, by rw [unhide HLN2]; exact hlnl, by rw [unhide HMN] at hmnl; omega, hcm, by omega, unhide P, unhide T2, unhide X2, unhide G2, unhide HR2, unhide X1, (unhide HB2).drew⟩
              case measure => simp [slen]; rw [unhide HMN]; omega
            · have h3 : p.1 = q0.1 := by omega
              have h1i : ¬ (p.1 : Int) < (q0.1 : Int) := by omega
              have h2i : ¬ (q0.1 : Int) < (p.1 : Int) := by omega
              have X1 := hide (unhide E3 h3)
              have H3 := hide h3
              clear E1 E2 E3 RM1 RL1 h3 h1 h2
              have hmapl : (K.map keptT).length ≤ 1000 := by rw [List.length_map]; exact hKl
              have hmaps : Hid ((K ++ [(p.1, p.2, q0.2)]).map keptT = K.map keptT ++ [keptT (p.1, p.2, q0.2)]) := hide (by rw [List.map_append]; rfl)
              have hpq : Hid (keptT (p.1, p.2, q0.2) = (1, (p.1, p.1 + 1), (p.2, p.2 + 1), (q0.2, q0.2 + 1))) := hide rfl
              have G3 : Hid (RiseP n b (p.1 + 1) (q0.2 + 1) s) := hide (by rw [unhide H3]; exact unhide G2)
              have HBS : Hid (∀ k, (Value.slice uq un uc).ownBlock = some k → w.heap.size ≤ k ∧ k < B6 ∧ k < B7) := hide (fun k hk => by have := (unhide HR).lt k hk; have h6 := unhide HB6; have h7 := unhide HB7; omega)
              go_wp2
              clear f1 f2 f3 f4
              have hSa : RdS w B6 B7 p q0 W.drew.drew := (unhide HS).drew.drew.rd
              refine wp_region_held (S := RdS w B6 B7 p q0) (by kernel_rfl) ?_
              change wpAnyH _ _ _ _ _ _ _ _ (World.drew _)
              refine wpAnyH_take (i := 0) (oi := { dst := some 22, op := _, type := _, pos := _, after := _, guard := _ }) (v := ?va0_1) rfl (by kernel_rfl) (by kernel_rfl) (by kernel_rfl) (fun _ _ _ h => h) (Or.inl ⟨by kernel_rfl, ?ha0_1⟩) hSa ?ra0_1
              case ha0_1 => first | (intro w hSw; obtain ⟨s0, s1, s2, s3, s4⟩ := hSw; go_simp; done) | (intro w hSw; obtain ⟨s0, s1, s2, s3, s4⟩ := hSw; go_simp; with_reducible rfl)
              try simp only [Act.put, List.setIfInBounds_toArray, List.set_cons_zero, List.set_cons_succ]
              refine wpAnyH_take (i := 1) (oi := { dst := some 23, op := _, type := _, pos := _, after := _, guard := _ }) (v := ?va1_2) rfl (by kernel_rfl) (by kernel_rfl) (by kernel_rfl) (fun _ _ _ h => h) (Or.inl ⟨by kernel_rfl, ?ha1_2⟩) hSa ?ra1_2
              case ha1_2 => first | (intro w hSw; obtain ⟨s0, s1, s2, s3, s4⟩ := hSw; go_simp; done) | (intro w hSw; obtain ⟨s0, s1, s2, s3, s4⟩ := hSw; go_simp; with_reducible rfl)
              try simp only [Act.put, List.setIfInBounds_toArray, List.set_cons_zero, List.set_cons_succ]
              refine wpAnyH_take (i := 2) (oi := { dst := some 24, op := _, type := _, pos := _, after := _, guard := _ }) (v := ?va2_3) rfl (by kernel_rfl) (by kernel_rfl) (by kernel_rfl) (fun _ _ _ h => h) (Or.inl ⟨by kernel_rfl, ?ha2_3⟩) hSa ?ra2_3
              case ha2_3 => first | (intro w hSw; obtain ⟨s0, s1, s2, s3, s4⟩ := hSw; go_simp; done) | (intro w hSw; obtain ⟨s0, s1, s2, s3, s4⟩ := hSw; go_simp; with_reducible rfl)
              try simp only [Act.put, List.setIfInBounds_toArray, List.set_cons_zero, List.set_cons_succ]
              refine wpAnyH_take (i := 4) (oi := { dst := some 26, op := _, type := _, pos := _, after := _, guard := _ }) (v := ?va4_4) rfl (by kernel_rfl) (by kernel_rfl) (by kernel_rfl) (fun _ _ _ h => h) (Or.inl ⟨by kernel_rfl, ?ha4_4⟩) hSa ?ra4_4
              case ha4_4 => first | (intro w hSw; obtain ⟨s0, s1, s2, s3, s4⟩ := hSw; go_simp; done) | (intro w hSw; obtain ⟨s0, s1, s2, s3, s4⟩ := hSw; go_simp; with_reducible rfl)
              try simp only [Act.put, List.setIfInBounds_toArray, List.set_cons_zero, List.set_cons_succ]
              refine wpAnyH_take (i := 5) (oi := { dst := some 27, op := _, type := _, pos := _, after := _, guard := _ }) (v := ?va5_5) rfl (by kernel_rfl) (by kernel_rfl) (by kernel_rfl) (fun _ _ _ h => h) (Or.inl ⟨by kernel_rfl, ?ha5_5⟩) hSa ?ra5_5
              case ha5_5 => first | (intro w hSw; obtain ⟨s0, s1, s2, s3, s4⟩ := hSw; go_simp; done) | (intro w hSw; obtain ⟨s0, s1, s2, s3, s4⟩ := hSw; go_simp; with_reducible rfl)
              try simp only [Act.put, List.setIfInBounds_toArray, List.set_cons_zero, List.set_cons_succ]
              refine wpAnyH_take (i := 7) (oi := { dst := some 29, op := _, type := _, pos := _, after := _, guard := _ }) (v := ?va7_6) rfl (by kernel_rfl) (by kernel_rfl) (by kernel_rfl) (fun _ _ _ h => h) (Or.inl ⟨by kernel_rfl, ?ha7_6⟩) hSa ?ra7_6
              case ha7_6 => first | (intro w hSw; obtain ⟨s0, s1, s2, s3, s4⟩ := hSw; go_simp; done) | (intro w hSw; obtain ⟨s0, s1, s2, s3, s4⟩ := hSw; go_simp; with_reducible rfl)
              try simp only [Act.put, List.setIfInBounds_toArray, List.set_cons_zero, List.set_cons_succ]
              refine wpAnyH_take (i := 8) (oi := { dst := some 30, op := _, type := _, pos := _, after := _, guard := _ }) (v := ?va8_7) rfl (by kernel_rfl) (by kernel_rfl) (by kernel_rfl) (fun _ _ _ h => h) (Or.inl ⟨by kernel_rfl, ?ha8_7⟩) hSa ?ra8_7
              case ha8_7 => first | (intro w hSw; obtain ⟨s0, s1, s2, s3, s4⟩ := hSw; go_simp; done) | (intro w hSw; obtain ⟨s0, s1, s2, s3, s4⟩ := hSw; go_simp; with_reducible rfl)
              try simp only [Act.put, List.setIfInBounds_toArray, List.set_cons_zero, List.set_cons_succ]
              refine wpAnyH_ready (rs := [3]) (by kernel_rfl) (by simp) ?_
              refine AllReadyH.cons rfl (fun KK hK => ?_) AllReadyH.nil
              go_simp
              refine (unhide C1 _).mono ?_
              rintro e9 z1 ⟨rfl, hb9⟩
              have HT1 := hide ((unhide HS).drew.drew.below hb9)
              have hSa' : RdS w B6 B7 p q0 z1 := (unhide HT1).rd
              clear hb9
              refine hK _ _ hSa' (fun _ => ?_)
              clear hK KK hSa
              have hSa := hSa'
              clear hSa'
              refine wpAnyH_ready (rs := [6]) (by kernel_rfl) (by simp) ?_
              refine AllReadyH.cons rfl (fun KK hK => ?_) AllReadyH.nil
              go_simp
              refine (unhide C2 _).mono ?_
              rintro e9 z2 ⟨rfl, hb9⟩
              have HT2 := hide ((unhide HT1).below hb9)
              have hSa' : RdS w B6 B7 p q0 z2 := (unhide HT2).rd
              clear hb9
              refine hK _ _ hSa' (fun _ => ?_)
              clear hK KK hSa
              have hSa := hSa'
              clear hSa'
              refine wpAnyH_ready (rs := [9]) (by kernel_rfl) (by simp) ?_
              refine AllReadyH.cons rfl (fun KK hK => ?_) AllReadyH.nil
              go_simp
              refine (unhide C3 _).mono ?_
              rintro e9 z3 ⟨rfl, hb9⟩
              have HT3 := hide ((unhide HT2).below hb9)
              have hSa' : RdS w B6 B7 p q0 z3 := (unhide HT3).rd
              clear hb9
              refine hK _ _ hSa' (fun _ => ?_)
              clear hK KK hSa
              have hSa := hSa'
              clear hSa'
              refine wpAnyH_take (i := 10) (oi := { dst := some 32, op := _, type := _, pos := _, after := _, guard := _ }) (v := ?va10_8) rfl (by kernel_rfl) (by kernel_rfl) (by kernel_rfl) (fun _ _ _ h => h) (Or.inl ⟨by kernel_rfl, ?ha10_8⟩) hSa ?ra10_8
              case ha10_8 => first | (intro w hSw; obtain ⟨s0, s1, s2, s3, s4⟩ := hSw; go_simp; done) | (intro w hSw; obtain ⟨s0, s1, s2, s3, s4⟩ := hSw; go_simp; with_reducible rfl)
              try simp only [Act.put, List.setIfInBounds_toArray, List.set_cons_zero, List.set_cons_succ]
              refine wpAnyH_ready (rs := [11]) (by kernel_rfl) (by simp) ?_
              refine AllReadyH.cons rfl (fun KK hK => ?_) AllReadyH.nil
              go_simp
              have HT4 := hide ((unhide HT3).below ((Below.refl z3.heap.size z3).alloc (Nat.le_refl _) (Obj.cells #[.int .i64 1, .int .i64 (p.1 : Int), .int .i64 ((p.1 : Int) + 1), .int .i64 (p.2 : Int), .int .i64 ((p.2 : Int) + 1), .int .i64 (q0.2 : Int), .int .i64 ((q0.2 : Int) + 1)] 99)))
              have hSa' : RdS w B6 B7 p q0 (z3.alloc (Obj.cells #[.int .i64 1, .int .i64 (p.1 : Int), .int .i64 ((p.1 : Int) + 1), .int .i64 (p.2 : Int), .int .i64 ((p.2 : Int) + 1), .int .i64 (q0.2 : Int), .int .i64 ((q0.2 : Int) + 1)] 99)) := (unhide HT4).rd
              refine hK _ _ hSa' (fun _ => ?_)
              clear hK KK hSa
              have hSa := hSa'
              clear hSa'
              refine wpAnyH_ready (rs := [12]) (by kernel_rfl) (by simp) ?_
              refine AllReadyH.cons rfl (fun KK hK => ?_) AllReadyH.nil
              obtain ⟨w4, v4, hr, hown, hgr⟩ : ∃ w4 v4, (Builtin.append_ #[52, 52] 52 #[.slice uq un uc, .slice (some ⟨z3.heap.size, 0, none⟩) 1 1]).run Tryd.prog (z3.alloc (Obj.cells #[.int .i64 1, .int .i64 (p.1 : Int), .int .i64 ((p.1 : Int) + 1), .int .i64 (p.2 : Int), .int .i64 ((p.2 : Int) + 1), .int .i64 (q0.2 : Int), .int .i64 ((q0.2 : Int) + 1)] 99)) = .ok v4 w4 ∧ w4.ownsRow w.heap.size 99 7 v4 ((K.map keptT).length + 1) (flat7 ptL (K.map keptT) ++ [.int .i64 1, .int .i64 (p.1 : Int), .int .i64 ((p.1 : Int) + 1), .int .i64 (p.2 : Int), .int .i64 ((p.2 : Int) + 1), .int .i64 (q0.2 : Int), .int .i64 ((q0.2 : Int) + 1)]) ∧ (z3.alloc (Obj.cells #[.int .i64 1, .int .i64 (p.1 : Int), .int .i64 ((p.1 : Int) + 1), .int .i64 (p.2 : Int), .int .i64 ((p.2 : Int) + 1), .int .i64 (q0.2 : Int), .int .i64 ((q0.2 : Int) + 1)] 99)).grownBy w4 (Value.slice uq un uc).ownBlock := by
                obtain ⟨v4, w4, h1, h2, h3, _⟩ := run_append_own (P := Tryd.prog) (z3.alloc (Obj.cells #[.int .i64 1, .int .i64 (p.1 : Int), .int .i64 ((p.1 : Int) + 1), .int .i64 (p.2 : Int), .int .i64 ((p.2 : Int) + 1), .int .i64 (q0.2 : Int), .int .i64 ((q0.2 : Int) + 1)] 99)) w.heap.size 52 52 99 i0 (.agg #[.int .i64 0, .int .i64 0, .int .i64 0, .int .i64 0, .int .i64 0, .int .i64 0, .int .i64 0]) 7 56 Tryd.underlying52 hi0 hi1 hi2 hi3 rfl (by decide) (.slice uq un uc) (K.map keptT).length (flat7 ptL (K.map keptT)) (unhide HT4).row ⟨z3.heap.size, 0, none⟩ 1 1 [.int .i64 1, .int .i64 (p.1 : Int), .int .i64 ((p.1 : Int) + 1), .int .i64 (p.2 : Int), .int .i64 ((p.2 : Int) + 1), .int .i64 (q0.2 : Int), .int .i64 ((q0.2 : Int) + 1)] rfl (cell_seven_new _ _ _ _ _ _ _ _ _) (fun u hu => by simp at hu; rcases hu with rfl | rfl | rfl | rfl | rfl | rfl | rfl <;> rfl) (by unfold maxLen; omega) (by omega) (by have := (unhide HT3).bl.size; simp; omega)
                exact ⟨w4, v4, h1, h2, h3⟩
              refine step_append_run2 (o := { dst := some 34, op := _, type := _, pos := _, after := _, guard := _ }) rfl (.tmp 22) (.tmp 33) 52 52 rfl (.slice uq un uc) (.slice (some ⟨z3.heap.size, 0, none⟩) 1 1) (by simp [Act.eval, Act.put]) (by simp [Act.eval, Act.put]) hr ?_
              simp only [Act.put, List.setIfInBounds_toArray, List.set_cons_zero, List.set_cons_succ]
              have hSa' : RdS w B6 B7 p q0 w4 := (unhide HT4).rd.grown hgr (unhide HBS)
              have HO : Hid (PartsV w4 w.heap.size v4 ((K ++ [(p.1, p.2, q0.2)]).map keptT)) := hide (by rw [unhide hmaps]; exact parts_snoc hown)
              have HB4 := hide hSa'.1
              clear hr hown hgr
              refine hK _ _ hSa' (fun _ => ?_)
              clear hK KK hSa
              have hSa := hSa'
              clear hSa'
              refine wpAnyH_take (i := 13) (oi := { dst := some 5, op := _, type := _, pos := _, after := _, guard := _ }) (v := ?va13_9) rfl (by kernel_rfl) (by kernel_rfl) (by kernel_rfl) (fun _ _ _ h => h) (Or.inl ⟨by kernel_rfl, ?ha13_9⟩) hSa ?ra13_9
              case ha13_9 => first | (intro w hSw; obtain ⟨s0, s1, s2, s3, s4⟩ := hSw; go_simp; done) | (intro w hSw; obtain ⟨s0, s1, s2, s3, s4⟩ := hSw; go_simp; with_reducible rfl)
              try simp only [Act.put, List.setIfInBounds_toArray, List.set_cons_zero, List.set_cons_succ]
              refine wpAnyH_done (by kernel_rfl) ?_ _
              clear hSa HT1 HT2 HT3 HT4 C1 C2 C3
              try simp only [Act.put, List.setIfInBounds_toArray, List.set_cons_zero, List.set_cons_succ]
              go_wp2
              go_quiet (fail)
              go_wp2
              go_roundw
              case rel => exact ⟨r, s, K ++ [(p.1, p.2, q0.2)], fromQ3 (some ⟨g1, o1, none⟩) 1 c, c - 1, fromQ3 (some ⟨g2, o2, none⟩) 1 c', c' - 1, p.1 + 1, p.2 + 1, q0.2 + 1, by rw [unhide FQ1, unhide HLN]; rfl, by rw [unhide FQ2, unhide HMN]; rfl, by rw [unhide HLN] at hlnl; omega, by rw [unhide HMN] at hmnl; omega, by omega, by omega, unhide T1, unhide T2, unhide G1, unhide G3, unhide HO, unhide X1, _root_.Go.below_drewN (unhide HB4) _⟩
              case measure => simp [slen]; rw [unhide HLN, unhide HMN]; omega
        · first
            | (have HS := hide (unhide TS).1; generalize (wr.alloc (Obj.cells #[.int .i64 (p.1 : Int), .int .i64 (p.2 : Int), .bool bp] 37)).alloc (Obj.cells #[.int .i64 (q0.1 : Int), .int .i64 (q0.2 : Int), .bool bq] 37) = W at HS ⊢; change Exit.then _ _ _ _ (World.drew W); obtain ⟨B6, hB6⟩ : ∃ B6, B6 = wr.heap.size := ⟨_, rfl⟩; obtain ⟨B7, hB7⟩ : ∃ B7, B7 = wr.heap.size + 1 := ⟨_, rfl⟩; rw [← hB7, ← hB6] at HS ⊢)
            | (have HS := hide (unhide TS).2; generalize (wr.alloc (Obj.cells #[.int .i64 (q0.1 : Int), .int .i64 (q0.2 : Int), .bool bq] 37)).alloc (Obj.cells #[.int .i64 (p.1 : Int), .int .i64 (p.2 : Int), .bool bp] 37) = W at HS ⊢; change Exit.then _ _ _ _ (World.drew W); obtain ⟨B7, hB7⟩ : ∃ B7, B7 = wr.heap.size := ⟨_, rfl⟩; obtain ⟨B6, hB6⟩ : ∃ B6, B6 = wr.heap.size + 1 := ⟨_, rfl⟩; rw [← hB6, ← hB7] at HS ⊢)
          have HB6 : Hid (wr.heap.size ≤ B6) := hide (by omega)
          have HB7 : Hid (wr.heap.size ≤ B7) := hide (by omega)
          clear TS a0 a1 a2 b0 b1 b2 hB6 hB7
          have f1 := (unhide HS).x0
          have f2 := (unhide HS).x1
          have f3 := (unhide HS).y0
          have f4 := (unhide HS).y1
          by_cases h1 : p.1 < q0.1
          · have h1i : (p.1 : Int) < (q0.1 : Int) := by omega
            have X1 := hide (unhide E1 h1)
            have X2 := hide (unhide RM1 h1)
            have HR2 := hide (unhide HS).row
            have HB2 := hide (unhide HS).bl
            clear E1 E2 E3 C1 C2 C3 RM1 RL1
            go_wp2
            go_roundw
            case rel => exact ⟨r, q0 :: s, K, fromQ3 (some ⟨g1, o1, none⟩) 1 c, c - 1, some ⟨g2, o2, none⟩, c', p.1 + 1, p.2 + 1, k, by rw [unhide FQ1, unhide HLN]; rfl, by rw [unhide HMN2], by rw [unhide HLN] at hlnl; omega, by rw [unhide HMN2]; exact hmnl, by omega, hcm', unhide T1, unhide M, unhide G1, unhide X2, unhide HR2, unhide X1, (unhide HB2).drew⟩
            case measure => simp [slen]; rw [unhide HLN]; omega
          · by_cases h2 : q0.1 < p.1
            · have h1i : ¬ (p.1 : Int) < (q0.1 : Int) := by omega
              have h2i : (q0.1 : Int) < (p.1 : Int) := by omega
              have X1 := hide (unhide E2 h2)
              have X2 := hide (unhide RL1 h2)
              have HR2 := hide (unhide HS).row
              have HB2 := hide (unhide HS).bl
              clear E1 E2 E3 C1 C2 C3 RM1 RL1
              go_wp2
              go_roundw
              case rel => exact ⟨p :: r, s, K, some ⟨g1, o1, none⟩, c, fromQ3 (some ⟨g2, o2, none⟩) 1 c', c' - 1, q0.1 + 1, j, q0.2 + 1, by rw [unhide HLN2], by rw [unhide FQ2, unhide HMN]; rfl, by rw [unhide HLN2]; exact hlnl, by rw [unhide HMN] at hmnl; omega, hcm, by omega, unhide P, unhide T2, unhide X2, unhide G2, unhide HR2, unhide X1, (unhide HB2).drew⟩
              case measure => simp [slen]; rw [unhide HMN]; omega
            · have h3 : p.1 = q0.1 := by omega
              have h1i : ¬ (p.1 : Int) < (q0.1 : Int) := by omega
              have h2i : ¬ (q0.1 : Int) < (p.1 : Int) := by omega
              have X1 := hide (unhide E3 h3)
              have H3 := hide h3
              clear E1 E2 E3 RM1 RL1 h3 h1 h2
              have hmapl : (K.map keptT).length ≤ 1000 := by rw [List.length_map]; exact hKl
              have hmaps : Hid ((K ++ [(p.1, p.2, q0.2)]).map keptT = K.map keptT ++ [keptT (p.1, p.2, q0.2)]) := hide (by rw [List.map_append]; rfl)
              have hpq : Hid (keptT (p.1, p.2, q0.2) = (1, (p.1, p.1 + 1), (p.2, p.2 + 1), (q0.2, q0.2 + 1))) := hide rfl
              have G3 : Hid (RiseP n b (p.1 + 1) (q0.2 + 1) s) := hide (by rw [unhide H3]; exact unhide G2)
              have HBS : Hid (∀ k, (Value.slice uq un uc).ownBlock = some k → w.heap.size ≤ k ∧ k < B6 ∧ k < B7) := hide (fun k hk => by have := (unhide HR).lt k hk; have h6 := unhide HB6; have h7 := unhide HB7; omega)
              go_wp2
              clear f1 f2 f3 f4
              have hSa : RdS w B6 B7 p q0 W.drew.drew := (unhide HS).drew.drew.rd
              refine wp_region_held (S := RdS w B6 B7 p q0) (by kernel_rfl) ?_
              change wpAnyH _ _ _ _ _ _ _ _ (World.drew _)
              refine wpAnyH_take (i := 0) (oi := { dst := some 22, op := _, type := _, pos := _, after := _, guard := _ }) (v := ?va0_10) rfl (by kernel_rfl) (by kernel_rfl) (by kernel_rfl) (fun _ _ _ h => h) (Or.inl ⟨by kernel_rfl, ?ha0_10⟩) hSa ?ra0_10
              case ha0_10 => first | (intro w hSw; obtain ⟨s0, s1, s2, s3, s4⟩ := hSw; go_simp; done) | (intro w hSw; obtain ⟨s0, s1, s2, s3, s4⟩ := hSw; go_simp; with_reducible rfl)
              try simp only [Act.put, List.setIfInBounds_toArray, List.set_cons_zero, List.set_cons_succ]
              refine wpAnyH_take (i := 1) (oi := { dst := some 23, op := _, type := _, pos := _, after := _, guard := _ }) (v := ?va1_11) rfl (by kernel_rfl) (by kernel_rfl) (by kernel_rfl) (fun _ _ _ h => h) (Or.inl ⟨by kernel_rfl, ?ha1_11⟩) hSa ?ra1_11
              case ha1_11 => first | (intro w hSw; obtain ⟨s0, s1, s2, s3, s4⟩ := hSw; go_simp; done) | (intro w hSw; obtain ⟨s0, s1, s2, s3, s4⟩ := hSw; go_simp; with_reducible rfl)
              try simp only [Act.put, List.setIfInBounds_toArray, List.set_cons_zero, List.set_cons_succ]
              refine wpAnyH_take (i := 2) (oi := { dst := some 24, op := _, type := _, pos := _, after := _, guard := _ }) (v := ?va2_12) rfl (by kernel_rfl) (by kernel_rfl) (by kernel_rfl) (fun _ _ _ h => h) (Or.inl ⟨by kernel_rfl, ?ha2_12⟩) hSa ?ra2_12
              case ha2_12 => first | (intro w hSw; obtain ⟨s0, s1, s2, s3, s4⟩ := hSw; go_simp; done) | (intro w hSw; obtain ⟨s0, s1, s2, s3, s4⟩ := hSw; go_simp; with_reducible rfl)
              try simp only [Act.put, List.setIfInBounds_toArray, List.set_cons_zero, List.set_cons_succ]
              refine wpAnyH_take (i := 4) (oi := { dst := some 26, op := _, type := _, pos := _, after := _, guard := _ }) (v := ?va4_13) rfl (by kernel_rfl) (by kernel_rfl) (by kernel_rfl) (fun _ _ _ h => h) (Or.inl ⟨by kernel_rfl, ?ha4_13⟩) hSa ?ra4_13
              case ha4_13 => first | (intro w hSw; obtain ⟨s0, s1, s2, s3, s4⟩ := hSw; go_simp; done) | (intro w hSw; obtain ⟨s0, s1, s2, s3, s4⟩ := hSw; go_simp; with_reducible rfl)
              try simp only [Act.put, List.setIfInBounds_toArray, List.set_cons_zero, List.set_cons_succ]
              refine wpAnyH_take (i := 5) (oi := { dst := some 27, op := _, type := _, pos := _, after := _, guard := _ }) (v := ?va5_14) rfl (by kernel_rfl) (by kernel_rfl) (by kernel_rfl) (fun _ _ _ h => h) (Or.inl ⟨by kernel_rfl, ?ha5_14⟩) hSa ?ra5_14
              case ha5_14 => first | (intro w hSw; obtain ⟨s0, s1, s2, s3, s4⟩ := hSw; go_simp; done) | (intro w hSw; obtain ⟨s0, s1, s2, s3, s4⟩ := hSw; go_simp; with_reducible rfl)
              try simp only [Act.put, List.setIfInBounds_toArray, List.set_cons_zero, List.set_cons_succ]
              refine wpAnyH_take (i := 7) (oi := { dst := some 29, op := _, type := _, pos := _, after := _, guard := _ }) (v := ?va7_15) rfl (by kernel_rfl) (by kernel_rfl) (by kernel_rfl) (fun _ _ _ h => h) (Or.inl ⟨by kernel_rfl, ?ha7_15⟩) hSa ?ra7_15
              case ha7_15 => first | (intro w hSw; obtain ⟨s0, s1, s2, s3, s4⟩ := hSw; go_simp; done) | (intro w hSw; obtain ⟨s0, s1, s2, s3, s4⟩ := hSw; go_simp; with_reducible rfl)
              try simp only [Act.put, List.setIfInBounds_toArray, List.set_cons_zero, List.set_cons_succ]
              refine wpAnyH_take (i := 8) (oi := { dst := some 30, op := _, type := _, pos := _, after := _, guard := _ }) (v := ?va8_16) rfl (by kernel_rfl) (by kernel_rfl) (by kernel_rfl) (fun _ _ _ h => h) (Or.inl ⟨by kernel_rfl, ?ha8_16⟩) hSa ?ra8_16
              case ha8_16 => first | (intro w hSw; obtain ⟨s0, s1, s2, s3, s4⟩ := hSw; go_simp; done) | (intro w hSw; obtain ⟨s0, s1, s2, s3, s4⟩ := hSw; go_simp; with_reducible rfl)
              try simp only [Act.put, List.setIfInBounds_toArray, List.set_cons_zero, List.set_cons_succ]
              refine wpAnyH_ready (rs := [3]) (by kernel_rfl) (by simp) ?_
              refine AllReadyH.cons rfl (fun KK hK => ?_) AllReadyH.nil
              go_simp
              refine (unhide C1 _).mono ?_
              rintro e9 z1 ⟨rfl, hb9⟩
              have HT1 := hide ((unhide HS).drew.drew.below hb9)
              have hSa' : RdS w B6 B7 p q0 z1 := (unhide HT1).rd
              clear hb9
              refine hK _ _ hSa' (fun _ => ?_)
              clear hK KK hSa
              have hSa := hSa'
              clear hSa'
              refine wpAnyH_ready (rs := [6]) (by kernel_rfl) (by simp) ?_
              refine AllReadyH.cons rfl (fun KK hK => ?_) AllReadyH.nil
              go_simp
              refine (unhide C2 _).mono ?_
              rintro e9 z2 ⟨rfl, hb9⟩
              have HT2 := hide ((unhide HT1).below hb9)
              have hSa' : RdS w B6 B7 p q0 z2 := (unhide HT2).rd
              clear hb9
              refine hK _ _ hSa' (fun _ => ?_)
              clear hK KK hSa
              have hSa := hSa'
              clear hSa'
              refine wpAnyH_ready (rs := [9]) (by kernel_rfl) (by simp) ?_
              refine AllReadyH.cons rfl (fun KK hK => ?_) AllReadyH.nil
              go_simp
              refine (unhide C3 _).mono ?_
              rintro e9 z3 ⟨rfl, hb9⟩
              have HT3 := hide ((unhide HT2).below hb9)
              have hSa' : RdS w B6 B7 p q0 z3 := (unhide HT3).rd
              clear hb9
              refine hK _ _ hSa' (fun _ => ?_)
              clear hK KK hSa
              have hSa := hSa'
              clear hSa'
              refine wpAnyH_take (i := 10) (oi := { dst := some 32, op := _, type := _, pos := _, after := _, guard := _ }) (v := ?va10_17) rfl (by kernel_rfl) (by kernel_rfl) (by kernel_rfl) (fun _ _ _ h => h) (Or.inl ⟨by kernel_rfl, ?ha10_17⟩) hSa ?ra10_17
              case ha10_17 => first | (intro w hSw; obtain ⟨s0, s1, s2, s3, s4⟩ := hSw; go_simp; done) | (intro w hSw; obtain ⟨s0, s1, s2, s3, s4⟩ := hSw; go_simp; with_reducible rfl)
              try simp only [Act.put, List.setIfInBounds_toArray, List.set_cons_zero, List.set_cons_succ]
              refine wpAnyH_ready (rs := [11]) (by kernel_rfl) (by simp) ?_
              refine AllReadyH.cons rfl (fun KK hK => ?_) AllReadyH.nil
              go_simp
              have HT4 := hide ((unhide HT3).below ((Below.refl z3.heap.size z3).alloc (Nat.le_refl _) (Obj.cells #[.int .i64 1, .int .i64 (p.1 : Int), .int .i64 ((p.1 : Int) + 1), .int .i64 (p.2 : Int), .int .i64 ((p.2 : Int) + 1), .int .i64 (q0.2 : Int), .int .i64 ((q0.2 : Int) + 1)] 99)))
              have hSa' : RdS w B6 B7 p q0 (z3.alloc (Obj.cells #[.int .i64 1, .int .i64 (p.1 : Int), .int .i64 ((p.1 : Int) + 1), .int .i64 (p.2 : Int), .int .i64 ((p.2 : Int) + 1), .int .i64 (q0.2 : Int), .int .i64 ((q0.2 : Int) + 1)] 99)) := (unhide HT4).rd
              refine hK _ _ hSa' (fun _ => ?_)
              clear hK KK hSa
              have hSa := hSa'
              clear hSa'
              refine wpAnyH_ready (rs := [12]) (by kernel_rfl) (by simp) ?_
              refine AllReadyH.cons rfl (fun KK hK => ?_) AllReadyH.nil
              obtain ⟨w4, v4, hr, hown, hgr⟩ : ∃ w4 v4, (Builtin.append_ #[52, 52] 52 #[.slice uq un uc, .slice (some ⟨z3.heap.size, 0, none⟩) 1 1]).run Tryd.prog (z3.alloc (Obj.cells #[.int .i64 1, .int .i64 (p.1 : Int), .int .i64 ((p.1 : Int) + 1), .int .i64 (p.2 : Int), .int .i64 ((p.2 : Int) + 1), .int .i64 (q0.2 : Int), .int .i64 ((q0.2 : Int) + 1)] 99)) = .ok v4 w4 ∧ w4.ownsRow w.heap.size 99 7 v4 ((K.map keptT).length + 1) (flat7 ptL (K.map keptT) ++ [.int .i64 1, .int .i64 (p.1 : Int), .int .i64 ((p.1 : Int) + 1), .int .i64 (p.2 : Int), .int .i64 ((p.2 : Int) + 1), .int .i64 (q0.2 : Int), .int .i64 ((q0.2 : Int) + 1)]) ∧ (z3.alloc (Obj.cells #[.int .i64 1, .int .i64 (p.1 : Int), .int .i64 ((p.1 : Int) + 1), .int .i64 (p.2 : Int), .int .i64 ((p.2 : Int) + 1), .int .i64 (q0.2 : Int), .int .i64 ((q0.2 : Int) + 1)] 99)).grownBy w4 (Value.slice uq un uc).ownBlock := by
                obtain ⟨v4, w4, h1, h2, h3, _⟩ := run_append_own (P := Tryd.prog) (z3.alloc (Obj.cells #[.int .i64 1, .int .i64 (p.1 : Int), .int .i64 ((p.1 : Int) + 1), .int .i64 (p.2 : Int), .int .i64 ((p.2 : Int) + 1), .int .i64 (q0.2 : Int), .int .i64 ((q0.2 : Int) + 1)] 99)) w.heap.size 52 52 99 i0 (.agg #[.int .i64 0, .int .i64 0, .int .i64 0, .int .i64 0, .int .i64 0, .int .i64 0, .int .i64 0]) 7 56 Tryd.underlying52 hi0 hi1 hi2 hi3 rfl (by decide) (.slice uq un uc) (K.map keptT).length (flat7 ptL (K.map keptT)) (unhide HT4).row ⟨z3.heap.size, 0, none⟩ 1 1 [.int .i64 1, .int .i64 (p.1 : Int), .int .i64 ((p.1 : Int) + 1), .int .i64 (p.2 : Int), .int .i64 ((p.2 : Int) + 1), .int .i64 (q0.2 : Int), .int .i64 ((q0.2 : Int) + 1)] rfl (cell_seven_new _ _ _ _ _ _ _ _ _) (fun u hu => by simp at hu; rcases hu with rfl | rfl | rfl | rfl | rfl | rfl | rfl <;> rfl) (by unfold maxLen; omega) (by omega) (by have := (unhide HT3).bl.size; simp; omega)
                exact ⟨w4, v4, h1, h2, h3⟩
              refine step_append_run2 (o := { dst := some 34, op := _, type := _, pos := _, after := _, guard := _ }) rfl (.tmp 22) (.tmp 33) 52 52 rfl (.slice uq un uc) (.slice (some ⟨z3.heap.size, 0, none⟩) 1 1) (by simp [Act.eval, Act.put]) (by simp [Act.eval, Act.put]) hr ?_
              simp only [Act.put, List.setIfInBounds_toArray, List.set_cons_zero, List.set_cons_succ]
              have hSa' : RdS w B6 B7 p q0 w4 := (unhide HT4).rd.grown hgr (unhide HBS)
              have HO : Hid (PartsV w4 w.heap.size v4 ((K ++ [(p.1, p.2, q0.2)]).map keptT)) := hide (by rw [unhide hmaps]; exact parts_snoc hown)
              have HB4 := hide hSa'.1
              clear hr hown hgr
              refine hK _ _ hSa' (fun _ => ?_)
              clear hK KK hSa
              have hSa := hSa'
              clear hSa'
              refine wpAnyH_take (i := 13) (oi := { dst := some 5, op := _, type := _, pos := _, after := _, guard := _ }) (v := ?va13_18) rfl (by kernel_rfl) (by kernel_rfl) (by kernel_rfl) (fun _ _ _ h => h) (Or.inl ⟨by kernel_rfl, ?ha13_18⟩) hSa ?ra13_18
              case ha13_18 => first | (intro w hSw; obtain ⟨s0, s1, s2, s3, s4⟩ := hSw; go_simp; done) | (intro w hSw; obtain ⟨s0, s1, s2, s3, s4⟩ := hSw; go_simp; with_reducible rfl)
              try simp only [Act.put, List.setIfInBounds_toArray, List.set_cons_zero, List.set_cons_succ]
              refine wpAnyH_done (by kernel_rfl) ?_ _
              clear hSa HT1 HT2 HT3 HT4 C1 C2 C3
              try simp only [Act.put, List.setIfInBounds_toArray, List.set_cons_zero, List.set_cons_succ]
              go_wp2
              go_quiet (fail)
              go_wp2
              go_roundw
              case rel => exact ⟨r, s, K ++ [(p.1, p.2, q0.2)], fromQ3 (some ⟨g1, o1, none⟩) 1 c, c - 1, fromQ3 (some ⟨g2, o2, none⟩) 1 c', c' - 1, p.1 + 1, p.2 + 1, q0.2 + 1, by rw [unhide FQ1, unhide HLN]; rfl, by rw [unhide FQ2, unhide HMN]; rfl, by rw [unhide HLN] at hlnl; omega, by rw [unhide HMN] at hmnl; omega, by omega, by omega, unhide T1, unhide T2, unhide G1, unhide G3, unhide HO, unhide X1, _root_.Go.below_drewN (unhide HB4) _⟩
              case measure => simp [slen]; rw [unhide HLN, unhide HMN]; omega
end Go.Proofs.YtbabmkilbbbmoaaDoor
