/-
  Several texts in one: what the functions of the program and of the document's answer do.
-/
import Derived.Test.YtbabmkilbbbmoaaDoorMRb
import Derived.Test.YtbabmkilbbbmoaaDoorMgAF
import Derived.Test.YtbabmkilbbbmoaaDoorZSu
import Derived.ChangeKeysEq
import Derived.Test.YtbabmkilbbbmoaaDoorZTr

/-
  What the reference's Line of layer 20 does.
-/
namespace Go.Proofs.YtbabmkilbbbmoaaDoor
open Go.RowKit Go.Maps
set_option linter.unusedVariables false
set_option linter.unusedSimpArgs false

theorem infoRPair0 : (Tryd.prog.info? 63).map (fun i => (i.zero, i.size, i.bytes)) = some (some (.agg #[.int .i64 0, .int .i64 0, .bool false]), 3, 24) := by kernel_rfl
theorem infoRPair : ∃ i, Tryd.prog.info? 63 = some i ∧ i.zero = some (.agg #[.int .i64 0, .int .i64 0, .bool false]) ∧ i.size = 3 ∧ i.bytes = 24 := by
  have h := infoRPair0
  cases hi : Tryd.prog.info? 63 with
  | none => rw [hi] at h; cases h
  | some i =>
    rw [hi] at h
    simp only [Option.map_some, Option.some.injEq, Prod.mk.injEq] at h
    exact ⟨i, rfl, h.1, h.2.1, h.2.2⟩
def RPairsV (w : World) (base : Nat) (u : Value) (L : List (Int × Int × Bool)) : Prop := w.ownsRow base 63 3 u L.length (flatP L)
theorem whP_snoc (L : List (Nat × Nat)) (i j : Nat) : whP (L ++ [(i, j)]) = whP L ++ [((i : Int), (j : Int), true)] := by unfold whP; rw [List.map_append]; rfl
theorem ln_len (E : Nat → Nat → Bool) (n m i j : Nat) (L : List (Nat × Nat)) (h : L ++ lnP E n m i j = lnP E n m 0 0) : L.length ≤ n := by
  have h1 := congrArg List.length h
  have h2 := lnP_small E n m 0 0
  rw [List.length_append] at h1
  omega
def RLineSaid (ss tt : List ByteArray) (w : World) (e : Ending) (w' : World) : Prop := ∃ u, e = .returned u ∧ RPairsV w' w.heap.size u (whP (lnP (eqT ss tt) ss.length tt.length 0 0)) ∧ Below w.heap.size w w'

set_option maxHeartbeats 4000000 in
set_option maxRecDepth 100000 in
theorem rline_any (va vb : Value) (ss tt : List ByteArray) (w : World) (ha : View w va ss) (hb : View w vb tt) (hn : ss.length ≤ 1000) (hm : tt.length ≤ 1000) :
    Calls Tryd.prog 67 #[va, vb] w (RLineSaid ss tt w) := by
  have CB := hide (best_any va vb ss tt w ha hb hn hm)
  obtain ⟨i0, hi0, hi1, hi2, hi3⟩ := infoRPair
  have HVA := hide ha
  have HVB := hide hb
  obtain ⟨a1, c1, rfl⟩ := view_slice ha
  obtain ⟨a2, c2, rfl⟩ := view_slice hb
  unfold RLineSaid
  clear ha hb
  go_enter Tryd.func67, Tryd.ntmps67
  go_wp2_with fail
  refine (unhide CB).mono ?_
  rintro e w1 ⟨u1, rfl, hrs, hb1⟩
  have HRS := hide hrs
  have HB1 := hide hb1
  have hz1 := hb1.size
  obtain ⟨ug, uo, uc, rfl, huc, _⟩ := hrs
  clear CB hb1
  go_wp2
  go_loopw [7, 8, 6] (fun iv jv u wr => ∃ i j L, i ≤ ss.length ∧ j ≤ tt.length ∧ iv = .int .i64 (i : Int) ∧ jv = .int .i64 (j : Int) ∧ RPairsV wr w1.heap.size u (whP L) ∧ L ++ lnP (eqT ss tt) ss.length tt.length i j = lnP (eqT ss tt) ss.length tt.length 0 0 ∧ Below w1.heap.size w1 wr) (fun iv jv _ _ => (ss.length - (intOf iv).toNat) + (tt.length - (intOf jv).toNat))
  case atStart => exact ⟨0, 0, [], Nat.zero_le _, Nat.zero_le _, rfl, rfl, World.ownsRow_nil _ _ _ _, rfl, Below.refl _ _⟩
  case round =>
    obtain ⟨i, j, L, hin, hjm, rfl, rfl, hrow, heq, hbx⟩ := hrel
    have HR := hide hrow
    have HEQ := hide heq
    have HBX := hide hbx
    have hxz := hbx.size
    have hll := ln_len _ _ _ _ _ _ heq
    have hBW : Below w.heap.size w wr := (unhide HB1).trans (hbx.mono hz1)
    obtain ⟨xq, xn, xc, hu⟩ := slice_of hrow
    subst hu
    by_cases hcc : i < ss.length ∧ j < tt.length
    · obtain ⟨h1, h2⟩ := hcc
      have h1i : (i : Int) < (ss.length : Int) := by omega
      have h2i : (j : Int) < (tt.length : Int) := by omega
      obtain ⟨ba, oba, hqa, cS⟩ := view_atR (unhide HVA) hBW i h1
      obtain ⟨bb, obb, hqb, cT⟩ := view_atR (unhide HVB) hBW j h2
      subst hqa
      subst hqb
      have hE0 : Hid (eqT ss tt i j = decide ((tx ss i).data.toList = (tx tt j).data.toList)) := hide rfl
      by_cases e1 : tx ss i = tx tt j
      · have hE : eqT ss tt i j = true := by rw [unhide hE0, e1]; simp
        have HEQ2 : Hid ((L ++ [(i, j)]) ++ lnP (eqT ss tt) ss.length tt.length (i + 1) (j + 1) = lnP (eqT ss tt) ss.length tt.length 0 0) := hide (by rw [← heq, lnP_yes _ _ _ _ _ h1 h2 hE, List.append_assoc]; rfl)
        have hwl : (whP L).length ≤ 1000 := by unfold whP; rw [List.length_map]; omega
        rw [e1] at cS
        generalize tx tt j = s2 at *
        unfold RPairsV at HR
        clear hE hE0 e1 heq hrow hbx hBW HEQ
        go_wp2
        go_region
        go_wp2_with (at_builtin; refine wpList_append_own_at _ rfl _ _ 28 rfl w1.heap.size 63 i0 (.agg #[.int .i64 0, .int .i64 0, .bool false]) 3 24 Tryd.underlying28 hi0 hi1 hi2 hi3 rfl (by decide) (.slice xq xn xc) _ _ rfl ((unhide HR).alloc _) ⟨wr.heap.size, 0, none⟩ 1 1 [.int .i64 (i : Int), .int .i64 (j : Int), .bool true] rfl rfl (cell_three_new _ _ _ _ _) (by simp [Value.oneCell']) (by simp only [maxLen]; omega) (by omega) (by simp; omega) ?_)
        intro u' w3 hown hgr _ _
        have hrb : ∀ q, some q = (Value.slice xq xn xc).ownBlock → w1.heap.size ≤ q := fun q hq => ((unhide HR).lt q hq.symm).1
        have HO : Hid (RPairsV w3 w1.heap.size u' (whP (L ++ [(i, j)]))) := hide (by unfold RPairsV; rw [whP_snoc, List.length_append, flatP_app]; exact hown)
        have HB3 : Hid (Below w1.heap.size w1 w3) := hide ((((unhide HBX).drew.alloc (by show w1.heap.size ≤ wr.heap.size; omega) _).grown hgr (by simp; omega) (fun q hq => hrb q hq.symm)))
        clear hown hgr
        go_wp2
        go_roundw
        case rel => exact ⟨i + 1, j + 1, _, by omega, by omega, by go_num, by go_num, unhide HO, unhide HEQ2, unhide HB3⟩
        case measure => simp [intOf]; omega
      · have e1b : ((tx ss i).toList == (tx tt j).toList) = false := beq_no e1
        have hE : eqT ss tt i j = false := by rw [unhide hE0, decide_eq_false (fun x => e1 (by cases h1 : tx ss i; cases h2 : tx tt j; rw [h1, h2] at x; simpa using x))]
        obtain ⟨ug', uo', uc', hue, _, hrows⟩ := (unhide HRS).below hbx
        cases hue
        obtain ⟨q1, d1, m1, g1, o1, rfl, f1⟩ := hrows (i + 1) (by omega)
        obtain ⟨q2, d2, m2, g2, o2, rfl, f2⟩ := hrows i (by omega)
        have x1 : wr.cell? ⟨g1, o1 + j, none⟩ = some (.int .i64 (lcI ss tt (i + 1) j)) := f1 j (by omega)
        have x2 : wr.cell? ⟨g2, o2 + (j + 1), none⟩ = some (.int .i64 (lcI ss tt i (j + 1))) := f2 (j + 1) (by omega)
        have GA : Hid (lcI ss tt i (j + 1) ≤ lcI ss tt (i + 1) j → L ++ lnP (eqT ss tt) ss.length tt.length (i + 1) j = lnP (eqT ss tt) ss.length tt.length 0 0) := hide (fun hg => by rw [← lnP_a _ _ _ _ _ h1 h2 hE (by unfold lcI at hg; omega)]; exact heq)
        have GB : Hid (¬ lcI ss tt i (j + 1) ≤ lcI ss tt (i + 1) j → L ++ lnP (eqT ss tt) ss.length tt.length i (j + 1) = lnP (eqT ss tt) ss.length tt.length 0 0) := hide (fun hg => by rw [← lnP_b _ _ _ _ _ h1 h2 hE (by unfold lcI at hg; omega)]; exact heq)
        generalize lcI ss tt i (j + 1) = A01 at *
        generalize lcI ss tt (i + 1) j = A10 at *
        generalize tx ss i = s1 at *
        generalize tx tt j = s2 at *
        clear hE hE0 e1 heq hrow hbx hBW HEQ hrows f1 f2
        by_cases hg : A01 ≤ A10
        · have HF := hide (unhide GA hg)
          clear GA GB
          go_wp2
          go_region
          go_wp2
          go_region
          go_wp2
          go_roundw
          case rel => exact ⟨i + 1, j, L, by omega, by omega, by go_num, rfl, unhide HR, unhide HF, (unhide HBX).drew.drew⟩
          case measure => simp [intOf]; omega
        · have HF := hide (unhide GB hg)
          clear GA GB
          go_wp2
          go_region
          go_wp2
          go_region
          go_wp2
          go_roundw
          case rel => exact ⟨i, j + 1, L, by omega, by omega, rfl, by go_num, unhide HR, unhide HF, (unhide HBX).drew.drew⟩
          case measure => simp [intOf]; omega
    · have hL : L = lnP (eqT ss tt) ss.length tt.length 0 0 := by
        have := heq
        rw [lnP_out _ _ _ _ _ hcc, List.append_nil] at this
        exact this
      have HO : Hid (RPairsV wr w.heap.size (.slice xq xn xc) (whP (lnP (eqT ss tt) ss.length tt.length 0 0))) := hide (by rw [← hL]; exact owns_mono hrow hz1)
      have HBW := hide hBW
      clear hL heq HEQ hrow hBW hbx
      by_cases h1 : i < ss.length
      · have h1i : (i : Int) < (ss.length : Int) := by omega
        have h2n : ¬ j < tt.length := fun x => hcc ⟨h1, x⟩
        have h2i : ¬ (j : Int) < (tt.length : Int) := by omega
        clear hcc
        go_wp2
        go_ret
        exact ⟨_, rfl, unhide HO, unhide HBW⟩
      · have h1i : ¬ (i : Int) < (ss.length : Int) := by omega
        clear hcc
        go_wp2
        go_ret
        exact ⟨_, rfl, unhide HO, unhide HBW⟩
end Go.Proofs.YtbabmkilbbbmoaaDoor

/-
  The law's own 'same' of rectolaw20: the same pairs?
-/
namespace Go.Proofs.YtbabmkilbbbmoaaDoor
open Go.RowKit Go.Maps
set_option linter.unusedVariables false
set_option linter.unusedSimpArgs false

/-- Pairs in memory of the one type or the other one, cell by cell. -/
def PrCells (w : World) (u : Value) (L : List (Int × Int × Bool)) : Prop := ∃ q c, u = .slice q L.length c ∧ (0 < L.length → ∃ g, q = some ⟨g, 0, none⟩ ∧ ∀ k, k < L.length → w.cell? ⟨g, k * 3, none⟩ = some (.int .i64 (L.getD k p0).1) ∧ w.cell? ⟨g, k * 3 + 1, none⟩ = some (.int .i64 (L.getD k p0).2.1) ∧ w.cell? ⟨g, k * 3 + 2, none⟩ = some (.bool (L.getD k p0).2.2))
theorem owns_pr {w : World} {base : Nat} {t : TypeId} {u : Value} {L : List (Int × Int × Bool)} (h : w.ownsRow base t 3 u L.length (flatP L)) : PrCells w u L := by
  obtain ⟨_, h⟩ := h
  rcases h with ⟨h1, h0⟩ | ⟨g, cap, cur, h0, h1, h2, h3, h4, h5, h6⟩
  · exact ⟨none, 0, by rw [h0]; exact h1, fun x => by omega⟩
  · refine ⟨_, cap, h0, fun hp => ⟨g, rfl, fun k hk => ?_⟩⟩
    have hc : ∀ j, j < 3 → w.cell? ⟨g, k * 3 + j, none⟩ = (pairL (L.getD k p0))[j]? := by
      intro j hj
      rw [Joins.cell_of_block h2, ← flatP_split L k hk j hj, ← h6, List.getElem?_take, if_pos (by omega)]
      simp
    exact ⟨hc 0 (by decide), hc 1 (by decide), hc 2 (by decide)⟩
theorem PrCells.below {w w' : World} {u : Value} {L : List (Int × Int × Bool)} (h : PrCells w u L) (hb : Below w.heap.size w w') : PrCells w' u L := by
  obtain ⟨q, c, h1, h2⟩ := h
  refine ⟨q, c, h1, fun h0 => ?_⟩
  obtain ⟨g, h3, h4⟩ := h2 h0
  have hc : ∀ p v, w.cell? ⟨g, p, none⟩ = some v → w'.cell? ⟨g, p, none⟩ = some v := fun p v hv => (hb.cell (p := ⟨g, p, none⟩) (World.block_lt_of_cell? w _ hv)).trans hv
  exact ⟨g, h3, fun k hk => ⟨hc _ _ (h4 k hk).1, hc _ _ (h4 k hk).2.1, hc _ _ (h4 k hk).2.2⟩⟩

set_option maxHeartbeats 2000000 in
set_option maxRecDepth 100000 in
theorem same20_yes (u v : Value) (L : List (Int × Int × Bool)) (w : World) (hu : PrCells w u L) (hv : PrCells w v L) (hl : L.length ≤ 1000000) :
    Calls Tryd.prog 10 #[u, v] w fun e w' => e = .returned (.bool true) ∧ Below w.heap.size w w' := by
  obtain ⟨q1, c1, rfl, h1⟩ := hu
  obtain ⟨q2, c2, rfl, h2⟩ := hv
  have H1 := hide h1
  have H2 := hide h2
  generalize hn : L.length = n at *
  clear h1 h2 hn
  go_enter Tryd.func10, Tryd.ntmps10
  go_wp2
  go_loopw [8] (fun i wr => ∃ k : Nat, k ≤ n ∧ i = .int .i64 (k : Int) ∧ Below w.heap.size w wr) (fun i _ => n - (intOf i).toNat)
  case atStart => exact ⟨0, Nat.zero_le _, rfl, Below.refl _ _⟩
  case round =>
    obtain ⟨k, hk, rfl, hbl⟩ := hrel
    by_cases hp : k < n
    · have hpi : (k : Int) < (n : Int) := by omega
      have hpn : ¬ (n : Int) ≤ (k : Int) := by omega
      have hpd : decide (n ≤ k) = false := decide_eq_false (by omega)
      obtain ⟨g1, hq1, f1⟩ := unhide H1 (by omega)
      obtain ⟨g2, hq2, f2⟩ := unhide H2 (by omega)
      subst hq1
      subst hq2
      have hc : ∀ g p v, w.cell? ⟨g, p, none⟩ = some v → wr.cell? ⟨g, p, none⟩ = some v := fun g p v hv => (hbl.cell (p := ⟨g, p, none⟩) (World.block_lt_of_cell? w _ hv)).trans hv
      have a0 := hc _ _ _ (f1 k hp).1
      have a1 := hc _ _ _ (f1 k hp).2.1
      have a2 := hc _ _ _ (f1 k hp).2.2
      have b0 := hc _ _ _ (f2 k hp).1
      have b1 := hc _ _ _ (f2 k hp).2.1
      have b2 := hc _ _ _ (f2 k hp).2.2
      generalize (L.getD k p0).1 = x at *
      generalize (L.getD k p0).2.1 = y at *
      generalize (L.getD k p0).2.2 = z at *
      have HBL := hide hbl
      clear hc f1 f2 hbl
      go_wp2
      go_region
      go_wp2
      go_roundw
      case rel => exact ⟨k + 1, by omega, by go_num, (unhide HBL).drew⟩
      case measure => simp [intOf]; omega
    · have hpi : ¬ (k : Int) < (n : Int) := by omega
      go_wp2
      go_ret
      exact ⟨by simp, hbl⟩
end Go.Proofs.YtbabmkilbbbmoaaDoor

/-
  Equality of three numbers, and of ranges.
-/
namespace Go.Proofs.YtbabmkilbbbmoaaDoor
set_option linter.unusedSimpArgs false
theorem eqInt (d : Nat) (a b : Int) (w : World) : (Op.equalIn (d + 1) 3 (.int .i64 a) (.int .i64 b)).run Tryd.prog w = .ok (a == b) w := by
  simp [Op.equalIn, run_underlying Tryd.underlying3]
theorem part_int (xs : Array Value) (j : Nat) (z : Int) (w : World) (h : xs[j]? = some (.int .i64 z)) : (part 3 xs j).run Tryd.prog w = .ok (.int .i64 z) w := run_part_plain w (by kernel_rfl) h
theorem eq3 (i j k i' j' k' : Int) (w : World) : (Op.equalIn 10000 101 (.agg #[.int .i64 i, .int .i64 j, .int .i64 k]) (.agg #[.int .i64 i', .int .i64 j', .int .i64 k'])).run Tryd.prog w = .ok ((i == i') && ((j == j') && (k == k'))) w := by
  obtain ⟨n, hi, _, hs, _⟩ := mfoInt
  refine (run_equalIn_array w 9999 (n := 3) (e := 3) _ _ (by kernel_rfl) hi).trans ?_
  have hc : Tryd.prog.cellsOf 3 = 1 := by kernel_rfl
  rw [hc]
  have e9 : ∀ a b w, (Op.equalIn 9999 3 (.int .i64 a) (.int .i64 b)).run Tryd.prog w = .ok (a == b) w := fun a b w => eqInt 9998 a b w
  have p0 := fun w => part_int #[.int .i64 i, .int .i64 j, .int .i64 k] 0 i w rfl
  have p1 := fun w => part_int #[.int .i64 i, .int .i64 j, .int .i64 k] 1 j w rfl
  have p2 := fun w => part_int #[.int .i64 i, .int .i64 j, .int .i64 k] 2 k w rfl
  have p3 := fun w => part_int #[.int .i64 i', .int .i64 j', .int .i64 k'] 0 i' w rfl
  have p4 := fun w => part_int #[.int .i64 i', .int .i64 j', .int .i64 k'] 1 j' w rfl
  have p5 := fun w => part_int #[.int .i64 i', .int .i64 j', .int .i64 k'] 2 k' w rfl
  have q0 := fun w => e9 i i' w
  have q1 := fun w => e9 j j' w
  have q2 := fun w => e9 k k' w
  clear e9
  generalize (i == i') = x at *
  generalize (j == j') = y at *
  generalize (k == k') = z at *
  cases x <;> cases y <;> cases z <;> simp [List.range_succ, Op.eqItems, p0, p1, p2, p3, p4, p5, q0, q1, q2]
theorem eq2 (i j i' j' : Int) (w : World) : (Op.equalIn 10000 97 (.agg #[.int .i64 i, .int .i64 j]) (.agg #[.int .i64 i', .int .i64 j'])).run Tryd.prog w = .ok ((i == i') && (j == j')) w := by
  have e9 : ∀ a b w, (Op.equalIn 9999 3 (.int .i64 a) (.int .i64 b)).run Tryd.prog w = .ok (a == b) w := fun a b w => eqInt 9998 a b w
  refine (run_equalIn_struct w 9999 97 _ _ (by kernel_rfl) (by kernel_rfl)).trans ?_
  have hf : (Tryd.prog.fieldsOf 97).toList.map (fun f => (f.name, f.type, f.offset)) = [("From", 3, 0), ("To", 3, 1)] := by kernel_rfl
  have p0 := fun w => part_int #[.int .i64 i, .int .i64 j] 0 i w rfl
  have p1 := fun w => part_int #[.int .i64 i, .int .i64 j] 1 j w rfl
  have p3 := fun w => part_int #[.int .i64 i', .int .i64 j'] 0 i' w rfl
  have p4 := fun w => part_int #[.int .i64 i', .int .i64 j'] 1 j' w rfl
  have q0 := fun w => e9 i i' w
  have q1 := fun w => e9 j j' w
  clear e9
  generalize (i == i') = x at *
  generalize (j == j') = y at *
  generalize (Tryd.prog.fieldsOf 97).toList = fs at *
  rcases fs with _ | ⟨f0, _ | ⟨f1, _ | ⟨f2, r⟩⟩⟩
  · simp at hf
  · simp at hf
  · simp only [List.map_cons, List.map_nil, List.cons.injEq, Prod.mk.injEq, and_true] at hf
    obtain ⟨⟨n0, t0, o0⟩, n1, t1, o1⟩ := hf
    cases x <;> cases y <;> simp [Op.eqFields, n0, t0, o0, n1, t1, o1, p0, p1, p3, p4, q0, q1]
  · simp at hf
end Go.Proofs.YtbabmkilbbbmoaaDoor

/-
  What the reference's 'fellow', 'Triples', 'kind' and 'empty' of layer 25 do.
-/
namespace Go.Proofs.YtbabmkilbbbmoaaDoor
open Go.RowKit
set_option linter.unusedVariables false
set_option linter.unusedSimpArgs false

theorem prCells_at {w : World} {u : Value} {L : List (Nat × Nat)} (h : PrCells w u (whP L)) : ∃ q c, u = .slice q L.length c ∧ PrAt w q L := by
  have hl : (whP L).length = L.length := by unfold whP; rw [List.length_map]
  obtain ⟨q, c, h1, h2⟩ := h
  rw [hl] at h1 h2
  refine ⟨q, c, h1, fun h0 => ?_⟩
  obtain ⟨g, hq, h4⟩ := h2 h0
  refine ⟨g, 0, hq, fun k hk => ?_⟩
  have e : (whP L).getD k p0 = (((L.getD k (0, 0)).1 : Int), ((L.getD k (0, 0)).2 : Int), true) := by
    unfold whP
    rw [List.getD, List.getD, List.getElem?_map, List.getElem?_eq_getElem hk]
    rfl
  have := h4 k hk
  rw [e] at this
  exact ⟨by simpa using this.1, by simpa using this.2.1, true, by simpa using this.2.2⟩
def felI (L : List (Nat × Nat)) (o : Nat) : Int := match felF L o with
  | some y => (y : Int)
  | none => -1
theorem felF_found : ∀ (L : List (Nat × Nat)) (o k : Nat), k < L.length → (∀ j, j < k → ¬ (L.getD j (0, 0)).1 = o) → (L.getD k (0, 0)).1 = o → felF L o = some (L.getD k (0, 0)).2
  | p :: r, o, 0, _, _, h => by
    have : p.1 = o := h
    subst this
    exact felF_cons_eq p r
  | p :: r, o, k + 1, hk, hn, h => by
    rw [felF_cons_ne r (show ¬ p.1 = o from hn 0 (by omega))]
    exact felF_found r o k (by simpa using hk) (fun j hj => hn (j + 1) (by omega)) h
theorem felF_never : ∀ (L : List (Nat × Nat)) (o : Nat), (∀ j, j < L.length → ¬ (L.getD j (0, 0)).1 = o) → felF L o = none
  | [], _, _ => rfl
  | p :: r, o, h => by
    rw [felF_cons_ne r (show ¬ p.1 = o from h 0 (by simp))]
    exact felF_never r o (fun j hj => h (j + 1) (by simpa using hj))
set_option maxHeartbeats 1000000 in
theorem fellow_any (q : Option Addr) (c : Nat) (L : List (Nat × Nat)) (o : Nat) (w : World) (hv : PrAt w q L) (hl : L.length ≤ 10000) :
    Calls Tryd.prog 82 #[.slice q L.length c, .int .i64 (o : Int)] w fun e w' => e = .returned (.int .i64 (felI L o)) ∧ Below w.heap.size w w' := by
  have HV := hide hv
  have HN : Hid ((∀ j, j < L.length → ¬ (L.getD j (0, 0)).1 = o) → felI L o = -1) := hide (fun h => by unfold felI; rw [felF_never L o h])
  have HY : Hid (∀ k, k < L.length → (∀ j, j < k → ¬ (L.getD j (0, 0)).1 = o) → (L.getD k (0, 0)).1 = o → felI L o = ((L.getD k (0, 0)).2 : Int)) := hide (fun k hk h1 h2 => by unfold felI; rw [felF_found L o k hk h1 h2])
  clear hv
  generalize felI L o = R at *
  go_enter Tryd.func82, Tryd.ntmps82
  go_wp2
  go_loopw [9] (fun i wr => ∃ k : Nat, k ≤ L.length ∧ i = .int .i64 k ∧ (∀ j, j < k → ¬ (L.getD j (0, 0)).1 = o) ∧ Below w.heap.size w wr) (fun i _ => L.length - (intOf i).toNat)
  case atStart => exact ⟨0, Nat.zero_le _, rfl, fun j hj => absurd hj (Nat.not_lt_zero _), Below.refl _ _⟩
  case round =>
    obtain ⟨k, hk, rfl, hr, hbw⟩ := hrel
    have HR := hide hr
    clear hr
    by_cases hp : k < L.length
    · have hpi : (k : Int) < (L.length : Int) := by omega
      obtain ⟨g, og, rfl, hcell⟩ := (unhide HV).below hbw (by omega)
      obtain ⟨k0, k1, bk, k2⟩ := hcell k hp
      have hyk := hide (unhide HY k hp (unhide HR))
      have HR2 : Hid (¬ (L.getD k (0, 0)).1 = o → ∀ j, j < k + 1 → ¬ (L.getD j (0, 0)).1 = o) := hide (fun hx j hj => by
        by_cases ej : j = k
        · rw [ej]; exact hx
        · exact unhide HR j (by omega))
      generalize L.getD k (0, 0) = t at *
      obtain ⟨t1, t2⟩ := t
      dsimp only at hyk HR2 k0 k1
      have hzr := hbw.size
      have HBW := hide hbw
      clear hcell hbw
      by_cases hx : t1 = o
      · have H := hide (unhide hyk hx)
        subst hx
        clear hyk HR2
        go_wp2
        go_ret
        exact ⟨by rw [unhide H]; rfl, (unhide HBW).alloc hzr _⟩
      · have H := hide (unhide HR2 hx)
        have hxi : ¬ (t1 : Int) = (o : Int) := by omega
        have hxb : ((t1 : Int) == (o : Int)) = false := beq_eq_false_iff_ne.2 hxi
        clear hyk hx HR2
        go_wp2
        go_roundw
        case rel => exact ⟨k + 1, by omega, by go_num, unhide H, (unhide HBW).alloc hzr _⟩
        case measure => simp [intOf]; omega
    · have hkn : k = L.length := by omega
      have H := hide (unhide HN (by rw [← hkn]; exact unhide HR))
      have hpi : ¬ (k : Int) < (L.length : Int) := by omega
      go_wp2
      go_ret
      exact ⟨by rw [unhide H]; rfl, hbw⟩
theorem kind_any (x y z : Bool) (w : World) :
    Calls Tryd.prog 57 #[.bool x, .bool y, .bool z] w fun e w' => e = .returned (.int .i64 (kd3 x y z : Nat)) ∧ Below w.heap.size w w' := by
  cases x <;> cases y <;> cases z <;>
  (go_enter Tryd.func57, Tryd.ntmps57
   go_wp2
   go_ret
   exact ⟨rfl, Below.refl _ _⟩)
def emB (i i' j j' k k' : Nat) : Bool := decide (i = i' ∧ j = j' ∧ k = k')
set_option maxHeartbeats 1000000 in
theorem empty_any (kd : Int) (i i' j j' k k' : Nat) (w : World) :
    Calls Tryd.prog 58 #[.agg #[.int .i64 kd, .int .i64 (i : Int), .int .i64 (j : Int), .int .i64 (k : Int), .int .i64 (i' : Int), .int .i64 (j' : Int), .int .i64 (k' : Int)]] w fun e w' => e = .returned (.bool (emB i i' j j' k k')) ∧ Below w.heap.size w w' := by
  have hq := fun W => eq3 (i : Int) (j : Int) (k : Int) (i' : Int) (j' : Int) (k' : Int) W
  have he : ((i : Int) == (i' : Int) && ((j : Int) == (j' : Int) && (k : Int) == (k' : Int))) = emB i i' j j' k k' := by
    have e : ∀ a b : Nat, ((a : Int) == (b : Int)) = decide (a = b) := fun a b => by
      by_cases h : a = b
      · subst h; simp
      · rw [decide_eq_false h]; exact beq_eq_false_iff_ne.2 (by omega)
    rw [e, e, e]
    unfold emB
    simp
  rw [he] at hq
  clear he
  generalize emB i i' j j' k k' = x at *
  go_enter Tryd.func58, Tryd.ntmps58
  go_wp2
  go_ret
  exact ⟨rfl, (Below.refl _ _).alloc (Nat.le_refl _) _⟩
end Go.Proofs.YtbabmkilbbbmoaaDoor
