/-
  What match.Line does.
-/
import Derived.Test.YtbaoomkdlbjhlaaMLn
namespace Go.Proofs.Ytbaoomkdlbjhlaa
open Go.RowKit Go.Maps
set_option linter.unusedVariables false
set_option linter.unusedSimpArgs false

/-- Are two texts the same? -/
def eqT (ss tt : List ByteArray) (i j : Nat) : Bool := decide ((tx ss i).data.toList = (tx tt j).data.toList)
theorem getD_nums (D : List (List UInt8)) (l : List (List UInt8)) (i : Nat) (h : i < l.length) : (numsK D l).getD i 0 = numT (addAll D l) (l.getD i []) := by
  unfold numsK
  simp [List.getD, List.getElem?_map, List.getElem?_eq_getElem h]
theorem txs_getD (ss : List ByteArray) (i : Nat) (h : i < ss.length) : (txs ss).getD i [] = (tx ss i).data.toList := by
  unfold txs tx
  simp [List.getD, List.getElem?_map, List.getElem?_eq_getElem h]
theorem nums_eq (ss tt : List ByteArray) (i j : Nat) (hi : i < ss.length) (hj : j < tt.length) : eqZ (numsK [] (txs ss)) (numsK (addAll [] (txs ss)) (txs tt)) i j = eqT ss tt i j := by
  have li : i < (txs ss).length := by unfold txs; rw [List.length_map]; exact hi
  have lj : j < (txs tt).length := by unfold txs; rw [List.length_map]; exact hj
  unfold eqZ eqT
  rw [getD_nums _ _ _ li, getD_nums _ _ _ lj, ← txs_getD _ _ hi, ← txs_getD _ _ hj]
  have m1 : (txs ss).getD i [] ∈ txs ss := by rw [List.getD, List.getElem?_eq_getElem li]; exact List.getElem_mem li
  have m2 : (txs tt).getD j [] ∈ txs tt := by rw [List.getD, List.getElem?_eq_getElem lj]; exact List.getElem_mem lj
  have n1 := addAll_mem (txs ss) [] _ m1
  have n2 := addAll_mem (txs tt) (addAll [] (txs ss)) _ m2
  have p := addAll_pre (txs tt) (addAll [] (txs ss))
  rw [← numT_pre p n1]
  have := numT_inj (p.subset n1) n2
  by_cases e : (txs ss).getD i [] = (txs tt).getD j []
  · rw [decide_eq_true e, e]; simp
  · rw [decide_eq_false e]
    exact beq_eq_false_iff_ne.2 (fun x => e (this.1 x))
theorem ints_owns {w : World} {base : Nat} {q : Option Addr} {n c : Nat} {zs : List Int} (h : w.ownsRow base 3 1 (.slice q n c) zs.length (zs.map intV)) : n = zs.length ∧ n ≤ c ∧ IntsV q n zs w := by
  obtain ⟨_, h⟩ := h
  rcases h with ⟨h1, h0⟩ | ⟨g, cap, cur, h0, h1, h2, h3, h4, h5, h6⟩
  · cases h1
    exact ⟨h0.symm, Nat.le_refl _, h0.symm, fun x => absurd x (Nat.lt_irrefl _)⟩
  · cases h0
    refine ⟨rfl, h3, rfl, fun hp => ⟨g, 0, rfl, fun i hi => ?_⟩⟩
    rw [Joins.cell_of_block h2]
    have e : cur.toList[i]? = some (.int .i64 (zs.getD i 0)) := by
      have : (cur.toList.take (zs.length * 1))[i]? = some (.int .i64 (zs.getD i 0)) := by
        rw [h6, List.getElem?_map, List.getD, List.getElem?_eq_getElem hi]; rfl
      rw [List.getElem?_take, if_pos (by omega)] at this
      exact this
    simpa using e
theorem owns_mono {w : World} {base base' : Nat} {e : TypeId} {size : Nat} {v : Value} {n : Nat} {xs : List Value} (h : w.ownsRow base e size v n xs) (hb : base' ≤ base) : w.ownsRow base' e size v n xs := by
  obtain ⟨hl, h⟩ := h
  refine ⟨hl, ?_⟩
  rcases h with h | ⟨g, cap, cur, h1, h2, h3⟩
  · exact .inl h
  · exact .inr ⟨g, cap, cur, h1, by omega, h3⟩
theorem grown_is_below {w w1 : World} {o : Obj} (h : (w.alloc o).grownBy w1 (some w.heap.size)) : Below w.heap.size w w1 :=
  ⟨h.os, h.tape, h.output, Nat.le_trans (by simp) h.size, fun k hk => (h.block k (by simp; omega) (by simp; omega)).trans (((Below.refl w.heap.size w).alloc (Nat.le_refl _) o).block k hk)⟩
theorem numsK_len (D l : List (List UInt8)) : (numsK D l).length = l.length := by unfold numsK; rw [List.length_map]
theorem txs_len (ss : List ByteArray) : (txs ss).length = ss.length := by unfold txs; rw [List.length_map]

theorem view_slice {w : World} {v : Value} {zs : List ByteArray} (h : View w v zs) : ∃ a cap, v = .slice a zs.length cap := by
  obtain ⟨_, a, cap, h, _⟩ := h
  exact ⟨a, cap, h⟩
def LineSaid (ss tt : List ByteArray) (w : World) (e : Ending) (w' : World) : Prop := ∃ u, e = .returned u ∧ PairsV w' w.heap.size u (whP (lnP (eqT ss tt) ss.length tt.length 0 0)) ∧ Below w.heap.size w w'
set_option maxHeartbeats 1000000 in
theorem mline_any (va vb : Value) (ss tt : List ByteArray) (w : World) (ha : View w va ss) (hb : View w vb tt) (h1 : ∀ k, k < ss.length → (tx ss k).size ≤ 9223372036854775807) (h2 : ∀ k, k < tt.length → (tx tt k).size ≤ 9223372036854775807) (hn : ss.length ≤ 1000) (hm : tt.length ≤ 1000) :
    Calls Try.prog 19 #[va, vb] w (LineSaid ss tt w) := by
  have hmm := @run_makeMap Try.prog
  have C1 := hide (ofTexts_any w.heap.size [] va ss _ (numM_new w) (view_alloc ha _) h1 (by simp; omega))
  have C2 := hide (fun W hN hB => ofTexts_any w.heap.size (addAll [] (txs ss)) vb tt W hN (view_below hb hB) h2 (by have := addAll_len (txs ss) []; rw [txs_len] at this; simp at this; omega))
  have HE : Hid (lnP (eqZ (numsK [] (txs ss)) (numsK (addAll [] (txs ss)) (txs tt))) ss.length tt.length 0 0 = lnP (eqT ss tt) ss.length tt.length 0 0) := hide (lnP_same _ _ _ _ (fun a b hx hy => nums_eq ss tt a b hx hy) _ 0 0)
  unfold LineSaid
  rw [← unhide HE]
  have L1 : Hid (ss.length = (numsK [] (txs ss)).length) := hide (by rw [numsK_len, txs_len])
  have L2 : Hid (tt.length = (numsK (addAll [] (txs ss)) (txs tt)).length) := hide (by rw [numsK_len, txs_len])
  generalize numsK [] (txs ss) = za at *
  generalize numsK (addAll [] (txs ss)) (txs tt) = zb at *
  generalize addAll (addAll [] (txs ss)) (txs tt) = D2 at *
  generalize addAll [] (txs ss) = D1 at *
  clear HE h1 h2
  rw [unhide L1] at C1
  rw [unhide L2] at C2
  have hal := view_slice ha
  have hbl := view_slice hb
  obtain ⟨a1, c1, rfl⟩ := hal
  obtain ⟨a2, c2, rfl⟩ := hbl
  clear ha hb
  go_enter Try.func19, Try.ntmps19
  go_wp2_with fail
  refine (unhide C1).mono ?_
  rintro e w1 ⟨u1, rfl, hr1, hn1, hg1⟩
  have b1 := grown_is_below hg1
  have hz1 : w.heap.size < (w.alloc (.map #[] 0)).heap.size := by simp
  clear C1
  obtain ⟨q1, m1, k1, hu1⟩ := slice_of hr1
  subst hu1
  go_wp2_with fail
  refine (unhide C2 w1 hn1 b1).mono ?_
  rintro e w2 ⟨u2, rfl, hr2, hn2, hg2⟩
  have hlt := hn1.lt
  have hr1' := owns_grown hr1 hg2 hz1
  obtain ⟨q2, m2, k2, hu2⟩ := slice_of hr2
  subst hu2
  have b2 : Below w.heap.size w w2 := b1.trans ⟨hg2.os, hg2.tape, hg2.output, hg2.size, fun k hk => hg2.block k (by omega) (by simp; omega)⟩
  obtain ⟨e1, le1, i1⟩ := ints_owns hr1'
  obtain ⟨e2, le2, i2⟩ := ints_owns hr2
  have C3 := hide (line_any q1 q2 m1 m2 k1 k2 za zb w2 i1 i2 (by rw [e1, ← unhide L1]; omega) (by rw [e2, ← unhide L2]; omega) le1 le2)
  have X1 : Hid (m1 = ss.length) := hide (e1.trans (unhide L1).symm)
  have X2 : Hid (m2 = tt.length) := hide (e2.trans (unhide L2).symm)
  have B2 := hide b2
  clear hr1 hr2 hr1' hn1 hn2 hg1 hg2 e1 e2 i1 i2 le1 le2 C2 L1 L2 hz1 hlt b1 b2
  rw [unhide X1, unhide X2] at C3
  rw [unhide X1, unhide X2]
  go_wp2_with fail
  refine (unhide C3).mono ?_
  rintro e w3 ⟨u3, rfl, hp, hb3⟩
  have HP := hide hp
  have HB3 := hide hb3
  have hz := (unhide B2).size
  clear hp hb3
  obtain ⟨q3, m3, k3, hu3⟩ := slice_of (unhide HP)
  subst hu3
  go_wp2
  go_ret
  exact ⟨_, rfl, owns_mono (unhide HP) hz, (unhide B2).trans ((unhide HB3).mono hz)⟩
end Go.Proofs.Ytbaoomkdlbjhlaa
