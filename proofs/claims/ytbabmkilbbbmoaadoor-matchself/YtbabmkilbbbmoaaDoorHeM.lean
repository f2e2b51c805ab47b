/-
  What match.Pages does (made by mk_hem.py).
-/
import Derived.Test.YtbabmkilbbbmoaaDoorMgBL
import Derived.Deep.RegionHeld
namespace Go.Proofs.YtbabmkilbbbmoaaDoor
open Go.RowKit Go.Maps
set_option linter.unusedVariables false
set_option linter.unusedSimpArgs false

/-- What holds of the two rows of pairs. -/
structure PgSt (f g : Forest) (TOT : List (Int × Int × Bool)) (w3 : World) (AL T : List (Int × Int × Bool)) (ST : List En) (u v : Value) (wr : World) : Prop where
  al : PairsV wr w3.heap.size u AL
  st : PairsV wr w3.heap.size v (stK ST)
  ap : ∀ k, u.ownBlock = some k → v.ownBlock ≠ some k
  bl : Below w3.heap.size w3 wr
  pm : (AL ++ (T ++ todoS ST)).Perm TOT
  ok : ∀ e ∈ ST, EnOk f g e
theorem PgSt.later {f g : Forest} {TOT : List (Int × Int × Bool)} {w3 : World} {AL T : List (Int × Int × Bool)} {ST : List En} {u v : Value} {wr wx : World} (h : PgSt f g TOT w3 AL T ST u v wr) (hb : Below wr.heap.size wr wx) : PgSt f g TOT w3 AL T ST u v wx :=
  ⟨ownsRow_below h.al hb, ownsRow_below h.st hb, h.ap, h.bl.trans (hb.mono h.bl.size), h.pm, h.ok⟩
theorem kp2_cell {W W' : World} {v1 v2 : Value} {g o : Nat} {x : Value} (h : Kp2 W v1 v2 W') (hc : W.cell? ⟨g, o, none⟩ = some x) (h1 : some g ≠ v1.ownBlock) (h2 : some g ≠ v2.ownBlock) : W'.cell? ⟨g, o, none⟩ = some x := by
  have he := h g (World.block_lt_of_cell? W _ hc) h1 h2
  unfold World.cell? at hc ⊢
  simp only [he]
  exact hc
theorem kp2_below {W W1 W2 : World} {v1 v2 : Value} (h : Kp2 W v1 v2 W1) (hz : W.heap.size ≤ W1.heap.size) (hb : Below W1.heap.size W1 W2) : Kp2 W v1 v2 W2 := fun b h0 h1 h2 => (hb.block b (by omega)).trans (h b h0 h1 h2)
theorem nm_row {w : World} {base : Nat} {q : Option Addr} {n c : Nat} {L : List Nat} (h : NmV w base (.slice q n c) L) : n = L.length ∧ n ≤ c ∧ MtsV q n (nmI L) w ∧ (0 < n → ∃ g, q = some ⟨g, 0, none⟩ ∧ base ≤ g ∧ ∀ x, x < n → w.cell? ⟨g, x, none⟩ = some (.int .i64 ((L.getD x 0 : Nat) : Int))) := by
  have h' : w.ownsRow base 3 1 (.slice q n c) (nmI L).length ((nmI L).map intV) := by
    have e : (nmI L).map intV = L.map (fun x : Nat => intV (x : Int)) := by unfold nmI; rw [List.map_map]; rfl
    rw [e, show (nmI L).length = L.length by unfold nmI; simp]
    exact h
  obtain ⟨h1, h2, h3⟩ := ints_owns h'
  have hl : (nmI L).length = L.length := by unfold nmI; simp
  refine ⟨h1.trans hl, h2, h3, fun h0 => ?_⟩
  obtain ⟨g, o, e, hc⟩ := h3.2 h0
  have hb : o = 0 ∧ base ≤ g := by
    obtain ⟨_, h⟩ := h
    rcases h with ⟨a1, a0⟩ | ⟨g', cap, cur, a0, a1, a2, a3, a4, a5, a6⟩
    · omega
    · cases a0; cases e; exact ⟨rfl, a1⟩
  obtain ⟨rfl, hb⟩ := hb
  refine ⟨g, e, hb, fun x hx => ?_⟩
  have := hc x hx
  rw [Nat.zero_add, nmI_at L x (by omega)] at this
  exact this
theorem pairs_one {w : World} {base g : Nat} {x y : Int} {z : Bool} (hb : base ≤ g) (h : Blk w g #[.int .i64 x, .int .i64 y, .bool z] 37) : PairsV w base (.slice (some ⟨g, 0, none⟩) 1 1) [(x, y, z)] :=
  ⟨rfl, .inr ⟨g, 1, _, rfl, hb, h, Nat.le_refl _, by decide, rfl, rfl⟩⟩
/-- A box of a pair, read. -/
def BxS (bx : Nat) (x y : Int) (z : Bool) (W : World) : Prop := W.cell? ⟨bx, 0, none⟩ = some (.int .i64 x) ∧ W.cell? ⟨bx, 1, none⟩ = some (.int .i64 y) ∧ W.cell? ⟨bx, 2, none⟩ = some (.bool z)
theorem BxS.le {bx : Nat} {x y : Int} {z : Bool} {W W' : World} (h : BxS bx x y z W) (hc : CellLe W W') : BxS bx x y z W' := ⟨hc _ _ _ h.1, hc _ _ _ h.2.1, hc _ _ _ h.2.2⟩
theorem bxS_of {bx : Nat} {x y : Int} {z : Bool} {W : World} (h : Blk W bx #[.int .i64 x, .int .i64 y, .bool z] 37) : BxS bx x y z W := ⟨h.cell 0, h.cell 1, h.cell 2⟩
theorem owns_same {w w' : World} {base : Nat} {e : TypeId} {size : Nat} {v : Value} {n : Nat} {xs : List Value} (h : w.ownsRow base e size v n xs) (hb : ∀ k, v.ownBlock = some k → w'.heap[k]? = w.heap[k]?) : w'.ownsRow base e size v n xs := by
  obtain ⟨hl, h⟩ := h
  refine ⟨hl, ?_⟩
  rcases h with h | ⟨g, cap, cur, h1, h2, h3, h4⟩
  · exact .inl h
  · exact .inr ⟨g, cap, cur, h1, h2, (hb g (by rw [h1]; rfl)).trans h3, h4⟩
theorem rsI_in {n m : Int} : ∀ (r : List (Int × Int × Bool)) (i j : Int), RsI n m i j r → ∀ q ∈ r, q.1 < n ∧ q.2.1 < m
  | [], _, _, _, q, h => by cases h
  | p :: r, i, j, ⟨h1, h2, h3, h4, h5⟩, q, h => by
    rcases List.mem_cons.1 h with rfl | h
    · exact ⟨h3, h4⟩
    · exact rsI_in r _ _ h5 q h
/-- The two rows while a pair of lists is gone through: what has changed since. -/
structure InB (w3 w6 : World) (u0 v0 : Value) (AL M : List (Int × Int × Bool)) (u v : Value) (W : World) : Prop where
  al : PairsV W w3.heap.size u AL
  st : PairsV W w3.heap.size v M
  ap : ∀ k, u.ownBlock = some k → v.ownBlock ≠ some k
  bl : Below w3.heap.size w3 W
  kp : Kp2 w6 u0 v0 W
  fu : FrB w6 u0 u
  fv : FrB w6 v0 v
  sz : w6.heap.size ≤ W.heap.size
theorem InB.later {w3 w6 : World} {u0 v0 : Value} {AL M : List (Int × Int × Bool)} {u v : Value} {W W' : World} (h : InB w3 w6 u0 v0 AL M u v W) (hb : Below W.heap.size W W') : InB w3 w6 u0 v0 AL M u v W' :=
  ⟨ownsRow_below h.al hb, ownsRow_below h.st hb, h.ap, h.bl.trans (hb.mono h.bl.size), kp2_below h.kp h.sz hb, h.fu, h.fv, Nat.le_trans h.sz hb.size⟩
/-- A box that lies apart from both rows. -/
def BoxOk (W : World) (a : Nat) (u v : Value) (x y : Int) : Prop := Blk W a #[.int .i64 x, .int .i64 y, .bool false] 37 ∧ (∀ k, u.ownBlock = some k → k ≠ a) ∧ (∀ k, v.ownBlock = some k → k ≠ a)
theorem BoxOk.later {W W' : World} {a : Nat} {u v : Value} {x y : Int} (h : BoxOk W a u v x y) (hb : Below W.heap.size W W') : BoxOk W' a u v x y := ⟨h.1.later hb, h.2⟩
theorem InB.box {w3 w6 : World} {u0 v0 : Value} {AL M : List (Int × Int × Bool)} {u v : Value} {W : World} (h : InB w3 w6 u0 v0 AL M u v W) {a : Nat} (ha : a = W.heap.size) (x y : Int) : BoxOk (W.alloc (Obj.cells #[.int .i64 x, .int .i64 y, .bool false] 37)) a u v x y := by
  subst ha
  exact ⟨Blk.new _ _ _, fun k hk => by have := (h.al.lt k hk).2; omega, fun k hk => by have := (h.st.lt k hk).2; omega⟩
theorem InB.whole {w3 w6 : World} {u0 v0 : Value} {AL AL' M : List (Int × Int × Bool)} {u v u7 : Value} {W W7 : World} (h : InB w3 w6 u0 v0 AL M u v W) (h1 : PairsV W7 w3.heap.size u7 AL') (h2 : Below w3.heap.size W W7) (h3 : KpB W u W7) (h4 : FrB W u u7) : InB w3 w6 u0 v0 AL' M u7 v W7 := by
  have hsz := h.sz
  refine ⟨h1, owns_same h.st (fun k hk => h3 k (h.st.lt k hk).2 (fun e => h.ap k e.symm hk)), ?_, h.bl.trans h2, ?_, ?_, h.fv, Nat.le_trans h.sz h2.size⟩
  · intro k hk e
    rcases h4 k hk with h5 | h5
    · exact h.ap k h5 e
    · have := (h.st.lt k e).2; omega
  · intro b h0 n1 n2
    have : some b ≠ u.ownBlock := fun e => by
      rcases h.fu b e.symm with h5 | h5
      · exact n1 h5.symm
      · omega
    exact (h3 b (by omega) this).trans (h.kp b h0 n1 n2)
  · intro k hk
    rcases h4 k hk with h5 | h5
    · exact h.fu k h5
    · exact .inr (by omega)
theorem InB.flip {w3 w6 : World} {u0 v0 : Value} {AL M : List (Int × Int × Bool)} {u v : Value} {W : World} (h : InB w3 w6 u0 v0 AL M u v W) : InB w3 w6 v0 u0 M AL v u W :=
  ⟨h.st, h.al, fun k hk e => h.ap k e hk, h.bl, fun b h0 h1 h2 => h.kp b h0 h2 h1, h.fv, h.fu, h.sz⟩
theorem BoxOk.flip {W : World} {a : Nat} {u v : Value} {x y : Int} (h : BoxOk W a u v x y) : BoxOk W a v u x y := ⟨h.1, h.2.2, h.2.1⟩
/-- A boxed pair appended to the first row. -/
theorem InB.app {w3 w6 : World} {u0 v0 : Value} {AL M : List (Int × Int × Bool)} {u v : Value} {W : World} (h : InB w3 w6 u0 v0 AL M u v W) {a : Nat} {x y : Int} (hx : BoxOk W a u v x y) (hl : AL.length ≤ 3000) :
    ∃ q n c W', (Builtin.append_ #[26, 26] 26 #[u, .slice (some ⟨a, 0, none⟩) 1 1]).run Tryd.prog W = .ok (.slice q n c) W' ∧ InB w3 w6 u0 v0 (AL ++ [(x, y, false)]) M (.slice q n c) v W' ∧ (∀ a' x' y', BoxOk W a' u v x' y' → BoxOk W' a' (.slice q n c) v x' y') := by
  obtain ⟨i0, hi0, hi1, hi2, hi3⟩ := mfoPair
  have hB := h.bl.size
  obtain ⟨v1, W1, hr1, ho1, hg1, hf1⟩ := append_fresh (P := Tryd.prog) W w3.heap.size 26 26 37 i0 (.agg #[.int .i64 0, .int .i64 0, .bool false]) 3 24 Tryd.underlying26 hi0 hi1 hi2 hi3 rfl (by decide) u AL.length _ h.al ⟨a, 0, none⟩ 1 1 [.int .i64 x, .int .i64 y, .bool false] rfl (fun j u hj => by
      have e : (⟨a, 0, none⟩ : Addr).add j = ⟨a, j, none⟩ := by unfold Addr.add; split <;> simp_all
      rw [e, hx.1.cell j, ← hj]
      simp) (by simp [Value.oneCell']) (by simp only [maxLen]; omega) (by omega) hB
  obtain ⟨q1, n1, c1, hv1⟩ := slice_of ho1
  subst hv1
  have hbl := (Below.refl w3.heap.size W).grown hg1 hB (fun k hk => (h.al.lt k hk).1)
  refine ⟨q1, n1, c1, W1, hr1, h.whole (pairs_snocH ho1) hbl (fun b h0 h1 => hg1.block b h0 h1) hf1, fun a' x' y' hx' => ⟨blk_grown hx'.1 hg1 (fun e => hx'.2.1 a' e.symm rfl), fun k hk => ?_, hx'.2.2⟩⟩
  rcases hf1 k hk with h5 | h5
  · exact hx'.2.1 k h5
  · have := hx'.1.lt; omega
/-- What holds in the loop over a pair of lists. -/
structure InR (f g : Forest) (TOT : List (Int × Int × Bool)) (w3 w6 : World) (u0 v0 : Value) (AL T : List (Int × Int × Bool)) (ST : List En) (u v : Value) (W : World) : Prop where
  b : InB w3 w6 u0 v0 AL (stK ST) u v W
  pm : (AL ++ (T ++ todoS ST)).Perm TOT
  ok : ∀ e ∈ ST, EnOk f g e
theorem InR.alike {f g : Forest} {TOT : List (Int × Int × Bool)} {w3 w6 : World} {u0 v0 : Value} {AL T : List (Int × Int × Bool)} {ST : List En} {u v u7 v7 : Value} {W W7 : World} {e : En} (h : InR f g TOT w3 w6 u0 v0 AL ((enP e :: enV e) ++ T) ST u v W) (hb : InB w3 w6 u0 v0 (AL ++ [enP e]) (stK ST ++ [enP e]) u7 v7 W7) (he : EnOk f g e) : InR f g TOT w3 w6 u0 v0 (AL ++ [enP e]) T (e :: ST) u7 v7 W7 :=
  ⟨hb, by have := h.pm; exact perm_alike this, fun e' h' => by
    rcases List.mem_cons.1 h' with rfl | h'
    · exact he
    · exact h.ok e' h'⟩
theorem InR.whole {f g : Forest} {TOT : List (Int × Int × Bool)} {w3 w6 : World} {u0 v0 : Value} {AL V T : List (Int × Int × Bool)} {ST : List En} {u v u7 : Value} {W W7 : World} (h : InR f g TOT w3 w6 u0 v0 AL (V ++ T) ST u v W) (h1 : PairsV W7 w3.heap.size u7 (AL ++ V)) (h2 : Below w3.heap.size W W7) (h3 : KpB W u W7) (h4 : FrB W u u7) : InR f g TOT w3 w6 u0 v0 (AL ++ V) T ST u7 v W7 :=
  ⟨h.b.whole h1 h2 h3 h4, by have := h.pm; simpa [List.append_assoc] using this, h.ok⟩
theorem InR.later {f g : Forest} {TOT : List (Int × Int × Bool)} {w3 w6 : World} {u0 v0 : Value} {AL T : List (Int × Int × Bool)} {ST : List En} {u v : Value} {W W' : World} (h : InR f g TOT w3 w6 u0 v0 AL T ST u v W) (hb : Below W.heap.size W W') : InR f g TOT w3 w6 u0 v0 AL T ST u v W' := ⟨h.b.later hb, h.pm, h.ok⟩
theorem InR.len {f g : Forest} {TOT : List (Int × Int × Bool)} {w3 w6 : World} {u0 v0 : Value} {AL T : List (Int × Int × Bool)} {ST : List En} {u v : Value} {W : World} (h : InR f g TOT w3 w6 u0 v0 AL T ST u v W) : AL.length + T.length ≤ TOT.length := by
  have := h.pm.length_eq
  rw [List.length_append, List.length_append] at this
  omega
/-- What region 14 reads. -/
def R14S (bx pa gi ci n i : Nat) (x y sz : Int) (W : World) : Prop := W.cell? ⟨bx, 0, none⟩ = some (.int .i64 x) ∧ W.cell? ⟨bx, 1, none⟩ = some (.int .i64 y) ∧ W.cell? ⟨bx, 2, none⟩ = some (.bool true) ∧ W.cell? ⟨pa, 0, none⟩ = some (.slice (some ⟨gi, 0, none⟩) n ci) ∧ W.cell? ⟨gi, i * 5 + 4, none⟩ = some (.int .i64 sz)
theorem lt_len (F G : Forest) : (ltP F G).length ≤ F.len := by
  have := rsI_len _ _ _ (by omega) (ltP_rs F G)
  omega

set_option maxHeartbeats 8000000 in
set_option maxRecDepth 100000 in
theorem pages_any (f g : Forest) (qa qb : Option Addr) (ca cb : Nat) (w : World) (hf : Fo qa f w) (hg : Fo qb g w) (hca : f.len ≤ ca) (hcb : g.len ≤ cb) (sf : SmF f) (sg : SmF g) (rf : RngF f) (rg : RngF g) (ht : TabP w) (nf : f.count ≤ 900) (ng : g.count ≤ 900) :
    Calls Tryd.prog 14 #[.slice qa f.len ca, .slice qb g.len cb] w fun e w' => ∃ u, e = .returned u ∧ PairsV w' w.heap.size u (pgF (f.count + 1) f g 0 0) ∧ Below w.heap.size w w' := by
  have hmm := @run_makeMap Tryd.prog
  have hw0 : Below w.heap.size w (w.alloc (.map #[] 0)) := (Below.refl _ _).alloc (Nat.le_refl _) _
  have ht0 := ht.below hw0
  have hz0 : (w.alloc (.map #[] 0)).heap.size = w.heap.size + 1 := by simp
  have hn0 := numM_new w
  have C1 := hide (newPage_any f qa ca w.heap.size [] (w.alloc (.map #[] 0)) (hf.below hw0) hca sf rf hn0 ht0 nf (by simp; omega))
  have C2 := hide (fun W D (hN : NumM W w.heap.size D) (hg2 : (w.alloc (.map #[] 0)).grownBy W (some w.heap.size)) (hD : D.length ≤ 2700) => newPage_any g qb cb w.heap.size D W ((hg.below hw0).le (grown_le hn0 hg2)) hcb sg rg hN (ht0.grown hn0 hg2) ng (by omega))
  have HB0 : Hid (∀ W, (w.alloc (.map #[] 0)).grownBy W (some w.heap.size) → Below w.heap.size w W) := hide (fun W hW => hw0.grown hW (by omega) (fun k hk => by cases hk; omega))
  obtain ⟨TOT, hTOT⟩ : ∃ T, pgF (f.count + 1) f g 0 0 = T := ⟨_, rfl⟩
  have HTL : Hid (TOT.length ≤ f.count) := hide (by rw [← hTOT]; exact pgF_len _ _ _ _ _ (by omega))
  have HRISE : Hid (RsI ((0 + f.count : Nat) : Int) ((0 + g.count : Nat) : Int) ((0 : Nat) : Int) ((0 : Nat) : Int) TOT) := hide (by rw [← hTOT]; exact pgF_rise _ _ _ _ _ (by omega))
  rw [hTOT]
  have HTOT := hide hTOT
  have NF := hide nf
  have NG := hide ng
  clear hf hg hca hcb sf sg rf rg ht ht0 hn0 hTOT hw0 nf ng
  go_enter Tryd.func14, Tryd.ntmps14
  go_wp2_with fail
  refine (unhide C1).mono ?_
  rintro e w1 ⟨pa, D1, ka, la, rfl, hn1, _, hD1, hpf, hpc, hg1⟩
  have CL1 : Hid (∀ W, w1.grownBy W (some w.heap.size) → PgC pa f ka la W) := hide (fun W hW => hpc.le (grown_le hn1 hW))
  have N1 := hide hn1
  have G1 := hide hg1
  have HPF := hide hpf
  have HD1 : Hid (D1.length ≤ 2700) := hide (by have := unhide NF; simp at hD1; omega)
  clear hn1 hD1 hpf hpc hg1 C1
  go_wp2_with fail
  refine (unhide C2 w1 D1 (unhide N1) (unhide G1) (unhide HD1)).mono ?_
  rintro e w3 ⟨pb, D2, kb, lb, rfl, hn2, hpre, _, hpg, hpd, hg2⟩
  have PA : Hid (∀ W, Below w3.heap.size w3 W → PgC pa f ka la W) := hide (fun W hW => (unhide CL1 w3 hg2).le (below_cells hW))
  have PB : Hid (∀ W, Below w3.heap.size w3 W → PgC pb g kb lb W) := hide (fun W hW => hpd.le (below_cells hW))
  have LTP : Hid (∀ (F G : Forest) (a b : Nat), LyP f F a → LyP g G b → mtF (eqZ (rowZ la F a) (rowZ lb G b)) F.len G.len 0 0 (lnP (eqZ (rowZ ka F a) (rowZ kb G b)) F.len G.len 0 0) = ltP F G) := hide (fun F G a b hF hG => rows_ltP ((unhide HPF).pre hpre) hpg hF hG)
  have HB3 := hide (unhide HB0 w3 (grown_trans (unhide G1) hg2))
  have hz3 := (unhide HB3).size
  clear hn2 hpre hpg hpd hg2 HPF CL1 N1 G1 HD1 C2 HB0 hmm hz0
  have HINIT : Hid (PgSt f g TOT w3 [] [] [⟨-1, -1, f, g, 0, 0, f.count + 1⟩] (.slice none 0 0) (.slice (some ⟨w3.heap.size, 0, none⟩) 1 1) (w3.alloc (Obj.cells #[.int .i64 (-1), .int .i64 (-1), .bool false] 37))) := hide ⟨World.ownsRow_nil _ _ _ _, pairs_one (Nat.le_refl _) (Blk.new _ _ _), (fun k hk => by cases hk), (Below.refl _ _).alloc (Nat.le_refl _) _, by simp only [todoS, enV, List.nil_append, List.append_nil]; rw [unhide HTOT], fun e he => by
    rw [List.mem_singleton] at he
    subst he
    exact ⟨.inl ⟨rfl, rfl, rfl⟩, .inl ⟨rfl, rfl, rfl⟩, Nat.lt_succ_self _⟩⟩
  generalize hfc : f.count = fc at *
  have HFC := hide hfc
  clear hfc
  go_wp2
  go_loopg [8, 9] (TOT.length + 1) (fun ga u v wr => ∃ (AL : List (Int × Int × Bool)) (ST : List En), PgSt f g TOT w3 AL [] ST u v wr ∧ ST.length ≤ AL.length + 1 ∧ TOT.length + ST.length ≤ AL.length + ga)
  case atStart => exact ⟨[], [⟨-1, -1, f, g, 0, 0, fc + 1⟩], unhide HINIT, Nat.le_refl _, by simp⟩
  case round =>
    clear HINIT
    obtain ⟨AL, ST, hS, hsl, hm⟩ := hrel
    obtain ⟨uq, un, uc, hu⟩ := slice_of hS.al
    subst hu
    have hal : AL.length ≤ 900 := by
      have h1 := hS.pm.length_eq
      have h2 := unhide HTL
      have h3 := unhide NF
      rw [List.length_append] at h1
      omega
    cases ST with
    | nil =>
      obtain ⟨vq, vc, hv, _⟩ := PairsV.cells hS.st
      subst hv
      have HSO := hide (sortAny_any uq un uc w3.heap.size AL wr hS.al (by omega))
      have hpm : AL.Perm TOT := by have := hS.pm; simpa [todoS] using this
      have HB := hide ((unhide HB3).trans (hS.bl.mono hz3))
      clear hS
      simp only [stK, List.length_nil]
      go_wp2_with fail
      refine (unhide HSO).mono ?_
      rintro e w5 ⟨rfl, L', hp1, hp2, hrow, hbl⟩
      have hL : L' = TOT := sorted_is TOT L' _ _ (unhide HRISE) (hp1.trans hpm) hp2
      subst hL
      have HR := hide (owns_mono hrow hz3)
      have HBF := hide ((unhide HB).trans (hbl.mono hz3))
      clear hrow hbl hp1 hp2 hpm
      go_wp2
      go_ret
      exact ⟨_, rfl, unhide HR, unhide HBF⟩
    | cons e st =>
      obtain ⟨x, y, F, G, a, b, m0⟩ := e
      obtain ⟨hkF, hkG, hFm⟩ := hS.ok _ (List.mem_cons_self ..)
      obtain ⟨m, rfl⟩ : ∃ m, m0 = m + 1 := ⟨m0 - 1, by simp only at hFm; omega⟩
      have hst := hS.st
      change PairsV wr w3.heap.size _ (stK st ++ [(x, y, false)]) at hst
      obtain ⟨gl, cap, rfl, hgl, hcap, c0, c1, c2, hshr⟩ := pairs_last hst
      rw [stK_len] at hshr c0 c1 c2 hcap ⊢
      generalize hn : st.length = n at *
      have hsl' : n + 1 ≤ AL.length + 1 := by simpa [hn] using hsl
      have hm' : TOT.length + (n + 1) ≤ AL.length + gk := by simpa [hn] using hm
      have HS0 : Hid (PgSt f g TOT w3 AL (pgL (pgF m) F G a b (ltP F G)) st (.slice uq un uc) (.slice (some ⟨gl, 0, none⟩) n cap) wr) := hide ⟨hS.al, hshr, hS.ap, hS.bl, hS.pm, fun e he => hS.ok e (List.mem_cons_of_mem _ he)⟩
      have HKF : Hid (KidOf f x F a) := hide hkF
      have HKG : Hid (KidOf g y G b) := hide hkG
      have HFM : Hid (F.count < m + 1) := hide hFm
      have HN := hide hn
      have HSL := hide hsl'
      have HMM := hide hm'
      have hn9 : (n : Int) ≤ 900 := by omega
      have hn0 : (0 : Int) ≤ (n : Int) := by omega
      have HAL := hide hal
      clear hS hst hshr hkF hkG hFm hn hsl hm hsl' hm' hal
      have KBX : Hid (Blk (wr.alloc (Obj.cells #[.int .i64 x, .int .i64 y, .bool false] 37)) wr.heap.size #[.int .i64 x, .int .i64 y, .bool false] 37) := hide (Blk.new _ _ _)
      go_upto_region 8 with fail
      have hzz : (wr.alloc (Obj.cells #[.int .i64 x, .int .i64 y, .bool false] 37)).heap.size = wr.heap.size + 1 := by simp
      have HBZ : Hid (Below wr.heap.size wr (wr.alloc (Obj.cells #[.int .i64 x, .int .i64 y, .bool false] 37))) := hide ((Below.refl _ _).alloc (Nat.le_refl _) _)
      generalize wr.alloc (Obj.cells #[.int .i64 x, .int .i64 y, .bool false] 37) = wz at *
      have hFc : F.count ≤ f.count := by have := (unhide HKF).lies.1; omega
      have hGc : G.count ≤ g.count := by have := (unhide HKG).lies.1; omega
      have hFl : F.len ≤ 900 := by have := F.len_count; have := unhide HFC; have := unhide NF; omega
      have hGl : G.len ≤ 900 := by have := G.len_count; have := unhide NG; omega
      have CK1 : Hid (∀ W, Below w3.heap.size w3 W → Calls Tryd.prog 37 #[.pointer (some ⟨pa, 0, none⟩), .int .i64 x] W fun e w' => ∃ u, e = .returned u ∧ NmV w' W.heap.size u (nums F a) ∧ Below W.heap.size W w') := hide (fun W hW => by
        obtain ⟨qi, ci, qk, ck, ql, cl, h1, _, _, h4, _, _⟩ := unhide PA W hW
        exact kids_any f F pa a x qi ci W h1 h4 (unhide HKF) (by have := unhide HFC; have := unhide NF; omega))
      have CK2 : Hid (∀ W, Below w3.heap.size w3 W → Calls Tryd.prog 37 #[.pointer (some ⟨pb, 0, none⟩), .int .i64 y] W fun e w' => ∃ u, e = .returned u ∧ NmV w' W.heap.size u (nums G b) ∧ Below W.heap.size W w') := hide (fun W hW => by
        obtain ⟨qi, ci, qk, ck, ql, cl, h1, _, _, h4, _, _⟩ := unhide PB W hW
        exact kids_any g G pb b y qi ci W h1 h4 (unhide HKG) (unhide NG))
      have CR1 : Hid (∀ W qs cs, Below w3.heap.size w3 W → MtsV qs F.len (nmI (nums F a)) W → Calls Tryd.prog 38 #[.pointer (some ⟨pa, 0, none⟩), .slice qs F.len cs] W fun e w' => ∃ u1 u2, e = .returned (.agg #[u1, u2]) ∧ w'.ownsRow W.heap.size 3 1 u1 F.len ((rowZ ka F a).map intV) ∧ w'.ownsRow W.heap.size 3 1 u2 F.len ((rowZ la F a).map intV) ∧ Below W.heap.size W w') := hide (fun W qs cs hW hv => by
        obtain ⟨qi, ci, qk, ck, ql, cl, _, h2, h3, _, h5, h6⟩ := unhide PA W hW
        have X := row_any pa f.count qk ql qs ck cl cs ka la (nums F a) W h2 h3 h5 h6 (by rw [nums_len]; exact hv) (fun j hj => (nums_at f F a j (unhide HKF).lies (by rw [nums_len] at hj; exact hj)).1) (by rw [nums_len]; exact hFl) (by have := unhide HFC; have := unhide NF; omega)
        rw [nums_len] at X
        exact X)
      have CR2 : Hid (∀ W qs cs, Below w3.heap.size w3 W → MtsV qs G.len (nmI (nums G b)) W → Calls Tryd.prog 38 #[.pointer (some ⟨pb, 0, none⟩), .slice qs G.len cs] W fun e w' => ∃ u1 u2, e = .returned (.agg #[u1, u2]) ∧ w'.ownsRow W.heap.size 3 1 u1 G.len ((rowZ kb G b).map intV) ∧ w'.ownsRow W.heap.size 3 1 u2 G.len ((rowZ lb G b).map intV) ∧ Below W.heap.size W w') := hide (fun W qs cs hW hv => by
        obtain ⟨qi, ci, qk, ck, ql, cl, _, h2, h3, _, h5, h6⟩ := unhide PB W hW
        have X := row_any pb g.count qk ql qs ck cl cs kb lb (nums G b) W h2 h3 h5 h6 (by rw [nums_len]; exact hv) (fun j hj => (nums_at g G b j (unhide HKG).lies (by rw [nums_len] at hj; exact hj)).1) (by rw [nums_len]; exact hGl) (unhide NG)
        rw [nums_len] at X
        exact X)
      have HLT : Hid (mtF (eqZ (rowZ la F a) (rowZ lb G b)) F.len G.len 0 0 (lnP (eqZ (rowZ ka F a) (rowZ kb G b)) F.len G.len 0 0) = ltP F G) := hide (unhide LTP F G a b (unhide HKF).lies (unhide HKG).lies)
      have HS1 : Hid (PgSt f g TOT w3 AL (pgL (pgF m) F G a b (ltP F G)) st (.slice uq un uc) (.slice (some ⟨gl, 0, none⟩) n cap) wz) := hide ((unhide HS0).later (unhide HBZ))
      have HUV : Hid (∀ k, (Value.slice uq un uc).ownBlock = some k ∨ (Value.slice (some ⟨gl, 0, none⟩) n cap).ownBlock = some k → k < wr.heap.size) := hide (fun k hk => by
        rcases hk with hk | hk
        · exact ((unhide HS0).al.lt k hk).2
        · exact ((unhide HS0).st.lt k hk).2)
      clear HS0 c0 c1 c2
      go_cut [11, 12] from 38 to 45 (fun uA uB wx => NmV wx wz.heap.size uA (nums F a) ∧ NmV wx wz.heap.size uB (nums G b) ∧ Below wz.heap.size wz wx)
      case first =>
        have HW0 : Hid (Below w3.heap.size w3 wz.drew) := hide ((unhide HS1).bl.drew)
        have HZ0 : Hid (Below wz.heap.size wz wz.drew) := hide (Below.refl _ _).drew
        have hSa : BxS wr.heap.size x y false wz.drew := bxS_of (blk_drewE (unhide KBX))
        refine wp_region_held (S := BxS wr.heap.size x y false) (by kernel_rfl) ?_
        change wpAnyH _ _ _ _ _ _ _ _ (World.drew _)
        refine wpAnyH_take (i := 0) (oi := { dst := some 38, op := _, type := _, pos := _, after := _, guard := _ }) (v := ?va0_1) rfl (by kernel_rfl) (by kernel_rfl) (by kernel_rfl) (fun _ _ _ h => h) (Or.inl ⟨by kernel_rfl, ?ha0_1⟩) hSa ?ra0_1
        case ha0_1 => first | (intro w hSw; obtain ⟨s0, s1, s2⟩ := hSw; go_simp; done) | (intro w hSw; obtain ⟨s0, s1, s2⟩ := hSw; go_simp; with_reducible rfl)
        try simp only [Act.put, List.setIfInBounds_toArray, List.set_cons_zero, List.set_cons_succ]
        refine wpAnyH_take (i := 1) (oi := { dst := some 39, op := _, type := _, pos := _, after := _, guard := _ }) (v := ?va1_2) rfl (by kernel_rfl) (by kernel_rfl) (by kernel_rfl) (fun _ _ _ h => h) (Or.inl ⟨by kernel_rfl, ?ha1_2⟩) hSa ?ra1_2
        case ha1_2 => first | (intro w hSw; obtain ⟨s0, s1, s2⟩ := hSw; go_simp; done) | (intro w hSw; obtain ⟨s0, s1, s2⟩ := hSw; go_simp; with_reducible rfl)
        try simp only [Act.put, List.setIfInBounds_toArray, List.set_cons_zero, List.set_cons_succ]
        refine wpAnyH_take (i := 2) (oi := { dst := some 40, op := _, type := _, pos := _, after := _, guard := _ }) (v := ?va2_3) rfl (by kernel_rfl) (by kernel_rfl) (by kernel_rfl) (fun _ _ _ h => h) (Or.inl ⟨by kernel_rfl, ?ha2_3⟩) hSa ?ra2_3
        case ha2_3 => first | (intro w hSw; obtain ⟨s0, s1, s2⟩ := hSw; go_simp; done) | (intro w hSw; obtain ⟨s0, s1, s2⟩ := hSw; go_simp; with_reducible rfl)
        try simp only [Act.put, List.setIfInBounds_toArray, List.set_cons_zero, List.set_cons_succ]
        refine wpAnyH_take (i := 4) (oi := { dst := some 42, op := _, type := _, pos := _, after := _, guard := _ }) (v := ?va4_4) rfl (by kernel_rfl) (by kernel_rfl) (by kernel_rfl) (fun _ _ _ h => h) (Or.inl ⟨by kernel_rfl, ?ha4_4⟩) hSa ?ra4_4
        case ha4_4 => first | (intro w hSw; obtain ⟨s0, s1, s2⟩ := hSw; go_simp; done) | (intro w hSw; obtain ⟨s0, s1, s2⟩ := hSw; go_simp; with_reducible rfl)
        try simp only [Act.put, List.setIfInBounds_toArray, List.set_cons_zero, List.set_cons_succ]
        refine wpAnyH_take (i := 5) (oi := { dst := some 43, op := _, type := _, pos := _, after := _, guard := _ }) (v := ?va5_5) rfl (by kernel_rfl) (by kernel_rfl) (by kernel_rfl) (fun _ _ _ h => h) (Or.inl ⟨by kernel_rfl, ?ha5_5⟩) hSa ?ra5_5
        case ha5_5 => first | (intro w hSw; obtain ⟨s0, s1, s2⟩ := hSw; go_simp; done) | (intro w hSw; obtain ⟨s0, s1, s2⟩ := hSw; go_simp; with_reducible rfl)
        try simp only [Act.put, List.setIfInBounds_toArray, List.set_cons_zero, List.set_cons_succ]
        refine wpAnyH_take (i := 6) (oi := { dst := some 44, op := _, type := _, pos := _, after := _, guard := _ }) (v := ?va6_6) rfl (by kernel_rfl) (by kernel_rfl) (by kernel_rfl) (fun _ _ _ h => h) (Or.inl ⟨by kernel_rfl, ?ha6_6⟩) hSa ?ra6_6
        case ha6_6 => first | (intro w hSw; obtain ⟨s0, s1, s2⟩ := hSw; go_simp; done) | (intro w hSw; obtain ⟨s0, s1, s2⟩ := hSw; go_simp; with_reducible rfl)
        try simp only [Act.put, List.setIfInBounds_toArray, List.set_cons_zero, List.set_cons_succ]
        refine wpAnyH_ready (rs := [3]) (by kernel_rfl) (by simp) ?_
        refine AllReadyH.cons rfl (fun K hK => ?_) AllReadyH.nil
        go_simp
        refine (unhide CK1 _ (unhide HW0)).mono ?_
        rintro e8 w8 ⟨u8, rfl, hn8, hb8⟩
        have HB8 : Hid (Below wz.heap.size wz w8) := hide (tr2 (unhide HZ0) hb8)
        have HW8 : Hid (Below w3.heap.size w3 w8) := hide ((unhide HW0).trans (hb8.mono (unhide HW0).size))
        have HN8 : Hid (NmV w8 wz.heap.size u8 (nums F a)) := hide hn8
        have hSa' := hSa.le (below_cells hb8)
        clear hn8 hb8
        refine hK _ _ hSa' (fun _ => ?_)
        clear hK K hSa
        have hSa := hSa'
        clear hSa'
        refine wpAnyH_ready (rs := [7]) (by kernel_rfl) (by simp) ?_
        refine AllReadyH.cons rfl (fun K hK => ?_) AllReadyH.nil
        go_simp
        refine (unhide CK2 _ (unhide HW8)).mono ?_
        rintro e9 w9 ⟨u9, rfl, hn9, hb9⟩
        have HB9 := hide (tr2 (unhide HB8) hb9)
        have HN9 : Hid (NmV w9 wz.heap.size u9 (nums G b)) := hide (owns_mono hn9 (unhide HB8).size)
        have HN8' : Hid (NmV w9 wz.heap.size u8 (nums F a)) := hide (ownsRow_below (unhide HN8) hb9)
        have hSa' := hSa.le (below_cells hb9)
        clear hn9 hb9
        refine hK _ _ hSa' (fun _ => ?_)
        clear hK K hSa
        have hSa := hSa'
        clear hSa'
        refine wpAnyH_take (i := 8) (oi := { dst := some 11, op := _, type := _, pos := _, after := _, guard := _ }) (v := ?va8_7) rfl (by kernel_rfl) (by kernel_rfl) (by kernel_rfl) (fun _ _ _ h => h) (Or.inl ⟨by kernel_rfl, ?ha8_7⟩) hSa ?ra8_7
        case ha8_7 => first | (intro w hSw; obtain ⟨s0, s1, s2⟩ := hSw; go_simp; done) | (intro w hSw; obtain ⟨s0, s1, s2⟩ := hSw; go_simp; with_reducible rfl)
        try simp only [Act.put, List.setIfInBounds_toArray, List.set_cons_zero, List.set_cons_succ]
        refine wpAnyH_take (i := 9) (oi := { dst := some 12, op := _, type := _, pos := _, after := _, guard := _ }) (v := ?va9_8) rfl (by kernel_rfl) (by kernel_rfl) (by kernel_rfl) (fun _ _ _ h => h) (Or.inl ⟨by kernel_rfl, ?ha9_8⟩) hSa ?ra9_8
        case ha9_8 => first | (intro w hSw; obtain ⟨s0, s1, s2⟩ := hSw; go_simp; done) | (intro w hSw; obtain ⟨s0, s1, s2⟩ := hSw; go_simp; with_reducible rfl)
        try simp only [Act.put, List.setIfInBounds_toArray, List.set_cons_zero, List.set_cons_succ]
        refine wpAnyH_done (by kernel_rfl) ?_ _
        go_wp2_with fail
        go_meet
        exact ⟨unhide HN8', unhide HN9, unhide HB9⟩
      case rest =>
        obtain ⟨hna, hnb, hbw⟩ := hcut
        obtain ⟨kqa, kna, kca, hua⟩ := slice_of hna
        subst hua
        obtain ⟨kqb, knb, kcb, hub⟩ := slice_of hnb
        subst hub
        obtain ⟨e1, _, hma, hra⟩ := nm_row hna
        obtain ⟨e2, _, hmb, hrb⟩ := nm_row hnb
        rw [nums_len] at e1 e2
        subst e1 e2
        have HBR : Hid (Below wr.heap.size wr wc) := hide ((unhide HBZ).trans (hbw.mono (by omega)))
        have HWC : Hid (Below w3.heap.size w3 wc) := hide ((unhide HS1).bl.trans (hbw.mono (unhide HS1).bl.size))
        have CRA := hide (unhide CR1 wc kqa kca (unhide HWC) hma)
        have HMB := hide hmb
        have HRA := hide hra
        have HRB := hide hrb
        have HBW := hide hbw
        have hzc := hbw.size
        clear hna hnb hbw hma hmb hra hrb CR1 CK1 CK2
        go_wp2_with fail
        refine (unhide CRA).mono ?_
        rintro e w4 ⟨u1, u2, rfl, hr1, hr2, hb4⟩
        have HW4 : Hid (Below w3.heap.size w3 w4) := hide ((unhide HWC).trans (hb4.mono (unhide HWC).size))
        have HBC4 := hide hb4
        have CRB := hide (unhide CR2 w4 kqb kcb (unhide HW4) ((unhide HMB).below hb4))
        have HR1 := hide hr1
        have HR2 := hide hr2
        obtain ⟨q1, n1, d1, hu1⟩ := slice_of hr1
        obtain ⟨q2, n2, d2, hu2⟩ := slice_of hr2
        subst hu1 hu2
        clear hr1 hr2 hb4 CRA CR2 HMB HWC
        go_wp2_with fail
        refine (unhide CRB).mono ?_
        rintro e w5 ⟨u3, u4, rfl, hr3, hr4, hb5⟩
        obtain ⟨q3, n3, d3, hu3⟩ := slice_of hr3
        obtain ⟨q4, n4, d4, hu4⟩ := slice_of hr4
        subst hu3 hu4
        have hr1 := ownsRow_below (unhide HR1) hb5
        have hr2 := ownsRow_below (unhide HR2) hb5
        obtain ⟨a1, b1, m1⟩ := ints_owns (zs := rowZ ka F a) (by rw [rowZ_len]; exact hr1)
        obtain ⟨a2, b2, m2⟩ := ints_owns (zs := rowZ la F a) (by rw [rowZ_len]; exact hr2)
        obtain ⟨a3, b3, m3⟩ := ints_owns (zs := rowZ kb G b) (by rw [rowZ_len]; exact hr3)
        obtain ⟨a4, b4, m4⟩ := ints_owns (zs := rowZ lb G b) (by rw [rowZ_len]; exact hr4)
        rw [rowZ_len] at a1 a2 a3 a4
        subst a1 a2 a3 a4
        have CM := hide (match_any q1 q2 q3 q4 F.len G.len d1 d2 d3 d4 (rowZ ka F a) (rowZ la F a) (rowZ kb G b) (rowZ lb G b) w5 m1 m2 m3 m4 (by omega) (by omega) b1 b3)
        rw [unhide HLT] at CM
        have HBC5 := hide (tr2 (unhide HBC4) hb5)
        clear hr1 hr2 hr3 hr4 m1 m2 m3 m4 b1 b2 b3 b4 hb5 HR1 HR2 CRB HLT HBC4 HW4
        go_wp2_with fail
        refine (unhide CM).mono ?_
        rintro e w6 ⟨u, rfl, hrow, hb6⟩
        obtain ⟨rq, rc, hu, hcl⟩ := PairsV.cells hrow
        subst hu
        have hS6 := (unhide HS1).later (tr3 (unhide HBW) (unhide HBC5) hb6)
        have HI0 : Hid (InR f g TOT w3 w6 (.slice uq un uc) (.slice (some ⟨gl, 0, none⟩) n cap) AL (pgL (pgF m) F G a b ((ltP F G).drop 0)) st (.slice uq un uc) (.slice (some ⟨gl, 0, none⟩) n cap) w6) := hide ⟨⟨hS6.al, hS6.st, hS6.ap, hS6.bl, fun b _ _ _ => rfl, fun k hk => .inl hk, fun k hk => .inl hk, Nat.le_refl _⟩, hS6.pm, hS6.ok⟩
        have RA : Hid (∀ wx, Kp2 w6 (.slice uq un uc) (.slice (some ⟨gl, 0, none⟩) n cap) wx → ∀ X, X < F.len → ∃ gA, kqa = some ⟨gA, 0, none⟩ ∧ wx.cell? ⟨gA, X, none⟩ = some (.int .i64 ((numE F a X : Nat) : Int))) := hide (fun wx hk X hX => by
          obtain ⟨gA, e, hb, hc⟩ := unhide HRA (by omega)
          have c := hc X hX
          rw [nums_numE F a X hX] at c
          have c6 := (below_cells (tr2 (unhide HBC5) hb6)) _ _ _ c
          exact ⟨gA, e, kp2_cell hk c6 (fun e => by have := unhide HUV gA (.inl e.symm); omega) (fun e => by have := unhide HUV gA (.inr e.symm); omega)⟩)
        have RB : Hid (∀ wx, Kp2 w6 (.slice uq un uc) (.slice (some ⟨gl, 0, none⟩) n cap) wx → ∀ X, X < G.len → ∃ gA, kqb = some ⟨gA, 0, none⟩ ∧ wx.cell? ⟨gA, X, none⟩ = some (.int .i64 ((numE G b X : Nat) : Int))) := hide (fun wx hk X hX => by
          obtain ⟨gA, e, hb, hc⟩ := unhide HRB (by omega)
          have c := hc X hX
          rw [nums_numE G b X hX] at c
          have c6 := (below_cells (tr2 (unhide HBC5) hb6)) _ _ _ c
          exact ⟨gA, e, kp2_cell hk c6 (fun e => by have := unhide HUV gA (.inl e.symm); omega) (fun e => by have := unhide HUV gA (.inr e.symm); omega)⟩)
        have hz5 := (unhide HBC5).size
        have RP : Hid (∀ wx, Kp2 w6 (.slice uq un uc) (.slice (some ⟨gl, 0, none⟩) n cap) wx → ∀ t, t < (ltP F G).length → ∃ gR, rq = some ⟨gR, 0, none⟩ ∧ wx.cell? ⟨gR, t * 3, none⟩ = some (.int .i64 ((ltP F G).getD t p0).1) ∧ wx.cell? ⟨gR, t * 3 + 1, none⟩ = some (.int .i64 ((ltP F G).getD t p0).2.1) ∧ wx.cell? ⟨gR, t * 3 + 2, none⟩ = some (.bool ((ltP F G).getD t p0).2.2)) := hide (fun wx hk t ht => by
          obtain ⟨gR, e, _, hc⟩ := hcl (by omega)
          have hgb := (hrow.lt gR (by rw [e]; rfl)).1
          obtain ⟨c0, c1, c2⟩ := hc t ht
          have n1 : some gR ≠ (Value.slice uq un uc).ownBlock := fun e => by have := unhide HUV gR (.inl e.symm); omega
          have n2 : some gR ≠ (Value.slice (some ⟨gl, 0, none⟩) n cap).ownBlock := fun e => by have := unhide HUV gR (.inr e.symm); omega
          exact ⟨gR, e, kp2_cell hk c0 n1 n2, kp2_cell hk c1 n1 n2, kp2_cell hk c2 n1 n2⟩)
        have HLM : Hid (∀ p ∈ ltP F G, ∃ X Y : Nat, p.1 = (X : Int) ∧ p.2.1 = (Y : Int) ∧ X < F.len ∧ Y < G.len) := hide (fun p hp => by
          obtain ⟨X, Y, e1, e2, _, _⟩ := ltP_mem F G p hp
          obtain ⟨h1, h2⟩ := rsI_in _ _ _ (ltP_rs F G) p hp
          exact ⟨X, Y, e1, e2, by omega, by omega⟩)
        have hlt := lt_len F G
        have HMH := unhide HMM
        have HSH := unhide HSL
        have hATL : AL.length ≤ TOT.length := by have := (unhide HI0).len; omega
        obtain ⟨ga, rfl⟩ : ∃ ga, gk = ga + 1 := ⟨gk - 1, by omega⟩
        have HST0 : Hid (st.length ≤ AL.length + 1 ∧ TOT.length + st.length ≤ AL.length + ga) := hide (by have := unhide HN; omega)
        generalize ltP F G = LT at *
        generalize hll : LT.length = ll at *
        have HLL := hide hll
        clear hll hrow hcl hb6 hS6 HS1 HRA HRB HBC5 HBW CM HMM HSL HMH HSH hATL HBZ KBX HBR
        obtain ⟨wo, hwo⟩ : ∃ wo, wo = wr := ⟨_, rfl⟩
        subst hwo
        go_wp2
        go_loopg [8, 9, 54, 14] ll (fun gb ux vx tv pv wx => ∃ (t : Nat) (AL' : List (Int × Int × Bool)) (ST' : List En), t + gb = ll ∧ tv = .int .i64 (t : Int) ∧ InR f g TOT w3 w6 (.slice uq un uc) (.slice (some ⟨gl, 0, none⟩) n cap) AL' (pgL (pgF m) F G a b (LT.drop t)) ST' ux vx wx ∧ ST'.length ≤ AL'.length + 1 ∧ TOT.length + ST'.length ≤ AL'.length + ga)
        case atStart => exact ⟨0, AL, st, by omega, rfl, unhide HI0, (unhide HST0).1, (unhide HST0).2⟩
        case round =>
          clear HI0 HST0
          obtain ⟨t, AL', ST', htg, rfl, hI, hst1, hst2⟩ := hrel
          obtain ⟨xq, xn, xc, hux⟩ := slice_of hI.b.al
          subst hux
          obtain ⟨yq, yn, yc, hvx⟩ := slice_of hI.b.st
          subst hvx
          have hlen := hI.len
          have hal9 : AL'.length ≤ 900 := by have := unhide HTL; have := unhide NF; omega
          by_cases hp : t < ll
          · have hpi : (t : Int) < (ll : Int) := by omega
            have ht0 : (0 : Int) ≤ (t : Int) := by omega
            obtain ⟨gb, rfl⟩ : ∃ gb, gk = gb + 1 := ⟨gk - 1, by omega⟩
            have hgb : t + 1 + gb = ll := by omega
            obtain ⟨gR, hgR, c0, c1, c2⟩ := unhide RP wr hI.b.kp t hp
            subst hgR
            have hLl := unhide HLL
            have hmem : LT.getD t p0 ∈ LT := by rw [List.getD, List.getElem?_eq_getElem (by omega)]; exact List.getElem_mem _
            have hdrop : LT.drop t = LT.getD t p0 :: LT.drop (t + 1) := by rw [List.drop_eq_getElem_cons (by omega), List.getD, List.getElem?_eq_getElem (by omega)]; rfl
            obtain ⟨X, Y, e1, e2, hX, hY⟩ := unhide HLM _ hmem
            rw [hdrop] at hI
            clear hmem hdrop hLl
            generalize LT.getD t p0 = pp at *
            obtain ⟨px, py, z⟩ := pp
            simp only at e1 e2 c0 c1 c2
            subst e1 e2
            have hXi : (X : Int) < (F.len : Int) := by omega
            have hYi : (Y : Int) < (G.len : Int) := by omega
            have hX0 : (0 : Int) ≤ (X : Int) := by omega
            have hY0 : (0 : Int) ≤ (Y : Int) := by omega
            obtain ⟨gA, hgA, cA⟩ := unhide RA wr hI.b.kp X hX
            obtain ⟨gB, hgB, cB⟩ := unhide RB wr hI.b.kp Y hY
            subst hgA hgB
            obtain ⟨kx1, kx2, kx3⟩ := kidOf_drop (unhide HKF).lies hX
            obtain ⟨ky1, ky2, ky3⟩ := kidOf_drop (unhide HKG).lies hY
            have hcm := kidF_drop F X hX
            have HIA : Hid (InR f g TOT w3 w6 (.slice uq un uc) (.slice (some ⟨gl, 0, none⟩) n cap) AL' (pgL (pgF m) F G a b (((X : Int), (Y : Int), z) :: LT.drop (t + 1))) ST' (.slice xq xn xc) (.slice yq yn yc) wr) := hide hI
            have HPW := @pgL_whole (pgF m) F G a b X Y (LT.drop (t + 1))
            have HPA := @pgL_alike (pgF m) F G a b X Y (LT.drop (t + 1))
            generalize numE F a X = i at *
            generalize numE G b Y = j at *
            have HPW := hide HPW
            have HPA := hide HPA
            have HKX := hide kx1
            have HKY := hide ky1
            have HSZ : Hid (szA f i = ((1 + (kidF (F.drop X)).count : Nat) : Int)) := hide (by rw [kx3]; omega)
            have HCM := hide hcm
            have lA : gA < wr.heap.size := World.block_lt_of_cell? wr _ cA
            have lB : gB < wr.heap.size := World.block_lt_of_cell? wr _ cB
            have hi9 : i ≤ 900 := by have := unhide NF; have := unhide HFC; omega
            have hj9 : j ≤ 900 := by have := unhide NG; omega
            have HIC := hide kx2
            clear hI kx1 ky1 kx2 kx3 ky2 ky3 hcm
            go_upto_region 12 with fail
            go_cut [] from 58 to 69 (fun wy => Blk wy wr.heap.size #[.int .i64 (i : Int), .int .i64 (j : Int), .bool z] 37 ∧ Below wr.heap.size wr wy)
            case first =>
              have K0 := Blk.new wr #[.int .i64 (X : Int), .int .i64 (Y : Int), .bool z] 37
              have x0 := K0.cell 0
              have x1 := K0.cell 1
              have f0 := K0.frozen 0
              have f1 := K0.frozen 1
              have HK0 := hide K0
              clear K0
              go_region
              all_goals (go_wp2_with fail; go_meet)
              all_goals exact ⟨blk_drewE (Blk.new _ _ _), ((Below.refl _ _).alloc (Nat.le_refl _) _).drew⟩
            case rest =>
              obtain ⟨hbx, hbw⟩ := hcut
              have hzw := hbw.size
              have hbl := hbx.lt
              have x2 := hbx.cell 2
              have HIB : Hid (InR f g TOT w3 w6 (.slice uq un uc) (.slice (some ⟨gl, 0, none⟩) n cap) AL' (pgL (pgF m) F G a b (((X : Int), (Y : Int), z) :: LT.drop (t + 1))) ST' (.slice xq xn xc) (.slice yq yn yc) wc) := hide ((unhide HIA).later hbw)
              have HBU : Hid ((∀ k, (Value.slice xq xn xc).ownBlock = some k → k ≠ wr.heap.size) ∧ (∀ k, (Value.slice yq yn yc).ownBlock = some k → k ≠ wr.heap.size)) := hide ⟨fun k hk => by have := ((unhide HIA).b.al.lt k hk).2; omega, fun k hk => by have := ((unhide HIA).b.st.lt k hk).2; omega⟩
              have HBX := hide hbx
              clear hbx hbw HIA c0 c1 c2 cA cB
              cases z with
              | true =>
                obtain ⟨mm, hmm⟩ : ∃ k, 1 + (kidF (F.drop X)).count = k := ⟨_, rfl⟩
                have hmm9 : mm ≤ 1000 := by have := unhide HCM; have := unhide HFC; have := unhide NF; omega
                have hiC : (i : Int) < (f.count : Int) := by have := unhide HIC; omega
                have hi00 : (0 : Int) ≤ (i : Int) := by omega
                have HIW : Hid (InR f g TOT w3 w6 (.slice uq un uc) (.slice (some ⟨gl, 0, none⟩) n cap) AL' (whR i j mm ++ pgL (pgF m) F G a b (LT.drop (t + 1))) ST' (.slice xq xn xc) (.slice yq yn yc) wc.drew) := hide (by
                  have h := (unhide HIB).later (Below.refl _ _).drew
                  rw [unhide HPW, hmm] at h
                  exact h)
                have hsz : szA f i = (mm : Int) := by rw [unhide HSZ, hmm]
                obtain ⟨qi, ci, _, _, _, _, p1, _, _, p4, _, _⟩ := unhide PA w3 (Below.refl _ _)
                obtain ⟨yy, hyy⟩ := itm_get f i (unhide HIC)
                obtain ⟨gi, hgi, pc⟩ := p4 (by omega)
                have p5 := (pc i yy hyy).2.2.2.2
                rw [hsz] at p5
                subst hgi
                have hlg : gi < w3.heap.size := World.block_lt_of_cell? w3 _ p5
                have hlp : pa < w3.heap.size := World.block_lt_of_cell? w3 _ p1
                have hcc := below_cells (unhide HIW).b.bl
                have hSc : R14S wr.heap.size pa gi ci f.count i (i : Int) (j : Int) (mm : Int) wc.drew := ⟨(blk_drewE (unhide HBX)).cell 0, (blk_drewE (unhide HBX)).cell 1, (blk_drewE (unhide HBX)).cell 2, hcc _ _ _ p1, hcc _ _ _ p5⟩
                clear p1 p4 pc p5 hyy hcc hsz hmm
                go_upto_region 14 with fail
                refine wp_region_held (S := R14S wr.heap.size pa gi ci f.count i (i : Int) (j : Int) (mm : Int)) (by kernel_rfl) ?_
                change wpAnyH _ _ _ _ _ _ _ _ (World.drew _)
                refine wpAnyH_take (i := 0) (oi := { dst := some 72, op := _, type := _, pos := _, after := _, guard := _ }) (v := ?vc0_9) rfl (by kernel_rfl) (by kernel_rfl) (by kernel_rfl) (fun _ _ _ h => h) (Or.inl ⟨by kernel_rfl, ?hc0_9⟩) hSc ?rc0_9
                case hc0_9 => first | (intro w hSw; obtain ⟨s0, s1, s2, s3, s4⟩ := hSw; go_simp; done) | (intro w hSw; obtain ⟨s0, s1, s2, s3, s4⟩ := hSw; go_simp; with_reducible rfl)
                try simp only [Act.put, List.setIfInBounds_toArray, List.set_cons_zero, List.set_cons_succ]
                refine wpAnyH_take (i := 1) (oi := { dst := some 73, op := _, type := _, pos := _, after := _, guard := _ }) (v := ?vc1_10) rfl (by kernel_rfl) (by kernel_rfl) (by kernel_rfl) (fun _ _ _ h => h) (Or.inl ⟨by kernel_rfl, ?hc1_10⟩) hSc ?rc1_10
                case hc1_10 => first | (intro w hSw; obtain ⟨s0, s1, s2, s3, s4⟩ := hSw; go_simp; done) | (intro w hSw; obtain ⟨s0, s1, s2, s3, s4⟩ := hSw; go_simp; with_reducible rfl)
                try simp only [Act.put, List.setIfInBounds_toArray, List.set_cons_zero, List.set_cons_succ]
                refine wpAnyH_take (i := 2) (oi := { dst := some 74, op := _, type := _, pos := _, after := _, guard := _ }) (v := ?vc2_11) rfl (by kernel_rfl) (by kernel_rfl) (by kernel_rfl) (fun _ _ _ h => h) (Or.inl ⟨by kernel_rfl, ?hc2_11⟩) hSc ?rc2_11
                case hc2_11 => first | (intro w hSw; obtain ⟨s0, s1, s2, s3, s4⟩ := hSw; go_simp; done) | (intro w hSw; obtain ⟨s0, s1, s2, s3, s4⟩ := hSw; go_simp; with_reducible rfl)
                try simp only [Act.put, List.setIfInBounds_toArray, List.set_cons_zero, List.set_cons_succ]
                refine wpAnyH_take (i := 3) (oi := { dst := some 75, op := _, type := _, pos := _, after := _, guard := _ }) (v := ?vc3_12) rfl (by kernel_rfl) (by kernel_rfl) (by kernel_rfl) (fun _ _ _ h => h) (Or.inl ⟨by kernel_rfl, ?hc3_12⟩) hSc ?rc3_12
                case hc3_12 => first | (intro w hSw; obtain ⟨s0, s1, s2, s3, s4⟩ := hSw; go_simp; done) | (intro w hSw; obtain ⟨s0, s1, s2, s3, s4⟩ := hSw; go_simp; with_reducible rfl)
                try simp only [Act.put, List.setIfInBounds_toArray, List.set_cons_zero, List.set_cons_succ]
                refine wpAnyH_take (i := 4) (oi := { dst := some 76, op := _, type := _, pos := _, after := _, guard := _ }) (v := ?vc4_13) rfl (by kernel_rfl) (by kernel_rfl) (by kernel_rfl) (fun _ _ _ h => h) (Or.inl ⟨by kernel_rfl, ?hc4_13⟩) hSc ?rc4_13
                case hc4_13 => first | (intro w hSw; obtain ⟨s0, s1, s2, s3, s4⟩ := hSw; go_simp; done) | (intro w hSw; obtain ⟨s0, s1, s2, s3, s4⟩ := hSw; go_simp; with_reducible rfl)
                try simp only [Act.put, List.setIfInBounds_toArray, List.set_cons_zero, List.set_cons_succ]
                refine wpAnyH_take (i := 5) (oi := { dst := some 77, op := _, type := _, pos := _, after := _, guard := _ }) (v := ?vc5_14) rfl (by kernel_rfl) (by kernel_rfl) (by kernel_rfl) (fun _ _ _ h => h) (Or.inl ⟨by kernel_rfl, ?hc5_14⟩) hSc ?rc5_14
                case hc5_14 => first | (intro w hSw; obtain ⟨s0, s1, s2, s3, s4⟩ := hSw; go_simp; done) | (intro w hSw; obtain ⟨s0, s1, s2, s3, s4⟩ := hSw; go_simp; with_reducible rfl)
                try simp only [Act.put, List.setIfInBounds_toArray, List.set_cons_zero, List.set_cons_succ]
                refine wpAnyH_take (i := 6) (oi := { dst := some 78, op := _, type := _, pos := _, after := _, guard := _ }) (v := ?vc6_15) rfl (by kernel_rfl) (by kernel_rfl) (by kernel_rfl) (fun _ _ _ h => h) (Or.inl ⟨by kernel_rfl, ?hc6_15⟩) hSc ?rc6_15
                case hc6_15 => first | (intro w hSw; obtain ⟨s0, s1, s2, s3, s4⟩ := hSw; go_simp; done) | (intro w hSw; obtain ⟨s0, s1, s2, s3, s4⟩ := hSw; go_simp; with_reducible rfl)
                try simp only [Act.put, List.setIfInBounds_toArray, List.set_cons_zero, List.set_cons_succ]
                refine wpAnyH_take (i := 7) (oi := { dst := some 79, op := _, type := _, pos := _, after := _, guard := _ }) (v := ?vc7_16) rfl (by kernel_rfl) (by kernel_rfl) (by kernel_rfl) (fun _ _ _ h => h) (Or.inl ⟨by kernel_rfl, ?hc7_16⟩) hSc ?rc7_16
                case hc7_16 => first | (intro w hSw; obtain ⟨s0, s1, s2, s3, s4⟩ := hSw; go_simp; done) | (intro w hSw; obtain ⟨s0, s1, s2, s3, s4⟩ := hSw; go_simp; with_reducible rfl)
                try simp only [Act.put, List.setIfInBounds_toArray, List.set_cons_zero, List.set_cons_succ]
                refine wpAnyH_take (i := 8) (oi := { dst := some 80, op := _, type := _, pos := _, after := _, guard := _ }) (v := ?vc8_17) rfl (by kernel_rfl) (by kernel_rfl) (by kernel_rfl) (fun _ _ _ h => h) (Or.inl ⟨by kernel_rfl, ?hc8_17⟩) hSc ?rc8_17
                case hc8_17 => first | (intro w hSw; obtain ⟨s0, s1, s2, s3, s4⟩ := hSw; go_simp; done) | (intro w hSw; obtain ⟨s0, s1, s2, s3, s4⟩ := hSw; go_simp; with_reducible rfl)
                try simp only [Act.put, List.setIfInBounds_toArray, List.set_cons_zero, List.set_cons_succ]
                refine wpAnyH_take (i := 9) (oi := { dst := some 81, op := _, type := _, pos := _, after := _, guard := _ }) (v := ?vc9_18) rfl (by kernel_rfl) (by kernel_rfl) (by kernel_rfl) (fun _ _ _ h => h) (Or.inl ⟨by kernel_rfl, ?hc9_18⟩) hSc ?rc9_18
                case hc9_18 => first | (intro w hSw; obtain ⟨s0, s1, s2, s3, s4⟩ := hSw; go_simp; done) | (intro w hSw; obtain ⟨s0, s1, s2, s3, s4⟩ := hSw; go_simp; with_reducible rfl)
                try simp only [Act.put, List.setIfInBounds_toArray, List.set_cons_zero, List.set_cons_succ]
                refine wpAnyH_take (i := 10) (oi := { dst := some 82, op := _, type := _, pos := _, after := _, guard := _ }) (v := ?vc10_19) rfl (by kernel_rfl) (by kernel_rfl) (by kernel_rfl) (fun _ _ _ h => h) (Or.inl ⟨by kernel_rfl, ?hc10_19⟩) hSc ?rc10_19
                case hc10_19 => first | (intro w hSw; obtain ⟨s0, s1, s2, s3, s4⟩ := hSw; go_simp; done) | (intro w hSw; obtain ⟨s0, s1, s2, s3, s4⟩ := hSw; go_simp; with_reducible rfl)
                try simp only [Act.put, List.setIfInBounds_toArray, List.set_cons_zero, List.set_cons_succ]
                refine wpAnyH_ready (rs := [11]) (by kernel_rfl) (by simp) ?_
                refine AllReadyH.cons rfl (fun K hK => ?_) AllReadyH.nil
                go_simp
                refine (appWhole_any w3.heap.size xq xn xc AL' i j mm true _ (unhide HIW).b.al (unhide HIW).b.bl.size (by omega) hmm9 (by omega) (by omega)).mono ?_
                rintro e9 w9 ⟨u9, rfl, h1, h2, h3, h4⟩
                obtain ⟨q9, n9, c9, hu9⟩ := slice_of h1
                subst hu9
                have HI9 := hide ((unhide HIW).whole h1 h2 h3 h4)
                have hB9 : Blk w9 wr.heap.size #[.int .i64 (i : Int), .int .i64 (j : Int), .bool true] 37 := (h3 wr.heap.size hbl (fun e => (unhide HBU).1 _ e.symm rfl)).trans (blk_drewE (unhide HBX))
                have hSc' : R14S wr.heap.size pa gi ci f.count i (i : Int) (j : Int) (mm : Int) w9 := ⟨hB9.cell 0, hB9.cell 1, hB9.cell 2, (h2.cell (p := ⟨pa, 0, none⟩) hlp).trans hSc.2.2.2.1, (h2.cell (p := ⟨gi, i * 5 + 4, none⟩) hlg).trans hSc.2.2.2.2⟩
                clear h1 h2 h3 h4 hB9
                refine hK _ _ hSc' (fun _ => ?_)
                clear hK K hSc
                have hSc := hSc'
                clear hSc'
                refine wpAnyH_take (i := 12) (oi := { dst := some 8, op := _, type := _, pos := _, after := _, guard := _ }) (v := ?vc12_20) rfl (by kernel_rfl) (by kernel_rfl) (by kernel_rfl) (fun _ _ _ h => h) (Or.inl ⟨by kernel_rfl, ?hc12_20⟩) hSc ?rc12_20
                case hc12_20 => first | (intro w hSw; obtain ⟨s0, s1, s2, s3, s4⟩ := hSw; go_simp; done) | (intro w hSw; obtain ⟨s0, s1, s2, s3, s4⟩ := hSw; go_simp; with_reducible rfl)
                try simp only [Act.put, List.setIfInBounds_toArray, List.set_cons_zero, List.set_cons_succ]
                refine wpAnyH_done (by kernel_rfl) ?_ _
                clear hSc HIW HBX HIB
                go_wp2
                go_roundg gb
                case rel => exact ⟨t + 1, AL' ++ whR i j mm, ST', hgb, by go_num, unhide HI9, by rw [List.length_append]; omega, by rw [List.length_append]; omega⟩
                case measure => omega
              | false =>
                have HEN : Hid (EnOk f g ⟨(i : Int), (j : Int), kidF (F.drop X), kidF (G.drop Y), i + 1, j + 1, m⟩) := hide ⟨unhide HKX, unhide HKY, by have := unhide HCM; have := unhide HFM; show (kidF (F.drop X)).count < m; omega⟩
                have HIW : Hid (InR f g TOT w3 w6 (.slice uq un uc) (.slice (some ⟨gl, 0, none⟩) n cap) AL' ((enP ⟨(i : Int), (j : Int), kidF (F.drop X), kidF (G.drop Y), i + 1, j + 1, m⟩ :: enV ⟨(i : Int), (j : Int), kidF (F.drop X), kidF (G.drop Y), i + 1, j + 1, m⟩) ++ pgL (pgF m) F G a b (LT.drop (t + 1))) ST' (.slice xq xn xc) (.slice yq yn yc) wc.drew) := hide (by
                  have h := (unhide HIB).later (Below.refl _ _).drew
                  rw [unhide HPA] at h
                  exact h)
                have IB0 : Hid (InB w3 w6 (.slice uq un uc) (.slice (some ⟨gl, 0, none⟩) n cap) AL' (stK ST') (.slice xq xn xc) (.slice yq yn yc) wc.drew) := hide (unhide HIW).b
                have XX0 : Hid (BoxOk wc.drew wr.heap.size (.slice xq xn xc) (.slice yq yn yc) (i : Int) (j : Int)) := hide ⟨blk_drewE (unhide HBX), (unhide HBU).1, (unhide HBU).2⟩
                have hSd : BxS wr.heap.size (i : Int) (j : Int) false wc.drew := bxS_of (unhide XX0).1
                go_upto_region 15 with fail
                refine wp_region_held (S := BxS wr.heap.size (i : Int) (j : Int) false) (by kernel_rfl) ?_
                change wpAnyH _ _ _ _ _ _ _ _ (World.drew _)
                generalize World.drew wc = wd at *
                refine wpAnyH_take (i := 0) (oi := { dst := some 84, op := _, type := _, pos := _, after := _, guard := _ }) (v := ?vd0_1) rfl (by kernel_rfl) (by kernel_rfl) (by kernel_rfl) (fun _ _ _ h => h) (Or.inl ⟨by kernel_rfl, ?hd0_1⟩) hSd ?rd0_1
                case hd0_1 => first | (intro w hSw; obtain ⟨s0, s1, s2⟩ := hSw; go_simp; done) | (intro w hSw; obtain ⟨s0, s1, s2⟩ := hSw; go_simp; with_reducible rfl)
                try simp only [Act.put, List.setIfInBounds_toArray, List.set_cons_zero, List.set_cons_succ]
                refine wpAnyH_take (i := 1) (oi := { dst := some 85, op := _, type := _, pos := _, after := _, guard := _ }) (v := ?vd1_2) rfl (by kernel_rfl) (by kernel_rfl) (by kernel_rfl) (fun _ _ _ h => h) (Or.inl ⟨by kernel_rfl, ?hd1_2⟩) hSd ?rd1_2
                case hd1_2 => first | (intro w hSw; obtain ⟨s0, s1, s2⟩ := hSw; go_simp; done) | (intro w hSw; obtain ⟨s0, s1, s2⟩ := hSw; go_simp; with_reducible rfl)
                try simp only [Act.put, List.setIfInBounds_toArray, List.set_cons_zero, List.set_cons_succ]
                refine wpAnyH_take (i := 4) (oi := { dst := some 88, op := _, type := _, pos := _, after := _, guard := _ }) (v := ?vd4_3) rfl (by kernel_rfl) (by kernel_rfl) (by kernel_rfl) (fun _ _ _ h => h) (Or.inl ⟨by kernel_rfl, ?hd4_3⟩) hSd ?rd4_3
                case hd4_3 => first | (intro w hSw; obtain ⟨s0, s1, s2⟩ := hSw; go_simp; done) | (intro w hSw; obtain ⟨s0, s1, s2⟩ := hSw; go_simp; with_reducible rfl)
                try simp only [Act.put, List.setIfInBounds_toArray, List.set_cons_zero, List.set_cons_succ]
                refine wpAnyH_take (i := 5) (oi := { dst := some 89, op := _, type := _, pos := _, after := _, guard := _ }) (v := ?vd5_4) rfl (by kernel_rfl) (by kernel_rfl) (by kernel_rfl) (fun _ _ _ h => h) (Or.inl ⟨by kernel_rfl, ?hd5_4⟩) hSd ?rd5_4
                case hd5_4 => first | (intro w hSw; obtain ⟨s0, s1, s2⟩ := hSw; go_simp; done) | (intro w hSw; obtain ⟨s0, s1, s2⟩ := hSw; go_simp; with_reducible rfl)
                try simp only [Act.put, List.setIfInBounds_toArray, List.set_cons_zero, List.set_cons_succ]
                refine wpAnyH_ready (rs := [2, 6]) (by kernel_rfl) (by simp) ?_
                refine AllReadyH.cons rfl (fun K hK => ?_) (AllReadyH.cons rfl (fun K hK => ?_) AllReadyH.nil)
                · go_simp
                  have IB1 := hide ((unhide IB0).later ((Below.refl wd.heap.size wd).alloc (Nat.le_refl _) (Obj.cells #[.int .i64 (i : Int), .int .i64 (j : Int), .bool false] 37)))
                  have XX1 := hide ((unhide XX0).later ((Below.refl wd.heap.size wd).alloc (Nat.le_refl _) (Obj.cells #[.int .i64 (i : Int), .int .i64 (j : Int), .bool false] 37)))
                  have XB2_1 := hide ((unhide IB0).box (a := wd.heap.size) (by simp) (i : Int) (j : Int))
                  have hSd' : BxS wr.heap.size (i : Int) (j : Int) false (wd.alloc (Obj.cells #[.int .i64 (i : Int), .int .i64 (j : Int), .bool false] 37)) := bxS_of (unhide XX1).1
                  refine hK _ _ hSd' (fun _ => ?_)
                  clear hK K hSd
                  have hSd := hSd'
                  clear hSd'
                  refine wpAnyH_ready (rs := [3, 6]) (by kernel_rfl) (by simp) ?_
                  refine AllReadyH.cons rfl (fun K hK => ?_) (AllReadyH.cons rfl (fun K hK => ?_) AllReadyH.nil)
                  · obtain ⟨uq9, un9, uc9, z1, hr, hib, hxs⟩ := (unhide IB1).app (unhide XB2_1) (by omega)
                    refine step_append_run2 (o := { dst := some 87, op := _, type := _, pos := _, after := _, guard := _ }) rfl (.tmp 84) (.tmp 86) 26 26 rfl (.slice xq xn xc) (.slice (some ⟨wd.heap.size, 0, none⟩) 1 1) (by simp [Act.eval, Act.put]) (by simp [Act.eval, Act.put]) hr ?_
                    simp only [Act.put, List.setIfInBounds_toArray, List.set_cons_zero, List.set_cons_succ]
                    have IB2 := hide (hib)
                    have XX2 := hide (hxs _ _ _ (unhide XX1))
                    have XB2_2 := hide (hxs _ _ _ (unhide XB2_1))
                    have hSd' : BxS wr.heap.size (i : Int) (j : Int) false z1 := bxS_of (unhide XX2).1
                    clear hr hib hxs
                    refine hK _ _ hSd' (fun _ => ?_)
                    clear hK K hSd
                    have hSd := hSd'
                    clear hSd'
                    refine wpAnyH_ready (rs := [6]) (by kernel_rfl) (by simp) ?_
                    refine AllReadyH.cons rfl (fun K hK => ?_) AllReadyH.nil
                    go_simp
                    have IB3 := hide ((unhide IB2).later ((Below.refl z1.heap.size z1).alloc (Nat.le_refl _) (Obj.cells #[.int .i64 (i : Int), .int .i64 (j : Int), .bool false] 37)))
                    have XX3 := hide ((unhide XX2).later ((Below.refl z1.heap.size z1).alloc (Nat.le_refl _) (Obj.cells #[.int .i64 (i : Int), .int .i64 (j : Int), .bool false] 37)))
                    have XB2_3 := hide ((unhide XB2_2).later ((Below.refl z1.heap.size z1).alloc (Nat.le_refl _) (Obj.cells #[.int .i64 (i : Int), .int .i64 (j : Int), .bool false] 37)))
                    have XB6_3 := hide ((unhide IB2).box (a := z1.heap.size) (by simp) (i : Int) (j : Int))
                    have hSd' : BxS wr.heap.size (i : Int) (j : Int) false (z1.alloc (Obj.cells #[.int .i64 (i : Int), .int .i64 (j : Int), .bool false] 37)) := bxS_of (unhide XX3).1
                    refine hK _ _ hSd' (fun _ => ?_)
                    clear hK K hSd
                    have hSd := hSd'
                    clear hSd'
                    refine wpAnyH_ready (rs := [7]) (by kernel_rfl) (by simp) ?_
                    refine AllReadyH.cons rfl (fun K hK => ?_) AllReadyH.nil
                    obtain ⟨vq9, vn9, vc9, z2, hr, hib, hxs⟩ := (unhide IB3).flip.app (unhide XB6_3).flip (by rw [stK_len]; omega)
                    refine step_append_run2 (o := { dst := some 91, op := _, type := _, pos := _, after := _, guard := _ }) rfl (.tmp 88) (.tmp 90) 26 26 rfl (.slice yq yn yc) (.slice (some ⟨z1.heap.size, 0, none⟩) 1 1) (by simp [Act.eval, Act.put]) (by simp [Act.eval, Act.put]) hr ?_
                    simp only [Act.put, List.setIfInBounds_toArray, List.set_cons_zero, List.set_cons_succ]
                    have IB4 := hide (hib.flip)
                    have XX4 := hide ((hxs _ _ _ (unhide XX3).flip).flip)
                    have XB2_4 := hide ((hxs _ _ _ (unhide XB2_3).flip).flip)
                    have XB6_4 := hide ((hxs _ _ _ (unhide XB6_3).flip).flip)
                    have hSd' : BxS wr.heap.size (i : Int) (j : Int) false z2 := bxS_of (unhide XX4).1
                    clear hr hib hxs
                    refine hK _ _ hSd' (fun _ => ?_)
                    clear hK K hSd
                    have hSd := hSd'
                    clear hSd'
                    refine wpAnyH_take (i := 8) (oi := { dst := some 8, op := _, type := _, pos := _, after := _, guard := _ }) (v := ?vd8_5) rfl (by kernel_rfl) (by kernel_rfl) (by kernel_rfl) (fun _ _ _ h => h) (Or.inl ⟨by kernel_rfl, ?hd8_5⟩) hSd ?rd8_5
                    case hd8_5 => first | (intro w hSw; obtain ⟨s0, s1, s2⟩ := hSw; go_simp; done) | (intro w hSw; obtain ⟨s0, s1, s2⟩ := hSw; go_simp; with_reducible rfl)
                    try simp only [Act.put, List.setIfInBounds_toArray, List.set_cons_zero, List.set_cons_succ]
                    refine wpAnyH_take (i := 9) (oi := { dst := some 9, op := _, type := _, pos := _, after := _, guard := _ }) (v := ?vd9_6) rfl (by kernel_rfl) (by kernel_rfl) (by kernel_rfl) (fun _ _ _ h => h) (Or.inl ⟨by kernel_rfl, ?hd9_6⟩) hSd ?rd9_6
                    case hd9_6 => first | (intro w hSw; obtain ⟨s0, s1, s2⟩ := hSw; go_simp; done) | (intro w hSw; obtain ⟨s0, s1, s2⟩ := hSw; go_simp; with_reducible rfl)
                    try simp only [Act.put, List.setIfInBounds_toArray, List.set_cons_zero, List.set_cons_succ]
                    refine wpAnyH_done (by kernel_rfl) ?_ _
                    have HI9 := hide ((unhide HIW).alike (e := ⟨(i : Int), (j : Int), kidF (F.drop X), kidF (G.drop Y), i + 1, j + 1, m⟩) (unhide IB4) (unhide HEN))
                    generalize (⟨(i : Int), (j : Int), kidF (F.drop X), kidF (G.drop Y), i + 1, j + 1, m⟩ : En) = ee at *
                    clear hSd HIW HBX HIB
                    go_wp2
                    go_roundg gb
                    case rel => exact ⟨t + 1, AL' ++ [enP ee], ee :: ST', hgb, by go_num, unhide HI9, by rw [List.length_append, List.length_cons]; simp only [List.length_cons, List.length_nil]; omega, by rw [List.length_append, List.length_cons]; simp only [List.length_cons, List.length_nil]; omega⟩
                    case measure => omega
                  · go_simp
                    have IB2 := hide ((unhide IB1).later ((Below.refl (wd.alloc (Obj.cells #[.int .i64 (i : Int), .int .i64 (j : Int), .bool false] 37)).heap.size (wd.alloc (Obj.cells #[.int .i64 (i : Int), .int .i64 (j : Int), .bool false] 37))).alloc (Nat.le_refl _) (Obj.cells #[.int .i64 (i : Int), .int .i64 (j : Int), .bool false] 37)))
                    have XX2 := hide ((unhide XX1).later ((Below.refl (wd.alloc (Obj.cells #[.int .i64 (i : Int), .int .i64 (j : Int), .bool false] 37)).heap.size (wd.alloc (Obj.cells #[.int .i64 (i : Int), .int .i64 (j : Int), .bool false] 37))).alloc (Nat.le_refl _) (Obj.cells #[.int .i64 (i : Int), .int .i64 (j : Int), .bool false] 37)))
                    have XB2_2 := hide ((unhide XB2_1).later ((Below.refl (wd.alloc (Obj.cells #[.int .i64 (i : Int), .int .i64 (j : Int), .bool false] 37)).heap.size (wd.alloc (Obj.cells #[.int .i64 (i : Int), .int .i64 (j : Int), .bool false] 37))).alloc (Nat.le_refl _) (Obj.cells #[.int .i64 (i : Int), .int .i64 (j : Int), .bool false] 37)))
                    have XB6_2 := hide ((unhide IB1).box (a := wd.heap.size + 1) (by simp) (i : Int) (j : Int))
                    have hSd' : BxS wr.heap.size (i : Int) (j : Int) false ((wd.alloc (Obj.cells #[.int .i64 (i : Int), .int .i64 (j : Int), .bool false] 37)).alloc (Obj.cells #[.int .i64 (i : Int), .int .i64 (j : Int), .bool false] 37)) := bxS_of (unhide XX2).1
                    refine hK _ _ hSd' (fun _ => ?_)
                    clear hK K hSd
                    have hSd := hSd'
                    clear hSd'
                    refine wpAnyH_ready (rs := [3]) (by kernel_rfl) (by simp) ?_
                    refine AllReadyH.cons rfl (fun K hK => ?_) AllReadyH.nil
                    obtain ⟨uq9, un9, uc9, z1, hr, hib, hxs⟩ := (unhide IB2).app (unhide XB2_2) (by omega)
                    refine step_append_run2 (o := { dst := some 87, op := _, type := _, pos := _, after := _, guard := _ }) rfl (.tmp 84) (.tmp 86) 26 26 rfl (.slice xq xn xc) (.slice (some ⟨wd.heap.size, 0, none⟩) 1 1) (by simp [Act.eval, Act.put]) (by simp [Act.eval, Act.put]) hr ?_
                    simp only [Act.put, List.setIfInBounds_toArray, List.set_cons_zero, List.set_cons_succ]
                    have IB3 := hide (hib)
                    have XX3 := hide (hxs _ _ _ (unhide XX2))
                    have XB2_3 := hide (hxs _ _ _ (unhide XB2_2))
                    have XB6_3 := hide (hxs _ _ _ (unhide XB6_2))
                    have hSd' : BxS wr.heap.size (i : Int) (j : Int) false z1 := bxS_of (unhide XX3).1
                    clear hr hib hxs
                    refine hK _ _ hSd' (fun _ => ?_)
                    clear hK K hSd
                    have hSd := hSd'
                    clear hSd'
                    refine wpAnyH_ready (rs := [7]) (by kernel_rfl) (by simp) ?_
                    refine AllReadyH.cons rfl (fun K hK => ?_) AllReadyH.nil
                    obtain ⟨vq9, vn9, vc9, z2, hr, hib, hxs⟩ := (unhide IB3).flip.app (unhide XB6_3).flip (by rw [stK_len]; omega)
                    refine step_append_run2 (o := { dst := some 91, op := _, type := _, pos := _, after := _, guard := _ }) rfl (.tmp 88) (.tmp 90) 26 26 rfl (.slice yq yn yc) (.slice (some ⟨wd.heap.size + 1, 0, none⟩) 1 1) (by simp [Act.eval, Act.put]) (by simp [Act.eval, Act.put]) hr ?_
                    simp only [Act.put, List.setIfInBounds_toArray, List.set_cons_zero, List.set_cons_succ]
                    have IB4 := hide (hib.flip)
                    have XX4 := hide ((hxs _ _ _ (unhide XX3).flip).flip)
                    have XB2_4 := hide ((hxs _ _ _ (unhide XB2_3).flip).flip)
                    have XB6_4 := hide ((hxs _ _ _ (unhide XB6_3).flip).flip)
                    have hSd' : BxS wr.heap.size (i : Int) (j : Int) false z2 := bxS_of (unhide XX4).1
                    clear hr hib hxs
                    refine hK _ _ hSd' (fun _ => ?_)
                    clear hK K hSd
                    have hSd := hSd'
                    clear hSd'
                    refine wpAnyH_take (i := 8) (oi := { dst := some 8, op := _, type := _, pos := _, after := _, guard := _ }) (v := ?vd8_7) rfl (by kernel_rfl) (by kernel_rfl) (by kernel_rfl) (fun _ _ _ h => h) (Or.inl ⟨by kernel_rfl, ?hd8_7⟩) hSd ?rd8_7
                    case hd8_7 => first | (intro w hSw; obtain ⟨s0, s1, s2⟩ := hSw; go_simp; done) | (intro w hSw; obtain ⟨s0, s1, s2⟩ := hSw; go_simp; with_reducible rfl)
                    try simp only [Act.put, List.setIfInBounds_toArray, List.set_cons_zero, List.set_cons_succ]
                    refine wpAnyH_take (i := 9) (oi := { dst := some 9, op := _, type := _, pos := _, after := _, guard := _ }) (v := ?vd9_8) rfl (by kernel_rfl) (by kernel_rfl) (by kernel_rfl) (fun _ _ _ h => h) (Or.inl ⟨by kernel_rfl, ?hd9_8⟩) hSd ?rd9_8
                    case hd9_8 => first | (intro w hSw; obtain ⟨s0, s1, s2⟩ := hSw; go_simp; done) | (intro w hSw; obtain ⟨s0, s1, s2⟩ := hSw; go_simp; with_reducible rfl)
                    try simp only [Act.put, List.setIfInBounds_toArray, List.set_cons_zero, List.set_cons_succ]
                    refine wpAnyH_done (by kernel_rfl) ?_ _
                    have HI9 := hide ((unhide HIW).alike (e := ⟨(i : Int), (j : Int), kidF (F.drop X), kidF (G.drop Y), i + 1, j + 1, m⟩) (unhide IB4) (unhide HEN))
                    generalize (⟨(i : Int), (j : Int), kidF (F.drop X), kidF (G.drop Y), i + 1, j + 1, m⟩ : En) = ee at *
                    clear hSd HIW HBX HIB
                    go_wp2
                    go_roundg gb
                    case rel => exact ⟨t + 1, AL' ++ [enP ee], ee :: ST', hgb, by go_num, unhide HI9, by rw [List.length_append, List.length_cons]; simp only [List.length_cons, List.length_nil]; omega, by rw [List.length_append, List.length_cons]; simp only [List.length_cons, List.length_nil]; omega⟩
                    case measure => omega
                · go_simp
                  have IB1 := hide ((unhide IB0).later ((Below.refl wd.heap.size wd).alloc (Nat.le_refl _) (Obj.cells #[.int .i64 (i : Int), .int .i64 (j : Int), .bool false] 37)))
                  have XX1 := hide ((unhide XX0).later ((Below.refl wd.heap.size wd).alloc (Nat.le_refl _) (Obj.cells #[.int .i64 (i : Int), .int .i64 (j : Int), .bool false] 37)))
                  have XB6_1 := hide ((unhide IB0).box (a := wd.heap.size) (by simp) (i : Int) (j : Int))
                  have hSd' : BxS wr.heap.size (i : Int) (j : Int) false (wd.alloc (Obj.cells #[.int .i64 (i : Int), .int .i64 (j : Int), .bool false] 37)) := bxS_of (unhide XX1).1
                  refine hK _ _ hSd' (fun _ => ?_)
                  clear hK K hSd
                  have hSd := hSd'
                  clear hSd'
                  refine wpAnyH_ready (rs := [2]) (by kernel_rfl) (by simp) ?_
                  refine AllReadyH.cons rfl (fun K hK => ?_) AllReadyH.nil
                  go_simp
                  have IB2 := hide ((unhide IB1).later ((Below.refl (wd.alloc (Obj.cells #[.int .i64 (i : Int), .int .i64 (j : Int), .bool false] 37)).heap.size (wd.alloc (Obj.cells #[.int .i64 (i : Int), .int .i64 (j : Int), .bool false] 37))).alloc (Nat.le_refl _) (Obj.cells #[.int .i64 (i : Int), .int .i64 (j : Int), .bool false] 37)))
                  have XX2 := hide ((unhide XX1).later ((Below.refl (wd.alloc (Obj.cells #[.int .i64 (i : Int), .int .i64 (j : Int), .bool false] 37)).heap.size (wd.alloc (Obj.cells #[.int .i64 (i : Int), .int .i64 (j : Int), .bool false] 37))).alloc (Nat.le_refl _) (Obj.cells #[.int .i64 (i : Int), .int .i64 (j : Int), .bool false] 37)))
                  have XB6_2 := hide ((unhide XB6_1).later ((Below.refl (wd.alloc (Obj.cells #[.int .i64 (i : Int), .int .i64 (j : Int), .bool false] 37)).heap.size (wd.alloc (Obj.cells #[.int .i64 (i : Int), .int .i64 (j : Int), .bool false] 37))).alloc (Nat.le_refl _) (Obj.cells #[.int .i64 (i : Int), .int .i64 (j : Int), .bool false] 37)))
                  have XB2_2 := hide ((unhide IB1).box (a := wd.heap.size + 1) (by simp) (i : Int) (j : Int))
                  have hSd' : BxS wr.heap.size (i : Int) (j : Int) false ((wd.alloc (Obj.cells #[.int .i64 (i : Int), .int .i64 (j : Int), .bool false] 37)).alloc (Obj.cells #[.int .i64 (i : Int), .int .i64 (j : Int), .bool false] 37)) := bxS_of (unhide XX2).1
                  refine hK _ _ hSd' (fun _ => ?_)
                  clear hK K hSd
                  have hSd := hSd'
                  clear hSd'
                  refine wpAnyH_ready (rs := [3]) (by kernel_rfl) (by simp) ?_
                  refine AllReadyH.cons rfl (fun K hK => ?_) AllReadyH.nil
                  obtain ⟨uq9, un9, uc9, z1, hr, hib, hxs⟩ := (unhide IB2).app (unhide XB2_2) (by omega)
                  refine step_append_run2 (o := { dst := some 87, op := _, type := _, pos := _, after := _, guard := _ }) rfl (.tmp 84) (.tmp 86) 26 26 rfl (.slice xq xn xc) (.slice (some ⟨wd.heap.size + 1, 0, none⟩) 1 1) (by simp [Act.eval, Act.put]) (by simp [Act.eval, Act.put]) hr ?_
                  simp only [Act.put, List.setIfInBounds_toArray, List.set_cons_zero, List.set_cons_succ]
                  have IB3 := hide (hib)
                  have XX3 := hide (hxs _ _ _ (unhide XX2))
                  have XB6_3 := hide (hxs _ _ _ (unhide XB6_2))
                  have XB2_3 := hide (hxs _ _ _ (unhide XB2_2))
                  have hSd' : BxS wr.heap.size (i : Int) (j : Int) false z1 := bxS_of (unhide XX3).1
                  clear hr hib hxs
                  refine hK _ _ hSd' (fun _ => ?_)
                  clear hK K hSd
                  have hSd := hSd'
                  clear hSd'
                  refine wpAnyH_ready (rs := [7]) (by kernel_rfl) (by simp) ?_
                  refine AllReadyH.cons rfl (fun K hK => ?_) AllReadyH.nil
                  obtain ⟨vq9, vn9, vc9, z2, hr, hib, hxs⟩ := (unhide IB3).flip.app (unhide XB6_3).flip (by rw [stK_len]; omega)
                  refine step_append_run2 (o := { dst := some 91, op := _, type := _, pos := _, after := _, guard := _ }) rfl (.tmp 88) (.tmp 90) 26 26 rfl (.slice yq yn yc) (.slice (some ⟨wd.heap.size, 0, none⟩) 1 1) (by simp [Act.eval, Act.put]) (by simp [Act.eval, Act.put]) hr ?_
                  simp only [Act.put, List.setIfInBounds_toArray, List.set_cons_zero, List.set_cons_succ]
                  have IB4 := hide (hib.flip)
                  have XX4 := hide ((hxs _ _ _ (unhide XX3).flip).flip)
                  have XB6_4 := hide ((hxs _ _ _ (unhide XB6_3).flip).flip)
                  have XB2_4 := hide ((hxs _ _ _ (unhide XB2_3).flip).flip)
                  have hSd' : BxS wr.heap.size (i : Int) (j : Int) false z2 := bxS_of (unhide XX4).1
                  clear hr hib hxs
                  refine hK _ _ hSd' (fun _ => ?_)
                  clear hK K hSd
                  have hSd := hSd'
                  clear hSd'
                  refine wpAnyH_take (i := 8) (oi := { dst := some 8, op := _, type := _, pos := _, after := _, guard := _ }) (v := ?vd8_9) rfl (by kernel_rfl) (by kernel_rfl) (by kernel_rfl) (fun _ _ _ h => h) (Or.inl ⟨by kernel_rfl, ?hd8_9⟩) hSd ?rd8_9
                  case hd8_9 => first | (intro w hSw; obtain ⟨s0, s1, s2⟩ := hSw; go_simp; done) | (intro w hSw; obtain ⟨s0, s1, s2⟩ := hSw; go_simp; with_reducible rfl)
                  try simp only [Act.put, List.setIfInBounds_toArray, List.set_cons_zero, List.set_cons_succ]
                  refine wpAnyH_take (i := 9) (oi := { dst := some 9, op := _, type := _, pos := _, after := _, guard := _ }) (v := ?vd9_10) rfl (by kernel_rfl) (by kernel_rfl) (by kernel_rfl) (fun _ _ _ h => h) (Or.inl ⟨by kernel_rfl, ?hd9_10⟩) hSd ?rd9_10
                  case hd9_10 => first | (intro w hSw; obtain ⟨s0, s1, s2⟩ := hSw; go_simp; done) | (intro w hSw; obtain ⟨s0, s1, s2⟩ := hSw; go_simp; with_reducible rfl)
                  try simp only [Act.put, List.setIfInBounds_toArray, List.set_cons_zero, List.set_cons_succ]
                  refine wpAnyH_done (by kernel_rfl) ?_ _
                  have HI9 := hide ((unhide HIW).alike (e := ⟨(i : Int), (j : Int), kidF (F.drop X), kidF (G.drop Y), i + 1, j + 1, m⟩) (unhide IB4) (unhide HEN))
                  generalize (⟨(i : Int), (j : Int), kidF (F.drop X), kidF (G.drop Y), i + 1, j + 1, m⟩ : En) = ee at *
                  clear hSd HIW HBX HIB
                  go_wp2
                  go_roundg gb
                  case rel => exact ⟨t + 1, AL' ++ [enP ee], ee :: ST', hgb, by go_num, unhide HI9, by rw [List.length_append, List.length_cons]; simp only [List.length_cons, List.length_nil]; omega, by rw [List.length_append, List.length_cons]; simp only [List.length_cons, List.length_nil]; omega⟩
                  case measure => omega
          · have hte : t = ll := by omega
            have HF : Hid (InR f g TOT w3 w6 (.slice uq un uc) (.slice (some ⟨gl, 0, none⟩) n cap) AL' [] ST' (.slice xq xn xc) (.slice yq yn yc) wr) := hide (by
              have h := hI
              rw [List.drop_eq_nil_of_le (by have := unhide HLL; omega)] at h
              exact h)
            have hpi : ¬ (t : Int) < (ll : Int) := by omega
            clear hI hlen
            go_wp2
            go_roundg ga
            case rel => exact ⟨AL', ST', ⟨(unhide HF).b.al, (unhide HF).b.st, (unhide HF).b.ap, (unhide HF).b.bl, (unhide HF).pm, (unhide HF).ok⟩, hst1, hst2⟩
            case measure => omega
end Go.Proofs.YtbabmkilbbbmoaaDoor
