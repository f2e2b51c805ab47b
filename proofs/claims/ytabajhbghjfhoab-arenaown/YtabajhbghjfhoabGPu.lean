/-
  What an arena's put does at the end of a node's kids.
-/
import Derived.Test.YtabajhbghjfhoabGIn
import Derived.Deep.RegionHeld
namespace Go.Proofs.Ytabajhbghjfhoab
open Go.RowKit
set_option linter.unusedVariables false
set_option linter.unusedSimpArgs false

theorem own_ty {base size n k : Nat} {t : TypeId} {v : Value} {xs : List Value} {w : World} (h : w.ownsRow base t size v n xs) (hk : v.ownBlock = some k) : ∃ vs, w.heap[k]? = some (.cells vs t (0, 0)) := by
  rcases h.2 with ⟨rfl, _⟩ | ⟨g, cap, cur, rfl, _, hc, _⟩
  · simp [Value.ownBlock] at hk
  · simp only [Value.ownBlock, Option.some.injEq] at hk
    subst hk
    exact ⟨cur, hc⟩
theorem ty_ne {w : World} {a b : Nat} {vs vs' : Array Value} {t t' : TypeId} {f f' : Nat × Nat} (h : w.heap[a]? = some (.cells vs t f)) (h' : w.heap[b]? = some (.cells vs' t' f')) (ht : t ≠ t') : a ≠ b := by
  intro e
  subst e
  rw [h] at h'
  injection h' with h'
  injection h' with _ h1
  exact ht h1
theorem own_ne {base size n b : Nat} {t t' : TypeId} {v : Value} {xs : List Value} {vs : Array Value} {f : Nat × Nat} {w : World} (h : w.ownsRow base t size v n xs) (hb : w.heap[b]? = some (.cells vs t' f)) (ht : t ≠ t') : v.ownBlock ≠ some b := by
  intro e
  obtain ⟨vs2, h2⟩ := own_ty h e
  exact ty_ne h2 hb ht rfl
theorem own_ne2 {base size n base' size' n' : Nat} {t t' : TypeId} {v u : Value} {xs ys : List Value} {w : World} (h : w.ownsRow base t size v n xs) (h' : w.ownsRow base' t' size' u n' ys) (ht : t ≠ t') : ∀ k, v.ownBlock = some k → u.ownBlock ≠ some k := by
  intro k hk e
  obtain ⟨vs, hv⟩ := own_ty h hk
  exact own_ne h' hv (fun e => ht e.symm) e
/-- One cell of one node laid anew. -/
theorem flatN_set : ∀ (L : List NEnt) (i j : Nat) (y : NEnt) (u : Value), i < L.length → j < 7 → nodL y = (nodL (L.getD i n0)).set j u → flatN (L.set i y) = (flatN L).set (i * 7 + j) u
  | [], i, j, y, u, h, hj, hy => by simp at h
  | e :: r, 0, j, y, u, h, hj, hy => by
    have hl : (nodL e).length = 7 := rfl
    rw [List.set_cons_zero, flatN, flatN, hy, Nat.zero_mul, Nat.zero_add, List.set_append_left _ _ (by rw [hl]; exact hj)]
    rfl
  | e :: r, i + 1, j, y, u, h, hj, hy => by
    have hl : (nodL e).length = 7 := rfl
    have ih := flatN_set r i j y u (by simpa using h) hj hy
    rw [List.set_cons_succ, flatN, ih, flatN, List.set_append_right _ _ (by rw [hl]; omega), hl]
    congr 2
    omega
theorem row_setN {w : World} {base g n cap i j : Nat} {L : List NEnt} (y : NEnt) (u : Value) (h : w.ownsRow base 65 7 (.slice (some ⟨g, 0, none⟩) n cap) L.length (flatN L)) (hi : i < L.length) (hj : j < 7) (hy : nodL y = (nodL (L.getD i n0)).set j u) :
    (w.setCell ⟨g, i * 7 + j, none⟩ u).ownsRow base 65 7 (.slice (some ⟨g, 0, none⟩) n cap) (L.set i y).length (flatN (L.set i y)) := by
  obtain ⟨h1, h2⟩ := h
  have hl : (L.set i y).length = L.length := List.length_set ..
  refine ⟨by rw [flatN_len], ?_⟩
  rcases h2 with ⟨h, h0⟩ | ⟨g', cap', cur, hv, hb, hblk, hc, hm, hcs, htk⟩
  · omega
  · injection hv with e1 e2 e3
    injection e1 with e1
    injection e1 with e1
    subst e1 e2 e3
    have kb : Blk w g cur 65 := hblk
    have k4 := kb.set (i * 7 + j) (by rw [hcs]; omega) u
    refine Or.inr ⟨g, cap, _, by rw [hl], hb, k4, by rw [hl]; exact hc, hm, by simpa using hcs, ?_⟩
    rw [hl, flatN_set L i j y u hi hj hy, ← htk]
    simp [List.take_set]
theorem Arn.setN {base p g n cap i j : Nat} {L : List NEnt} {w : World} (h : Arn base p (.slice (some ⟨g, 0, none⟩) n cap) L w) (y : NEnt) (u : Value) (hi : i < L.length) (hj : j < 7) (hy : nodL y = (nodL (L.getD i n0)).set j u) :
    Arn base p (.slice (some ⟨g, 0, none⟩) n cap) (L.set i y) (w.setCell ⟨g, i * 7 + j, none⟩ u) :=
  ⟨h.blk.away (by have := h.ne; simp [Value.ownBlock] at this; omega) _, row_setN y u h.row hi hj hy, h.ne⟩
def kidsN (s : Sli) (e : NEnt) : NEnt := ⟨e.kd, e.sp, e.nm, e.a, e.t, e.pr, s⟩
def prN (x : Int) (e : NEnt) : NEnt := ⟨e.kd, e.sp, e.nm, e.a, e.t, x, e.k⟩
def txtN (s : Sli) (e : NEnt) : NEnt := ⟨e.kd, e.sp, e.nm, e.a, s, e.pr, e.k⟩
def setAt (L : List NEnt) (i : Nat) (f : NEnt → NEnt) : List NEnt := L.set i (f (L.getD i n0))
theorem setAt_len (L : List NEnt) (i : Nat) (f : NEnt → NEnt) : (setAt L i f).length = L.length := List.length_set ..
theorem setAt_get (L : List NEnt) (i j : Nat) (f : NEnt → NEnt) (hj : j < L.length) : (setAt L i f).getD j n0 = if i = j then f (L.getD j n0) else L.getD j n0 := by
  unfold setAt
  rw [List.getD, List.getElem?_set]
  by_cases h : i = j
  · subst h; rw [if_pos rfl, if_pos hj, if_pos rfl]; rfl
  · rw [if_neg h, if_neg h]; rfl
def PutSaid (base p par id : Nat) (v : Value) (L : List NEnt) (xs : List Value) (w : World) (e : Ending) (w' : World) : Prop :=
  ∃ s : Sli, e = .returned (.tuple #[]) ∧ Arn base p v (setAt (setAt L par (kidsN s)) id (prN (par : Int))) w' ∧ w'.ownsRow base 3 1 (sV s) ((L.getD par n0).k.n + 1) (xs ++ [.int .i64 (id : Int)]) ∧ Chg (fun j => v.ownBlock = some j ∨ (sV (L.getD par n0).k).ownBlock = some j) w w' ∧ (∀ j, (sV s).ownBlock = some j → (sV (L.getD par n0).k).ownBlock = some j ∨ w.heap.size ≤ j)
def KeepP0 (p : Nat) (v : Value) (W : World) : Prop := W.cell? ⟨p, 0, none⟩ = some v
set_option maxHeartbeats 8000000 in
set_option maxRecDepth 100000 in
theorem put_end (base p par id : Nat) (v : Value) (L : List NEnt) (xs : List Value) (w : World) (h : Arn base p v L w) (hbase : base ≤ w.heap.size) (hpar : par < L.length) (hid : id < L.length) (hL : L.length ≤ 600) (hk : w.ownsRow base 3 1 (sV (L.getD par n0).k) (L.getD par n0).k.n xs) (hn : (L.getD par n0).k.n ≤ 100000) :
    Calls Try.prog 48 #[ptr p, .int .i64 (par : Int), .int .i64 ((L.getD par n0).k.n : Int), .int .i64 (id : Int)] w (PutSaid base p par id v L xs w) := by
  obtain ⟨g, cap, hv, hc, hm, hgl, hbg, c0, hnd⟩ := h.open (by omega)
  have H := hide h
  have HK := hide hk
  have hgp : g ≠ p := by have := h.ne; rw [hv] at this; simpa [Value.ownBlock] using this
  have hpl := h.lt
  have ck := (hnd par hpar).k
  have HP := hide hpar
  have HD := hide hid
  have hpi : (par : Int) < (L.length : Int) := by omega
  have hdi : (id : Int) < (L.length : Int) := by omega
  have hp0 : (0 : Int) ≤ (par : Int) := by omega
  have hd0 : (0 : Int) ≤ (id : Int) := by omega
  have HKP := hide (own_ne hk h.blk (by decide))
  have HKV := hide (own_ne2 hk h.row (by decide))
  have b1 : Below w.heap.size w (w.alloc (Obj.cells #[.int .i64 (id : Int)] 3)).drew := tr2 ((Below.refl _ _).alloc (Nat.le_refl _) _) (below_draws _ 1)
  have HB1 := hide b1
  have kX : Blk (w.alloc (Obj.cells #[.int .i64 (id : Int)] 3)).drew w.heap.size #[.int .i64 (id : Int)] 3 := (Blk.new w _ _).later (below_draws _ 1)
  have hbz : base ≤ (w.alloc (Obj.cells #[.int .i64 (id : Int)] 3)).drew.heap.size := Nat.le_trans hbase b1.size
  have hks : Hid ((sV (L.getD par n0).k) = .slice (L.getD par n0).k.q (L.getD par n0).k.n (L.getD par n0).k.c) := hide rfl
  rw [unhide hks] at hk
  have CI := hide (ins_end base (L.getD par n0).k.n w.heap.size (L.getD par n0).k.q (L.getD par n0).k.c xs (id : Int) (w.alloc (Obj.cells #[.int .i64 (id : Int)] 3)).drew (ownsRow_below hk b1) hbz hn kX)
  have HS : Hid (KeepP0 p v w.drew) := hide (show w.cell? ⟨p, 0, none⟩ = some v by rw [hv]; exact c0)
  subst hv
  obtain ⟨n, hln⟩ : ∃ n, L.length = n := ⟨_, rfl⟩
  have HLN := hide hln
  rw [hln] at hpi hdi c0 HS
  generalize hkn : (L.getD par n0).k.n = kn at *
  generalize hkq : (L.getD par n0).k.q = kq at *
  generalize hkc : (L.getD par n0).k.c = kc at *
  have HKE : Hid ((L.getD par n0).k = ⟨kq, kn, kc⟩) := hide (by rw [← hkn, ← hkq, ← hkc])
  have ck' : w.drew.cell? ⟨g, par * 7 + 6, none⟩ = some (.slice kq kn kc) := ck
  have HCK := hide ck'
  clear h hk b1 kX hnd hpar hid hln hkn hkq hkc ck ck' c0
  unfold ptr at *
  go_enter Try.func48, Try.ntmps48
  go_wp2_with fail
  have hSa := unhide HS
  refine wp_region_held (S := KeepP0 p (.slice (some ⟨g, 0, none⟩) n cap)) (by kernel_rfl) ?_
  change wpAnyH _ _ _ _ _ _ _ _ (World.drew _)
  refine wpAnyH_take (i := 0) (oi := { dst := some 8, op := _, type := _, pos := _, after := _, guard := _ }) (v := ?va0_1) rfl (by kernel_rfl) (by kernel_rfl) (by kernel_rfl) (fun _ _ _ h => h) (Or.inl ⟨by kernel_rfl, ?ha0_1⟩) hSa ?ra0_1
  case ha0_1 => first | (intro w hSw; have s0 := hSw; unfold KeepP0 at s0; go_simp; done) | (intro w hSw; have s0 := hSw; unfold KeepP0 at s0; go_simp; with_reducible rfl)
  try simp only [Act.put, List.setIfInBounds_toArray, List.set_cons_zero, List.set_cons_succ]
  refine wpAnyH_take (i := 1) (oi := { dst := some 9, op := _, type := _, pos := _, after := _, guard := _ }) (v := ?va1_2) rfl (by kernel_rfl) (by kernel_rfl) (by kernel_rfl) (fun _ _ _ h => h) (Or.inl ⟨by kernel_rfl, ?ha1_2⟩) hSa ?ra1_2
  case ha1_2 => first | (intro w hSw; have s0 := hSw; unfold KeepP0 at s0; go_simp; done) | (intro w hSw; have s0 := hSw; unfold KeepP0 at s0; go_simp; with_reducible rfl)
  try simp only [Act.put, List.setIfInBounds_toArray, List.set_cons_zero, List.set_cons_succ]
  refine wpAnyH_take (i := 2) (oi := { dst := some 10, op := _, type := _, pos := _, after := _, guard := _ }) (v := ?va2_3) rfl (by kernel_rfl) (by kernel_rfl) (by kernel_rfl) (fun _ _ _ h => h) (Or.inl ⟨by kernel_rfl, ?ha2_3⟩) hSa ?ra2_3
  case ha2_3 => first | (intro w hSw; have s0 := hSw; unfold KeepP0 at s0; go_simp; done) | (intro w hSw; have s0 := hSw; unfold KeepP0 at s0; go_simp; with_reducible rfl)
  try simp only [Act.put, List.setIfInBounds_toArray, List.set_cons_zero, List.set_cons_succ]
  refine wpAnyH_take (i := 3) (oi := { dst := some 11, op := _, type := _, pos := _, after := _, guard := _ }) (v := ?va3_4) rfl (by kernel_rfl) (by kernel_rfl) (by kernel_rfl) (fun _ _ _ h => h) (Or.inl ⟨by kernel_rfl, ?ha3_4⟩) hSa ?ra3_4
  case ha3_4 => first | (intro w hSw; have s0 := hSw; unfold KeepP0 at s0; go_simp; done) | (intro w hSw; have s0 := hSw; unfold KeepP0 at s0; go_simp; with_reducible rfl)
  try simp only [Act.put, List.setIfInBounds_toArray, List.set_cons_zero, List.set_cons_succ]
  refine wpAnyH_take (i := 4) (oi := { dst := some 12, op := _, type := _, pos := _, after := _, guard := _ }) (v := ?va4_5) rfl (by kernel_rfl) (by kernel_rfl) (by kernel_rfl) (fun _ _ _ h => h) (Or.inl ⟨by kernel_rfl, ?ha4_5⟩) hSa ?ra4_5
  case ha4_5 => first | (intro w hSw; have s0 := hSw; unfold KeepP0 at s0; go_simp; done) | (intro w hSw; have s0 := hSw; unfold KeepP0 at s0; go_simp; with_reducible rfl)
  try simp only [Act.put, List.setIfInBounds_toArray, List.set_cons_zero, List.set_cons_succ]
  refine wpAnyH_take (i := 5) (oi := { dst := some 13, op := _, type := _, pos := _, after := _, guard := _ }) (v := ?va5_6) rfl (by kernel_rfl) (by kernel_rfl) (by kernel_rfl) (fun _ _ _ h => h) (Or.inl ⟨by kernel_rfl, ?ha5_6⟩) hSa ?ra5_6
  case ha5_6 => first | (intro w hSw; have s0 := hSw; unfold KeepP0 at s0; go_simp; done) | (intro w hSw; have s0 := hSw; unfold KeepP0 at s0; go_simp; with_reducible rfl)
  try simp only [Act.put, List.setIfInBounds_toArray, List.set_cons_zero, List.set_cons_succ]
  refine wpAnyH_take (i := 6) (oi := { dst := some 14, op := _, type := _, pos := _, after := _, guard := _ }) (v := ?va6_7) rfl (by kernel_rfl) (by kernel_rfl) (by kernel_rfl) (fun _ _ _ h => h) (Or.inl ⟨by kernel_rfl, ?ha6_7⟩) hSa ?ra6_7
  case ha6_7 => first | (intro w hSw; have s0 := hSw; unfold KeepP0 at s0; go_simp; done) | (intro w hSw; have s0 := hSw; unfold KeepP0 at s0; go_simp; with_reducible rfl)
  try simp only [Act.put, List.setIfInBounds_toArray, List.set_cons_zero, List.set_cons_succ]
  refine wpAnyH_take (i := 7) (oi := { dst := some 15, op := _, type := _, pos := _, after := _, guard := _ }) (v := ?va7_8) rfl (by kernel_rfl) (by kernel_rfl) (by kernel_rfl) (fun _ _ _ h => h) (Or.inl ⟨by kernel_rfl, ?ha7_8⟩) hSa ?ra7_8
  case ha7_8 => first | (intro w hSw; have s0 := hSw; unfold KeepP0 at s0; go_simp; done) | (intro w hSw; have s0 := hSw; unfold KeepP0 at s0; go_simp; with_reducible rfl)
  try simp only [Act.put, List.setIfInBounds_toArray, List.set_cons_zero, List.set_cons_succ]
  refine wpAnyH_take (i := 8) (oi := { dst := some 16, op := _, type := _, pos := _, after := _, guard := _ }) (v := ?va8_9) rfl (by kernel_rfl) (by kernel_rfl) (by kernel_rfl) (fun _ _ _ h => h) (Or.inl ⟨by kernel_rfl, ?ha8_9⟩) hSa ?ra8_9
  case ha8_9 => first | (intro w hSw; have s0 := hSw; unfold KeepP0 at s0; go_simp; done) | (intro w hSw; have s0 := hSw; unfold KeepP0 at s0; go_simp; with_reducible rfl)
  try simp only [Act.put, List.setIfInBounds_toArray, List.set_cons_zero, List.set_cons_succ]
  refine wpAnyH_take (i := 9) (oi := { dst := some 17, op := _, type := _, pos := _, after := _, guard := _ }) (v := ?va9_10) rfl (by kernel_rfl) (by kernel_rfl) (by kernel_rfl) (fun _ _ _ h => h) (Or.inl ⟨by kernel_rfl, ?ha9_10⟩) hSa ?ra9_10
  case ha9_10 => first | (intro w hSw; have s0 := hSw; unfold KeepP0 at s0; go_simp; done) | (intro w hSw; have s0 := hSw; unfold KeepP0 at s0; go_simp; with_reducible rfl)
  try simp only [Act.put, List.setIfInBounds_toArray, List.set_cons_zero, List.set_cons_succ]
  refine wpAnyH_take (i := 10) (oi := { dst := some 18, op := _, type := _, pos := _, after := _, guard := _ }) (v := ?va10_11) rfl (by kernel_rfl) (by kernel_rfl) (by kernel_rfl) (fun _ _ _ h => h) (Or.inl ⟨by kernel_rfl, ?ha10_11⟩) hSa ?ra10_11
  case ha10_11 => first | (intro w hSw; have s0 := hSw; unfold KeepP0 at s0; go_simp; done) | (intro w hSw; have s0 := hSw; unfold KeepP0 at s0; go_simp; with_reducible rfl)
  try simp only [Act.put, List.setIfInBounds_toArray, List.set_cons_zero, List.set_cons_succ]
  refine wpAnyH_take (i := 11) (oi := { dst := some 19, op := _, type := _, pos := _, after := _, guard := _ }) (v := ?va11_12) rfl (by kernel_rfl) (by kernel_rfl) (by kernel_rfl) (fun _ _ _ h => h) (Or.inl ⟨by kernel_rfl, ?ha11_12⟩) hSa ?ra11_12
  case ha11_12 => first | (intro w hSw; have s0 := hSw; unfold KeepP0 at s0; go_simp; done) | (intro w hSw; have s0 := hSw; unfold KeepP0 at s0; go_simp; with_reducible rfl)
  try simp only [Act.put, List.setIfInBounds_toArray, List.set_cons_zero, List.set_cons_succ]
  refine wpAnyH_take (i := 13) (oi := { dst := some 21, op := _, type := _, pos := _, after := _, guard := _ }) (v := ?va13_13) rfl (by kernel_rfl) (by kernel_rfl) (by kernel_rfl) (fun _ _ _ h => h) (Or.inl ⟨by kernel_rfl, ?ha13_13⟩) hSa ?ra13_13
  case ha13_13 => first | (intro w hSw; have s0 := hSw; unfold KeepP0 at s0; go_simp; done) | (intro w hSw; have s0 := hSw; unfold KeepP0 at s0; go_simp; with_reducible rfl)
  try simp only [Act.put, List.setIfInBounds_toArray, List.set_cons_zero, List.set_cons_succ]
  refine wpAnyH_take (i := 14) (oi := { dst := some 22, op := _, type := _, pos := _, after := _, guard := _ }) (v := ?va14_14) rfl (by kernel_rfl) (by kernel_rfl) (by kernel_rfl) (fun _ _ _ h => h) (Or.inl ⟨by kernel_rfl, ?ha14_14⟩) hSa ?ra14_14
  case ha14_14 => first | (intro w hSw; have s0 := hSw; unfold KeepP0 at s0; go_simp; done) | (intro w hSw; have s0 := hSw; unfold KeepP0 at s0; go_simp; with_reducible rfl)
  try simp only [Act.put, List.setIfInBounds_toArray, List.set_cons_zero, List.set_cons_succ]
  refine wpAnyH_ready (rs := [12, 15]) (by kernel_rfl) (by simp) ?_
  refine AllReadyH.cons rfl (fun K hK => ?_) (AllReadyH.cons rfl (fun K hK => ?_) AllReadyH.nil)
  · have ck := unhide HCK
    go_simp
    clear ck
    have hSa' := hSa
    refine hK _ _ hSa' (fun _ => ?_)
    clear hK K hSa
    have hSa := hSa'
    clear hSa'
    refine wpAnyH_ready (rs := [15]) (by kernel_rfl) (by simp) ?_
    refine AllReadyH.cons rfl (fun K hK => ?_) AllReadyH.nil
    go_simp
    have hSa' : KeepP0 p (.slice (some ⟨g, 0, none⟩) n cap) (w.alloc (Obj.cells #[.int .i64 (id : Int)] 3)).drew := ((unhide H).later (unhide HB1)).blk.cell 0 |>.trans (by rw [unhide HLN]; rfl)
    refine hK _ _ hSa' (fun _ => ?_)
    clear hK K hSa
    have hSa := hSa'
    clear hSa'
    refine wpAnyH_ready (rs := [16]) (by kernel_rfl) (by simp) ?_
    refine AllReadyH.cons rfl (fun K hK => ?_) AllReadyH.nil
    go_simp
    refine (unhide CI).mono ?_
    rintro r w4 ⟨v4, rfl, hr4, hgr, hat⟩
    obtain ⟨q4, n4, c4, rfl⟩ := slice_of hr4
    have A4 : Hid (Arn base p (.slice (some ⟨g, 0, none⟩) L.length cap) L w4) := hide ⟨(hgr.block p ((unhide H).later (unhide HB1)).lt (fun e => unhide HKP (by rw [unhide hks]; exact e.symm))).trans ((unhide H).later (unhide HB1)).blk, ((Chg.of_grown hgr).row ((unhide H).later (unhide HB1)).row (fun k hk e => unhide HKV k (by rw [unhide hks]; exact e) hk)), (unhide H).ne⟩
    have HR4 := hide hr4
    have HG4 := hide hgr
    have HA4 := hide hat
    have hSa' : KeepP0 p (.slice (some ⟨g, 0, none⟩) n cap) w4 := (unhide A4).blk.cell 0 |>.trans (by rw [unhide HLN]; rfl)
    clear hr4 hgr hat
    refine hK _ _ hSa' (fun _ => ?_)
    clear hK K hSa
    have hSa := hSa'
    clear hSa'
    refine wpAnyH_take (i := 17) (oi := { dst := some 25, op := _, type := _, pos := _, after := _, guard := _ }) (v := ?va17_15) rfl (by kernel_rfl) (by kernel_rfl) (by kernel_rfl) (fun _ _ _ h => h) (Or.inl ⟨by kernel_rfl, ?ha17_15⟩) hSa ?ra17_15
    case ha17_15 => first | (intro w hSw; have s0 := hSw; unfold KeepP0 at s0; go_simp; done) | (intro w hSw; have s0 := hSw; unfold KeepP0 at s0; go_simp; with_reducible rfl)
    try simp only [Act.put, List.setIfInBounds_toArray, List.set_cons_zero, List.set_cons_succ]
    refine wpAnyH_take (i := 18) (oi := { dst := some 26, op := _, type := _, pos := _, after := _, guard := _ }) (v := ?va18_16) rfl (by kernel_rfl) (by kernel_rfl) (by kernel_rfl) (fun _ _ _ h => h) (Or.inl ⟨by kernel_rfl, ?ha18_16⟩) hSa ?ra18_16
    case ha18_16 => first | (intro w hSw; have s0 := hSw; unfold KeepP0 at s0; go_simp; done) | (intro w hSw; have s0 := hSw; unfold KeepP0 at s0; go_simp; with_reducible rfl)
    try simp only [Act.put, List.setIfInBounds_toArray, List.set_cons_zero, List.set_cons_succ]
    refine wpAnyH_ready (rs := [19]) (by kernel_rfl) (by simp) ?_
    refine AllReadyH.cons rfl (fun K hK => ?_) AllReadyH.nil
    obtain ⟨cur, hblk⟩ := own_ty (unhide A4).row (k := g) rfl
    have fz := (show Blk w4 g cur 65 from hblk).frozen (par * 7 + 6)
    have ck := (ncell_of_row (unhide A4).row par (unhide HP)).k
    go_simp
    have A5 := hide ((unhide A4).setN (kidsN ⟨q4, n4, c4⟩ (L.getD par n0)) (.slice q4 n4 c4) (j := 6) (unhide HP) (by omega) rfl)
    have hSa' : KeepP0 p (.slice (some ⟨g, 0, none⟩) n cap) (w4.setCell ⟨g, par * 7 + 6, none⟩ (.slice q4 n4 c4)) := (unhide A5).blk.cell 0 |>.trans (by rw [unhide HLN]; rfl)
    clear fz ck hblk
    refine hK _ _ hSa' (fun _ => ?_)
    clear hK K hSa
    have hSa := hSa'
    clear hSa'
    refine wpAnyH_done (by kernel_rfl) ?_ _
    have A6 : Hid (Arn base p (.slice (some ⟨g, 0, none⟩) L.length cap) (setAt L par (kidsN ⟨q4, n4, c4⟩)) (w4.setCell ⟨g, par * 7 + 6, none⟩ (.slice q4 n4 c4))) := A5
    clear hSa HS A5
    have hl6 : (setAt L par (kidsN ⟨q4, n4, c4⟩)).length = L.length := setAt_len _ _ _
    obtain ⟨cur6, hblk6⟩ := own_ty (unhide A6).row (k := g) rfl
    have f6 := (show Blk _ g cur6 65 from hblk6).frozen (id * 7 + 5)
    have c6 := (ncell_of_row (unhide A6).row id (by rw [hl6]; exact unhide HD)).pr
    have c00 : World.cell? _ ⟨p, 0, none⟩ = some (.slice (some ⟨g, 0, none⟩) L.length cap) := (unhide A6).blk.cell 0
    rw [unhide HLN] at c00
    have A7 := hide ((unhide A6).setN (prN (par : Int) ((setAt L par (kidsN ⟨q4, n4, c4⟩)).getD id n0)) (.int .i64 (par : Int)) (j := 5) (by rw [hl6]; exact unhide HD) (by omega) rfl)
    clear hblk6 hl6
    skip
    go_wp2
    refine bodyPost_end (v := .tuple #[]) (results_none Try.results48 _ _ _) rfl ?_
    refine ⟨⟨q4, n4, c4⟩, rfl, unhide A7, ?_, ?_, ?_⟩
    · rw [unhide HKE]; exact ownsRow_away (ownsRow_away (unhide HR4) (fun e => own_ne2 (unhide HR4) (unhide A4).row (by decide) g e rfl) _) (fun e => own_ne2 (unhide HR4) (unhide A4).row (by decide) g e rfl) _
    · have hc1 : Chg (fun j => (Value.slice (some ⟨g, 0, none⟩) L.length cap).ownBlock = some j ∨ (sV (L.getD par n0).k).ownBlock = some j) w w4 := Chg.ahead (unhide HB1) ((Chg.of_grown (unhide HG4)).mono (fun k hk => Or.inr (by rw [unhide HKE]; exact hk)))
      exact (hc1.set (p := g) (Or.inl rfl) _ _).set (p := g) (Or.inl rfl) _ _
    · intro j hj
      rw [unhide HKE]
      rcases unhide HA4 with h | h
      · exact Or.inl (h.symm.trans hj)
      · have hj' : (Value.slice q4 n4 c4).ownBlock = some j := hj
        rw [h] at hj'; cases hj'; exact Or.inr (unhide HB1).size
  · go_simp
    have hSa' : KeepP0 p (.slice (some ⟨g, 0, none⟩) n cap) (w.alloc (Obj.cells #[.int .i64 (id : Int)] 3)).drew := ((unhide H).later (unhide HB1)).blk.cell 0 |>.trans (by rw [unhide HLN]; rfl)
    refine hK _ _ hSa' (fun _ => ?_)
    clear hK K hSa
    have hSa := hSa'
    clear hSa'
    refine wpAnyH_ready (rs := [12]) (by kernel_rfl) (by simp) ?_
    refine AllReadyH.cons rfl (fun K hK => ?_) AllReadyH.nil
    have ck := cell_later (w' := (w.alloc (Obj.cells #[.int .i64 (id : Int)] 3)).drew) ((Below.refl _ _).alloc (Nat.le_refl _) _) (unhide HCK)
    go_simp
    clear ck
    have hSa' := hSa
    refine hK _ _ hSa' (fun _ => ?_)
    clear hK K hSa
    have hSa := hSa'
    clear hSa'
    refine wpAnyH_ready (rs := [16]) (by kernel_rfl) (by simp) ?_
    refine AllReadyH.cons rfl (fun K hK => ?_) AllReadyH.nil
    go_simp
    refine (unhide CI).mono ?_
    rintro r w4 ⟨v4, rfl, hr4, hgr, hat⟩
    obtain ⟨q4, n4, c4, rfl⟩ := slice_of hr4
    have A4 : Hid (Arn base p (.slice (some ⟨g, 0, none⟩) L.length cap) L w4) := hide ⟨(hgr.block p ((unhide H).later (unhide HB1)).lt (fun e => unhide HKP (by rw [unhide hks]; exact e.symm))).trans ((unhide H).later (unhide HB1)).blk, ((Chg.of_grown hgr).row ((unhide H).later (unhide HB1)).row (fun k hk e => unhide HKV k (by rw [unhide hks]; exact e) hk)), (unhide H).ne⟩
    have HR4 := hide hr4
    have HG4 := hide hgr
    have HA4 := hide hat
    have hSa' : KeepP0 p (.slice (some ⟨g, 0, none⟩) n cap) w4 := (unhide A4).blk.cell 0 |>.trans (by rw [unhide HLN]; rfl)
    clear hr4 hgr hat
    refine hK _ _ hSa' (fun _ => ?_)
    clear hK K hSa
    have hSa := hSa'
    clear hSa'
    refine wpAnyH_take (i := 17) (oi := { dst := some 25, op := _, type := _, pos := _, after := _, guard := _ }) (v := ?va17_17) rfl (by kernel_rfl) (by kernel_rfl) (by kernel_rfl) (fun _ _ _ h => h) (Or.inl ⟨by kernel_rfl, ?ha17_17⟩) hSa ?ra17_17
    case ha17_17 => first | (intro w hSw; have s0 := hSw; unfold KeepP0 at s0; go_simp; done) | (intro w hSw; have s0 := hSw; unfold KeepP0 at s0; go_simp; with_reducible rfl)
    try simp only [Act.put, List.setIfInBounds_toArray, List.set_cons_zero, List.set_cons_succ]
    refine wpAnyH_take (i := 18) (oi := { dst := some 26, op := _, type := _, pos := _, after := _, guard := _ }) (v := ?va18_18) rfl (by kernel_rfl) (by kernel_rfl) (by kernel_rfl) (fun _ _ _ h => h) (Or.inl ⟨by kernel_rfl, ?ha18_18⟩) hSa ?ra18_18
    case ha18_18 => first | (intro w hSw; have s0 := hSw; unfold KeepP0 at s0; go_simp; done) | (intro w hSw; have s0 := hSw; unfold KeepP0 at s0; go_simp; with_reducible rfl)
    try simp only [Act.put, List.setIfInBounds_toArray, List.set_cons_zero, List.set_cons_succ]
    refine wpAnyH_ready (rs := [19]) (by kernel_rfl) (by simp) ?_
    refine AllReadyH.cons rfl (fun K hK => ?_) AllReadyH.nil
    obtain ⟨cur, hblk⟩ := own_ty (unhide A4).row (k := g) rfl
    have fz := (show Blk w4 g cur 65 from hblk).frozen (par * 7 + 6)
    have ck := (ncell_of_row (unhide A4).row par (unhide HP)).k
    go_simp
    have A5 := hide ((unhide A4).setN (kidsN ⟨q4, n4, c4⟩ (L.getD par n0)) (.slice q4 n4 c4) (j := 6) (unhide HP) (by omega) rfl)
    have hSa' : KeepP0 p (.slice (some ⟨g, 0, none⟩) n cap) (w4.setCell ⟨g, par * 7 + 6, none⟩ (.slice q4 n4 c4)) := (unhide A5).blk.cell 0 |>.trans (by rw [unhide HLN]; rfl)
    clear fz ck hblk
    refine hK _ _ hSa' (fun _ => ?_)
    clear hK K hSa
    have hSa := hSa'
    clear hSa'
    refine wpAnyH_done (by kernel_rfl) ?_ _
    have A6 : Hid (Arn base p (.slice (some ⟨g, 0, none⟩) L.length cap) (setAt L par (kidsN ⟨q4, n4, c4⟩)) (w4.setCell ⟨g, par * 7 + 6, none⟩ (.slice q4 n4 c4))) := A5
    clear hSa HS A5
    have hl6 : (setAt L par (kidsN ⟨q4, n4, c4⟩)).length = L.length := setAt_len _ _ _
    obtain ⟨cur6, hblk6⟩ := own_ty (unhide A6).row (k := g) rfl
    have f6 := (show Blk _ g cur6 65 from hblk6).frozen (id * 7 + 5)
    have c6 := (ncell_of_row (unhide A6).row id (by rw [hl6]; exact unhide HD)).pr
    have c00 : World.cell? _ ⟨p, 0, none⟩ = some (.slice (some ⟨g, 0, none⟩) L.length cap) := (unhide A6).blk.cell 0
    rw [unhide HLN] at c00
    have A7 := hide ((unhide A6).setN (prN (par : Int) ((setAt L par (kidsN ⟨q4, n4, c4⟩)).getD id n0)) (.int .i64 (par : Int)) (j := 5) (by rw [hl6]; exact unhide HD) (by omega) rfl)
    clear hblk6 hl6
    skip
    go_wp2
    refine bodyPost_end (v := .tuple #[]) (results_none Try.results48 _ _ _) rfl ?_
    refine ⟨⟨q4, n4, c4⟩, rfl, unhide A7, ?_, ?_, ?_⟩
    · rw [unhide HKE]; exact ownsRow_away (ownsRow_away (unhide HR4) (fun e => own_ne2 (unhide HR4) (unhide A4).row (by decide) g e rfl) _) (fun e => own_ne2 (unhide HR4) (unhide A4).row (by decide) g e rfl) _
    · have hc1 : Chg (fun j => (Value.slice (some ⟨g, 0, none⟩) L.length cap).ownBlock = some j ∨ (sV (L.getD par n0).k).ownBlock = some j) w w4 := Chg.ahead (unhide HB1) ((Chg.of_grown (unhide HG4)).mono (fun k hk => Or.inr (by rw [unhide HKE]; exact hk)))
      exact (hc1.set (p := g) (Or.inl rfl) _ _).set (p := g) (Or.inl rfl) _ _
    · intro j hj
      rw [unhide HKE]
      rcases unhide HA4 with h | h
      · exact Or.inl (h.symm.trans hj)
      · have hj' : (Value.slice q4 n4 c4).ownBlock = some j := hj
        rw [h] at hj'; cases hj'; exact Or.inr (unhide HB1).size
end Go.Proofs.Ytabajhbghjfhoab
