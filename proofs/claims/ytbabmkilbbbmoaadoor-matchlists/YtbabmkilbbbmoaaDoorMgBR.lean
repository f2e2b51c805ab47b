/-
  Several texts in one: what the functions of the program and of the document's answer do.
-/
import Derived.Test.YtbabmkilbbbmoaaDoorMgBQ
import Derived.Lib.AppendZeros

/-
  What the reference's Whole of layer 20 does.
-/
namespace Go.Proofs.YtbabmkilbbbmoaaDoor
open Go.RowKit Go.Maps
set_option linter.unusedVariables false
set_option linter.unusedSimpArgs false

theorem en_call {W0 : World} {f a : Forest} {vf va : Nat → NdC} (sf : SmF f) (sa : SmF a) (kf : KidsOk f) (ka : KidsOk a)
    (hf : ∀ k, k < f.len → ∃ kk sp n ats tx kids, f.drop k = .cons kk sp n ats tx kids (f.drop (k + 1)) ∧ NdV kk sp n ats tx kids (vf k).val W0 ∧ (vf k).k = kk ∧ (vf k).sp = sp ∧ (vf k).n = n)
    (ha : ∀ k, k < a.len → ∃ kk sp n ats tx kids, a.drop k = .cons kk sp n ats tx kids (a.drop (k + 1)) ∧ NdV kk sp n ats tx kids (va k).val W0 ∧ (va k).k = kk ∧ (va k).sp = sp ∧ (va k).n = n) :
    ∀ i k, i < f.len → k < a.len → ∀ W, Below W0.heap.size W0 W → Calls Tryd.prog 20 #[(va k).val, (vf i).val] W fun e w' => e = .returned (.bool (EN f a i k)) ∧ Below W.heap.size W w' := by
  intro i k hi hk W hW
  obtain ⟨k1, s1, n1, a1, t1, c1, d1, v1, _⟩ := hf i hi
  obtain ⟨k2, s2, n2, a2, t2, c2, d2, v2, _⟩ := ha k hk
  have x1 := smF_drop i f sf
  have x2 := smF_drop k a sa
  have y1 := kf i _ _ _ _ _ _ _ hi d1
  have y2 := ka k _ _ _ _ _ _ _ hk d2
  unfold EN keyT
  rw [d1] at x1 ⊢
  rw [d2] at x2 ⊢
  dsimp only
  rw [node_key]
  exact ndv_two k2 s2 n2 a2 t2 c2 k1 s1 n1 a1 t1 c1 _ _ W (v2.below hW) (v1.below hW) x2.2.1 x1.2.1 x2.head x1.head (by omega) (by omega)

set_option maxHeartbeats 2000000 in
set_option maxRecDepth 100000 in
theorem whole_any (qa qb : Option Addr) (ca cb : Nat) (f h : Forest) (w : World) (hf : Fo qa f w) (hh : Fo qb h w) (sf : SmF f) (sh : SmF h) (kf : KidsOk f) (kh : KidsOk h) (nf : f.len ≤ 1000) (nh : h.len ≤ 1000) :
    Calls Tryd.prog 33 #[.slice qa f.len ca, .slice qb h.len cb] w fun e w' => ∃ u, e = .returned u ∧ PrCells w' u (whP (lnP (eqT (ksT f) (ksT h)) f.len h.len 0 0)) ∧ Below w.heap.size w w' := by
  have hja := appJ_len f h
  have sa := appJ_sm f h sf sh
  have ka := appJ_kids kf kh
  have HAP := hide (append_nodes w w w.heap.size (.slice none 0 0) 0 [] f qa ca (World.ownsRow_nil _ _ _ _) hf (Below.refl _ _) (by omega) (Nat.le_refl _))
  have HAQ := hide (fun (W : World) v n xs (h1 : n = f.len) (h2 : W.ownsRow w.heap.size 44 6 v n xs) (hW : Below w.heap.size w W) => append_nodes w W w.heap.size v n xs h qb cb h2 hh hW (by omega) hW.size)
  have C1 := hide (fun W (hW : Below w.heap.size w W) q c (hq : Fo q (appJ f h) W) => by
    obtain ⟨vf, hv, hx⟩ := nds_of (hf.below hW)
    obtain ⟨va, hva, hxa⟩ := nds_of hq
    exact classes_any qa q f.len (appJ f h).len ca c vf va (EN f (appJ f h)) W hv hva nf (by omega) (en_call sf sa kf ka hx hxa))
  have C2 := hide (fun W (hW : Below w.heap.size w W) q c (hq : Fo q (appJ f h) W) => by
    obtain ⟨vf, hv, hx⟩ := nds_of (hh.below hW)
    obtain ⟨va, hva, hxa⟩ := nds_of hq
    exact classes_any qb q h.len (appJ f h).len cb c vf va (EN h (appJ f h)) W hv hva nh (by omega) (en_call sh sa kh ka hx hxa))
  have HL : Hid (whP (lnP (eqT (clsT (EN f (appJ f h)) (appJ f h).len f.len) (clsT (EN h (appJ f h)) (appJ f h).len h.len)) (clsT (EN f (appJ f h)) (appJ f h).len f.len).length (clsT (EN h (appJ f h)) (appJ f h).len h.len).length 0 0) = whP (lnP (eqT (ksT f) (ksT h)) f.len h.len 0 0)) := hide (by
    rw [clsT_len, clsT_len, hja]
    exact congrArg whP (lnP_same _ _ _ _ (fun i j hi hj => cls_same f h (by omega) i j hi hj) _ 0 0))
  have l1 : Hid ((clsT (EN f (appJ f h)) (appJ f h).len f.len).length ≤ 1000) := hide (by rw [clsT_len]; exact nf)
  have l2 : Hid ((clsT (EN h (appJ f h)) (appJ f h).len h.len).length ≤ 1000) := hide (by rw [clsT_len]; exact nh)
  generalize clsT (EN f (appJ f h)) (appJ f h).len f.len = S1 at *
  generalize clsT (EN h (appJ f h)) (appJ f h).len h.len = S2 at *
  generalize whP (lnP (eqT (ksT f) (ksT h)) f.len h.len 0 0) = P at *
  obtain ⟨xs, v3, w3, hr3, hown3, hgr3, hxl, hxr⟩ := unhide HAP
  have hb3 := (Below.refl w.heap.size w).grown hgr3 (Nat.le_refl _) (fun k hk => by simp [Value.ownBlock] at hk)
  simp only [Nat.zero_add, List.nil_append] at hown3
  obtain ⟨ys, v4, w4, hr4, hown4, hgr4, hyl, hyr⟩ := unhide HAQ w3 v3 f.len xs rfl hown3 hb3
  have hb4 := hb3.grown hgr4 hb3.size (fun k hk => (hown3.lt k hk).1)
  obtain ⟨q4, c4, hv4, hc4, hfo4⟩ := fo_joined (w0 := w) hown4 hxl hb4 hxr hyr
  obtain ⟨a3, c3, hv3⟩ := slice_n hown3
  subst hv4
  subst hv3
  have D1 := hide (unhide C1 w4 hb4 q4 c4 hfo4)
  have D2 := hide (fun W (hW : Below w4.heap.size w4 W) => unhide C2 W (tr2 hb4 hW) q4 c4 (hfo4.below hW))
  have HB4 := hide hb4
  clear HAP HAQ C1 C2 hown3 hgr3 hxl hxr hb3 hown4 hgr4 hyl hyr hb4 hfo4 hc4 hf hh sf sh kf kh sa ka nf nh
  generalize f.len = n at *
  generalize h.len = m at *
  generalize (appJ f h).len = jl at *
  clear hja
  go_enter Tryd.func33, Tryd.ntmps33
  go_wp2_with (at_builtin; first | refine Lib.wpList_append_run _ rfl _ _ 22 22 rfl _ _ rfl rfl _ _ hr3 ?_ | refine Lib.wpList_append_run _ rfl _ _ 22 22 rfl _ _ rfl rfl _ _ hr4 ?_)
  clear hr3 hr4
  refine (unhide D1).mono ?_
  rintro e w5 ⟨u1, rfl, hu1, hb5⟩
  have V1 := hide (view_of_owns hu1)
  have D3 := hide (unhide D2 w5 hb5)
  have HB5 := hide (tr2 (unhide HB4) hb5)
  clear D1 D2 HB4 hu1 hb5
  go_wp2_with fail
  refine (unhide D3).mono ?_
  rintro e w6 ⟨u2, rfl, hu2, hb6⟩
  have CL := hide (rline_any u1 u2 S1 S2 w6 (view_below (unhide V1) hb6) (view_of_owns hu2) (unhide l1) (unhide l2))
  have HB6 := hide (tr2 (unhide HB5) hb6)
  clear D3 HB5 hu2 hb6 V1
  go_wp2_with fail
  refine (unhide CL).mono ?_
  rintro e w7 ⟨u3, rfl, hu3, hb7⟩
  have hp := owns_pr hu3
  rw [unhide HL] at hp
  have HP := hide hp
  have HB7 := hide (tr2 (unhide HB6) hb7)
  clear CL HB6 hu3 hb7 hp
  go_wp2
  go_ret
  exact ⟨_, rfl, unhide HP, unhide HB7⟩
end Go.Proofs.YtbabmkilbbbmoaaDoor

/-
  What the reference's Alike of layer 20 does.
-/
namespace Go.Proofs.YtbabmkilbbbmoaaDoor
open Go.RowKit
set_option linter.unusedVariables false
set_option linter.unusedSimpArgs false

set_option maxHeartbeats 2000000 in
set_option maxRecDepth 100000 in
theorem ralike_any (y z : NdC) (w : World) :
    Calls Tryd.prog 19 #[y.val, z.val] w fun e w' => e = .returned (.bool (decide (y.k = z.k) && decide (y.sp = z.sp) && (y.n.toList == z.n.toList))) ∧ Below w.heap.size w w' := by
  unfold NdC.val
  have HB := hide (((Below.refl w.heap.size w).alloc (Nat.le_refl _) (Obj.cells #[.int .i64 y.k, .int .i64 y.sp, .string y.n, .slice y.qa y.la y.ca, .string y.tx, .slice y.qk y.lk y.ck] 44)).alloc (by simp) (Obj.cells #[.int .i64 z.k, .int .i64 z.sp, .string z.n, .slice z.qa z.la z.ca, .string z.tx, .slice z.qk z.lk z.ck] 44))
  by_cases e0 : y.k = z.k
  · have f0 : (y.k == z.k) = true := by simp [e0]
    by_cases e1 : y.sp = z.sp
    · have f1 : (y.sp == z.sp) = true := by simp [e1]
      rw [decide_eq_true e0, decide_eq_true e1, Bool.true_and, Bool.true_and]
      clear e0 e1
      go_enter Tryd.func19, Tryd.ntmps19
      go_wp2
      go_ret
      exact ⟨rfl, unhide HB⟩
    · have f1 : (y.sp == z.sp) = false := beq_eq_false_iff_ne.2 e1
      rw [decide_eq_false e1, Bool.and_false, Bool.false_and]
      clear e0 e1
      go_enter Tryd.func19, Tryd.ntmps19
      go_wp2
      go_ret
      exact ⟨rfl, unhide HB⟩
  · have f0 : (y.k == z.k) = false := beq_eq_false_iff_ne.2 e0
    rw [decide_eq_false e0, Bool.false_and, Bool.false_and]
    clear e0
    go_enter Tryd.func19, Tryd.ntmps19
    go_wp2
    go_ret
    exact ⟨rfl, unhide HB⟩
/-- The like of two places of two lists, as the labels say. -/
theorem ralike_lab {W0 : World} {f g : Forest} {vf vg : Nat → NdC}
    (hf : ∀ k, k < f.len → ∃ kk sp n ats tx kids, f.drop k = .cons kk sp n ats tx kids (f.drop (k + 1)) ∧ NdV kk sp n ats tx kids (vf k).val W0 ∧ (vf k).k = kk ∧ (vf k).sp = sp ∧ (vf k).n = n)
    (hg : ∀ k, k < g.len → ∃ kk sp n ats tx kids, g.drop k = .cons kk sp n ats tx kids (g.drop (k + 1)) ∧ NdV kk sp n ats tx kids (vg k).val W0 ∧ (vg k).k = kk ∧ (vg k).sp = sp ∧ (vg k).n = n) :
    ∀ i j, i < f.len → j < g.len → ∀ W, Calls Tryd.prog 19 #[(vf i).val, (vg j).val] W fun e w' => e = .returned (.bool (eqT (lsT f) (lsT g) i j)) ∧ Below W.heap.size W w' := by
  intro i j hi hj W
  obtain ⟨k1, s1, n1, a1, t1, c1, d1, _, x1, x2, x3⟩ := hf i hi
  obtain ⟨k2, s2, n2, a2, t2, c2, d2, _, y1, y2, y3⟩ := hg j hj
  have h := ralike_any (vf i) (vg j) W
  rw [x1, x2, x3, y1, y2, y3] at h
  have e : (decide (k1 = k2) && decide (s1 = s2) && (n1.toList == n2.toList)) = eqT (lsT f) (lsT g) i j := by
    unfold eqT
    rw [lsT_tx f i hi, lsT_tx g j hj]
    unfold labT
    rw [d1, d2]
    dsimp only
    rw [bs_toList, bs_toList]
    have hl := label_one k1 s1 n1 k2 s2 n2
    by_cases hx : labelB k1 s1 n1 = labelB k2 s2 n2
    · obtain ⟨r1, r2, r3⟩ := hl.1 hx
      rw [decide_eq_true hx]; simp [r1, r2, r3]
    · rw [decide_eq_false hx]
      have hn : ¬ (k1 = k2 ∧ s1 = s2 ∧ n1 = n2) := fun h => hx (hl.2 h)
      cases hb : (decide (k1 = k2) && decide (s1 = s2) && (n1.toList == n2.toList)) with
      | false => rfl
      | true =>
        simp only [Bool.and_eq_true, decide_eq_true_eq, beq_iff_eq] at hb
        exact absurd ⟨hb.1.1, hb.1.2, toList_eq.1 hb.2⟩ hn
  rw [e] at h
  exact h
end Go.Proofs.YtbabmkilbbbmoaaDoor

/-
  The reference's Lists of layer 20, plainly: what 'at' tells and how far a gap goes, of whole pairs that rise.
-/
namespace Go.Proofs.YtbabmkilbbbmoaaDoor
open Go.RowKit
set_option linter.unusedVariables false
set_option linter.unusedSimpArgs false

theorem patF_pre : ∀ (P : List (Nat × Nat)) (i k : Nat), (∀ x, x < k → x < P.length → (P.getD x (0, 0)).1 < i) → patF (whP P) (i : Int) = patF (whP (P.drop k)) (i : Int)
  | [], i, k, _ => by rw [List.drop_nil]
  | p :: r, i, 0, _ => rfl
  | p :: r, i, k + 1, h => by
    have h0 : p.1 < i := h 0 (by omega) (by simp)
    have : whP (p :: r) = ((p.1 : Int), (p.2 : Int), true) :: whP r := rfl
    rw [this, patF, if_neg (by show ¬ (p.1 : Int) = (i : Int); omega), patF_pre r i k (fun x hx hl => by
      have := h (x + 1) (by omega) (by simp; omega)
      simpa using this)]
    rfl
theorem patF_none : ∀ (R : List (Nat × Nat)) (n m i i' j : Nat), i < i' → RiseFrom (fun _ _ => true) n m i' j R → patF (whP R) (i : Int) = ((i : Int), -1, false)
  | [], _, _, i, _, _, _, _ => rfl
  | p :: r, n, m, i, i', j, hi, h => by
    have h1 := h.1
    have : whP (p :: r) = ((p.1 : Int), (p.2 : Int), true) :: whP r := rfl
    rw [this, patF, if_neg (by show ¬ (p.1 : Int) = (i : Int); omega)]
    exact patF_none r n m i (p.1 + 1) (p.2 + 1) (by omega) h.2.2.2.2.2
theorem patF_head (p : Nat × Nat) (r : List (Nat × Nat)) (i : Nat) (h : p.1 = i) : patF (whP (p :: r)) (i : Int) = ((i : Int), (p.2 : Int), true) := by
  have : whP (p :: r) = ((p.1 : Int), (p.2 : Int), true) :: whP r := rfl
  rw [this, patF, if_pos (by show (p.1 : Int) = (i : Int); omega), h]
/-- Up to where a gap goes. -/
def toF (m : Nat) : List (Nat × Nat) → Nat
  | [] => m
  | p :: _ => p.2
/-- A list of whole pairs, seen from place k on. -/
theorem rise_at {n m : Nat} : ∀ (R : List (Nat × Nat)) (i j : Nat), RiseFrom (fun _ _ => true) n m i j R → ∀ x, x < R.length → i ≤ (R.getD x (0, 0)).1 ∧ toF m R ≤ (R.getD x (0, 0)).2 ∧ (R.getD x (0, 0)).2 < m
  | [], _, _, _, x, hx => by simp at hx
  | p :: r, i, j, h, 0, _ => ⟨h.1, Nat.le_refl _, h.2.2.2.1⟩
  | p :: r, i, j, h, x + 1, hx => by
    have h2 := rise_at r (p.1 + 1) (p.2 + 1) h.2.2.2.2.2 x (by simp at hx; omega)
    have h1 := h.1
    have hl : p.2 + 1 ≤ toF m r := by
      cases r with
      | nil => simp at hx
      | cons q s => exact h.2.2.2.2.2.2.1
    simp only [List.getD_cons_succ]
    exact ⟨by omega, by show p.2 ≤ _; omega, h2.2.2⟩
/-- rlF's step, all in one. -/
theorem rlF_whole (A : Nat → Nat → Bool) (m f i j : Nat) (p : Nat × Nat) (r : List (Nat × Nat)) (h : p.1 = i) : rlF A m (f + 1) i j (p :: r) = ((i : Int), (p.2 : Int), true) :: rlF A m f (i + 1) (p.2 + 1) r := by rw [rlF, if_pos h]
theorem rlF_some (A : Nat → Nat → Bool) (m f i j x : Nat) (R : List (Nat × Nat)) (h : ∀ p r, R = p :: r → p.1 ≠ i) (hx : fdF (A i) (toF m R - j) j = some x) : rlF A m (f + 1) i j R = ((i : Int), (x : Int), false) :: rlF A m f (i + 1) (x + 1) R := by
  cases R with
  | nil => rw [rlF]; rw [show m = toF m [] from rfl, hx]
  | cons p r => rw [rlF, if_neg (h p r rfl)]; rw [show p.2 = toF m (p :: r) from rfl, hx]
theorem rlF_no (A : Nat → Nat → Bool) (m f i j : Nat) (R : List (Nat × Nat)) (h : ∀ p r, R = p :: r → p.1 ≠ i) (hx : fdF (A i) (toF m R - j) j = none) : rlF A m (f + 1) i j R = rlF A m f (i + 1) j R := by
  cases R with
  | nil => rw [rlF]; rw [show m = toF m [] from rfl, hx]
  | cons p r => rw [rlF, if_neg (h p r rfl)]; rw [show p.2 = toF m (p :: r) from rfl, hx]
end Go.Proofs.YtbabmkilbbbmoaaDoor
