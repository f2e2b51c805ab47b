/-
  What rectoref20.Pages does (made by mk_heo.py).
-/
import Derived.Test.YtbabmkilbbbmoaaDoorMgBS
import Derived.Deep.RegionHeld
namespace Go.Proofs.YtbabmkilbbbmoaaDoor
open Go.RowKit Go.Maps
set_option linter.unusedVariables false
set_option linter.unusedSimpArgs false

theorem flatP_one : ∀ (L : List (Int × Int × Bool)), ∀ u ∈ flatP L, u.oneCell' = true
  | [], u, h => by cases h
  | p :: r, u, h => by
    rw [flatP] at h
    rcases List.mem_append.1 h with h | h
    · simp only [pairL, List.mem_cons, List.not_mem_nil, or_false] at h
      rcases h with rfl | rfl | rfl <;> rfl
    · exact flatP_one r u h
theorem rapp_run (W : World) (base base2 : Nat) (v v2 : Value) (L M : List (Int × Int × Bool)) (hu : RPairsV W base v L) (hv : RPairsV W base2 v2 M) (hl : L.length + M.length ≤ 4000) (hb : base ≤ W.heap.size) :
    ∃ q n c W', (Builtin.append_ #[28, 28] 28 #[v, v2]).run Tryd.prog W = .ok (.slice q n c) W' ∧ RPairsV W' base (.slice q n c) (L ++ M) ∧ W.grownBy W' v.ownBlock := by
  obtain ⟨i0, hi0, hi1, hi2, hi3⟩ := infoRPair
  rcases hv.2 with ⟨rfl, h0⟩ | ⟨g', cap, cur, rfl, h1, h2, h3, h4, h5, h6⟩
  · have hm : M = [] := List.eq_nil_of_length_eq_zero h0
    subst hm
    obtain ⟨q, n, c, rfl⟩ := slice_of hu
    exact ⟨q, n, c, W, run_append_owned_none (P := Tryd.prog) (w := W) base 28 28 63 i0 3 Tryd.underlying28 hi0 _ L.length _ hu, by rw [List.append_nil]; exact hu, ⟨rfl, rfl, rfl, Nat.le_refl _, fun _ _ _ => rfl⟩⟩
  · have hcell := World.ownsRow.cells hv (g := g') rfl
    obtain ⟨v', W', hr, ho, hg, _⟩ := append_fresh (P := Tryd.prog) W base 28 28 63 i0 (.agg #[.int .i64 0, .int .i64 0, .bool false]) 3 24 Tryd.underlying28 hi0 hi1 hi2 hi3 rfl (by decide) v L.length _ hu ⟨g', 0, none⟩ M.length cap (flatP M) (by rw [flatP_len]) hcell (flatP_one M) (by simp only [maxLen]; omega) (by omega) hb
    obtain ⟨q, n, c, rfl⟩ := slice_of ho
    exact ⟨q, n, c, W', hr, by unfold RPairsV; rw [List.length_append, flatP_app]; exact ho, hg⟩
theorem kid_lies {F : Forest} {g o : Nat} {w : World} (hl : Lies F g o w) (X : Nat) (hX : X < F.len) : ∃ qk ck, w.cell? ⟨g, o + X * 6 + 5, none⟩ = some (.slice qk (kidF (F.drop X)).len ck) ∧ (kidF (F.drop X)).len ≤ ck ∧ Fo qk (kidF (F.drop X)) w := by
  have h := Lies.drop X F o hl
  obtain ⟨k, sp, n, ats, tx, kids, hd⟩ := F.drop_cons X hX
  rw [hd] at h ⊢
  obtain ⟨⟨c0, c1, c2, ⟨qa, ca, c3, hsl⟩, c4, ⟨qk, ck, c5, hck, hfo⟩⟩, _⟩ := h
  exact ⟨qk, ck, c5, hck, hfo⟩
theorem kid_small {F : Forest} (h : SmF F) (X : Nat) (hX : X < F.len) : SmF (kidF (F.drop X)) := by
  have h1 := smF_drop X F h
  obtain ⟨k, sp, n, ats, tx, kids, hd⟩ := F.drop_cons X hX
  rw [hd] at h1 ⊢
  exact h1.2.1
/-- What region 13 reads. -/
def R13S (bx gF oF gG oG : Nat) (x y : Int) (z : Bool) (vF vG : Value) (W : World) : Prop := W.cell? ⟨bx, 0, none⟩ = some (.int .i64 x) ∧ W.cell? ⟨bx, 1, none⟩ = some (.int .i64 y) ∧ W.cell? ⟨bx, 2, none⟩ = some (.bool z) ∧ W.cell? ⟨gF, oF, none⟩ = some vF ∧ W.cell? ⟨gG, oG, none⟩ = some vG
theorem R13S.le {bx gF oF gG oG : Nat} {x y : Int} {z : Bool} {vF vG : Value} {W W' : World} (h : R13S bx gF oF gG oG x y z vF vG W) (hc : CellLe W W') : R13S bx gF oF gG oG x y z vF vG W' := ⟨hc _ _ _ h.1, hc _ _ _ h.2.1, hc _ _ _ h.2.2.1, hc _ _ _ h.2.2.2.1, hc _ _ _ h.2.2.2.2⟩

/-- What rectoref20.Pages answers. -/
def RPgSaid (m : Nat) : Prop := ∀ (F G : Forest) (qa qb : Option Addr) (ca cb a b : Nat) (w : World), Fo qa F w → Fo qb G w → F.len ≤ ca → G.len ≤ cb → SmF F → SmF G → F.count < m → a + F.count ≤ 900 → b + G.count ≤ 900 →
    Calls Tryd.prog 13 #[.slice qa F.len ca, .slice qb G.len cb, .agg #[.int .i64 (a : Int), .int .i64 (b : Int)]] w fun e w' => ∃ u, e = .returned u ∧ RPairsV w' w.heap.size u (pgF m F G a b) ∧ Below w.heap.size w w'

set_option maxHeartbeats 8000000 in
set_option maxRecDepth 100000 in
theorem rpages_step (m : Nat) (IH : RPgSaid m) : RPgSaid (m + 1) := by
  intro F G qa qb ca cb a b w hf hg hca hcb sf sg hm hab hbb
  obtain ⟨i0, hi0, hi1, hi2, hi3⟩ := infoRPair
  have hFl : F.len ≤ 900 := by have := F.len_count; omega
  have hGl : G.len ≤ 900 := by have := G.len_count; omega
  have hB0 : Below w.heap.size w (w.alloc (Obj.cells #[.int .i64 (a : Int), .int .i64 (b : Int)] 32)) := (Below.refl _ _).alloc (Nat.le_refl _) _
  have KFR := hide (Blk.new w #[.int .i64 (a : Int), .int .i64 (b : Int)] 32)
  have CL := hide (rlists_any qa qb ca cb F G (w.alloc (Obj.cells #[.int .i64 (a : Int), .int .i64 (b : Int)] 32)) (hf.below hB0) (hg.below hB0) sf sg (kidsOk_count F (by omega)) (kidsOk_count G (by omega)) (by omega) (by omega))
  have HF := hide (fun W (hW : Below w.heap.size w W) => hf.below hW)
  have HG := hide (fun W (hW : Below w.heap.size w W) => hg.below hW)
  have HSM := hide (And.intro sf sg)
  have HM : Hid (F.count < m + 1) := hide hm
  have hTOT : pgF (m + 1) F G a b = pgL (pgF m) F G a b (ltP F G) := rfl
  have hTL := pgF_len (m + 1) F G a b hm
  rw [hTOT] at hTL ⊢
  have HTL : Hid ((pgL (pgF m) F G a b (ltP F G)).length ≤ 900) := hide (by omega)
  have HLM : Hid (∀ p ∈ ltP F G, ∃ X Y : Nat, p.1 = (X : Int) ∧ p.2.1 = (Y : Int) ∧ X < F.len ∧ Y < G.len) := hide (fun p hp => by
    obtain ⟨X, Y, e1, e2, _, _⟩ := ltP_mem F G p hp
    obtain ⟨h1, h2⟩ := rsI_in _ _ _ (ltP_rs F G) p hp
    exact ⟨X, Y, e1, e2, by omega, by omega⟩)
  have hlt := lt_len F G
  have HIH := hide IH
  have HB0 := hide hB0
  have HAB := hide (And.intro hab hbb)
  have HCA := hide (And.intro hca hcb)
  clear hTOT hTL hf hg sf sg hm hB0 IH hab hbb hca hcb
  generalize ltP F G = LT at *
  obtain ⟨TOT, hTOT⟩ : ∃ T, pgL (pgF m) F G a b LT = T := ⟨_, rfl⟩
  rw [hTOT] at HTL ⊢
  have HTOT := hide hTOT
  clear hTOT
  go_enter Tryd.func13, Tryd.ntmps13
  go_wp2_with fail
  refine (unhide CL).mono ?_
  rintro e w1 ⟨u, rfl, hrow, hb1⟩
  have HB1 : Hid (Below w.heap.size w w1) := hide ((unhide HB0).trans (hb1.mono (unhide HB0).size))
  have KF1 : Hid (Blk w1 w.heap.size #[.int .i64 (a : Int), .int .i64 (b : Int)] 32) := hide ((unhide KFR).later hb1)
  obtain ⟨rq, rc, hu, hcl⟩ := owns_pr hrow
  subst hu
  have RP : Hid (∀ wx, Below w1.heap.size w1 wx → ∀ t, t < LT.length → ∃ gR, rq = some ⟨gR, 0, none⟩ ∧ wx.cell? ⟨gR, t * 3, none⟩ = some (.int .i64 (LT.getD t p0).1) ∧ wx.cell? ⟨gR, t * 3 + 1, none⟩ = some (.int .i64 (LT.getD t p0).2.1) ∧ wx.cell? ⟨gR, t * 3 + 2, none⟩ = some (.bool (LT.getD t p0).2.2)) := hide (fun wx hk t ht => by
    obtain ⟨gR, e, hc⟩ := hcl (by omega)
    obtain ⟨c0, c1, c2⟩ := hc t ht
    have h := below_cells hk
    exact ⟨gR, e, h _ _ _ c0, h _ _ _ c1, h _ _ _ c2⟩)
  have hz1 := (unhide HB1).size
  have hkf := (unhide KF1).lt
  generalize hll : LT.length = ll at *
  have HLL := hide hll
  clear hll hcl hrow hb1 CL HB0 KFR
  go_wp2
  go_loopw [7, 17, 9] (fun u tv pv wr => ∃ (t : Nat) (L : List (Int × Int × Bool)), t ≤ ll ∧ tv = .int .i64 (t : Int) ∧ RPairsV wr w1.heap.size u L ∧ L ++ pgL (pgF m) F G a b (LT.drop t) = TOT ∧ Below w1.heap.size w1 wr) (fun _ tv _ _ => ll - (intOf tv).toNat)
  case atStart => exact ⟨0, [], Nat.zero_le _, rfl, World.ownsRow_nil _ _ _ _, by rw [List.drop_zero]; exact unhide HTOT, Below.refl _ _⟩
  case round =>
    obtain ⟨t, L, htl, rfl, hrow, heq, hbl⟩ := hrel
    obtain ⟨uq, un, uc, hu⟩ := slice_of hrow
    subst hu
    by_cases hp : t < ll
    · have hpi : (t : Int) < (ll : Int) := by omega
      have ht0 : (0 : Int) ≤ (t : Int) := by omega
      obtain ⟨gR, hgR, c0, c1, c2⟩ := unhide RP wr hbl t hp
      subst hgR
      have hLl := unhide HLL
      have hmem : LT.getD t p0 ∈ LT := by rw [List.getD, List.getElem?_eq_getElem (by omega)]; exact List.getElem_mem _
      have hdrop : LT.drop t = LT.getD t p0 :: LT.drop (t + 1) := by rw [List.drop_eq_getElem_cons (by omega), List.getD, List.getElem?_eq_getElem (by omega)]; rfl
      obtain ⟨X, Y, e1, e2, hX, hY⟩ := unhide HLM _ hmem
      rw [hdrop] at heq
      have hlen : L.length + (pgL (pgF m) F G a b (LT.getD t p0 :: LT.drop (t + 1))).length ≤ 900 := by
        have h1 := congrArg List.length heq
        rw [List.length_append] at h1
        have := unhide HTL
        omega
      clear hmem hdrop hLl
      generalize LT.getD t p0 = pp at *
      obtain ⟨px, py, z⟩ := pp
      simp only at e1 e2 c0 c1 c2
      subst e1 e2
      obtain ⟨gF, oF, hqF, hlF⟩ : ∃ gF oF, qa = some ⟨gF, oF, none⟩ ∧ Lies F gF oF w1 := by
        rcases unhide HF w1 (unhide HB1) with h | ⟨gF, oF, h, hl⟩
        · rw [h] at hX; simp [Forest.len] at hX
        · exact ⟨gF, oF, h, hl⟩
      obtain ⟨gG, oG, hqG, hlG⟩ : ∃ gG oG, qb = some ⟨gG, oG, none⟩ ∧ Lies G gG oG w1 := by
        rcases unhide HG w1 (unhide HB1) with h | ⟨gG, oG, h, hl⟩
        · rw [h] at hY; simp [Forest.len] at hY
        · exact ⟨gG, oG, h, hl⟩
      subst hqF hqG
      have hXi : (X : Int) < (F.len : Int) := by omega
      have hYi : (Y : Int) < (G.len : Int) := by omega
      have hX0 : (0 : Int) ≤ (X : Int) := by omega
      have hY0 : (0 : Int) ≤ (Y : Int) := by omega
      obtain ⟨qk, ck, k5, hck, hko⟩ := kid_lies hlF X hX
      obtain ⟨qh, ch, h5, hch, hho⟩ := kid_lies hlG Y hY
      have CN1 := hide (fun W (hW : Below w1.heap.size w1 W) => rnumber_any F gF oF ca X a W (Lies.below hW F gF oF hlF) (by omega) (unhide HCA).1 (by have := (unhide HAB).1; omega) (by have := (unhide HAB).1; omega))
      have CN2 := hide (fun W (hW : Below w1.heap.size w1 W) => rnumber_any G gG oG cb Y b W (Lies.below hW G gG oG hlG) (by omega) (unhide HCA).2 (by have := (unhide HAB).2; omega) (by have := (unhide HAB).2; omega))
      have hcF := kidF_drop F X hX
      have hcG := kidF_drop G Y hY
      have s1 := kid_small (unhide HSM).1 X hX
      have s2 := kid_small (unhide HSM).2 Y hY
      have nX := numE_step F a X hX
      have nY := numE_step G b Y hY
      have nX2 := numE_mono F a (F.len - (X + 1)) (X + 1) (by omega)
      have nY2 := numE_mono G b (G.len - (Y + 1)) (Y + 1) (by omega)
      rw [show X + 1 + (F.len - (X + 1)) = F.len by omega, numE_end] at nX2
      rw [show Y + 1 + (G.len - (Y + 1)) = G.len by omega, numE_end] at nY2
      have HPW := @pgL_whole (pgF m) F G a b X Y (LT.drop (t + 1))
      have HPA := @pgL_alike (pgF m) F G a b X Y (LT.drop (t + 1))
      generalize numE F a X = i at *
      generalize numE G b Y = j at *
      generalize numE F a (X + 1) = i2 at *
      generalize numE G b (Y + 1) = j2 at *
      have hi9 : i + 1 + (kidF (F.drop X)).count ≤ 900 := by have := (unhide HAB).1; omega
      have hj9 : j + 1 + (kidF (G.drop Y)).count ≤ 900 := by have := (unhide HAB).2; omega
      have hKm : (kidF (F.drop X)).count < m := by have := unhide HM; omega
      have CI := hide (fun W (hW : Below w1.heap.size w1 W) => by
        have X9 := unhide HIH (kidF (F.drop X)) (kidF (G.drop Y)) qk qh ck ch (i + 1) (j + 1) W (hko.below hW) (hho.below hW) hck hch s1 s2 hKm (by omega) (by omega)
        rw [show ((i + 1 : Nat) : Int) = (i : Int) + 1 by omega, show ((j + 1 : Nat) : Int) = (j : Int) + 1 by omega] at X9
        exact X9)
      have HPL : Hid ((pgF m (kidF (F.drop X)) (kidF (G.drop Y)) (i + 1) (j + 1)).length ≤ 900) := hide (by have := pgF_len m (kidF (F.drop X)) (kidF (G.drop Y)) (i + 1) (j + 1) hKm; omega)
      have CK := hide (fun W (hW : Below w1.heap.size w1 W) => rcount_any (kidF (F.drop X)).count (kidF (F.drop X)) (Nat.le_refl _) (by omega) qk ck W (hko.below hW))
      have KK := hide (And.intro k5 h5)
      have kf := (unhide KF1).later hbl
      have kf0 := kf.cell 0
      have kf1 := kf.cell 1
      have lKF := kf.lt
      have HP1 := hide HPW
      have HP2 := hide HPA
      have HKL : Hid ((kidF (F.drop X)).len = (kidF (F.drop X)).len) := hide rfl
      generalize hkl : (kidF (F.drop X)).len = kl at *
      generalize hkl2 : (kidF (G.drop Y)).len = kl2 at *
      have HROW := hide hrow
      have HEQ := hide heq
      have HBL := hide hbl
      have hzl := hbl.size
      have hlL : L.length ≤ 900 := by omega
      have HLEN := hide hlen
      have HUB : Hid (∀ k, (Value.slice uq un uc).ownBlock = some k → w1.heap.size ≤ k ∧ k < wr.heap.size) := hide (fun k hk => hrow.lt k hk)
      clear HPW HPA hcF hcG s1 s2 nX nY nX2 nY2 hko hho hlF hlG hrow heq hbl hck hch hKm hkl hkl2 hlen k5 h5
      have BZ : Hid (Below w1.heap.size w1 (wr.alloc (Obj.cells #[.int .i64 (X : Int), .int .i64 (Y : Int), .bool z] 63))) := hide ((unhide HBL).alloc hzl _)
      have RZ : Hid (RPairsV (wr.alloc (Obj.cells #[.int .i64 (X : Int), .int .i64 (Y : Int), .bool z] 63)) w1.heap.size (.slice uq un uc) L) := hide (ownsRow_below (unhide HROW) ((Below.refl _ _).alloc (Nat.le_refl _) _))
      have CN1a := hide (unhide CN1 _ (unhide BZ))
      have KBX := hide (Blk.new wr #[.int .i64 (X : Int), .int .i64 (Y : Int), .bool z] 63)
      go_wp2_with fail
      refine (unhide CN1a).mono ?_
      rintro e w2 ⟨rfl, hb2⟩
      have B2 := hide ((unhide BZ).trans (hb2.mono (unhide BZ).size))
      have CN2a := hide (unhide CN2 _ (unhide B2))
      have KB2 := hide ((unhide KBX).later hb2)
      have RW2 := hide (ownsRow_below (unhide RZ) hb2)
      have x0 := (unhide KB2).cell 0
      have x1 := (unhide KB2).cell 1
      have hf2 := ((kf.alloc (Obj.cells #[.int .i64 (X : Int), .int .i64 (Y : Int), .bool z] 63)).later hb2).cell 1
      clear hb2 kf CN1 CN2 CN1a KBX BZ RZ HROW kf0 kf1 c0 c1 c2
      go_wp2_with fail
      refine (unhide CN2a).mono ?_
      rintro e w4 ⟨rfl, hb4⟩
      have B4 := hide ((unhide B2).trans (hb4.mono (unhide B2).size))
      have KB4 := hide ((unhide KB2).later hb4)
      have RW4 := hide (ownsRow_below (unhide RW2) hb4)
      have hz4 := (unhide B4).size
      clear hb4 B2 KB2 RW2 CN2a x0 x1 hf2
      have x2 := (unhide KB4).cell 2
      go_wp2_with (at_builtin; refine wpList_append_fresh _ rfl _ _ 28 rfl w1.heap.size 63 i0 (.agg #[.int .i64 0, .int .i64 0, .bool false]) 3 24 Tryd.underlying28 hi0 hi1 hi2 hi3 rfl (by decide) (.slice uq un uc) _ _ rfl ((unhide RW4).alloc _) ⟨w4.heap.size, 0, none⟩ 1 1 [.int .i64 (i : Int), .int .i64 (j : Int), .bool z] rfl rfl (cell_three_new _ _ _ _ _) (by simp [Value.oneCell']) (by simp only [maxLen]; omega) (by omega) (by simp; omega) ?_)
      intro u5 w5 hown hgr hfr5
      obtain ⟨vq, vn, vc, hv5⟩ := slice_of hown
      subst hv5
      have HO5 : Hid (RPairsV w5 w1.heap.size (.slice vq vn vc) (L ++ [((i : Int), (j : Int), z)])) := hide (by unfold RPairsV; rw [List.length_append, flatP_app]; exact hown)
      have hs4 : (w4.alloc (Obj.cells #[.int .i64 (i : Int), .int .i64 (j : Int), .bool z] 63)).heap.size = w4.heap.size + 1 := by simp
      have B5 : Hid (Below w1.heap.size w1 w5) := hide (((unhide B4).alloc hz4 _).grown hgr (by omega) (fun k hk => (unhide HUB k hk).1))
      have KB5 : Hid (Blk w5 wr.heap.size #[.int .i64 (X : Int), .int .i64 (Y : Int), .bool z] 63) := hide (blk_grown ((unhide KB4).alloc _) hgr (fun e => by have := (unhide HUB _ e.symm).2; omega))
      have HU5 : Hid (∀ k, (Value.slice vq vn vc).ownBlock = some k → k ≠ wr.heap.size) := hide (fun k hk => by
        have hk4 := (unhide KB4).lt
        rcases hfr5 k hk with h | h
        · have := (unhide HUB k h).2; omega
        · omega)
      have hz5 := (unhide B5).size
      have y2 := (unhide KB5).cell 2
      clear hown hgr hfr5 RW4 KB4 B4 x2
      cases z with
      | true =>
        have HEQ2 : Hid ((L ++ whR i j (1 + (kidF (F.drop X)).count)) ++ pgL (pgF m) F G a b (LT.drop (t + 1)) = TOT) := hide (by
          have h := unhide HEQ
          rw [unhide HP1] at h
          rw [List.append_assoc]; exact h)
        have HI1 : Hid (RPairsV w5 w1.heap.size (.slice vq vn vc) (L ++ whR i j 1)) := HO5
        have hkc9 : (kidF (F.drop X)).count ≤ 900 := by omega
        clear CI HPL HP1 HP2 HEQ HO5
        generalize (kidF (F.drop X)).count = kc at *
        obtain ⟨wo, hwo⟩ : ∃ wo, wo = wr := ⟨_, rfl⟩
        subst hwo
        go_wp2
        go_loopw [12, 7] (fun kv u wx => ∃ k : Nat, kv = .int .i64 (k : Int) ∧ 1 ≤ k ∧ k ≤ 1 + kc ∧ RPairsV wx w1.heap.size u (L ++ whR i j k) ∧ Below w1.heap.size w1 wx ∧ Blk wx wo.heap.size #[.int .i64 (X : Int), .int .i64 (Y : Int), .bool true] 63 ∧ (∀ q, u.ownBlock = some q → q ≠ wo.heap.size)) (fun kv _ _ => 2 + kc - (intOf kv).toNat)
        case atStart => exact ⟨1, rfl, Nat.le_refl _, by omega, unhide HI1, unhide B5, unhide KB5, unhide HU5⟩
        case round =>
          clear HI1 B5 KB5 HU5 y2
          obtain ⟨k, rfl, hk1, hk2, hrow, hbl, hbx, hne⟩ := hrel
          obtain ⟨xq, xn, xc, hux⟩ := slice_of hrow
          subst hux
          have x0 := hbx.cell 0
          have k5 := below_cells hbl _ _ _ (unhide KK).1
          have CKa := hide (unhide CK _ hbl)
          have hwl := whR_len k i j
          have hll9 : (L ++ whR i j k).length ≤ 2000 := by rw [List.length_append, hwl]; omega
          have hk0 : (k : Int) ≤ 901 := by omega
          have HSN := hide (whR_snoc k i j)
          have HROW2 := hide hrow
          have HBL2 := hide hbl
          have HBX2 := hide hbx
          have HNE2 := hide hne
          clear hrow hbl hbx hne hwl
          go_wp2_with fail
          refine (unhide CKa).mono ?_
          rintro e w6 ⟨rfl, hb6⟩
          have HR6 := hide (ownsRow_below (unhide HROW2) hb6)
          have HB6 := hide ((unhide HBL2).trans (hb6.mono (unhide HBL2).size))
          have HK6 := hide ((unhide HBX2).later hb6)
          have HL6 : Hid (∀ q, (Value.slice xq xn xc).ownBlock = some q → w1.heap.size ≤ q) := hide (fun q hq => ((unhide HROW2).lt q hq).1)
          have hz6 := (unhide HB6).size
          clear hb6 CKa HROW2 HBL2 HBX2 x0 k5
          by_cases hkk : k ≤ kc
          · have hki : (k : Int) ≤ (kc : Int) := by omega
            generalize hLL : L ++ whR i j k = LL at *
            have HLL2 := hide hLL
            clear hLL
            go_wp2_with (at_builtin; refine wpList_append_fresh _ rfl _ _ 28 rfl w1.heap.size 63 i0 (.agg #[.int .i64 0, .int .i64 0, .bool false]) 3 24 Tryd.underlying28 hi0 hi1 hi2 hi3 rfl (by decide) (.slice xq xn xc) _ _ rfl ((unhide HR6).alloc _) ⟨w6.heap.size, 0, none⟩ 1 1 [.int .i64 ((i : Int) + (k : Int)), .int .i64 ((j : Int) + (k : Int)), .bool true] rfl rfl (cell_three_new _ _ _ _ _) (by simp [Value.oneCell']) (by simp only [maxLen]; omega) (by omega) (by simp; omega) ?_)
            intro u7 w7 hown hgr hfr7
            have HO7 : Hid (RPairsV w7 w1.heap.size u7 (L ++ whR i j (k + 1))) := hide (by
              rw [unhide HSN, ← List.append_assoc, unhide HLL2]
              unfold RPairsV
              rw [List.length_append, flatP_app, show ((i + k : Nat) : Int) = (i : Int) + (k : Int) by omega, show ((j + k : Nat) : Int) = (j : Int) + (k : Int) by omega]
              exact hown)
            have hs6 : (w6.alloc (Obj.cells #[.int .i64 ((i : Int) + (k : Int)), .int .i64 ((j : Int) + (k : Int)), .bool true] 63)).heap.size = w6.heap.size + 1 := by simp
            have HB7 := hide (((unhide HB6).alloc hz6 _).grown hgr (by omega) (fun q hq => unhide HL6 q hq))
            have HK7 := hide (blk_grown ((unhide HK6).alloc _) hgr (fun e => unhide HNE2 _ e.symm rfl))
            have HN7 : Hid (∀ q, u7.ownBlock = some q → q ≠ wo.heap.size) := hide (fun q hq => by
              have hk4 := (unhide HK6).lt
              rcases hfr7 q hq with h | h
              · exact unhide HNE2 q h
              · omega)
            clear hown hgr hfr7
            go_wp2
            go_roundw
            case rel => exact ⟨k + 1, by go_num, by omega, by omega, unhide HO7, unhide HB7, unhide HK7, unhide HN7⟩
            case measure => simp [intOf]; omega
          · have hki : ¬ (k : Int) ≤ (kc : Int) := by omega
            have hke : k = 1 + kc := by omega
            have HO7 : Hid (RPairsV w6 w1.heap.size (.slice xq xn xc) (L ++ whR i j (1 + kc))) := hide (by rw [← hke]; exact unhide HR6)
            clear HR6 HSN
            go_wp2
            go_roundw
            case rel => exact ⟨t + 1, L ++ whR i j (1 + kc), by omega, by go_num, unhide HO7, unhide HEQ2, unhide HB6⟩
            case measure => simp [intOf]; omega
      | false =>
        have HEQ2 : Hid (((L ++ [((i : Int), (j : Int), false)]) ++ pgF m (kidF (F.drop X)) (kidF (G.drop Y)) (i + 1) (j + 1)) ++ pgL (pgF m) F G a b (LT.drop (t + 1)) = TOT) := hide (by
          have h := unhide HEQ
          rw [unhide HP2] at h
          simpa [List.append_assoc] using h)
        generalize pgF m (kidF (F.drop X)) (kidF (G.drop Y)) (i + 1) (j + 1) = PK at *
        have hi9i : (i : Int) ≤ 900 := by omega
        have hj9i : (j : Int) ≤ 900 := by omega
        have HWI : Hid (IntKind.i64.wrap ((i : Int) + 1) = (i : Int) + 1) := hide (by rw [IntKind.wrap_i64]; omega)
        have HWJ : Hid (IntKind.i64.wrap ((j : Int) + 1) = (j : Int) + 1) := hide (by rw [IntKind.wrap_i64]; omega)
        have HU5L : Hid (∀ q, (Value.slice vq vn vc).ownBlock = some q → w1.heap.size ≤ q) := hide (fun q hq => ((unhide HO5).lt q hq).1)
        go_upto_region 13 with fail
        have HOd : Hid (RPairsV w5.drew w1.heap.size (.slice vq vn vc) (L ++ [((i : Int), (j : Int), false)])) := hide (ownsRow_below (unhide HO5) (Below.refl _ _).drew)
        have HBd : Hid (Below w1.heap.size w1 w5.drew) := hide (unhide B5).drew
        have HKd : Hid (Blk w5.drew wr.heap.size #[.int .i64 (X : Int), .int .i64 (Y : Int), .bool false] 63) := hide (blk_drewE (unhide KB5))
        have hSe : R13S wr.heap.size gF (oF + X * 6 + 5) gG (oG + Y * 6 + 5) (X : Int) (Y : Int) false (.slice qk kl ck) (.slice qh kl2 ch) w5.drew := ⟨(unhide HKd).cell 0, (unhide HKd).cell 1, (unhide HKd).cell 2, below_cells (unhide HBd) _ _ _ (unhide KK).1, below_cells (unhide HBd) _ _ _ (unhide KK).2⟩
        refine wp_region_held (S := R13S wr.heap.size gF (oF + X * 6 + 5) gG (oG + Y * 6 + 5) (X : Int) (Y : Int) false (.slice qk kl ck) (.slice qh kl2 ch)) (by kernel_rfl) ?_
        change wpAnyH _ _ _ _ _ _ _ _ (World.drew _)
        refine wpAnyH_take (i := 0) (oi := { dst := some 64, op := _, type := _, pos := _, after := _, guard := _ }) (v := ?ve0_1) rfl (by kernel_rfl) (by kernel_rfl) (by kernel_rfl) (fun _ _ _ h => h) (Or.inl ⟨by kernel_rfl, ?he0_1⟩) hSe ?re0_1
        case he0_1 => first | (intro w hSw; obtain ⟨s0, s1, s2, s3, s4⟩ := hSw; go_simp; done) | (intro w hSw; obtain ⟨s0, s1, s2, s3, s4⟩ := hSw; go_simp; with_reducible rfl)
        try simp only [Act.put, List.setIfInBounds_toArray, List.set_cons_zero, List.set_cons_succ]
        refine wpAnyH_take (i := 1) (oi := { dst := some 65, op := _, type := _, pos := _, after := _, guard := _ }) (v := ?ve1_2) rfl (by kernel_rfl) (by kernel_rfl) (by kernel_rfl) (fun _ _ _ h => h) (Or.inl ⟨by kernel_rfl, ?he1_2⟩) hSe ?re1_2
        case he1_2 => first | (intro w hSw; obtain ⟨s0, s1, s2, s3, s4⟩ := hSw; go_simp; done) | (intro w hSw; obtain ⟨s0, s1, s2, s3, s4⟩ := hSw; go_simp; with_reducible rfl)
        try simp only [Act.put, List.setIfInBounds_toArray, List.set_cons_zero, List.set_cons_succ]
        refine wpAnyH_take (i := 2) (oi := { dst := some 66, op := _, type := _, pos := _, after := _, guard := _ }) (v := ?ve2_3) rfl (by kernel_rfl) (by kernel_rfl) (by kernel_rfl) (fun _ _ _ h => h) (Or.inl ⟨by kernel_rfl, ?he2_3⟩) hSe ?re2_3
        case he2_3 => first | (intro w hSw; obtain ⟨s0, s1, s2, s3, s4⟩ := hSw; go_simp; done) | (intro w hSw; obtain ⟨s0, s1, s2, s3, s4⟩ := hSw; go_simp; with_reducible rfl)
        try simp only [Act.put, List.setIfInBounds_toArray, List.set_cons_zero, List.set_cons_succ]
        refine wpAnyH_take (i := 3) (oi := { dst := some 67, op := _, type := _, pos := _, after := _, guard := _ }) (v := ?ve3_4) rfl (by kernel_rfl) (by kernel_rfl) (by kernel_rfl) (fun _ _ _ h => h) (Or.inl ⟨by kernel_rfl, ?he3_4⟩) hSe ?re3_4
        case he3_4 => first | (intro w hSw; obtain ⟨s0, s1, s2, s3, s4⟩ := hSw; go_simp; done) | (intro w hSw; obtain ⟨s0, s1, s2, s3, s4⟩ := hSw; go_simp; with_reducible rfl)
        try simp only [Act.put, List.setIfInBounds_toArray, List.set_cons_zero, List.set_cons_succ]
        refine wpAnyH_take (i := 4) (oi := { dst := some 68, op := _, type := _, pos := _, after := _, guard := _ }) (v := ?ve4_5) rfl (by kernel_rfl) (by kernel_rfl) (by kernel_rfl) (fun _ _ _ h => h) (Or.inl ⟨by kernel_rfl, ?he4_5⟩) hSe ?re4_5
        case he4_5 => first | (intro w hSw; obtain ⟨s0, s1, s2, s3, s4⟩ := hSw; go_simp; done) | (intro w hSw; obtain ⟨s0, s1, s2, s3, s4⟩ := hSw; go_simp; with_reducible rfl)
        try simp only [Act.put, List.setIfInBounds_toArray, List.set_cons_zero, List.set_cons_succ]
        refine wpAnyH_take (i := 5) (oi := { dst := some 69, op := _, type := _, pos := _, after := _, guard := _ }) (v := ?ve5_6) rfl (by kernel_rfl) (by kernel_rfl) (by kernel_rfl) (fun _ _ _ h => h) (Or.inl ⟨by kernel_rfl, ?he5_6⟩) hSe ?re5_6
        case he5_6 => first | (intro w hSw; obtain ⟨s0, s1, s2, s3, s4⟩ := hSw; go_simp; done) | (intro w hSw; obtain ⟨s0, s1, s2, s3, s4⟩ := hSw; go_simp; with_reducible rfl)
        try simp only [Act.put, List.setIfInBounds_toArray, List.set_cons_zero, List.set_cons_succ]
        refine wpAnyH_take (i := 6) (oi := { dst := some 70, op := _, type := _, pos := _, after := _, guard := _ }) (v := ?ve6_7) rfl (by kernel_rfl) (by kernel_rfl) (by kernel_rfl) (fun _ _ _ h => h) (Or.inl ⟨by kernel_rfl, ?he6_7⟩) hSe ?re6_7
        case he6_7 => first | (intro w hSw; obtain ⟨s0, s1, s2, s3, s4⟩ := hSw; go_simp; done) | (intro w hSw; obtain ⟨s0, s1, s2, s3, s4⟩ := hSw; go_simp; with_reducible rfl)
        try simp only [Act.put, List.setIfInBounds_toArray, List.set_cons_zero, List.set_cons_succ]
        refine wpAnyH_take (i := 7) (oi := { dst := some 71, op := _, type := _, pos := _, after := _, guard := _ }) (v := ?ve7_8) rfl (by kernel_rfl) (by kernel_rfl) (by kernel_rfl) (fun _ _ _ h => h) (Or.inl ⟨by kernel_rfl, ?he7_8⟩) hSe ?re7_8
        case he7_8 => first | (intro w hSw; obtain ⟨s0, s1, s2, s3, s4⟩ := hSw; go_simp; done) | (intro w hSw; obtain ⟨s0, s1, s2, s3, s4⟩ := hSw; go_simp; with_reducible rfl)
        try simp only [Act.put, List.setIfInBounds_toArray, List.set_cons_zero, List.set_cons_succ]
        refine wpAnyH_take (i := 8) (oi := { dst := some 72, op := _, type := _, pos := _, after := _, guard := _ }) (v := ?ve8_9) rfl (by kernel_rfl) (by kernel_rfl) (by kernel_rfl) (fun _ _ _ h => h) (Or.inl ⟨by kernel_rfl, ?he8_9⟩) hSe ?re8_9
        case he8_9 => first | (intro w hSw; obtain ⟨s0, s1, s2, s3, s4⟩ := hSw; go_simp; done) | (intro w hSw; obtain ⟨s0, s1, s2, s3, s4⟩ := hSw; go_simp; with_reducible rfl)
        try simp only [Act.put, List.setIfInBounds_toArray, List.set_cons_zero, List.set_cons_succ]
        refine wpAnyH_take (i := 9) (oi := { dst := some 73, op := _, type := _, pos := _, after := _, guard := _ }) (v := ?ve9_10) rfl (by kernel_rfl) (by kernel_rfl) (by kernel_rfl) (fun _ _ _ h => h) (Or.inl ⟨by kernel_rfl, ?he9_10⟩) hSe ?re9_10
        case he9_10 => first | (intro w hSw; obtain ⟨s0, s1, s2, s3, s4⟩ := hSw; go_simp; done) | (intro w hSw; obtain ⟨s0, s1, s2, s3, s4⟩ := hSw; go_simp; with_reducible rfl)
        try simp only [Act.put, List.setIfInBounds_toArray, List.set_cons_zero, List.set_cons_succ]
        refine wpAnyH_take (i := 10) (oi := { dst := some 74, op := _, type := _, pos := _, after := _, guard := _ }) (v := ?ve10_11) rfl (by kernel_rfl) (by kernel_rfl) (by kernel_rfl) (fun _ _ _ h => h) (Or.inl ⟨by kernel_rfl, ?he10_11⟩) hSe ?re10_11
        case he10_11 => first | (intro w hSw; obtain ⟨s0, s1, s2, s3, s4⟩ := hSw; go_simp; done) | (intro w hSw; obtain ⟨s0, s1, s2, s3, s4⟩ := hSw; go_simp; with_reducible rfl)
        try simp only [Act.put, List.setIfInBounds_toArray, List.set_cons_zero, List.set_cons_succ]
        refine wpAnyH_take (i := 11) (oi := { dst := some 75, op := _, type := _, pos := _, after := _, guard := _ }) (v := ?ve11_12) rfl (by kernel_rfl) (by kernel_rfl) (by kernel_rfl) (fun _ _ _ h => h) (Or.inl ⟨by kernel_rfl, ?he11_12⟩) hSe ?re11_12
        case he11_12 => first | (intro w hSw; obtain ⟨s0, s1, s2, s3, s4⟩ := hSw; go_simp; done) | (intro w hSw; obtain ⟨s0, s1, s2, s3, s4⟩ := hSw; go_simp; with_reducible rfl)
        try simp only [Act.put, List.setIfInBounds_toArray, List.set_cons_zero, List.set_cons_succ]
        refine wpAnyH_take (i := 12) (oi := { dst := some 76, op := _, type := _, pos := _, after := _, guard := _ }) (v := ?ve12_13) rfl (by kernel_rfl) (by kernel_rfl) (by kernel_rfl) (fun _ _ _ h => h) (Or.inl ⟨by kernel_rfl, ?he12_13⟩) hSe ?re12_13
        case he12_13 => first | (intro w hSw; obtain ⟨s0, s1, s2, s3, s4⟩ := hSw; go_simp; done) | (intro w hSw; obtain ⟨s0, s1, s2, s3, s4⟩ := hSw; go_simp; with_reducible rfl)
        try simp only [Act.put, List.setIfInBounds_toArray, List.set_cons_zero, List.set_cons_succ]
        refine wpAnyH_take (i := 13) (oi := { dst := some 77, op := _, type := _, pos := _, after := _, guard := _ }) (v := ?ve13_14) rfl (by kernel_rfl) (by kernel_rfl) (by kernel_rfl) (fun _ _ _ h => h) (Or.inl ⟨by kernel_rfl, ?he13_14⟩) hSe ?re13_14
        case he13_14 => first | (intro w hSw; obtain ⟨s0, s1, s2, s3, s4⟩ := hSw; go_simp; done) | (intro w hSw; obtain ⟨s0, s1, s2, s3, s4⟩ := hSw; go_simp; with_reducible rfl)
        try simp only [Act.put, List.setIfInBounds_toArray, List.set_cons_zero, List.set_cons_succ]
        refine wpAnyH_take (i := 14) (oi := { dst := some 78, op := _, type := _, pos := _, after := _, guard := _ }) (v := ?ve14_15) rfl (by kernel_rfl) (by kernel_rfl) (by kernel_rfl) (fun _ _ _ h => h) (Or.inl ⟨by kernel_rfl, ?he14_15⟩) hSe ?re14_15
        case he14_15 => first | (intro w hSw; obtain ⟨s0, s1, s2, s3, s4⟩ := hSw; go_simp; done) | (intro w hSw; obtain ⟨s0, s1, s2, s3, s4⟩ := hSw; go_simp; with_reducible rfl)
        try simp only [Act.put, List.setIfInBounds_toArray, List.set_cons_zero, List.set_cons_succ]
        refine wpAnyH_take (i := 15) (oi := { dst := some 79, op := _, type := _, pos := _, after := _, guard := _ }) (v := ?ve15_16) rfl (by kernel_rfl) (by kernel_rfl) (by kernel_rfl) (fun _ _ _ h => h) (Or.inl ⟨by kernel_rfl, ?he15_16⟩) hSe ?re15_16
        case he15_16 => first | (intro w hSw; obtain ⟨s0, s1, s2, s3, s4⟩ := hSw; go_simp; done) | (intro w hSw; obtain ⟨s0, s1, s2, s3, s4⟩ := hSw; go_simp; with_reducible rfl)
        try simp only [Act.put, List.setIfInBounds_toArray, List.set_cons_zero, List.set_cons_succ]
        refine wpAnyH_take (i := 16) (oi := { dst := some 80, op := _, type := _, pos := _, after := _, guard := _ }) (v := ?ve16_17) rfl (by kernel_rfl) (by kernel_rfl) (by kernel_rfl) (fun _ _ _ h => h) (Or.inl ⟨by kernel_rfl, ?he16_17⟩) hSe ?re16_17
        case he16_17 => first | (intro w hSw; obtain ⟨s0, s1, s2, s3, s4⟩ := hSw; go_simp; done) | (intro w hSw; obtain ⟨s0, s1, s2, s3, s4⟩ := hSw; go_simp; with_reducible rfl)
        try simp only [Act.put, List.setIfInBounds_toArray, List.set_cons_zero, List.set_cons_succ]
        refine wpAnyH_take (i := 17) (oi := { dst := some 81, op := _, type := _, pos := _, after := _, guard := _ }) (v := ?ve17_18) rfl (by kernel_rfl) (by kernel_rfl) (by kernel_rfl) (fun _ _ _ h => h) (Or.inl ⟨by kernel_rfl, ?he17_18⟩) hSe ?re17_18
        case he17_18 => first | (intro w hSw; obtain ⟨s0, s1, s2, s3, s4⟩ := hSw; go_simp; done) | (intro w hSw; obtain ⟨s0, s1, s2, s3, s4⟩ := hSw; go_simp; with_reducible rfl)
        try simp only [Act.put, List.setIfInBounds_toArray, List.set_cons_zero, List.set_cons_succ]
        refine wpAnyH_ready (rs := [18]) (by kernel_rfl) (by simp) ?_
        refine AllReadyH.cons rfl (fun K hK => ?_) AllReadyH.nil
        go_simp
        rw [unhide HWI, unhide HWJ]
        refine (unhide CI _ (unhide HBd)).mono ?_
        rintro e8 w8 ⟨u8, rfl, hr8, hb8⟩
        have HR8 := hide hr8
        have HO8 := hide (ownsRow_below (unhide HOd) hb8)
        have B8 := hide ((unhide HBd).trans (hb8.mono (unhide HBd).size))
        have HK8 := hide ((unhide HKd).later hb8)
        have hSe' := hSe.le (below_cells hb8)
        clear hr8 hb8
        refine hK _ _ hSe' (fun _ => ?_)
        clear hK K hSe
        have hSe := hSe'
        clear hSe'
        refine wpAnyH_ready (rs := [19]) (by kernel_rfl) (by simp) ?_
        refine AllReadyH.cons rfl (fun K hK => ?_) AllReadyH.nil
        obtain ⟨q9, n9, c9, w9, hr, ho9, hg9⟩ := rapp_run w8 w1.heap.size _ (.slice vq vn vc) u8 _ _ (unhide HO8) (unhide HR8) (by rw [List.length_append]; simp only [List.length_cons, List.length_nil]; have := unhide HPL; omega) (unhide B8).size
        refine step_append_run2 (o := { dst := some 83, op := _, type := _, pos := _, after := _, guard := _ }) rfl (.tmp 64) (.tmp 82) 28 28 rfl (.slice vq vn vc) u8 (by simp [Act.eval, Act.put]) (by simp [Act.eval, Act.put]) hr ?_
        simp only [Act.put, List.setIfInBounds_toArray, List.set_cons_zero, List.set_cons_succ]
        have B9 := hide ((unhide B8).grown hg9 (unhide B8).size (fun q hq => unhide HU5L q hq))
        have HK9 := blk_grown (unhide HK8) hg9 (fun e => unhide HU5 _ e.symm rfl)
        have hSe' : R13S wr.heap.size gF (oF + X * 6 + 5) gG (oG + Y * 6 + 5) (X : Int) (Y : Int) false (.slice qk kl ck) (.slice qh kl2 ch) w9 := ⟨HK9.cell 0, HK9.cell 1, HK9.cell 2, below_cells (unhide B9) _ _ _ (unhide KK).1, below_cells (unhide B9) _ _ _ (unhide KK).2⟩
        have HO9 := hide ho9
        clear hr ho9 hg9 HK9
        refine hK _ _ hSe' (fun _ => ?_)
        clear hK K hSe
        have hSe := hSe'
        clear hSe'
        refine wpAnyH_take (i := 20) (oi := { dst := some 7, op := _, type := _, pos := _, after := _, guard := _ }) (v := ?ve20_19) rfl (by kernel_rfl) (by kernel_rfl) (by kernel_rfl) (fun _ _ _ h => h) (Or.inl ⟨by kernel_rfl, ?he20_19⟩) hSe ?re20_19
        case he20_19 => first | (intro w hSw; obtain ⟨s0, s1, s2, s3, s4⟩ := hSw; go_simp; done) | (intro w hSw; obtain ⟨s0, s1, s2, s3, s4⟩ := hSw; go_simp; with_reducible rfl)
        try simp only [Act.put, List.setIfInBounds_toArray, List.set_cons_zero, List.set_cons_succ]
        refine wpAnyH_done (by kernel_rfl) ?_ _
        clear hSe HOd HBd HKd HO8 HR8 HK8 B8
        go_wp2
        go_roundw
        case rel => exact ⟨t + 1, _, by omega, by go_num, unhide HO9, unhide HEQ2, unhide B9⟩
        case measure => simp [intOf]; omega
    · have hte : t = ll := by omega
      have HFIN : Hid (RPairsV wr w.heap.size (.slice uq un uc) TOT) := hide (by
        rw [List.drop_eq_nil_of_le (by have := unhide HLL; omega)] at heq
        rw [show pgL (pgF m) F G a b [] = [] from rfl, List.append_nil] at heq
        rw [← heq]
        exact owns_mono hrow hz1)
      have HBF := hide ((unhide HB1).trans (hbl.mono hz1))
      have hpi : ¬ (t : Int) < (ll : Int) := by omega
      clear hrow heq hbl
      go_wp2
      go_ret
      exact ⟨_, rfl, unhide HFIN, unhide HBF⟩
end Go.Proofs.YtbabmkilbbbmoaaDoor
