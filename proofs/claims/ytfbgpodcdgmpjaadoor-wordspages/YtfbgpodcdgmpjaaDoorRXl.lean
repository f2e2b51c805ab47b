/-
  What the reference's Lists of layer 24 does (made by mk_rxl.py).
-/
import Derived.Test.YtfbgpodcdgmpjaaDoorXLi
import Derived.Test.YtfbgpodcdgmpjaaDoorMgAU
namespace Go.Proofs.YtfbgpodcdgmpjaaDoor
open Go.RowKit
set_option linter.unusedVariables false
set_option linter.unusedSimpArgs false

theorem infoRPiece0 : (Tryd.prog.info? 44).map (fun i => (i.zero, i.size, i.bytes)) = some (some (.agg #[.int .i64 0, .string ⟨#[]⟩]), 2, 24) := by kernel_rfl
/-- The reference's pieces that a call owns. -/
def RcsV (w : World) (base : Nat) (v : Value) (L : List Pc) : Prop := w.ownsRow base 44 2 v L.length (flatQ L)
theorem rcs_snoc {w : World} {base : Nat} {v : Value} {M : List Pc} {k : Int} {s : ByteArray} (h : w.ownsRow base 44 2 v (M.length + 1) (flatQ M ++ [.int .i64 k, .string s])) : RcsV w base v (M ++ [(k, s)]) := by
  unfold RcsV
  rw [List.length_append, flatQ_app]
  exact h
theorem tk_snoc (k : Int) (a : List ByteArray) (i j : Nat) (h : i ≤ j) (hj : j < a.length) : tk k ((a.take (j + 1)).drop i) = tk k ((a.take j).drop i) ++ [(k, tx a j)] := by
  unfold tk tx
  rw [List.take_add_one, List.getElem?_eq_getElem hj, List.getD, List.getElem?_eq_getElem hj]
  rw [List.drop_append_of_le_length (by rw [List.length_take]; omega), List.map_append]
  rfl
/-- What holds at a round. -/
def RlAt (a b : List ByteArray) (P : List (Nat × Nat)) (base k i j : Nat) (u : Value) (wr : World) : Prop :=
  ∃ L, RcsV wr base u L ∧ ((k ≤ P.length ∧ i ≤ a.length ∧ j ≤ b.length ∧ L.length ≤ i + j ∧ RiseFrom (eqT a b) a.length b.length i j (P.drop k) ∧ lsP a b 0 0 P = L ++ lsP a b i j (P.drop k)) ∨ (k = P.length + 1 ∧ L = lsP a b 0 0 P))
def RlSaid (a b : List ByteArray) (w : World) (e : Ending) (w' : World) : Prop := ∃ v, e = .returned v ∧ RcsV w' w.heap.size v (lsP a b 0 0 (lnP (eqT a b) a.length b.length 0 0)) ∧ Below w.heap.size w w'
set_option maxHeartbeats 8000000 in
set_option maxRecDepth 100000 in
theorem rlists_any (qa qb : Option Addr) (n m ca cb : Nat) (a b : List ByteArray) (w : World) (ha : View w (.slice qa n ca) a) (hb : View w (.slice qb m cb) b) (hn : n ≤ 1000) (hmm : m ≤ 1000) :
    Calls Tryd.prog 16 #[.slice qa n ca, .slice qb m cb] w (RlSaid a b w) := by
  obtain ⟨i0, hi0, hi1, hi2, hi3⟩ := info_parts infoRPiece0
  have hna : n = a.length := by obtain ⟨_, _, _, e, _⟩ := ha; cases e; rfl
  have hmb : m = b.length := by obtain ⟨_, _, _, e, _⟩ := hb; cases e; rfl
  have CM := hide (rline_any (.slice qa n ca) (.slice qb m cb) a b w ha hb (by omega) (by omega))
  obtain ⟨P, hP⟩ : ∃ P, lnP (eqT a b) a.length b.length 0 0 = P := ⟨_, rfl⟩
  have HRI : Hid (RiseFrom (eqT a b) a.length b.length 0 0 P) := hide (by rw [← hP]; exact lnP_rises _ _ _ 0 0)
  have hPl : P.length ≤ 1000 := by rw [← hP]; have := lnP_small (eqT a b) a.length b.length 0 0; omega
  unfold RLineSaid at CM
  unfold RlSaid
  rw [hP] at CM ⊢
  have HVA := hide ha
  have HVB := hide hb
  have HNA := hide hna
  have HMB := hide hmb
  clear ha hb hP hna hmb
  go_enter Tryd.func16, Tryd.ntmps16
  go_wp2_with fail
  refine Calls.mono (unhide CM) ?_
  rintro e w1 ⟨u1, rfl, hp1, hb1⟩
  have hpr := owns_pr hp1
  obtain ⟨pq, pc, hu1, _⟩ := hpr
  subst hu1
  have HP1 := hide (owns_pr hp1)
  have HB1 := hide hb1
  have hwl : (whP P).length = P.length := by unfold whP; rw [List.length_map]
  rw [hwl] at HP1 ⊢
  clear CM hp1 hb1 hwl
  have hz1 := (unhide HB1).size
  have HAT : Hid (RlAt a b P w1.heap.size 0 0 0 (.slice none 0 0) w1) := hide ⟨[], World.ownsRow_nil _ _ _ _, Or.inl ⟨Nat.zero_le _, Nat.zero_le _, Nat.zero_le _, Nat.le_refl _, unhide HRI, by rw [List.drop_zero, List.nil_append]⟩⟩
  clear HRI
  go_wp2
  go_loopw [9, 7, 8, 6] (fun kv iv jv u wr => ∃ k i j : Nat, k ≤ P.length + 1 ∧ kv = .int .i64 (k : Int) ∧ iv = .int .i64 (i : Int) ∧ jv = .int .i64 (j : Int) ∧ RlAt a b P w1.heap.size k i j u wr ∧ Below w1.heap.size w1 wr) (fun kv _ _ _ _ => P.length + 1 - (intOf kv).toNat)
  case atStart => exact ⟨0, 0, 0, Nat.zero_le _, rfl, rfl, rfl, unhide HAT, Below.refl _ _⟩
  case round =>
    clear HAT
    obtain ⟨k, i, j, hk, rfl, rfl, rfl, ⟨L, hrow, hcase⟩, hbl⟩ := hrel
    have HROW := hide hrow
    have HBL := hide hbl
    have hzr := hbl.size
    obtain ⟨vq, vn, vc, hv⟩ := slice_of hrow
    subst hv
    rcases hcase with ⟨hkp, hia, hjb, hLl, hri, hall⟩ | ⟨hkp, hall⟩
    · have hkle : (k : Int) ≤ (P.length : Int) := by omega
      have HALL := hide hall
      by_cases hp : k < P.length
      · have hki : (k : Int) < (P.length : Int) := by omega
        obtain ⟨r1, r2, r3, r4, r5, r6⟩ := rise_drop hri hp
        obtain ⟨q', c', hu', hcl⟩ := (unhide HP1).below hbl
        injection hu' with hu1 hu2 hu3
        subst hu1 hu3
        clear hu2
        obtain ⟨g, rfl, hcell⟩ := hcl (by unfold whP; rw [List.length_map]; omega)
        obtain ⟨x0, x1, x2⟩ := hcell k (by unfold whP; rw [List.length_map]; exact hp)
        rw [whP_at P k hp] at x0 x1 x2
        dsimp only at x0 x1 x2
        have HR6 := hide r6
        obtain ⟨pr, hpr2⟩ : ∃ pr, P.getD k (0, 0) = pr := ⟨_, rfl⟩
        rw [hpr2] at x0 x1 r1 r2 r3 r4 r5 HR6
        obtain ⟨x, y⟩ := pr
        dsimp only at x0 x1 r1 r2 r3 r4 r5
        have HR5 := hide r5
        have hb0 : Below wr.heap.size wr (wr.alloc (Obj.cells #[.int .i64 (n : Int), .int .i64 (m : Int), .bool false] 67)) := (Below.refl _ _).alloc (Nat.le_refl _) _
        have y0 := cell_later hb0 x0
        have y1 := cell_later hb0 x1
        have y2 := cell_later hb0 x2
        clear x0 x1 x2
        have hbA : Below wr.heap.size wr (wr.alloc (Obj.cells #[.int .i64 (x : Int), .int .i64 (y : Int), .bool true] 67)) := (Below.refl _ _).alloc (Nat.le_refl _) _
        have HA1 : Hid (RcsV (wr.alloc (Obj.cells #[.int .i64 (x : Int), .int .i64 (y : Int), .bool true] 67)) w1.heap.size (.slice vq vn vc) (L ++ tk 2 ((a.take i).drop i)) ∧ Blk (wr.alloc (Obj.cells #[.int .i64 (x : Int), .int .i64 (y : Int), .bool true] 67)) wr.heap.size #[.int .i64 (x : Int), .int .i64 (y : Int), .bool true] 67 ∧ Below w1.heap.size w1 (wr.alloc (Obj.cells #[.int .i64 (x : Int), .int .i64 (y : Int), .bool true] 67))) := hide ⟨by
          have e : (a.take i).drop i = [] := List.drop_eq_nil_of_le (by rw [List.length_take]; omega)
          rw [e]
          show RcsV _ _ _ (L ++ [])
          rw [List.append_nil]
          exact ownsRow_below hrow hbA, Blk.new wr _ _, tr2 hbl hbA⟩
        clear hrow hbl hall hri hbA
        generalize hpbb : wr.heap.size = pb at HA1
        go_wp2
        go_loopw [7, 6] (fun iv u wq => ∃ i' : Nat, i ≤ i' ∧ i' ≤ x ∧ iv = .int .i64 (i' : Int) ∧ RcsV wq w1.heap.size u (L ++ tk 2 ((a.take i').drop i)) ∧ Blk wq pb #[.int .i64 (x : Int), .int .i64 (y : Int), .bool true] 67 ∧ Below w1.heap.size w1 wq) (fun iv _ _ => x - (intOf iv).toNat)
        case atStart => exact ⟨i, Nat.le_refl _, (by omega), rfl, unhide HA1⟩
        case round =>
          obtain ⟨i', hi1', hi2', rfl, hrw, hpb, hbw⟩ := hrel
          have u0 : wr.cell? ⟨pb, 0, none⟩ = some (.int .i64 (x : Int)) := hpb.cell 0
          have u1 : wr.cell? ⟨pb, 1, none⟩ = some (.int .i64 (y : Int)) := hpb.cell 1
          obtain ⟨uq, un, uc, hu⟩ := slice_of hrw
          subst hu
          have HR2 := hide hrw
          have HPB := hide hpb
          have HBL2 := hide hbw
          have hz2 := hbw.size
          by_cases hp' : i' < x
          · have hpi' : (i' : Int) < (x : Int) := by omega
            have hin : i' < n := by have := unhide HNA; have := unhide HMB; omega
            have hini : (i' : Int) < (n : Int) := by omega
            obtain ⟨ga, oa, hqa, cS⟩ := view_atR (unhide HVA) (tr2 (unhide HB1) hbw) i' (by have := unhide HNA; have := unhide HMB; omega)
            subst hqa
            obtain ⟨sx, hsx⟩ : ∃ sx, tx a i' = sx := ⟨_, rfl⟩
            rw [hsx] at cS
            obtain ⟨M, hM⟩ : ∃ M, L ++ tk 2 ((a.take i').drop i) = M := ⟨_, rfl⟩
            rw [hM] at HR2
            have hMl : M.length ≤ 10000 := by rw [← hM, List.length_append, tk_len, List.length_drop, List.length_take]; have := unhide HNA; have := unhide HMB; omega
            have HTK : Hid (L ++ tk 2 ((a.take (i' + 1)).drop i) = M ++ [(2, sx)]) := hide (by
              rw [tk_snoc 2 a i i' hi1' (by have := unhide HNA; have := unhide HMB; omega), ← List.append_assoc, hM, hsx])
            unfold RcsV at HR2
            clear hrw hpb hbw hsx hM
            go_wp2_with (at_builtin; refine wpList_append_own_at _ rfl _ _ 41 rfl w1.heap.size 44 i0 (.agg #[.int .i64 0, .string ⟨#[]⟩]) 2 24 Tryd.underlying41 hi0 hi1 hi2 hi3 rfl (by decide) (.slice uq un uc) _ _ rfl ((unhide HR2).alloc _) ⟨wr.heap.size, 0, none⟩ 1 1 [.int .i64 2, .string sx] rfl rfl (cell_two_new _ _ _ _) (by simp [Value.oneCell']) (by simp only [maxLen]; omega) (by omega) (by simp; omega) ?_)
            intro u' w4 hown hgr _ _
            have HO : Hid (RcsV w4 w1.heap.size u' (L ++ tk 2 ((a.take (i' + 1)).drop i))) := hide (by
              rw [unhide HTK]
              exact rcs_snoc hown)
            have HB4 : Hid (Below w1.heap.size w1 w4) := hide (((unhide HBL2).alloc hz2 _).grown hgr (by simp; omega) (fun q hq => ((unhide HR2).lt q hq).1))
            have HP4 : Hid (Blk w4 pb #[.int .i64 (x : Int), .int .i64 (y : Int), .bool true] 67) := hide (blk_kept0 (unhide HPB) (((Lib.OthersKept.refl _ _ _).alloc _).grown hgr (owns_kind ((unhide HR2).alloc _))) (by decide))
            clear hown hgr
            go_wp2
            go_roundw
            case rel => exact ⟨i' + 1, by omega, by omega, by go_num, unhide HO, unhide HP4, unhide HB4⟩
            case measure => simp [intOf]; omega
          · have hie : x = i' := by omega
            have hpi' : ¬ (x : Int) < (x : Int) := by omega
            subst hie
            obtain ⟨L1, hL1⟩ : ∃ L1, L ++ tk 2 ((a.take x).drop i) = L1 := ⟨_, rfl⟩
            rw [hL1] at HR2
            have HL1 := hide hL1
            have hL1l : L1.length ≤ x + j := by rw [← hL1, List.length_append, tk_len, List.length_drop, List.length_take]; have := unhide HNA; have := unhide HMB; omega
            have HA2 : Hid (RcsV wr w1.heap.size (.slice uq un uc) (L1 ++ tk 3 ((b.take j).drop j)) ∧ Blk wr pb #[.int .i64 (x : Int), .int .i64 (y : Int), .bool true] 67 ∧ Below w1.heap.size w1 wr) := hide ⟨by
              have e : (b.take j).drop j = [] := List.drop_eq_nil_of_le (by rw [List.length_take]; omega)
              rw [e]
              show RcsV _ _ _ (L1 ++ [])
              rw [List.append_nil]
              exact unhide HR2, unhide HPB, unhide HBL2⟩
            clear hrw hpb hbw hL1 HR2 HPB HBL2 hz2 HA1 hi1' hi2' hp'
            go_wp2
            clear u0 u1 hpi'
            go_loopw [8, 6] (fun iv u wq => ∃ i' : Nat, j ≤ i' ∧ i' ≤ y ∧ iv = .int .i64 (i' : Int) ∧ RcsV wq w1.heap.size u (L1 ++ tk 3 ((b.take i').drop j)) ∧ Blk wq pb #[.int .i64 (x : Int), .int .i64 (y : Int), .bool true] 67 ∧ Below w1.heap.size w1 wq) (fun iv _ _ => y - (intOf iv).toNat)
            case atStart => exact ⟨j, Nat.le_refl _, (by omega), rfl, unhide HA2⟩
            case round =>
              obtain ⟨i', hi1', hi2', rfl, hrw, hpb, hbw⟩ := hrel
              have u0 : wr.cell? ⟨pb, 0, none⟩ = some (.int .i64 (x : Int)) := hpb.cell 0
              have u1 : wr.cell? ⟨pb, 1, none⟩ = some (.int .i64 (y : Int)) := hpb.cell 1
              obtain ⟨uq, un, uc, hu⟩ := slice_of hrw
              subst hu
              have HR2 := hide hrw
              have HPB := hide hpb
              have HBL2 := hide hbw
              have hz2 := hbw.size
              by_cases hp' : i' < y
              · have hpi' : (i' : Int) < (y : Int) := by omega
                have hin : i' < m := by have := unhide HNA; have := unhide HMB; omega
                have hini : (i' : Int) < (m : Int) := by omega
                obtain ⟨ga, oa, hqa, cS⟩ := view_atR (unhide HVB) (tr2 (unhide HB1) hbw) i' (by have := unhide HNA; have := unhide HMB; omega)
                subst hqa
                obtain ⟨sx, hsx⟩ : ∃ sx, tx b i' = sx := ⟨_, rfl⟩
                rw [hsx] at cS
                obtain ⟨M, hM⟩ : ∃ M, L1 ++ tk 3 ((b.take i').drop j) = M := ⟨_, rfl⟩
                rw [hM] at HR2
                have hMl : M.length ≤ 10000 := by rw [← hM, List.length_append, tk_len, List.length_drop, List.length_take]; have := unhide HNA; have := unhide HMB; omega
                have HTK : Hid (L1 ++ tk 3 ((b.take (i' + 1)).drop j) = M ++ [(3, sx)]) := hide (by
                  rw [tk_snoc 3 b j i' hi1' (by have := unhide HNA; have := unhide HMB; omega), ← List.append_assoc, hM, hsx])
                unfold RcsV at HR2
                clear hrw hpb hbw hsx hM
                go_wp2_with (at_builtin; refine wpList_append_own_at _ rfl _ _ 41 rfl w1.heap.size 44 i0 (.agg #[.int .i64 0, .string ⟨#[]⟩]) 2 24 Tryd.underlying41 hi0 hi1 hi2 hi3 rfl (by decide) (.slice uq un uc) _ _ rfl ((unhide HR2).alloc _) ⟨wr.heap.size, 0, none⟩ 1 1 [.int .i64 3, .string sx] rfl rfl (cell_two_new _ _ _ _) (by simp [Value.oneCell']) (by simp only [maxLen]; omega) (by omega) (by simp; omega) ?_)
                intro u' w4 hown hgr _ _
                have HO : Hid (RcsV w4 w1.heap.size u' (L1 ++ tk 3 ((b.take (i' + 1)).drop j))) := hide (by
                  rw [unhide HTK]
                  exact rcs_snoc hown)
                have HB4 : Hid (Below w1.heap.size w1 w4) := hide (((unhide HBL2).alloc hz2 _).grown hgr (by simp; omega) (fun q hq => ((unhide HR2).lt q hq).1))
                have HP4 : Hid (Blk w4 pb #[.int .i64 (x : Int), .int .i64 (y : Int), .bool true] 67) := hide (blk_kept0 (unhide HPB) (((Lib.OthersKept.refl _ _ _).alloc _).grown hgr (owns_kind ((unhide HR2).alloc _))) (by decide))
                clear hown hgr
                go_wp2
                go_roundw
                case rel => exact ⟨i' + 1, by omega, by omega, by go_num, unhide HO, unhide HP4, unhide HB4⟩
                case measure => simp [intOf]; omega
              · have hie : y = i' := by omega
                have hpi' : ¬ (y : Int) < (y : Int) := by omega
                subst hie
                obtain ⟨L2, hL2⟩ : ∃ L2, L1 ++ tk 3 ((b.take y).drop j) = L2 := ⟨_, rfl⟩
                rw [hL2] at HR2
                have HL2 := hide hL2
                have hMN := And.intro (unhide HNA) (unhide HMB)
                have hL2l : L2.length ≤ x + y := by rw [← hL2, List.length_append, tk_len, List.length_drop, List.length_take]; have := unhide HNA; have := unhide HMB; omega
                have hL2m : L2.length ≤ 3000 := by omega
                clear hMN
                clear hrw hpb hL2 HPB HA2 hi1' hi2' hp'
                have hyb : (y : Int) ≤ 1000 := by have := unhide HMB; omega
                have hxn : x < n := by have := unhide HNA; have := unhide HMB; omega
                have hxni : (x : Int) < (n : Int) := by omega
                obtain ⟨ga, oa, hqa, cS⟩ := view_atR (unhide HVA) (tr2 (unhide HB1) hbw) x (by omega)
                subst hqa
                obtain ⟨sx, hsx⟩ : ∃ sx, tx a x = sx := ⟨_, rfl⟩
                rw [hsx] at cS
                have HSX := hide hsx
                unfold RcsV at HR2
                clear hsx hbw
                go_wp2_with (at_builtin; refine wpList_append_own_at _ rfl _ _ 41 rfl w1.heap.size 44 i0 (.agg #[.int .i64 0, .string ⟨#[]⟩]) 2 24 Tryd.underlying41 hi0 hi1 hi2 hi3 rfl (by decide) (.slice uq un uc) _ _ rfl ((unhide HR2).alloc _) ⟨wr.heap.size, 0, none⟩ 1 1 [.int .i64 1, .string sx] rfl rfl (cell_two_new _ _ _ _) (by simp [Value.oneCell']) (by simp only [maxLen]; omega) (by omega) (by simp; omega) ?_)
                intro u' w4 hown hgr _ _
                have HO := hide (rcs_snoc hown)
                have HB4 : Hid (Below w1.heap.size w1 w4) := hide (((unhide HBL2).alloc hz2 _).grown hgr (by simp; omega) (fun q hq => ((unhide HR2).lt q hq).1))
                clear hown hgr
                go_wp2
                go_roundw
                case rel =>
                  refine ⟨k + 1, x + 1, y + 1, by omega, by go_num, by go_num, by go_num, ⟨L2 ++ [(1, sx)], unhide HO, Or.inl ⟨by omega, by omega, by omega, by rw [List.length_append]; simp only [List.length_cons, List.length_nil]; omega, unhide HR5, ?_⟩⟩, unhide HB4⟩
                  rw [unhide HALL, unhide HR6, lsP, ← unhide HL2, ← unhide HL1, ← unhide HSX]
                  simp [tx, List.append_assoc]
                case measure => simp [intOf]; omega
      · have hke : k = P.length := by omega
        have hki : ¬ (k : Int) < (P.length : Int) := by omega
        have r1 : i ≤ n := by have := unhide HNA; omega
        have r2 : j ≤ m := by have := unhide HMB; omega
        have hdr : P.drop k = [] := List.drop_eq_nil_of_le (by omega)
        have HDR := hide hdr
        have hbA : Below wr.heap.size wr (wr.alloc (Obj.cells #[.int .i64 (n : Int), .int .i64 (m : Int), .bool false] 67)) := (Below.refl _ _).alloc (Nat.le_refl _) _
        have HA1 : Hid (RcsV (wr.alloc (Obj.cells #[.int .i64 (n : Int), .int .i64 (m : Int), .bool false] 67)) w1.heap.size (.slice vq vn vc) (L ++ tk 2 ((a.take i).drop i)) ∧ Blk (wr.alloc (Obj.cells #[.int .i64 (n : Int), .int .i64 (m : Int), .bool false] 67)) wr.heap.size #[.int .i64 (n : Int), .int .i64 (m : Int), .bool false] 67 ∧ Below w1.heap.size w1 (wr.alloc (Obj.cells #[.int .i64 (n : Int), .int .i64 (m : Int), .bool false] 67))) := hide ⟨by
          have e : (a.take i).drop i = [] := List.drop_eq_nil_of_le (by rw [List.length_take]; omega)
          rw [e]
          show RcsV _ _ _ (L ++ [])
          rw [List.append_nil]
          exact ownsRow_below hrow hbA, Blk.new wr _ _, tr2 hbl hbA⟩
        clear hrow hbl hall hri hbA
        generalize hpbb : wr.heap.size = pb at HA1
        go_wp2
        go_loopw [7, 6] (fun iv u wq => ∃ i' : Nat, i ≤ i' ∧ i' ≤ n ∧ iv = .int .i64 (i' : Int) ∧ RcsV wq w1.heap.size u (L ++ tk 2 ((a.take i').drop i)) ∧ Blk wq pb #[.int .i64 (n : Int), .int .i64 (m : Int), .bool false] 67 ∧ Below w1.heap.size w1 wq) (fun iv _ _ => n - (intOf iv).toNat)
        case atStart => exact ⟨i, Nat.le_refl _, (by omega), rfl, unhide HA1⟩
        case round =>
          obtain ⟨i', hi1', hi2', rfl, hrw, hpb, hbw⟩ := hrel
          have u0 : wr.cell? ⟨pb, 0, none⟩ = some (.int .i64 (n : Int)) := hpb.cell 0
          have u1 : wr.cell? ⟨pb, 1, none⟩ = some (.int .i64 (m : Int)) := hpb.cell 1
          obtain ⟨uq, un, uc, hu⟩ := slice_of hrw
          subst hu
          have HR2 := hide hrw
          have HPB := hide hpb
          have HBL2 := hide hbw
          have hz2 := hbw.size
          by_cases hp' : i' < n
          · have hpi' : (i' : Int) < (n : Int) := by omega
            have hin : i' < n := by have := unhide HNA; have := unhide HMB; omega
            have hini : (i' : Int) < (n : Int) := by omega
            obtain ⟨ga, oa, hqa, cS⟩ := view_atR (unhide HVA) (tr2 (unhide HB1) hbw) i' (by have := unhide HNA; have := unhide HMB; omega)
            subst hqa
            obtain ⟨sx, hsx⟩ : ∃ sx, tx a i' = sx := ⟨_, rfl⟩
            rw [hsx] at cS
            obtain ⟨M, hM⟩ : ∃ M, L ++ tk 2 ((a.take i').drop i) = M := ⟨_, rfl⟩
            rw [hM] at HR2
            have hMl : M.length ≤ 10000 := by rw [← hM, List.length_append, tk_len, List.length_drop, List.length_take]; have := unhide HNA; have := unhide HMB; omega
            have HTK : Hid (L ++ tk 2 ((a.take (i' + 1)).drop i) = M ++ [(2, sx)]) := hide (by
              rw [tk_snoc 2 a i i' hi1' (by have := unhide HNA; have := unhide HMB; omega), ← List.append_assoc, hM, hsx])
            unfold RcsV at HR2
            clear hrw hpb hbw hsx hM
            go_wp2_with (at_builtin; refine wpList_append_own_at _ rfl _ _ 41 rfl w1.heap.size 44 i0 (.agg #[.int .i64 0, .string ⟨#[]⟩]) 2 24 Tryd.underlying41 hi0 hi1 hi2 hi3 rfl (by decide) (.slice uq un uc) _ _ rfl ((unhide HR2).alloc _) ⟨wr.heap.size, 0, none⟩ 1 1 [.int .i64 2, .string sx] rfl rfl (cell_two_new _ _ _ _) (by simp [Value.oneCell']) (by simp only [maxLen]; omega) (by omega) (by simp; omega) ?_)
            intro u' w4 hown hgr _ _
            have HO : Hid (RcsV w4 w1.heap.size u' (L ++ tk 2 ((a.take (i' + 1)).drop i))) := hide (by
              rw [unhide HTK]
              exact rcs_snoc hown)
            have HB4 : Hid (Below w1.heap.size w1 w4) := hide (((unhide HBL2).alloc hz2 _).grown hgr (by simp; omega) (fun q hq => ((unhide HR2).lt q hq).1))
            have HP4 : Hid (Blk w4 pb #[.int .i64 (n : Int), .int .i64 (m : Int), .bool false] 67) := hide (blk_kept0 (unhide HPB) (((Lib.OthersKept.refl _ _ _).alloc _).grown hgr (owns_kind ((unhide HR2).alloc _))) (by decide))
            clear hown hgr
            go_wp2
            go_roundw
            case rel => exact ⟨i' + 1, by omega, by omega, by go_num, unhide HO, unhide HP4, unhide HB4⟩
            case measure => simp [intOf]; omega
          · have hie : n = i' := by omega
            have hpi' : ¬ (n : Int) < (n : Int) := by omega
            subst hie
            obtain ⟨L1, hL1⟩ : ∃ L1, L ++ tk 2 ((a.take n).drop i) = L1 := ⟨_, rfl⟩
            rw [hL1] at HR2
            have HL1 := hide hL1
            have hL1l : L1.length ≤ n + j := by rw [← hL1, List.length_append, tk_len, List.length_drop, List.length_take]; have := unhide HNA; have := unhide HMB; omega
            have HA2 : Hid (RcsV wr w1.heap.size (.slice uq un uc) (L1 ++ tk 3 ((b.take j).drop j)) ∧ Blk wr pb #[.int .i64 (n : Int), .int .i64 (m : Int), .bool false] 67 ∧ Below w1.heap.size w1 wr) := hide ⟨by
              have e : (b.take j).drop j = [] := List.drop_eq_nil_of_le (by rw [List.length_take]; omega)
              rw [e]
              show RcsV _ _ _ (L1 ++ [])
              rw [List.append_nil]
              exact unhide HR2, unhide HPB, unhide HBL2⟩
            clear hrw hpb hbw hL1 HR2 HPB HBL2 hz2 HA1 hi1' hi2' hp'
            go_wp2
            clear u0 u1 hpi'
            go_loopw [8, 6] (fun iv u wq => ∃ i' : Nat, j ≤ i' ∧ i' ≤ m ∧ iv = .int .i64 (i' : Int) ∧ RcsV wq w1.heap.size u (L1 ++ tk 3 ((b.take i').drop j)) ∧ Blk wq pb #[.int .i64 (n : Int), .int .i64 (m : Int), .bool false] 67 ∧ Below w1.heap.size w1 wq) (fun iv _ _ => m - (intOf iv).toNat)
            case atStart => exact ⟨j, Nat.le_refl _, (by omega), rfl, unhide HA2⟩
            case round =>
              obtain ⟨i', hi1', hi2', rfl, hrw, hpb, hbw⟩ := hrel
              have u0 : wr.cell? ⟨pb, 0, none⟩ = some (.int .i64 (n : Int)) := hpb.cell 0
              have u1 : wr.cell? ⟨pb, 1, none⟩ = some (.int .i64 (m : Int)) := hpb.cell 1
              obtain ⟨uq, un, uc, hu⟩ := slice_of hrw
              subst hu
              have HR2 := hide hrw
              have HPB := hide hpb
              have HBL2 := hide hbw
              have hz2 := hbw.size
              by_cases hp' : i' < m
              · have hpi' : (i' : Int) < (m : Int) := by omega
                have hin : i' < m := by have := unhide HNA; have := unhide HMB; omega
                have hini : (i' : Int) < (m : Int) := by omega
                obtain ⟨ga, oa, hqa, cS⟩ := view_atR (unhide HVB) (tr2 (unhide HB1) hbw) i' (by have := unhide HNA; have := unhide HMB; omega)
                subst hqa
                obtain ⟨sx, hsx⟩ : ∃ sx, tx b i' = sx := ⟨_, rfl⟩
                rw [hsx] at cS
                obtain ⟨M, hM⟩ : ∃ M, L1 ++ tk 3 ((b.take i').drop j) = M := ⟨_, rfl⟩
                rw [hM] at HR2
                have hMl : M.length ≤ 10000 := by rw [← hM, List.length_append, tk_len, List.length_drop, List.length_take]; have := unhide HNA; have := unhide HMB; omega
                have HTK : Hid (L1 ++ tk 3 ((b.take (i' + 1)).drop j) = M ++ [(3, sx)]) := hide (by
                  rw [tk_snoc 3 b j i' hi1' (by have := unhide HNA; have := unhide HMB; omega), ← List.append_assoc, hM, hsx])
                unfold RcsV at HR2
                clear hrw hpb hbw hsx hM
                go_wp2_with (at_builtin; refine wpList_append_own_at _ rfl _ _ 41 rfl w1.heap.size 44 i0 (.agg #[.int .i64 0, .string ⟨#[]⟩]) 2 24 Tryd.underlying41 hi0 hi1 hi2 hi3 rfl (by decide) (.slice uq un uc) _ _ rfl ((unhide HR2).alloc _) ⟨wr.heap.size, 0, none⟩ 1 1 [.int .i64 3, .string sx] rfl rfl (cell_two_new _ _ _ _) (by simp [Value.oneCell']) (by simp only [maxLen]; omega) (by omega) (by simp; omega) ?_)
                intro u' w4 hown hgr _ _
                have HO : Hid (RcsV w4 w1.heap.size u' (L1 ++ tk 3 ((b.take (i' + 1)).drop j))) := hide (by
                  rw [unhide HTK]
                  exact rcs_snoc hown)
                have HB4 : Hid (Below w1.heap.size w1 w4) := hide (((unhide HBL2).alloc hz2 _).grown hgr (by simp; omega) (fun q hq => ((unhide HR2).lt q hq).1))
                have HP4 : Hid (Blk w4 pb #[.int .i64 (n : Int), .int .i64 (m : Int), .bool false] 67) := hide (blk_kept0 (unhide HPB) (((Lib.OthersKept.refl _ _ _).alloc _).grown hgr (owns_kind ((unhide HR2).alloc _))) (by decide))
                clear hown hgr
                go_wp2
                go_roundw
                case rel => exact ⟨i' + 1, by omega, by omega, by go_num, unhide HO, unhide HP4, unhide HB4⟩
                case measure => simp [intOf]; omega
              · have hie : m = i' := by omega
                have hpi' : ¬ (m : Int) < (m : Int) := by omega
                subst hie
                obtain ⟨L2, hL2⟩ : ∃ L2, L1 ++ tk 3 ((b.take m).drop j) = L2 := ⟨_, rfl⟩
                rw [hL2] at HR2
                have HL2 := hide hL2
                have hMN := And.intro (unhide HNA) (unhide HMB)
                have hL2l : L2.length ≤ n + m := by rw [← hL2, List.length_append, tk_len, List.length_drop, List.length_take]; have := unhide HNA; have := unhide HMB; omega
                have hL2m : L2.length ≤ 3000 := by omega
                clear hMN
                clear hrw hpb hL2 HPB HA2 hi1' hi2' hp'
                clear hbw
                go_wp2
                go_roundw
                case rel =>
                  refine ⟨k + 1, n + 1, m + 1, by omega, by go_num, by go_num, by go_num, ⟨L2, unhide HR2, Or.inr ⟨by omega, ?_⟩⟩, unhide HBL2⟩
                  rw [unhide HALL, unhide HDR, lsP, ← unhide HL2, ← unhide HL1, List.take_of_length_le (by have := unhide HNA; have := unhide HMB; omega), List.take_of_length_le (by have := unhide HMB; omega), List.append_assoc]
                case measure => simp [intOf]; omega
    · have hkle : ¬ (k : Int) ≤ (P.length : Int) := by omega
      have HALL := hide hall
      clear hrow hbl hall hkp
      go_wp2
      go_ret
      exact ⟨_, rfl, owns_mono (by rw [← unhide HALL]; exact unhide HROW) hz1, tr2 (unhide HB1) (unhide HBL)⟩
end Go.Proofs.YtfbgpodcdgmpjaaDoor
