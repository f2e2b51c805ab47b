/-
  What the reference's Texts of layer 24 does.
-/
import Derived.Test.YtfbgpodcdgmpjaaRXs
import Derived.Test.YtfbgpodcdgmpjaaLXl
namespace Go.Proofs.Ytfbgpodcdgmpjaa
open Go.RowKit
set_option linter.unusedVariables false
set_option linter.unusedSimpArgs false

theorem refJ_snoc (out L : List Pc) (p : Pc) : refJ out (L ++ [p]) = stepJ (refJ out L) p := by unfold refJ; rw [List.foldl_append]; rfl
theorem refJ_take (L : List Pc) (j : Nat) (h : j < L.length) : refJ [] (L.take (j + 1)) = stepJ (refJ [] (L.take j)) (L.getD j (0, ByteArray.empty)) := by
  rw [List.take_add_one, List.getElem?_eq_getElem h, List.getD, List.getElem?_eq_getElem h]
  exact refJ_snoc [] _ _
theorem stepJ_len (out : List Pc) (p : Pc) : (stepJ out p).length ≤ out.length + 1 := by
  unfold stepJ
  split
  · omega
  · split
    · simp
    · split
      · rw [List.length_append, List.length_dropLast]; simp only [List.length_cons, List.length_nil]; omega
      · simp
theorem refJ_len : ∀ (L out : List Pc), (refJ out L).length ≤ out.length + L.length
  | [], out => by unfold refJ; simp
  | p :: r, out => by
    have h1 := refJ_len r (stepJ out p)
    have h2 := stepJ_len out p
    show (refJ (stepJ out p) r).length ≤ _
    rw [List.length_cons]; omega
theorem szP_app (L M : List Pc) : szP (L ++ M) = szP L + szP M := by unfold szP; rw [List.map_append, List.sum_append]
theorem stepJ_sz (out : List Pc) (p : Pc) : szP (stepJ out p) ≤ szP out + p.2.size := by
  unfold stepJ
  split
  · omega
  · split
    · rw [szP_app]; simp [szP]
    · rename_i q e
      have hL : out = out.dropLast ++ [q] := by
        obtain ⟨ys, rfl⟩ : ∃ ys, out = ys ++ [q] := List.getLast?_eq_some_iff.1 e
        rw [List.dropLast_concat]
      split
      · have : szP out = szP out.dropLast + q.2.size := by
          have h := congrArg szP hL
          rw [szP_app] at h
          rw [h]; simp [szP]
        rw [szP_app, this, szP_cons]
        simp only [bs_size, List.length_append, data_len]
        show _ + (_ + szP []) ≤ _
        have e0 : szP [] = 0 := rfl
        rw [e0]; omega
      · rw [szP_app, szP_cons]; show _ + (_ + szP []) ≤ _; have e0 : szP [] = 0 := rfl; rw [e0]; omega
theorem refJ_sz : ∀ (L out : List Pc), szP (refJ out L) ≤ szP out + szP L
  | [], out => by show szP out ≤ _; omega
  | p :: r, out => by
    have h1 := refJ_sz r (stepJ out p)
    have h2 := stepJ_sz out p
    show szP (refJ (stepJ out p) r) ≤ _
    rw [szP_cons]; omega
theorem szP_mem (L : List Pc) (p : Pc) (h : p ∈ L) : p.2.size ≤ szP L := by
  induction L with
  | nil => cases h
  | cons x r ih =>
    rw [szP_cons]
    rcases List.mem_cons.1 h with rfl | h
    · omega
    · have := ih h; omega
/-- The last one of some pieces that a call owns: where it lies, and what a new text of it leaves. -/
theorem row_last2 {w : World} {base : Nat} {v : Value} {L : List Pc} {q : Pc} (h : RcsV w base v (L ++ [q])) :
    ∃ b cap, v = .slice (some ⟨b, 0, none⟩) (L.length + 1) cap ∧ base ≤ b ∧ b < w.heap.size ∧ (∃ c, w.heap[b]? = some (.cells c 45 (0, 0))) ∧ w.cell? ⟨b, L.length * 2, none⟩ = some (.int .i64 q.1) ∧ w.cell? ⟨b, L.length * 2 + 1, none⟩ = some (.string q.2) ∧ w.frozen? ⟨b, L.length * 2 + 1, none⟩ = false ∧
      ∀ t, RcsV (w.setCell ⟨b, L.length * 2 + 1, none⟩ (.string t)) base (.slice (some ⟨b, 0, none⟩) (L.length + 1) cap) (L ++ [(q.1, t)]) := by
  unfold RcsV at h
  rw [List.length_append, flatQ_app] at h
  obtain ⟨hlen, h⟩ := h
  rcases h with ⟨_, h0⟩ | ⟨b, cap, cur, hv, h1, h2, h3, h4, h5, h6⟩
  · simp at h0
  · have kb : Blk w b cur 45 := h2
    have h3' : L.length + 1 ≤ cap := h3
    have hsz : L.length * 2 + 1 < cur.size := by rw [h5]; omega
    have hx : ∀ j, j < 2 → cur[L.length * 2 + j]? = (flatQ [q])[j]? := fun j hj => by
      have := congrArg (fun l => l[L.length * 2 + j]?) h6
      simp only [List.length_cons, List.length_nil] at this
      rw [List.getElem?_take, if_pos (by omega), List.getElem?_append_right (by rw [flatQ_len]; omega), flatQ_len, show L.length * 2 + j - L.length * 2 = j by omega] at this
      simpa using this
    refine ⟨b, cap, hv, h1, kb.lt, ⟨cur, h2⟩, (kb.cell _).trans (hx 0 (by decide)), (kb.cell _).trans (hx 1 (by decide)), kb.frozen _, fun t => ?_⟩
    unfold RcsV
    rw [List.length_append, flatQ_app]
    refine ⟨by rw [List.length_append, flatQ_len]; show L.length * 2 + 2 = (L.length + 1) * 2; omega, Or.inr ⟨b, cap, cur.set (L.length * 2 + 1) (.string t) hsz, rfl, h1, kb.set (L.length * 2 + 1) hsz _, h3, h4, by rw [Array.size_set]; exact h5, ?_⟩⟩
    rw [Array.toList_set, List.take_set]
    have h6' : List.take ((L.length + [(q.1, t)].length) * 2) cur.toList = flatQ L ++ flatQ [q] := h6
    rw [h6', List.set_append_right _ _ (by rw [flatQ_len]; omega), flatQ_len, show L.length * 2 + 1 - L.length * 2 = 1 by omega]
    rfl
theorem two_readR (w : World) (a b : ByteArray) : PcA (w.alloc (Obj.cells #[.int .i64 2, .string a, .int .i64 3, .string b] 45)) (some ⟨w.heap.size, 0, none⟩) [((2 : Int), a), (3, b)] := fun _ => by
  refine ⟨w.heap.size, 0, rfl, fun i hi => ?_⟩
  have k := Blk.new w #[.int .i64 2, .string a, .int .i64 3, .string b] 45
  have hi' : i < 2 := hi
  rcases i with _ | _ | i
  · exact ⟨k.cell 0, k.cell 1⟩
  · exact ⟨k.cell 2, k.cell 3⟩
  · omega
def RtxSaid (a b : ByteArray) (w : World) (e : Ending) (w' : World) : Prop := ∃ v, e = .returned v ∧ RcsV w' w.heap.size v (refJ [] (rwP a b)) ∧ Below w.heap.size w w'
set_option maxHeartbeats 8000000 in
set_option maxRecDepth 100000 in
theorem rtexts_short (a b : ByteArray) (w : World) (ha : a.size ≤ 100000) (hb : b.size ≤ 100000) (h : (longB a.data.toList || longB b.data.toList) = false) :
    Calls Try.prog 14 #[.string a, .string b] w (RtxSaid a b w) := by
  obtain ⟨i0, hi0, hi1, hi2, hi3⟩ := info_parts infoRPiece0
  have hr : rwP a b = shP a.data.toList b.data.toList := by unfold rwP; rw [if_neg (by rw [h]; decide)]
  rw [Bool.or_eq_false_iff] at h
  obtain ⟨hla, hlb⟩ := h
  have hga := longB_no hla
  have hgb := longB_no hlb
  have hsm := rwP_small a b ha hb
  rw [hr] at hsm
  unfold RtxSaid
  rw [hr]
  have SA := hide (rsplit_any a w ha)
  have SB := hide (fun (W : World) => rsplit_any b W hb)
  unfold SplitSaid at SA SB
  have CL := hide (fun (qa qb : Option Addr) (ca cb : Nat) (W : World) h1 h2 => rlists_any qa qb (bsL (grp a.data.toList)).length (bsL (grp b.data.toList)).length ca cb (bsL (grp a.data.toList)) (bsL (grp b.data.toList)) W h1 h2 (by rw [bsL_len]; omega) (by rw [bsL_len]; omega))
  unfold RlSaid at CL
  have HSH : Hid (lsP (bsL (grp a.data.toList)) (bsL (grp b.data.toList)) 0 0 (lnP (eqT (bsL (grp a.data.toList)) (bsL (grp b.data.toList))) (bsL (grp a.data.toList)).length (bsL (grp b.data.toList)).length 0 0) = shP a.data.toList b.data.toList) := hide rfl
  rw [unhide HSH] at CL
  obtain ⟨L, hL⟩ : ∃ L, shP a.data.toList b.data.toList = L := ⟨_, rfl⟩
  rw [hL] at CL hsm ⊢
  have hla4 : ((bsL (grp a.data.toList)).length : Int) ≤ 400 := by rw [bsL_len]; omega
  have hlb4 : ((bsL (grp b.data.toList)).length : Int) ≤ 400 := by rw [bsL_len]; omega
  generalize bsL (grp a.data.toList) = ga at *
  generalize bsL (grp b.data.toList) = gb at *
  have HSZL : Hid (szP L ≤ 100000000000) := hide hsm.2.1
  have hLl := hsm.1
  clear hr hsm hla hlb HSH hga hgb hL
  go_enter Try.func14, Try.ntmps14
  go_wp2_with fail
  refine Calls.mono (unhide SA) ?_
  rintro e w2 ⟨va, rfl, hva, hb2⟩
  have HB2 := hide hb2
  obtain ⟨qa, ca, hqa, hca⟩ := owns_cap hva
  subst hqa
  have HVA := hide (view_of_owns hva)
  clear hva hb2
  go_wp2_with fail
  refine Calls.mono (unhide SB _) ?_
  rintro e w3 ⟨vb, rfl, hvb, hb3⟩
  have HB3 := hide (tr2 (unhide HB2) hb3)
  obtain ⟨qb, cb, hqb, hcb⟩ := owns_cap hvb
  subst hqb
  have hbX : Below w3.heap.size w3 (w3.alloc (Obj.cells #[.int .i64 2, .string a, .int .i64 3, .string b] 45)) := (Below.refl _ _).alloc (Nat.le_refl _) _
  have HVB := hide (view_below (view_of_owns hvb) hbX)
  have HVA3 := hide (view_below (unhide HVA) (tr2 hb3 hbX))
  have HBX := hide (tr2 (unhide HB3) hbX)
  clear hvb hb3 hbX
  go_wp2_with fail
  refine Calls.mono (unhide CL qa qb ca cb _ (unhide HVA3) (unhide HVB)) ?_
  rintro e Wl ⟨v4, rfl, hv4, hb4⟩
  have HBL0 := hide (tr2 (unhide HBX) hb4)
  obtain ⟨q4, c4, hq4, hc4, hp4⟩ := hv4.read
  subst hq4
  have HPA := hide hp4
  clear hv4 hb4 hp4 CL SA SB HVA3 HVB HVA HB2 HB3 HBX
  go_wp2
  go_loopw [33, 8] (fun iv u wr => ∃ j : Nat, j ≤ L.length ∧ iv = .int .i64 (j : Int) ∧ RcsV wr Wl.heap.size u (refJ [] (L.take j)) ∧ Below Wl.heap.size Wl wr) (fun iv _ _ => L.length - (intOf iv).toNat)
  case atStart => exact ⟨0, Nat.zero_le _, rfl, World.ownsRow_nil _ _ _ _, Below.refl _ _⟩
  case round =>
    obtain ⟨j, hj, rfl, hrow, hbw⟩ := hrel
    have HBW := hide hbw
    have hz := hbw.size
    by_cases hp : j < L.length
    · have hpL : j < L.length := hp
      have hpi : (j : Int) < (L.length : Int) := by omega
      obtain ⟨g, o, rfl, hcell⟩ := (unhide HPA).below hbw (Nat.lt_of_le_of_lt (Nat.zero_le _) hpL)
      obtain ⟨x0, x1⟩ := hcell j hpL
      have HTK := hide (refJ_take L j hpL)
      have hol := refJ_len (L.take j) []
      have hos := refJ_sz (L.take j) []
      have hts := (szP_drop L j).2
      have hps := szP_mem L (L.getD j (0, ByteArray.empty)) (by rw [List.getD, List.getElem?_eq_getElem hpL]; exact List.getElem_mem hpL)
      rw [List.length_take] at hol
      have e0 : szP [] = 0 := rfl
      rw [e0] at hos
      obtain ⟨out, hout⟩ : ∃ out, refJ [] (L.take j) = out := ⟨_, rfl⟩
      rw [hout] at hrow HTK hol hos
      obtain ⟨pc, hpc⟩ : ∃ pc, L.getD j (0, ByteArray.empty) = pc := ⟨_, rfl⟩
      rw [hpc] at x0 x1 HTK hps
      obtain ⟨k, tt⟩ := pc
      dsimp only at x0 x1 hps
      have hbA : Below wr.heap.size wr (wr.alloc (Obj.cells #[.int .i64 k, .string tt] 45)) := (Below.refl _ _).alloc (Nat.le_refl _) _
      have hrowA : RcsV (wr.alloc (Obj.cells #[.int .i64 k, .string tt] 45)) Wl.heap.size _ out := ownsRow_below hrow hbA
      have HROW := hide hrow
      have HRA := hide hrowA
      have HBA := hide (tr2 hbw hbA)
      have hol2 : out.length ≤ 200000 := by simp only [List.length_nil] at hol; omega
      by_cases ht : tt.data.toList = []
      · have he : tt.toList.isEmpty = true := is_empty tt (by rw [← data_len, ht]; rfl)
        have HF : Hid (refJ [] (L.take (j + 1)) = out) := hide (by rw [unhide HTK]; unfold stepJ; rw [if_pos ht])
        obtain ⟨vq, vn, vc, hv⟩ := slice_of hrow
        subst hv
        clear hcell hbA hrow hrowA hbw hout hpc ht hol hos hts hps hpL
        go_wp2
        go_roundw
        case rel => exact ⟨j + 1, by omega, by go_num, by rw [unhide HF]; exact unhide HRA, unhide HBA⟩
        case measure => simp [intOf]; omega
      · have he : tt.toList.isEmpty = false := not_empty tt (by rw [← data_len]; exact List.length_pos_iff.2 ht)
        have HNE := hide ht
        rcases List.eq_nil_or_concat out with hnil | ⟨M, q, hcon⟩
        · have HF : Hid (refJ [] (L.take (j + 1)) = [] ++ [(k, tt)]) := hide (by rw [unhide HTK, hnil]; exact stepJ_new ht (fun q hq => by cases hq))
          subst hnil
          obtain ⟨vq, vc, hv, _, _⟩ := hrow.read
          subst hv
          unfold RcsV at HRA
          have hg0 : decide ((0 : Int) < 0) = false := rfl
          clear hcell hbA hrow hrowA hbw hout hpc ht hol hos hts hps hpL HROW
          go_wp2
          go_quiet (fail)
          generalize hWq : (wr.alloc (Obj.cells #[.int .i64 k, .string tt] 45)).drewN nq = Wq
          have HRQ : Hid (Wq.ownsRow Wl.heap.size 45 2 (.slice vq 0 vc) [].length (flatQ [])) := hide (by rw [← hWq]; exact unhide HRA)
          have kp : Blk Wq wr.heap.size #[.int .i64 k, .string tt] 45 := by rw [← hWq]; exact Blk.new wr _ _
          have p0 : Wq.cell? ⟨wr.heap.size, 0, none⟩ = some (.int .i64 k) := kp.cell 0
          have p1 : Wq.cell? ⟨wr.heap.size, 1, none⟩ = some (.string tt) := kp.cell 1
          have HBQ : Hid (Below Wl.heap.size Wl Wq) := hide (by rw [← hWq]; exact below_drewN (unhide HBA) _)
          have hzq := (unhide HBQ).size
          clear hWq kp HRA
          go_wp2_with (at_builtin; refine wpList_append_own_at _ rfl _ _ 29 rfl Wl.heap.size 45 i0 (.agg #[.int .i64 0, .string ⟨#[]⟩]) 2 24 Try.underlying29 hi0 hi1 hi2 hi3 rfl (by decide) (.slice vq 0 vc) _ _ rfl ((unhide HRQ).alloc _) ⟨Wq.heap.size, 0, none⟩ 1 1 [.int .i64 k, .string tt] rfl rfl (cell_two_new _ _ _ _) (by simp [Value.oneCell']) (by simp only [maxLen]; (try simp only [List.length_nil]); first | omega | decide) (by (try simp only [List.length_nil]); first | omega | decide) (by simp; omega) ?_)
          intro u' w4 hown hgr _ _
          have HO := hide (rcs_snoc hown)
          have HB4 : Hid (Below Wl.heap.size Wl w4) := hide (((unhide HBQ).alloc hzq _).grown hgr (by simp; omega) (fun q hq => ((unhide HRQ).lt q hq).1))
          clear hown hgr
          go_wp2
          go_roundw
          case rel => exact ⟨j + 1, by omega, by go_num, by rw [unhide HF]; exact unhide HO, unhide HB4⟩
          case measure => simp [intOf]; omega
        · rw [List.concat_eq_append] at hcon
          subst hcon
          obtain ⟨b, cap, hv, hbb, hblt, hkd, c0, c1, f1, hset⟩ := row_last2 hrow
          subst hv
          obtain ⟨b', cap', hv', _, _, hkdA, d0, d1, df1, hsetA⟩ := row_last2 hrowA
          injection hv' with hv1 hv2 hv3
          injection hv1 with hv1
          injection hv1 with hv1 _ _
          subst hv1 hv3
          clear hv2
          have HMl := hide (show (M ++ [q]).length = M.length + 1 by rw [List.length_append]; rfl)
          generalize hn : M.length = n at *
          have hn5 : n ≤ 200000 := by have := unhide HMl; omega
          have hgt : decide ((0 : Int) < (n : Int) + 1) = true := decide_eq_true (by omega)
          have hgi : (0 : Int) < (n : Int) + 1 := by omega
          have hsub : (n : Int) + 1 - 1 = (n : Int) := by omega
          have hwr : IntKind.i64.wrap (n : Int) = (n : Int) := by rw [IntKind.wrap_i64]; omega
          have hlt1 : (n : Int) < (n : Int) + 1 := by omega
          have hn0 : (0 : Int) ≤ (n : Int) := by omega
          obtain ⟨qk, qt⟩ := q
          dsimp only at c0 c1 d0 d1 hset hsetA
          have hqs : qt.size ≤ szP L := by
            rw [szP_app, szP_cons] at hos
            dsimp only at hos
            omega
          have hpne : wr.heap.size ≠ b := by omega
          by_cases hk : qk = k
          · have hkk : (qk == k) = true := by rw [hk]; exact beq_self_eq_true k
            have hcat : ¬ 9223372036854775807 < qt.size + tt.size := by have := unhide HSZL; omega
            have HF : Hid (refJ [] (L.take (j + 1)) = M ++ [(qk, qt ++ tt)]) := hide (by
              rw [unhide HTK]
              unfold stepJ
              rw [if_neg ht, List.getLast?_concat]
              dsimp only
              rw [if_pos hk, List.dropLast_concat, add_bs])
            have HSET := hide (hsetA (qt ++ tt))
            have HBB := hide hbb
            clear hcell hbA hrow hrowA hbw hout hpc ht hol hos hts hps hpL hset hsetA hk hn hkd hkdA HROW HRA
            go_wp2
            go_quiet (fail)
            go_wp2
            go_region
            go_wp2
            go_roundw
            case rel => exact ⟨j + 1, by omega, by go_num, by rw [unhide HF]; exact unhide HSET, Below.setCell (below_drewN (unhide HBA) _) (unhide HBB) _⟩
            case measure => simp [intOf]; omega
          · have hkk : (qk == k) = false := beq_eq_false_iff_ne.2 hk
            have HF : Hid (refJ [] (L.take (j + 1)) = (M ++ [(qk, qt)]) ++ [(k, tt)]) := hide (by
              rw [unhide HTK]
              exact stepJ_new ht (fun q hq => by rw [List.getLast?_concat] at hq; cases hq; exact hk))
            have HN := hide hn
            have HRA' : Hid ((wr.alloc (Obj.cells #[.int .i64 k, .string tt] 45)).ownsRow Wl.heap.size 45 2 (.slice (some ⟨b, 0, none⟩) (n + 1) cap) (M ++ [(qk, qt)]).length (flatQ (M ++ [(qk, qt)]))) := hide hrowA
            clear hcell hbA hrow hrowA hbw hout hpc ht hol hos hts hps hpL hset hsetA hk hn hkd hkdA HROW HRA
            obtain ⟨M2, hM2⟩ : ∃ M2, M ++ [(qk, qt)] = M2 := ⟨_, rfl⟩
            rw [hM2] at HRA' HF hol2
            clear hM2
            go_wp2
            go_quiet (fail)
            generalize hWq : (wr.alloc (Obj.cells #[.int .i64 k, .string tt] 45)).drewN nq = Wq
            have HRQ : Hid (Wq.ownsRow Wl.heap.size 45 2 (.slice (some ⟨b, 0, none⟩) (n + 1) cap) M2.length (flatQ M2)) := hide (by rw [← hWq]; exact unhide HRA')
            have kp : Blk Wq wr.heap.size #[.int .i64 k, .string tt] 45 := by rw [← hWq]; exact Blk.new wr _ _
            have p0 : Wq.cell? ⟨wr.heap.size, 0, none⟩ = some (.int .i64 k) := kp.cell 0
            have p1 : Wq.cell? ⟨wr.heap.size, 1, none⟩ = some (.string tt) := kp.cell 1
            have HBQ : Hid (Below Wl.heap.size Wl Wq) := hide (by rw [← hWq]; exact below_drewN (unhide HBA) _)
            have hzq := (unhide HBQ).size
            clear hWq kp HRA'
            go_wp2_with (at_builtin; refine wpList_append_own_at _ rfl _ _ 29 rfl Wl.heap.size 45 i0 (.agg #[.int .i64 0, .string ⟨#[]⟩]) 2 24 Try.underlying29 hi0 hi1 hi2 hi3 rfl (by decide) (.slice (some ⟨b, 0, none⟩) (n + 1) cap) _ _ rfl ((unhide HRQ).alloc _) ⟨Wq.heap.size, 0, none⟩ 1 1 [.int .i64 k, .string tt] rfl rfl (cell_two_new _ _ _ _) (by simp [Value.oneCell']) (by simp only [maxLen]; (try simp only [List.length_nil]); first | omega | decide) (by (try simp only [List.length_nil]); first | omega | decide) (by simp; omega) ?_)
            intro u' w4 hown hgr _ _
            have HO := hide (rcs_snoc hown)
            have HB4 : Hid (Below Wl.heap.size Wl w4) := hide (((unhide HBQ).alloc hzq _).grown hgr (by simp; omega) (fun q hq => ((unhide HRQ).lt q hq).1))
            clear hown hgr
            go_wp2
            go_roundw
            case rel => exact ⟨j + 1, by omega, by go_num, by rw [unhide HF]; exact unhide HO, unhide HB4⟩
            case measure => simp [intOf]; omega
    · have htl : L.take j = L := List.take_of_length_le (by omega)
      rw [htl] at hrow
      have hpi : ¬ (j : Int) < (L.length : Int) := by omega
      clear htl
      have HROW := hide hrow
      obtain ⟨vq, vn, vc, hv⟩ := slice_of hrow
      subst hv
      clear hrow hbw
      go_wp2
      go_ret
      exact ⟨_, rfl, owns_mono (unhide HROW) (unhide HBL0).size, tr2 (unhide HBL0) (unhide HBW)⟩
set_option maxHeartbeats 8000000 in
set_option maxRecDepth 100000 in
theorem rtexts_long (a b : ByteArray) (w : World) (ha : a.size ≤ 100000) (hb : b.size ≤ 100000) (h : (longB a.data.toList || longB b.data.toList) = true) :
    Calls Try.prog 14 #[.string a, .string b] w (RtxSaid a b w) := by
  obtain ⟨i0, hi0, hi1, hi2, hi3⟩ := info_parts infoRPiece0
  have hr : rwP a b = [(2, a), (3, b)] := by unfold rwP; rw [if_pos h]
  have hsm := rwP_small a b ha hb
  rw [hr] at hsm
  unfold RtxSaid
  rw [hr]
  have SA := hide (rsplit_any a w ha)
  have SB := hide (fun (W : World) => rsplit_any b W hb)
  unfold SplitSaid at SA SB
  have HRD := hide (fun (W : World) => two_readR W a b)
  obtain ⟨L, hL⟩ : ∃ L, [((2 : Int), a), (3, b)] = L := ⟨_, rfl⟩
  have hL2 : L.length = 2 := by rw [← hL]; rfl
  rw [hL] at hsm HRD ⊢
  have hlx : (bsL (grp a.data.toList)).length = (grp a.data.toList).length := bsL_len _
  have hly : (bsL (grp b.data.toList)).length = (grp b.data.toList).length := bsL_len _
  have hcase : ¬ (bsL (grp a.data.toList)).length ≤ 400 ∨ ((bsL (grp a.data.toList)).length ≤ 400 ∧ ¬ (bsL (grp b.data.toList)).length ≤ 400) := by
    rw [hlx, hly]
    by_cases e : (grp a.data.toList).length ≤ 400
    · right
      refine ⟨e, fun e2 => ?_⟩
      have f1 : longB a.data.toList = false := decide_eq_false (by omega)
      have f2 : longB b.data.toList = false := decide_eq_false (by omega)
      rw [f1, f2] at h; cases h
    · exact Or.inl e
  generalize bsL (grp a.data.toList) = ga at *
  generalize bsL (grp b.data.toList) = gb at *
  have HSZL : Hid (szP L ≤ 100000000000) := hide hsm.2.1
  have hLl := hsm.1
  have HL2 := hide hL2
  clear hr hsm hL hlx hly h hL2
  go_enter Try.func14, Try.ntmps14
  go_wp2_with fail
  refine Calls.mono (unhide SA) ?_
  rintro e w2 ⟨va, rfl, hva, hb2⟩
  have HB2 := hide hb2
  obtain ⟨qa, ca, hqa, hca⟩ := owns_cap hva
  subst hqa
  clear hva hb2
  go_wp2_with fail
  refine Calls.mono (unhide SB _) ?_
  rintro e w3 ⟨vb, rfl, hvb, hb3⟩
  have HB3 := hide (tr2 (unhide HB2) hb3)
  obtain ⟨qb, cb, hqb, hcb⟩ := owns_cap hvb
  subst hqb
  have hbX : Below w3.heap.size w3 (w3.alloc (Obj.cells #[.int .i64 2, .string a, .int .i64 3, .string b] 45)) := (Below.refl _ _).alloc (Nat.le_refl _) _
  have HBL0' := hide (tr2 (unhide HB3) hbX)
  have HPA' := hide (unhide HRD w3)
  clear hvb hb3 hbX SA SB HB2 HB3 HRD
  rcases hcase with hc1 | ⟨hc0, hc1⟩
  · have hci : ¬ (ga.length : Int) ≤ 400 := by omega
    clear hc1
    go_wp2
    generalize hWl : w3.alloc (Obj.cells #[.int .i64 2, .string a, .int .i64 3, .string b] 45) = Wl at HBL0' HPA' ⊢
    generalize (some ⟨w3.heap.size, 0, none⟩ : Option Addr) = q4 at HPA' ⊢
    have HBL0 := HBL0'
    have HPA := HPA'
    clear hWl HBL0' HPA'
    go_loopw [33, 8] (fun iv u wr => ∃ j : Nat, j ≤ 2 ∧ iv = .int .i64 (j : Int) ∧ RcsV wr Wl.heap.size u (refJ [] (L.take j)) ∧ Below Wl.heap.size Wl wr) (fun iv _ _ => 2 - (intOf iv).toNat)
    case atStart => exact ⟨0, Nat.zero_le _, rfl, World.ownsRow_nil _ _ _ _, Below.refl _ _⟩
    case round =>
      obtain ⟨j, hj, rfl, hrow, hbw⟩ := hrel
      have HBW := hide hbw
      have hz := hbw.size
      by_cases hp : j < 2
      · have hpL : j < L.length := by rw [unhide HL2]; exact hp
        have hpi : (j : Int) < (2 : Int) := by omega
        obtain ⟨g, o, rfl, hcell⟩ := (unhide HPA).below hbw (Nat.lt_of_le_of_lt (Nat.zero_le _) hpL)
        obtain ⟨x0, x1⟩ := hcell j hpL
        have HTK := hide (refJ_take L j hpL)
        have hol := refJ_len (L.take j) []
        have hos := refJ_sz (L.take j) []
        have hts := (szP_drop L j).2
        have hps := szP_mem L (L.getD j (0, ByteArray.empty)) (by rw [List.getD, List.getElem?_eq_getElem hpL]; exact List.getElem_mem hpL)
        rw [List.length_take] at hol
        have e0 : szP [] = 0 := rfl
        rw [e0] at hos
        obtain ⟨out, hout⟩ : ∃ out, refJ [] (L.take j) = out := ⟨_, rfl⟩
        rw [hout] at hrow HTK hol hos
        obtain ⟨pc, hpc⟩ : ∃ pc, L.getD j (0, ByteArray.empty) = pc := ⟨_, rfl⟩
        rw [hpc] at x0 x1 HTK hps
        obtain ⟨k, tt⟩ := pc
        dsimp only at x0 x1 hps
        have hbA : Below wr.heap.size wr (wr.alloc (Obj.cells #[.int .i64 k, .string tt] 45)) := (Below.refl _ _).alloc (Nat.le_refl _) _
        have hrowA : RcsV (wr.alloc (Obj.cells #[.int .i64 k, .string tt] 45)) Wl.heap.size _ out := ownsRow_below hrow hbA
        have HROW := hide hrow
        have HRA := hide hrowA
        have HBA := hide (tr2 hbw hbA)
        have hol2 : out.length ≤ 200000 := by simp only [List.length_nil] at hol; omega
        by_cases ht : tt.data.toList = []
        · have he : tt.toList.isEmpty = true := is_empty tt (by rw [← data_len, ht]; rfl)
          have HF : Hid (refJ [] (L.take (j + 1)) = out) := hide (by rw [unhide HTK]; unfold stepJ; rw [if_pos ht])
          obtain ⟨vq, vn, vc, hv⟩ := slice_of hrow
          subst hv
          clear hcell hbA hrow hrowA hbw hout hpc ht hol hos hts hps hpL
          go_wp2
          go_roundw
          case rel => exact ⟨j + 1, by omega, by go_num, by rw [unhide HF]; exact unhide HRA, unhide HBA⟩
          case measure => simp [intOf]; omega
        · have he : tt.toList.isEmpty = false := not_empty tt (by rw [← data_len]; exact List.length_pos_iff.2 ht)
          have HNE := hide ht
          rcases List.eq_nil_or_concat out with hnil | ⟨M, q, hcon⟩
          · have HF : Hid (refJ [] (L.take (j + 1)) = [] ++ [(k, tt)]) := hide (by rw [unhide HTK, hnil]; exact stepJ_new ht (fun q hq => by cases hq))
            subst hnil
            obtain ⟨vq, vc, hv, _, _⟩ := hrow.read
            subst hv
            unfold RcsV at HRA
            have hg0 : decide ((0 : Int) < 0) = false := rfl
            clear hcell hbA hrow hrowA hbw hout hpc ht hol hos hts hps hpL HROW
            go_wp2
            go_quiet (fail)
            generalize hWq : (wr.alloc (Obj.cells #[.int .i64 k, .string tt] 45)).drewN nq = Wq
            have HRQ : Hid (Wq.ownsRow Wl.heap.size 45 2 (.slice vq 0 vc) [].length (flatQ [])) := hide (by rw [← hWq]; exact unhide HRA)
            have kp : Blk Wq wr.heap.size #[.int .i64 k, .string tt] 45 := by rw [← hWq]; exact Blk.new wr _ _
            have p0 : Wq.cell? ⟨wr.heap.size, 0, none⟩ = some (.int .i64 k) := kp.cell 0
            have p1 : Wq.cell? ⟨wr.heap.size, 1, none⟩ = some (.string tt) := kp.cell 1
            have HBQ : Hid (Below Wl.heap.size Wl Wq) := hide (by rw [← hWq]; exact below_drewN (unhide HBA) _)
            have hzq := (unhide HBQ).size
            clear hWq kp HRA
            go_wp2_with (at_builtin; refine wpList_append_own_at _ rfl _ _ 29 rfl Wl.heap.size 45 i0 (.agg #[.int .i64 0, .string ⟨#[]⟩]) 2 24 Try.underlying29 hi0 hi1 hi2 hi3 rfl (by decide) (.slice vq 0 vc) _ _ rfl ((unhide HRQ).alloc _) ⟨Wq.heap.size, 0, none⟩ 1 1 [.int .i64 k, .string tt] rfl rfl (cell_two_new _ _ _ _) (by simp [Value.oneCell']) (by simp only [maxLen]; (try simp only [List.length_nil]); first | omega | decide) (by (try simp only [List.length_nil]); first | omega | decide) (by simp; omega) ?_)
            intro u' w4 hown hgr _ _
            have HO := hide (rcs_snoc hown)
            have HB4 : Hid (Below Wl.heap.size Wl w4) := hide (((unhide HBQ).alloc hzq _).grown hgr (by simp; omega) (fun q hq => ((unhide HRQ).lt q hq).1))
            clear hown hgr
            go_wp2
            go_roundw
            case rel => exact ⟨j + 1, by omega, by go_num, by rw [unhide HF]; exact unhide HO, unhide HB4⟩
            case measure => simp [intOf]; omega
          · rw [List.concat_eq_append] at hcon
            subst hcon
            obtain ⟨b, cap, hv, hbb, hblt, hkd, c0, c1, f1, hset⟩ := row_last2 hrow
            subst hv
            obtain ⟨b', cap', hv', _, _, hkdA, d0, d1, df1, hsetA⟩ := row_last2 hrowA
            injection hv' with hv1 hv2 hv3
            injection hv1 with hv1
            injection hv1 with hv1 _ _
            subst hv1 hv3
            clear hv2
            have HMl := hide (show (M ++ [q]).length = M.length + 1 by rw [List.length_append]; rfl)
            generalize hn : M.length = n at *
            have hn5 : n ≤ 200000 := by have := unhide HMl; omega
            have hgt : decide ((0 : Int) < (n : Int) + 1) = true := decide_eq_true (by omega)
            have hgi : (0 : Int) < (n : Int) + 1 := by omega
            have hsub : (n : Int) + 1 - 1 = (n : Int) := by omega
            have hwr : IntKind.i64.wrap (n : Int) = (n : Int) := by rw [IntKind.wrap_i64]; omega
            have hlt1 : (n : Int) < (n : Int) + 1 := by omega
            have hn0 : (0 : Int) ≤ (n : Int) := by omega
            obtain ⟨qk, qt⟩ := q
            dsimp only at c0 c1 d0 d1 hset hsetA
            have hqs : qt.size ≤ szP L := by
              rw [szP_app, szP_cons] at hos
              dsimp only at hos
              omega
            have hpne : wr.heap.size ≠ b := by omega
            by_cases hk : qk = k
            · have hkk : (qk == k) = true := by rw [hk]; exact beq_self_eq_true k
              have hcat : ¬ 9223372036854775807 < qt.size + tt.size := by have := unhide HSZL; omega
              have HF : Hid (refJ [] (L.take (j + 1)) = M ++ [(qk, qt ++ tt)]) := hide (by
                rw [unhide HTK]
                unfold stepJ
                rw [if_neg ht, List.getLast?_concat]
                dsimp only
                rw [if_pos hk, List.dropLast_concat, add_bs])
              have HSET := hide (hsetA (qt ++ tt))
              have HBB := hide hbb
              clear hcell hbA hrow hrowA hbw hout hpc ht hol hos hts hps hpL hset hsetA hk hn hkd hkdA HROW HRA
              go_wp2
              go_quiet (fail)
              go_wp2
              go_region
              go_wp2
              go_roundw
              case rel => exact ⟨j + 1, by omega, by go_num, by rw [unhide HF]; exact unhide HSET, Below.setCell (below_drewN (unhide HBA) _) (unhide HBB) _⟩
              case measure => simp [intOf]; omega
            · have hkk : (qk == k) = false := beq_eq_false_iff_ne.2 hk
              have HF : Hid (refJ [] (L.take (j + 1)) = (M ++ [(qk, qt)]) ++ [(k, tt)]) := hide (by
                rw [unhide HTK]
                exact stepJ_new ht (fun q hq => by rw [List.getLast?_concat] at hq; cases hq; exact hk))
              have HN := hide hn
              have HRA' : Hid ((wr.alloc (Obj.cells #[.int .i64 k, .string tt] 45)).ownsRow Wl.heap.size 45 2 (.slice (some ⟨b, 0, none⟩) (n + 1) cap) (M ++ [(qk, qt)]).length (flatQ (M ++ [(qk, qt)]))) := hide hrowA
              clear hcell hbA hrow hrowA hbw hout hpc ht hol hos hts hps hpL hset hsetA hk hn hkd hkdA HROW HRA
              obtain ⟨M2, hM2⟩ : ∃ M2, M ++ [(qk, qt)] = M2 := ⟨_, rfl⟩
              rw [hM2] at HRA' HF hol2
              clear hM2
              go_wp2
              go_quiet (fail)
              generalize hWq : (wr.alloc (Obj.cells #[.int .i64 k, .string tt] 45)).drewN nq = Wq
              have HRQ : Hid (Wq.ownsRow Wl.heap.size 45 2 (.slice (some ⟨b, 0, none⟩) (n + 1) cap) M2.length (flatQ M2)) := hide (by rw [← hWq]; exact unhide HRA')
              have kp : Blk Wq wr.heap.size #[.int .i64 k, .string tt] 45 := by rw [← hWq]; exact Blk.new wr _ _
              have p0 : Wq.cell? ⟨wr.heap.size, 0, none⟩ = some (.int .i64 k) := kp.cell 0
              have p1 : Wq.cell? ⟨wr.heap.size, 1, none⟩ = some (.string tt) := kp.cell 1
              have HBQ : Hid (Below Wl.heap.size Wl Wq) := hide (by rw [← hWq]; exact below_drewN (unhide HBA) _)
              have hzq := (unhide HBQ).size
              clear hWq kp HRA'
              go_wp2_with (at_builtin; refine wpList_append_own_at _ rfl _ _ 29 rfl Wl.heap.size 45 i0 (.agg #[.int .i64 0, .string ⟨#[]⟩]) 2 24 Try.underlying29 hi0 hi1 hi2 hi3 rfl (by decide) (.slice (some ⟨b, 0, none⟩) (n + 1) cap) _ _ rfl ((unhide HRQ).alloc _) ⟨Wq.heap.size, 0, none⟩ 1 1 [.int .i64 k, .string tt] rfl rfl (cell_two_new _ _ _ _) (by simp [Value.oneCell']) (by simp only [maxLen]; (try simp only [List.length_nil]); first | omega | decide) (by (try simp only [List.length_nil]); first | omega | decide) (by simp; omega) ?_)
              intro u' w4 hown hgr _ _
              have HO := hide (rcs_snoc hown)
              have HB4 : Hid (Below Wl.heap.size Wl w4) := hide (((unhide HBQ).alloc hzq _).grown hgr (by simp; omega) (fun q hq => ((unhide HRQ).lt q hq).1))
              clear hown hgr
              go_wp2
              go_roundw
              case rel => exact ⟨j + 1, by omega, by go_num, by rw [unhide HF]; exact unhide HO, unhide HB4⟩
              case measure => simp [intOf]; omega
      · have htl : L.take j = L := List.take_of_length_le (by rw [unhide HL2]; omega)
        rw [htl] at hrow
        have hpi : ¬ (j : Int) < (2 : Int) := by omega
        clear htl
        have HROW := hide hrow
        obtain ⟨vq, vn, vc, hv⟩ := slice_of hrow
        subst hv
        clear hrow hbw
        go_wp2
        go_ret
        exact ⟨_, rfl, owns_mono (unhide HROW) (unhide HBL0).size, tr2 (unhide HBL0) (unhide HBW)⟩
  · have hc0i : (ga.length : Int) ≤ 400 := by omega
    have hci : ¬ (gb.length : Int) ≤ 400 := by omega
    clear hc1 hc0
    go_wp2
    generalize hWl : w3.alloc (Obj.cells #[.int .i64 2, .string a, .int .i64 3, .string b] 45) = Wl at HBL0' HPA' ⊢
    generalize (some ⟨w3.heap.size, 0, none⟩ : Option Addr) = q4 at HPA' ⊢
    have HBL0 := HBL0'
    have HPA := HPA'
    clear hWl HBL0' HPA'
    go_loopw [33, 8] (fun iv u wr => ∃ j : Nat, j ≤ 2 ∧ iv = .int .i64 (j : Int) ∧ RcsV wr Wl.heap.size u (refJ [] (L.take j)) ∧ Below Wl.heap.size Wl wr) (fun iv _ _ => 2 - (intOf iv).toNat)
    case atStart => exact ⟨0, Nat.zero_le _, rfl, World.ownsRow_nil _ _ _ _, Below.refl _ _⟩
    case round =>
      obtain ⟨j, hj, rfl, hrow, hbw⟩ := hrel
      have HBW := hide hbw
      have hz := hbw.size
      by_cases hp : j < 2
      · have hpL : j < L.length := by rw [unhide HL2]; exact hp
        have hpi : (j : Int) < (2 : Int) := by omega
        obtain ⟨g, o, rfl, hcell⟩ := (unhide HPA).below hbw (Nat.lt_of_le_of_lt (Nat.zero_le _) hpL)
        obtain ⟨x0, x1⟩ := hcell j hpL
        have HTK := hide (refJ_take L j hpL)
        have hol := refJ_len (L.take j) []
        have hos := refJ_sz (L.take j) []
        have hts := (szP_drop L j).2
        have hps := szP_mem L (L.getD j (0, ByteArray.empty)) (by rw [List.getD, List.getElem?_eq_getElem hpL]; exact List.getElem_mem hpL)
        rw [List.length_take] at hol
        have e0 : szP [] = 0 := rfl
        rw [e0] at hos
        obtain ⟨out, hout⟩ : ∃ out, refJ [] (L.take j) = out := ⟨_, rfl⟩
        rw [hout] at hrow HTK hol hos
        obtain ⟨pc, hpc⟩ : ∃ pc, L.getD j (0, ByteArray.empty) = pc := ⟨_, rfl⟩
        rw [hpc] at x0 x1 HTK hps
        obtain ⟨k, tt⟩ := pc
        dsimp only at x0 x1 hps
        have hbA : Below wr.heap.size wr (wr.alloc (Obj.cells #[.int .i64 k, .string tt] 45)) := (Below.refl _ _).alloc (Nat.le_refl _) _
        have hrowA : RcsV (wr.alloc (Obj.cells #[.int .i64 k, .string tt] 45)) Wl.heap.size _ out := ownsRow_below hrow hbA
        have HROW := hide hrow
        have HRA := hide hrowA
        have HBA := hide (tr2 hbw hbA)
        have hol2 : out.length ≤ 200000 := by simp only [List.length_nil] at hol; omega
        by_cases ht : tt.data.toList = []
        · have he : tt.toList.isEmpty = true := is_empty tt (by rw [← data_len, ht]; rfl)
          have HF : Hid (refJ [] (L.take (j + 1)) = out) := hide (by rw [unhide HTK]; unfold stepJ; rw [if_pos ht])
          obtain ⟨vq, vn, vc, hv⟩ := slice_of hrow
          subst hv
          clear hcell hbA hrow hrowA hbw hout hpc ht hol hos hts hps hpL
          go_wp2
          go_roundw
          case rel => exact ⟨j + 1, by omega, by go_num, by rw [unhide HF]; exact unhide HRA, unhide HBA⟩
          case measure => simp [intOf]; omega
        · have he : tt.toList.isEmpty = false := not_empty tt (by rw [← data_len]; exact List.length_pos_iff.2 ht)
          have HNE := hide ht
          rcases List.eq_nil_or_concat out with hnil | ⟨M, q, hcon⟩
          · have HF : Hid (refJ [] (L.take (j + 1)) = [] ++ [(k, tt)]) := hide (by rw [unhide HTK, hnil]; exact stepJ_new ht (fun q hq => by cases hq))
            subst hnil
            obtain ⟨vq, vc, hv, _, _⟩ := hrow.read
            subst hv
            unfold RcsV at HRA
            have hg0 : decide ((0 : Int) < 0) = false := rfl
            clear hcell hbA hrow hrowA hbw hout hpc ht hol hos hts hps hpL HROW
            go_wp2
            go_quiet (fail)
            generalize hWq : (wr.alloc (Obj.cells #[.int .i64 k, .string tt] 45)).drewN nq = Wq
            have HRQ : Hid (Wq.ownsRow Wl.heap.size 45 2 (.slice vq 0 vc) [].length (flatQ [])) := hide (by rw [← hWq]; exact unhide HRA)
            have kp : Blk Wq wr.heap.size #[.int .i64 k, .string tt] 45 := by rw [← hWq]; exact Blk.new wr _ _
            have p0 : Wq.cell? ⟨wr.heap.size, 0, none⟩ = some (.int .i64 k) := kp.cell 0
            have p1 : Wq.cell? ⟨wr.heap.size, 1, none⟩ = some (.string tt) := kp.cell 1
            have HBQ : Hid (Below Wl.heap.size Wl Wq) := hide (by rw [← hWq]; exact below_drewN (unhide HBA) _)
            have hzq := (unhide HBQ).size
            clear hWq kp HRA
            go_wp2_with (at_builtin; refine wpList_append_own_at _ rfl _ _ 29 rfl Wl.heap.size 45 i0 (.agg #[.int .i64 0, .string ⟨#[]⟩]) 2 24 Try.underlying29 hi0 hi1 hi2 hi3 rfl (by decide) (.slice vq 0 vc) _ _ rfl ((unhide HRQ).alloc _) ⟨Wq.heap.size, 0, none⟩ 1 1 [.int .i64 k, .string tt] rfl rfl (cell_two_new _ _ _ _) (by simp [Value.oneCell']) (by simp only [maxLen]; (try simp only [List.length_nil]); first | omega | decide) (by (try simp only [List.length_nil]); first | omega | decide) (by simp; omega) ?_)
            intro u' w4 hown hgr _ _
            have HO := hide (rcs_snoc hown)
            have HB4 : Hid (Below Wl.heap.size Wl w4) := hide (((unhide HBQ).alloc hzq _).grown hgr (by simp; omega) (fun q hq => ((unhide HRQ).lt q hq).1))
            clear hown hgr
            go_wp2
            go_roundw
            case rel => exact ⟨j + 1, by omega, by go_num, by rw [unhide HF]; exact unhide HO, unhide HB4⟩
            case measure => simp [intOf]; omega
          · rw [List.concat_eq_append] at hcon
            subst hcon
            obtain ⟨b, cap, hv, hbb, hblt, hkd, c0, c1, f1, hset⟩ := row_last2 hrow
            subst hv
            obtain ⟨b', cap', hv', _, _, hkdA, d0, d1, df1, hsetA⟩ := row_last2 hrowA
            injection hv' with hv1 hv2 hv3
            injection hv1 with hv1
            injection hv1 with hv1 _ _
            subst hv1 hv3
            clear hv2
            have HMl := hide (show (M ++ [q]).length = M.length + 1 by rw [List.length_append]; rfl)
            generalize hn : M.length = n at *
            have hn5 : n ≤ 200000 := by have := unhide HMl; omega
            have hgt : decide ((0 : Int) < (n : Int) + 1) = true := decide_eq_true (by omega)
            have hgi : (0 : Int) < (n : Int) + 1 := by omega
            have hsub : (n : Int) + 1 - 1 = (n : Int) := by omega
            have hwr : IntKind.i64.wrap (n : Int) = (n : Int) := by rw [IntKind.wrap_i64]; omega
            have hlt1 : (n : Int) < (n : Int) + 1 := by omega
            have hn0 : (0 : Int) ≤ (n : Int) := by omega
            obtain ⟨qk, qt⟩ := q
            dsimp only at c0 c1 d0 d1 hset hsetA
            have hqs : qt.size ≤ szP L := by
              rw [szP_app, szP_cons] at hos
              dsimp only at hos
              omega
            have hpne : wr.heap.size ≠ b := by omega
            by_cases hk : qk = k
            · have hkk : (qk == k) = true := by rw [hk]; exact beq_self_eq_true k
              have hcat : ¬ 9223372036854775807 < qt.size + tt.size := by have := unhide HSZL; omega
              have HF : Hid (refJ [] (L.take (j + 1)) = M ++ [(qk, qt ++ tt)]) := hide (by
                rw [unhide HTK]
                unfold stepJ
                rw [if_neg ht, List.getLast?_concat]
                dsimp only
                rw [if_pos hk, List.dropLast_concat, add_bs])
              have HSET := hide (hsetA (qt ++ tt))
              have HBB := hide hbb
              clear hcell hbA hrow hrowA hbw hout hpc ht hol hos hts hps hpL hset hsetA hk hn hkd hkdA HROW HRA
              go_wp2
              go_quiet (fail)
              go_wp2
              go_region
              go_wp2
              go_roundw
              case rel => exact ⟨j + 1, by omega, by go_num, by rw [unhide HF]; exact unhide HSET, Below.setCell (below_drewN (unhide HBA) _) (unhide HBB) _⟩
              case measure => simp [intOf]; omega
            · have hkk : (qk == k) = false := beq_eq_false_iff_ne.2 hk
              have HF : Hid (refJ [] (L.take (j + 1)) = (M ++ [(qk, qt)]) ++ [(k, tt)]) := hide (by
                rw [unhide HTK]
                exact stepJ_new ht (fun q hq => by rw [List.getLast?_concat] at hq; cases hq; exact hk))
              have HN := hide hn
              have HRA' : Hid ((wr.alloc (Obj.cells #[.int .i64 k, .string tt] 45)).ownsRow Wl.heap.size 45 2 (.slice (some ⟨b, 0, none⟩) (n + 1) cap) (M ++ [(qk, qt)]).length (flatQ (M ++ [(qk, qt)]))) := hide hrowA
              clear hcell hbA hrow hrowA hbw hout hpc ht hol hos hts hps hpL hset hsetA hk hn hkd hkdA HROW HRA
              obtain ⟨M2, hM2⟩ : ∃ M2, M ++ [(qk, qt)] = M2 := ⟨_, rfl⟩
              rw [hM2] at HRA' HF hol2
              clear hM2
              go_wp2
              go_quiet (fail)
              generalize hWq : (wr.alloc (Obj.cells #[.int .i64 k, .string tt] 45)).drewN nq = Wq
              have HRQ : Hid (Wq.ownsRow Wl.heap.size 45 2 (.slice (some ⟨b, 0, none⟩) (n + 1) cap) M2.length (flatQ M2)) := hide (by rw [← hWq]; exact unhide HRA')
              have kp : Blk Wq wr.heap.size #[.int .i64 k, .string tt] 45 := by rw [← hWq]; exact Blk.new wr _ _
              have p0 : Wq.cell? ⟨wr.heap.size, 0, none⟩ = some (.int .i64 k) := kp.cell 0
              have p1 : Wq.cell? ⟨wr.heap.size, 1, none⟩ = some (.string tt) := kp.cell 1
              have HBQ : Hid (Below Wl.heap.size Wl Wq) := hide (by rw [← hWq]; exact below_drewN (unhide HBA) _)
              have hzq := (unhide HBQ).size
              clear hWq kp HRA'
              go_wp2_with (at_builtin; refine wpList_append_own_at _ rfl _ _ 29 rfl Wl.heap.size 45 i0 (.agg #[.int .i64 0, .string ⟨#[]⟩]) 2 24 Try.underlying29 hi0 hi1 hi2 hi3 rfl (by decide) (.slice (some ⟨b, 0, none⟩) (n + 1) cap) _ _ rfl ((unhide HRQ).alloc _) ⟨Wq.heap.size, 0, none⟩ 1 1 [.int .i64 k, .string tt] rfl rfl (cell_two_new _ _ _ _) (by simp [Value.oneCell']) (by simp only [maxLen]; (try simp only [List.length_nil]); first | omega | decide) (by (try simp only [List.length_nil]); first | omega | decide) (by simp; omega) ?_)
              intro u' w4 hown hgr _ _
              have HO := hide (rcs_snoc hown)
              have HB4 : Hid (Below Wl.heap.size Wl w4) := hide (((unhide HBQ).alloc hzq _).grown hgr (by simp; omega) (fun q hq => ((unhide HRQ).lt q hq).1))
              clear hown hgr
              go_wp2
              go_roundw
              case rel => exact ⟨j + 1, by omega, by go_num, by rw [unhide HF]; exact unhide HO, unhide HB4⟩
              case measure => simp [intOf]; omega
      · have htl : L.take j = L := List.take_of_length_le (by rw [unhide HL2]; omega)
        rw [htl] at hrow
        have hpi : ¬ (j : Int) < (2 : Int) := by omega
        clear htl
        have HROW := hide hrow
        obtain ⟨vq, vn, vc, hv⟩ := slice_of hrow
        subst hv
        clear hrow hbw
        go_wp2
        go_ret
        exact ⟨_, rfl, owns_mono (unhide HROW) (unhide HBL0).size, tr2 (unhide HBL0) (unhide HBW)⟩
theorem rtexts_any (a b : ByteArray) (w : World) (ha : a.size ≤ 100000) (hb : b.size ≤ 100000) :
    Calls Try.prog 14 #[.string a, .string b] w (RtxSaid a b w) := by
  cases h : (longB a.data.toList || longB b.data.toList) with
  | true => exact rtexts_long a b w ha hb h
  | false => exact rtexts_short a b w ha hb h
end Go.Proofs.Ytfbgpodcdgmpjaa
