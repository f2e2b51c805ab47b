/-
  What the reference's Lists of layer 20 does (made by mk_rli.py).
-/
import Derived.Test.YtbabmkilbbbmoaaDoorRLp
namespace Go.Proofs.YtbabmkilbbbmoaaDoor
open Go.RowKit Go.Maps
set_option linter.unusedVariables false
set_option linter.unusedSimpArgs false

theorem cell_three_new1 (w : World) (x y z : Value) (t : TypeId) (o : Obj) (n : Nat) (h : n = (w.alloc o).heap.size) : ∀ j u, [x, y, z][j]? = some u → ((w.alloc o).alloc (Obj.cells #[x, y, z] t)).cell? ((⟨n, 0, none⟩ : Addr).add j) = some u := by
  subst h; exact cell_three_new _ x y z t
set_option maxHeartbeats 8000000 in
set_option maxRecDepth 100000 in
theorem rlists_any (qa qb : Option Addr) (ca cb : Nat) (f h : Forest) (w : World) (hf : Fo qa f w) (hh : Fo qb h w) (sf : SmF f) (sh : SmF h) (kf : KidsOk f) (kh : KidsOk h) (nf : f.len ≤ 1000) (nh : h.len ≤ 1000) :
    Calls Tryd.prog 12 #[.slice qa f.len ca, .slice qb h.len cb] w fun e w' => ∃ u, e = .returned u ∧ RPairsV w' w.heap.size u (ltP f h) ∧ Below w.heap.size w w' := by
  obtain ⟨i0, hi0, hi1, hi2, hi3⟩ := infoRPair
  have CW := hide (whole_any qa qb ca cb f h w hf hh sf sh kf kh nf nh)
  have hrise := rise_any _ _ _ (lnP_riseM (eqT (ksT f) (ksT h)) f.len h.len _ 0 0 (Nat.le_refl _))
  obtain ⟨vf, hvf, hxf⟩ := nds_of hf
  obtain ⟨vg, hvg, hxg⟩ := nds_of hh
  have CA := hide (ralike_lab hxf hxg)
  have hlt : ltP f h = rlF (eqT (lsT f) (lsT h)) h.len f.len 0 0 (lnP (eqT (ksT f) (ksT h)) f.len h.len 0 0) := mt_rl _ _ _ _ 0 0 (Nat.zero_le _) hrise
  have hfl := mtF_len (eqT (lsT f) (lsT h)) f.len h.len _ 0 0 (Nat.zero_le _) hrise
  have hfl2 : (ltP f h).length ≤ 1000 := by unfold ltP; omega
  have hPl := lnP_small (eqT (ksT f) (ksT h)) f.len h.len 0 0
  generalize ltP f h = FL at *
  generalize lnP (eqT (ksT f) (ksT h)) f.len h.len 0 0 = P at *
  generalize eqT (lsT f) (lsT h) = A at *
  have H1 := hide hvf
  have H2 := hide hvg
  have HRI := hide hrise
  have HLT := hide hlt
  clear hxf hxg hf hh sf sh kf kh hvf hvg hrise hlt hfl
  generalize f.len = n at *
  generalize h.len = m at *
  go_enter Tryd.func12, Tryd.ntmps12
  go_wp2_with fail
  refine (unhide CW).mono ?_
  rintro e w1 ⟨uw, rfl, hpc, hb1⟩
  have hwl : (whP P).length = P.length := by unfold whP; rw [List.length_map]
  have CAT := hide (fun (W : World) (hW : Below w1.heap.size w1 W) (i : Nat) => rat20_any uw (whP P) (i : Int) W (hpc.below hW) (by omega))
  obtain ⟨wq, wc, rfl, hcells⟩ := hpc
  rw [hwl] at hcells CAT ⊢
  have HC := hide hcells
  have HB1 := hide hb1
  clear CW hb1 hcells
  go_wp2
  go_loopw [20, 6, 7] (fun x u jv wr => ∃ (i j k : Nat) (Lm : List (Int × Int × Bool)), i ≤ n ∧ x = .int .i64 (i : Int) ∧ jv = .int .i64 (j : Int) ∧ j ≤ m ∧ (∀ y, y < k → y < P.length → (P.getD y (0, 0)).1 < i) ∧ RiseFrom (fun _ _ => true) n m i j (P.drop k) ∧ RPairsV wr w1.heap.size u Lm ∧ Lm ++ rlF A m (n - i) i j (P.drop k) = FL ∧ Below w1.heap.size w1 wr) (fun x _ _ _ => n - (intOf x).toNat)
  case atStart => exact ⟨0, 0, 0, [], Nat.zero_le _, rfl, rfl, Nat.zero_le _, fun y hy => absurd hy (Nat.not_lt_zero _), unhide HRI, World.ownsRow_nil _ _ _ _, (unhide HLT).symm, Below.refl _ _⟩
  case round =>
    obtain ⟨i, j, k, Lm, hi, rfl, rfl, hj, hpre, hri, hrow, heq, hbl⟩ := hrel
    obtain ⟨uq, un, uc, hu⟩ := slice_of hrow
    subst hu
    by_cases hp : i < n
    · have hpi : (i : Int) < (n : Int) := by omega
      have hbW : Below w.heap.size w wr := (unhide HB1).trans (hbl.mono (unhide HB1).size)
      obtain ⟨ga, oa, hqa, ha⟩ := unhide H1 (by omega)
      subst hqa
      have hA : ∀ j, j < 6 → wr.cell? ⟨ga, oa + i * 6 + j, none⟩ = (vf i).cs[j]? := fun j hj => by
        have h := ha i hp j hj
        cases hv : (vf i).cs[j]? with
        | none => exact absurd hv (by rw [List.getElem?_eq_none_iff]; unfold NdC.cs; simp; omega)
        | some v => rw [hv] at h; exact cell_later hbW h
      have a0 := hA 0 (by decide)
      have a1 := hA 1 (by decide)
      have a2 := hA 2 (by decide)
      have a3 := hA 3 (by decide)
      have a4 := hA 4 (by decide)
      have a5 := hA 5 (by decide)
      have CE := hide (fun k (hk : k < m) => unhide CA i k hp hk)
      generalize vf i = ya at *
      simp only [NdC.cs, List.getElem?_cons_zero, List.getElem?_cons_succ, Nat.add_zero] at a0 a1 a2 a3 a4 a5
      have hll : Lm.length ≤ 1000 := by have := congrArg List.length heq; rw [List.length_append] at this; omega
      have hAT := patF_pre P i k hpre
      have CT := hide (fun W (hW : Below w1.heap.size w1 W) => unhide CAT W hW i)
      rw [hAT] at CT
      have HROW := hide hrow
      have HBL := hide hbl
      have HBW := hide hbW
      have hz := hbl.size
      by_cases hwh : ∃ p r, P.drop k = p :: r ∧ p.1 = i
      · obtain ⟨p, r, hd, hpe⟩ := hwh
        have hk : k < P.length := by
          apply Classical.byContradiction; intro hc
          rw [List.drop_eq_nil_of_le (by omega)] at hd; cases hd
        have hgk : P.getD k (0, 0) = p := by
          rw [List.drop_eq_getElem_cons hk] at hd
          injection hd with h1 _
          rw [List.getD, List.getElem?_eq_getElem hk]; exact h1
        have hr : P.drop (k + 1) = r := by
          rw [List.drop_eq_getElem_cons hk] at hd
          injection hd
        rw [hd] at CT heq hri
        rw [patF_head p r i hpe] at CT
        obtain ⟨c1, c2, c3, c4, _, c6⟩ := hri
        rw [show n - i = (n - (i + 1)) + 1 by omega, rlF_whole A m _ i j p r hpe] at heq
        have HEQ := hide heq
        have hri2 : RiseFrom (fun _ _ => true) n m (i + 1) (p.2 + 1) r := by rw [← hpe]; exact c6
        have hpre2 : ∀ y, y < k + 1 → y < P.length → (P.getD y (0, 0)).1 < i + 1 := fun y hy hl => by
          by_cases e : y = k
          · subst e; rw [hgk]; omega
          · have := hpre y (by omega) hl; omega
        have HPRE := hide hpre2
        have HRI2 := hide hri2
        have HR := hide hr
        obtain ⟨pa, pb⟩ := p
        dsimp only at *
        subst hpe
        have hpb : (0 : Int) ≤ (pb : Int) := by omega
        unfold pairC at CT
        clear hA ha hAT hpre hrow heq hbl hbW hd hgk hr c6 hri2 hpre2 CE
        go_wp2_with fail
        refine (unhide CT _ ((unhide HBL).alloc (unhide HBL).size _)).mono ?_
        rintro e w2 ⟨rfl, hb2⟩
        have HB2 := hide (((unhide HBL).alloc (unhide HBL).size (Obj.cells #[Value.int .i64 ya.k, Value.int .i64 ya.sp, Value.string ya.n, Value.slice ya.qa ya.la ya.ca, Value.string ya.tx, Value.slice ya.qk ya.lk ya.ck] 44)).trans (hb2.mono (by simp; omega)))
        have HR2 := hide (ownsRow_below ((unhide HROW).alloc (Obj.cells #[Value.int .i64 ya.k, Value.int .i64 ya.sp, Value.string ya.n, Value.slice ya.qa ya.la ya.ca, Value.string ya.tx, Value.slice ya.qk ya.lk ya.ck] 44)) hb2)
        have hz2 := (unhide HB2).size
        clear hb2 CT HBL HROW
        go_wp2_with (at_builtin; refine wpList_append_own_at _ rfl _ _ 28 rfl w1.heap.size 63 i0 (.agg #[.int .i64 0, .int .i64 0, .bool false]) 3 24 Tryd.underlying28 hi0 hi1 hi2 hi3 rfl (by decide) (.slice uq un uc) _ _ rfl (((unhide HR2).alloc _).alloc _) ⟨w2.heap.size + 1, 0, none⟩ 1 1 [.int .i64 (pa : Int), .int .i64 (pb : Int), .bool true] rfl rfl (cell_three_new1 _ _ _ _ _ _ _ (by simp)) (by simp [Value.oneCell']) (by simp only [maxLen]; omega) (by omega) (by simp; omega) ?_)
        intro u' w3 hown hgr _ _
        have HO : Hid (RPairsV w3 w1.heap.size u' (Lm ++ [((pa : Int), (pb : Int), true)])) := hide (by unfold RPairsV; rw [List.length_append, flatP_app]; exact hown)
        have HB3 : Hid (Below w1.heap.size w1 w3) := hide (((((unhide HB2).alloc hz2 _).alloc (by simp; omega) _).grown hgr (by simp; omega) (fun q hq => ((unhide HR2).lt q hq).1)))
        have KB := ((Blk.new w2 #[.int .i64 (pa : Int), .int .i64 (pb : Int), .bool true] 63).alloc _).grown hgr (fun e => by have := ((unhide HR2).lt _ e.symm).2; omega)
        have d1 : w3.cell? ⟨w2.heap.size, 1, none⟩ = some (.int .i64 (pb : Int)) := KB.cell 1
        clear hown hgr KB
        go_wp2
        go_roundw
        case rel => exact ⟨pa + 1, pb + 1, k + 1, _, by omega, by go_num, by go_num, by omega, unhide HPRE, by rw [unhide HR]; exact unhide HRI2, unhide HO, by rw [unhide HR, List.append_assoc]; exact unhide HEQ, unhide HB3⟩
        case measure => simp [intOf]; omega
      · have hno : ∀ p r, P.drop k = p :: r → p.1 ≠ i := fun p r h1 h2 => hwh ⟨p, r, h1, h2⟩
        have hpn : patF (whP (P.drop k)) (i : Int) = ((i : Int), -1, false) := by
          cases hd : P.drop k with
          | nil => rfl
          | cons p r =>
            rw [hd] at hri
            have e := hno p r hd
            have := hri.1
            exact patF_none (p :: r) n m i (i + 1) j (by omega) ⟨by omega, hri.2⟩
        rw [hpn] at CT
        have hri3 : RiseFrom (fun _ _ => true) n m (i + 1) j (P.drop k) := by
          cases hd : P.drop k with
          | nil => trivial
          | cons p r =>
            rw [hd] at hri
            have e := hno p r hd
            have := hri.1
            exact ⟨by omega, hri.2⟩
        have hri4 : ∀ y, y < toF m (P.drop k) → RiseFrom (fun _ _ => true) n m (i + 1) (y + 1) (P.drop k) := fun y hy => by
          cases hd : P.drop k with
          | nil => trivial
          | cons p r =>
            rw [hd] at hri3 hy
            have hy2 : y < p.2 := hy
            exact ⟨hri3.1, by omega, hri3.2.2⟩
        have hTm : toF m (P.drop k) ≤ m := by
          cases hd : P.drop k with
          | nil => exact Nat.le_refl _
          | cons p r => rw [hd] at hri3; exact Nat.le_of_lt hri3.2.2.2.1
        have hTe : P.length ≤ k → toF m (P.drop k) = m := fun h => by rw [List.drop_eq_nil_of_le h]; rfl
        have hTk : k < P.length → toF m (P.drop k) = (P.getD k (0, 0)).2 := fun h => by rw [List.drop_eq_getElem_cons h, List.getD, List.getElem?_eq_getElem h]; rfl
        have hgt : ∀ x, k ≤ x → x < P.length → i < (P.getD x (0, 0)).1 ∧ toF m (P.drop k) ≤ (P.getD x (0, 0)).2 ∧ (P.getD x (0, 0)).2 < m := fun x h1 h2 => by
          have := rise_at (P.drop k) (i + 1) j hri3 (x - k) (by rw [List.length_drop]; omega)
          have e : (P.drop k).getD (x - k) (0, 0) = P.getD x (0, 0) := by rw [List.getD, List.getElem?_drop, show k + (x - k) = x by omega]; rfl
          rw [e] at this
          exact ⟨by omega, this.2⟩
        have hpre2 : ∀ y, y < k → y < P.length → (P.getD y (0, 0)).1 < i + 1 := fun y hy hl => by have := hpre y hy hl; omega
        have HSO := hide (fun x f => rlF_some A m f i j x (P.drop k) hno)
        have HNO := hide (fun f => rlF_no A m f i j (P.drop k) hno)
        have HR3 := hide hri3
        have HR4 := hide hri4
        have HPR := hide hpre
        have HPR2 := hide hpre2
        have HTE := hide hTe
        have HTK := hide hTk
        have HGT := hide hgt
        have HEQ := hide heq
        generalize toF m (P.drop k) = T at *
        unfold pairC at CT
        clear hA ha hAT hpre hrow heq hbl hbW hno hpn hri hri3 hri4 hwh hpre2 hTe hTk hgt
        go_wp2_with fail
        refine (unhide CT _ ((unhide HBL).alloc (unhide HBL).size _)).mono ?_
        rintro e w2 ⟨rfl, hb2⟩
        have HB2 := hide (((unhide HBL).alloc (unhide HBL).size (Obj.cells #[Value.int .i64 ya.k, Value.int .i64 ya.sp, Value.string ya.n, Value.slice ya.qa ya.la ya.ca, Value.string ya.tx, Value.slice ya.qk ya.lk ya.ck] 44)).trans (hb2.mono (by simp; omega)))
        have HX2 := hide (((Below.refl wr.heap.size wr).alloc (Nat.le_refl _) (Obj.cells #[Value.int .i64 ya.k, Value.int .i64 ya.sp, Value.string ya.n, Value.slice ya.qa ya.la ya.ca, Value.string ya.tx, Value.slice ya.qk ya.lk ya.ck] 44)).trans (hb2.mono (by simp)))
        have K2 := hide ((Blk.new wr #[Value.int .i64 ya.k, Value.int .i64 ya.sp, Value.string ya.n, Value.slice ya.qa ya.la ya.ca, Value.string ya.tx, Value.slice ya.qk ya.lk ya.ck] 44).later hb2)
        have hz2 := (unhide HX2).size
        clear hb2 CT
        go_wp2
        obtain ⟨wo, hwo⟩ : ∃ wo, wo = wr := ⟨_, rfl⟩
        subst hwo
        go_loopw [42, 11] (fun xv tv wx => ∃ x tO : Nat, x ≤ P.length ∧ xv = .int .i64 (x : Int) ∧ tv = .int .i64 (tO : Int) ∧ tO = (if x ≤ k then m else T) ∧ Below w1.heap.size w1 wx ∧ Below wo.heap.size wo wx ∧ Blk wx wo.heap.size #[Value.int .i64 ya.k, Value.int .i64 ya.sp, Value.string ya.n, Value.slice ya.qa ya.la ya.ca, Value.string ya.tx, Value.slice ya.qk ya.lk ya.ck] 44) (fun xv _ _ => P.length - (intOf xv).toNat)
        case atStart => exact ⟨0, m, Nat.zero_le _, rfl, rfl, by rw [if_pos (Nat.zero_le _)], (unhide HB2).alloc (unhide HB2).size _, (unhide HX2).alloc (unhide HX2).size _, (unhide K2).alloc _⟩
        case round =>
          obtain ⟨x, tO, hx, rfl, rfl, hto, hbx, hbxr, hkx⟩ := hrel
          by_cases hxp : x < P.length
          · have hxi : (x : Int) < (P.length : Int) := by omega
            obtain ⟨gw, hgw, hcw⟩ := unhide HC (by omega)
            subst hgw
            have ew : (whP P).getD x p0 = (((P.getD x (0, 0)).1 : Int), ((P.getD x (0, 0)).2 : Int), true) := by
              unfold whP
              rw [List.getD, List.getD, List.getElem?_map, List.getElem?_eq_getElem hxp]
              rfl
            have hc3 := hcw x hxp
            rw [ew] at hc3
            have c0 := cell_later hbx hc3.1
            have c1 := cell_later hbx hc3.2.1
            have c2 := cell_later hbx hc3.2.2
            have q1 := unhide HPR x
            have q2 := unhide HGT x
            have q3 : x = k → T = (P.getD x (0, 0)).2 := fun e => by subst e; exact unhide HTK hxp
            generalize P.getD x (0, 0) = pt at *
            obtain ⟨pa, pb⟩ := pt
            dsimp only at *
            have HK := hide hkx
            have HX := hide hbx
            have HXR := hide hbxr
            have hzx := hbx.size
            have hzr := hbxr.size
            clear hcw ew hc3 hkx hbx hbxr
            by_cases hia : i < pa
            · have g1 : (i : Int) < (pa : Int) := by omega
              have hkx : k ≤ x := by apply Classical.byContradiction; intro hc; have := q1 (by omega) hxp; omega
              obtain ⟨q4, q5, q6⟩ := q2 hkx hxp
              by_cases hbt : pb < tO
              · have g2 : (pb : Int) < (tO : Int) := by omega
                have hte : pb = T := by
                  by_cases e : x = k
                  · exact (q3 e).symm
                  · rw [if_neg (by omega)] at hto; omega
                clear q1 q2 q3
                go_wp2
                go_roundw
                case rel => exact ⟨x + 1, T, by omega, by go_num, rfl, by rw [if_neg (by omega)], (unhide HX).alloc hzx _, (unhide HXR).alloc hzr _, (unhide HK).alloc _⟩
                case measure => simp [intOf]; omega
              · have g2 : ¬ (pb : Int) < (tO : Int) := by omega
                have hte : tO = T := by
                  by_cases e : x = k
                  · rw [if_pos (by omega)] at hto; omega
                  · rw [if_neg (by omega)] at hto; exact hto
                clear q1 q2 q3
                go_wp2
                go_roundw
                case rel => exact ⟨x + 1, tO, by omega, by go_num, rfl, by rw [if_neg (by omega)]; exact hte, (unhide HX).alloc hzx _, (unhide HXR).alloc hzr _, (unhide HK).alloc _⟩
                case measure => simp [intOf]; omega
            · have g1 : ¬ (i : Int) < (pa : Int) := by omega
              have hxk : x < k := by apply Classical.byContradiction; intro hc; have := (q2 (by omega) hxp).1; omega
              rw [if_pos (by omega)] at hto
              clear q1 q2 q3
              go_wp2
              go_roundw
              case rel => exact ⟨x + 1, tO, by omega, by go_num, rfl, by rw [if_pos (by omega)]; exact hto, (unhide HX).alloc hzx _, (unhide HXR).alloc hzr _, (unhide HK).alloc _⟩
              case measure => simp [intOf]; omega
          · have hxi : ¬ (x : Int) < (P.length : Int) := by omega
            have hte : tO = T := by
              by_cases e : x ≤ k
              · rw [if_pos e] at hto; rw [hto]; exact (unhide HTE (by omega)).symm
              · rw [if_neg e] at hto; exact hto
            subst hte
            have HK0 := hide hkx
            have HX0 := hide hbx
            have HXR0 := hide hbxr
            have HROWX := hbx
            clear hkx hbx hbxr hto HB2 HX2 K2 HBL HROWX
            go_wp2
            obtain ⟨wx, hwx⟩ : ∃ wx, wx = wr := ⟨_, rfl⟩
            subst hwx
            go_loopw [14, 6, 7] (fun yv uv jv wz => ∃ y : Nat, j ≤ y ∧ (y ≤ tO ∨ y = j) ∧ yv = .int .i64 (y : Int) ∧ uv = .slice uq un uc ∧ jv = .int .i64 (j : Int) ∧ (∀ z, j ≤ z → z < y → A i z = false) ∧ Below w1.heap.size w1 wz ∧ Below wo.heap.size wo wz ∧ Blk wz wo.heap.size #[Value.int .i64 ya.k, Value.int .i64 ya.sp, Value.string ya.n, Value.slice ya.qa ya.la ya.ca, Value.string ya.tx, Value.slice ya.qk ya.lk ya.ck] 44) (fun yv _ _ _ => tO - (intOf yv).toNat)
            case atStart => exact ⟨j, Nat.le_refl _, Or.inr rfl, rfl, rfl, rfl, fun z h1 h2 => by omega, unhide HX0, unhide HXR0, unhide HK0⟩
            case round =>
              obtain ⟨y, hjy, hyt, rfl, rfl, rfl, hny, hbz, hbzo, hkz⟩ := hrel
              by_cases hyl : y < tO
              · have hyi : (y : Int) < (tO : Int) := by omega
                have hym : y < m := by omega
                have hymi : (y : Int) < (m : Int) := by omega
                have hymn : ¬ m ≤ y := by omega
                obtain ⟨gb, ob, hqb, hb⟩ := unhide H2 (by omega)
                subst hqb
                have hbWz : Below w.heap.size w wr := (unhide HB1).trans (hbz.mono (unhide HB1).size)
                have hB : ∀ j, j < 6 → wr.cell? ⟨gb, ob + y * 6 + j, none⟩ = (vg y).cs[j]? := fun j hj => by
                  have h := hb y hym j hj
                  cases hv : (vg y).cs[j]? with
                  | none => exact absurd hv (by rw [List.getElem?_eq_none_iff]; unfold NdC.cs; simp; omega)
                  | some v => rw [hv] at h; exact cell_later hbWz h
                have b0 := hB 0 (by decide)
                have b1 := hB 1 (by decide)
                have b2 := hB 2 (by decide)
                have b3 := hB 3 (by decide)
                have b4 := hB 4 (by decide)
                have b5 := hB 5 (by decide)
                have CE2 := hide (unhide CE y hym)
                obtain ⟨bb, hbb⟩ : ∃ bb, A i y = bb := ⟨_, rfl⟩
                rw [hbb] at CE2
                have HBB := hide hbb
                have HNY := hide hny
                generalize vg y = yb at *
                simp only [NdC.cs, List.getElem?_cons_zero, List.getElem?_cons_succ, Nat.add_zero] at b0 b1 b2 b3 b4 b5
                unfold NdC.val at CE2
                have hS0 : ClS w1 wo gb (ob + y * 6) wo.heap.size yb ya wr := ⟨b0, b1, b2, b3, b4, b5, hkz.cell 0, hkz.cell 1, hkz.cell 2, hkz.cell 3, hkz.cell 4, hkz.cell 5, hbz, hbzo, hkz⟩
                have hSa : ClS w1 wo gb (ob + y * 6) wo.heap.size yb ya wr.drew := hS0.below (Below.drew (Below.refl _ _))
                clear hB hb b0 b1 b2 b3 b4 b5 hbz hbzo hkz hny hbb hS0 hbWz HX0 HXR0 HK0 a0 a1 a2 a3 a4 a5
                go_wp2_with fail
                refine wp_region_held (S := ClS w1 wo gb (ob + y * 6) wo.heap.size yb ya) (by kernel_rfl) ?_
                change wpAnyH _ _ _ _ _ _ _ _ (World.drew _)
                refine wpAnyH_take (i := 0) (oi := { dst := some 65, op := _, type := _, pos := _, after := _, guard := _ }) (v := ?va0) rfl (by kernel_rfl) (by kernel_rfl) (by kernel_rfl) (fun _ _ _ h => h) (Or.inl ⟨by kernel_rfl, ?ha0⟩) hSa ?ra0
                case ha0 => first | (intro w hSw; obtain ⟨s0, s1, s2, s3, s4, s5, t0, t1, t2, t3, t4, t5, _⟩ := hSw; go_simp; done) | (intro w hSw; obtain ⟨s0, s1, s2, s3, s4, s5, t0, t1, t2, t3, t4, t5, _⟩ := hSw; go_simp; with_reducible rfl)
                try simp only [Act.put, List.setIfInBounds_toArray, List.set_cons_zero, List.set_cons_succ]
                refine wpAnyH_take (i := 1) (oi := { dst := some 66, op := _, type := _, pos := _, after := _, guard := _ }) (v := ?va1) rfl (by kernel_rfl) (by kernel_rfl) (by kernel_rfl) (fun _ _ _ h => h) (Or.inl ⟨by kernel_rfl, ?ha1⟩) hSa ?ra1
                case ha1 => first | (intro w hSw; obtain ⟨s0, s1, s2, s3, s4, s5, t0, t1, t2, t3, t4, t5, _⟩ := hSw; go_simp; done) | (intro w hSw; obtain ⟨s0, s1, s2, s3, s4, s5, t0, t1, t2, t3, t4, t5, _⟩ := hSw; go_simp; with_reducible rfl)
                try simp only [Act.put, List.setIfInBounds_toArray, List.set_cons_zero, List.set_cons_succ]
                refine wpAnyH_take (i := 2) (oi := { dst := some 67, op := _, type := _, pos := _, after := _, guard := _ }) (v := ?va2) rfl (by kernel_rfl) (by kernel_rfl) (by kernel_rfl) (fun _ _ _ h => h) (Or.inl ⟨by kernel_rfl, ?ha2⟩) hSa ?ra2
                case ha2 => first | (intro w hSw; obtain ⟨s0, s1, s2, s3, s4, s5, t0, t1, t2, t3, t4, t5, _⟩ := hSw; go_simp; done) | (intro w hSw; obtain ⟨s0, s1, s2, s3, s4, s5, t0, t1, t2, t3, t4, t5, _⟩ := hSw; go_simp; with_reducible rfl)
                try simp only [Act.put, List.setIfInBounds_toArray, List.set_cons_zero, List.set_cons_succ]
                refine wpAnyH_take (i := 3) (oi := { dst := some 68, op := _, type := _, pos := _, after := _, guard := _ }) (v := ?va3) rfl (by kernel_rfl) (by kernel_rfl) (by kernel_rfl) (fun _ _ _ h => h) (Or.inl ⟨by kernel_rfl, ?ha3⟩) hSa ?ra3
                case ha3 => first | (intro w hSw; obtain ⟨s0, s1, s2, s3, s4, s5, t0, t1, t2, t3, t4, t5, _⟩ := hSw; go_simp; done) | (intro w hSw; obtain ⟨s0, s1, s2, s3, s4, s5, t0, t1, t2, t3, t4, t5, _⟩ := hSw; go_simp; with_reducible rfl)
                try simp only [Act.put, List.setIfInBounds_toArray, List.set_cons_zero, List.set_cons_succ]
                refine wpAnyH_take (i := 4) (oi := { dst := some 69, op := _, type := _, pos := _, after := _, guard := _ }) (v := ?va4) rfl (by kernel_rfl) (by kernel_rfl) (by kernel_rfl) (fun _ _ _ h => h) (Or.inl ⟨by kernel_rfl, ?ha4⟩) hSa ?ra4
                case ha4 => first | (intro w hSw; obtain ⟨s0, s1, s2, s3, s4, s5, t0, t1, t2, t3, t4, t5, _⟩ := hSw; go_simp; done) | (intro w hSw; obtain ⟨s0, s1, s2, s3, s4, s5, t0, t1, t2, t3, t4, t5, _⟩ := hSw; go_simp; with_reducible rfl)
                try simp only [Act.put, List.setIfInBounds_toArray, List.set_cons_zero, List.set_cons_succ]
                refine wpAnyH_ready (rs := [5]) (by kernel_rfl) (by simp) ?_
                refine AllReadyH.cons rfl (fun K hK => ?_) AllReadyH.nil
                go_simp
                refine (unhide CE2 _).mono ?_
                rintro e5 W2 ⟨rfl, hb5⟩
                have hSa' := hSa.below hb5
                clear hb5
                refine hK _ _ hSa' (fun _ => ?_)
                clear hK K hSa
                have hSa := hSa'
                clear hSa'
                refine wpAnyH_done (by kernel_rfl) ?_ _
                have HZ1 := hide hSa.bel
                have HZ2 := hide hSa.bo
                have HZ3 := hide hSa.blk
                have HRW := hide (ownsRow_below (unhide HROW) hSa.bo)
                have hz := hSa.bel.size
                clear hSa CE2
                cases bb with
                | false =>
                  have HNY2 : Hid (∀ z, j ≤ z → z < y + 1 → A i z = false) := hide (fun z h1 h2 => by
                    by_cases e : z = y
                    · rw [e]; exact unhide HBB
                    · exact unhide HNY z h1 (by omega))
                  go_wp2
                  go_roundw
                  case rel => exact ⟨y + 1, by omega, Or.inl (by omega), by go_num, rfl, rfl, unhide HNY2, unhide HZ1, unhide HZ2, unhide HZ3⟩
                  case measure => simp [intOf]; omega
                | true =>
                  have HEQ2 : Hid (Lm ++ ([((i : Int), (y : Int), false)] ++ rlF A m (n - (i + 1)) (i + 1) (y + 1) (P.drop k)) = FL) := hide (by
                    have h1 := unhide HEQ
                    rw [show n - i = (n - (i + 1)) + 1 by omega, unhide HSO y _ (fdF_some _ _ _ _ hjy (by omega) (unhide HNY) (unhide HBB))] at h1
                    exact h1)
                  have HR5 := hide (unhide HR4 y hyl)
                  go_wp2_with (at_builtin; refine wpList_append_own_at _ rfl _ _ 28 rfl w1.heap.size 63 i0 (.agg #[.int .i64 0, .int .i64 0, .bool false]) 3 24 Tryd.underlying28 hi0 hi1 hi2 hi3 rfl (by decide) (.slice uq un uc) _ _ rfl ((unhide HRW).alloc _) ⟨W2.heap.size, 0, none⟩ 1 1 [.int .i64 (i : Int), .int .i64 (y : Int), .bool false] rfl rfl (cell_three_new _ _ _ _ _) (by simp [Value.oneCell']) (by simp only [maxLen]; omega) (by omega) (by simp; omega) ?_)
                  intro u' w3 hown hgr _ _
                  have HO : Hid (RPairsV w3 w1.heap.size u' (Lm ++ [((i : Int), (y : Int), false)])) := hide (by unfold RPairsV; rw [List.length_append, flatP_app]; exact hown)
                  have HB3 : Hid (Below w1.heap.size w1 w3) := hide ((((unhide HZ1).alloc hz _).grown hgr (by simp; omega) (fun q hq => ((unhide HRW).lt q hq).1)))
                  clear hown hgr
                  go_wp2
                  go_roundw
                  case rel => exact ⟨i + 1, y + 1, k, _, by omega, by go_num, by go_num, by omega, unhide HPR2, unhide HR5, unhide HO, by rw [List.append_assoc]; exact unhide HEQ2, unhide HB3⟩
                  case measure => simp [intOf]; omega
              · have hyi : ¬ (y : Int) < (tO : Int) := by omega
                have HEQ3 : Hid (Lm ++ rlF A m (n - (i + 1)) (i + 1) j (P.drop k) = FL) := hide (by
                  have h1 := unhide HEQ
                  rw [show n - i = (n - (i + 1)) + 1 by omega, unhide HNO _ (fdF_none _ _ _ (fun z h1 h2 => hny z h1 (by omega)))] at h1
                  exact h1)
                have HRW := hide (ownsRow_below (unhide HROW) hbzo)
                have HZ1 := hide hbz
                clear hbz hbzo hkz hny HX0 HXR0 HK0 a0 a1 a2 a3 a4 a5
                go_wp2
                go_roundw
                case rel => exact ⟨i + 1, j, k, Lm, by omega, by go_num, rfl, hj, unhide HPR2, unhide HR3, unhide HRW, unhide HEQ3, unhide HZ1⟩
                case measure => simp [intOf]; omega
    · have hpi : ¬ (i : Int) < (n : Int) := by omega
      have he : n - i = 0 := by omega
      rw [he] at heq
      have hL : Lm = FL := by rw [← heq]; simp [rlF]
      subst hL
      have HO := hide (owns_mono hrow (unhide HB1).size)
      have HBW := hide ((unhide HB1).trans (hbl.mono (unhide HB1).size))
      clear hrow hbl heq
      go_wp2
      go_ret
      exact ⟨_, rfl, unhide HO, unhide HBW⟩
end Go.Proofs.YtbabmkilbbbmoaaDoor
