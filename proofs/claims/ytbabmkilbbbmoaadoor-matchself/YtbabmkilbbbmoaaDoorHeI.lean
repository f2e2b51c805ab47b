/-
  What match's 'newPage' does (made by mk_heh.py).
-/
import Derived.Test.YtbabmkilbbbmoaaDoorMgBJ
import Derived.Deep.RegionHeld
import Derived.Deep.DeepCutAuto
namespace Go.Proofs.YtbabmkilbbbmoaaDoor
open Go.RowKit Go.Maps
set_option linter.unusedVariables false
set_option linter.unusedSimpArgs false

set_option maxHeartbeats 8000000 in
set_option maxRecDepth 100000 in
theorem newPage_any (f : Forest) (q : Option Addr) (cap b : Nat) (D0 : List (List UInt8)) (w : World) (hf : Fo q f w) (hcap : f.len ≤ cap) (hs : SmF f) (hr : RngF f) (hm : NumM w b D0) (ht : TabP w) (hc : f.count ≤ 900) (hD : D0.length + 3 * f.count ≤ 100000) :
    Calls Tryd.prog 36 #[.slice q f.len cap, .map (some b)] w fun e w' => ∃ pb D ks ls, e = .returned (.pointer (some ⟨pb, 0, none⟩)) ∧ NumM w' b D ∧ D0 <+: D ∧ D.length ≤ D0.length + 3 * f.count ∧ PgF D f 0 ks ls ∧ PgC pb f ks ls w' ∧ w.grownBy w' (some b) := by
  have CI := hide (items_any f q cap w hf hcap (by omega))
  have hk1 := run_make_row' (P := Tryd.prog) 38 3 (.int .i64 0) 8 Tryd.underlying38 (by kernel_rfl) rfl .i64 .i64 f.count (by omega) (by omega)
  have hcc : (f.count : Int) ≤ 900 := by omega
  have HF := hide hf
  have HM := hide hm
  have HT := hide ht
  have HS := hide hs
  have HRN := hide hr
  have hb0 := hm.lt
  clear hf hm ht hs hr
  go_enter Tryd.func36, Tryd.ntmps36
  go_wp2_with fail
  refine (unhide CI).mono ?_
  rintro e w1 ⟨qi, ci, rfl, hits, hb1⟩
  have IT1 := hide (itC_of hits)
  have HB1 := hide hb1
  have hz1 := hb1.size
  clear hits hb1 CI
  go_upto_region 2 with fail
  go_cut [6] from 11 to 19 (fun p wx => ∃ pb gk gl, p = .pointer (some ⟨pb, 0, none⟩) ∧ Blk wx pb #[.slice qi f.count ci, .slice (some ⟨gk, 0, none⟩) f.count f.count, .slice (some ⟨gl, 0, none⟩) f.count f.count] 79 ∧ wx.rowIs gk 3 f.count (fun _ => .int .i64 0) ∧ wx.rowIs gl 3 f.count (fun _ => .int .i64 0) ∧ w1.heap.size ≤ pb ∧ w1.heap.size ≤ gk ∧ w1.heap.size ≤ gl ∧ gk ≠ gl ∧ gk ≠ pb ∧ gl ≠ pb ∧ Below w1.heap.size w1 wx)
  case first =>
    go_region
    all_goals (go_wp2_with fail; go_meet)
    all_goals refine ⟨_, _, _, rfl, blk_drewE (blk_at (by simp)), ?_, ?_, by omega, by omega, by omega, by omega, by omega, by omega, ((((Below.refl _ _).alloc (Nat.le_refl _) _).alloc (by simp) _).alloc (by simp; omega) _).drew⟩
    all_goals first | exact ((((made_at rfl).alloc _).alloc _).drew) | exact (((made_at (by simp)).alloc _).drew)
  case rest =>
    obtain ⟨pb, gk, gl, rfl, hkb, hrk, hrl, g1, g2, g3, g4, g5, g6, hbx⟩ := hcut
    have HKB := hide hkb
    have HRK := hide hrk
    have HRL := hide hrl
    have HB2 := hide (tr2 (unhide HB1) hbx)
    have IT2 := hide ((unhide IT1).le (below_cells hbx))
    have CO := hide (inOrder_any f q qi cap ci w wc (unhide HF) (unhide HB2) (unhide IT2) hc)
    have hzx := hbx.size
    have hcx : w1.heap.size ≤ wc.heap.size := hzx
    have hgi : Hid (∀ g o, qi = some ⟨g, o, none⟩ → 0 < f.count → g < w1.heap.size) := hide (fun g o e h0 => by
      obtain ⟨g', e', hcs⟩ := unhide IT1 h0
      obtain ⟨y, hy⟩ := itm_get f 0 h0
      rw [e] at e'
      cases e'
      exact World.block_lt_of_cell? w1 _ (hcs 0 y hy).1)
    clear hkb hrk hrl hbx
    go_wp2_with fail
    refine (unhide CO).mono ?_
    rintro e w3 ⟨qp, cp, rfl, hptc, hb3⟩
    have hkb3 := (unhide HKB).later hb3
    have HK3 := hide hkb3
    have HRK3 := hide (rowIs_later (unhide HRK) hb3)
    have HRL3 := hide (rowIs_later (unhide HRL) hb3)
    have HB3 := hide (tr2 (unhide HB2) hb3)
    have IT3 := hide ((unhide IT2).le (below_cells hb3))
    have hplt := (unhide HKB).lt
    have hklt := (unhide HRK).lt
    have hllt := (unhide HRL).lt
    have HPT := hide hptc
    have HBX := hide hb3
    clear hb3 hptc CO HKB HRK HRL HB1 IT1 IT2 hkb3
    by_cases h0 : f.count = 0
    · have hneg : ¬ (0 : Int) ≤ (f.count : Int) - 1 := by omega
      have HFIN : Hid (∃ pb' D ks ls, Ending.returned (Value.pointer (some ⟨pb, 0, none⟩)) = .returned (.pointer (some ⟨pb', 0, none⟩)) ∧ NumM w3 b D ∧ D0 <+: D ∧ D.length ≤ D0.length + 3 * f.count ∧ PgF D f 0 ks ls ∧ PgC pb' f ks ls w3 ∧ w.grownBy w3 (some b)) := hide ⟨pb, D0, fun _ => 0, fun _ => 0, rfl, (unhide HM).later (unhide HB3), List.prefix_refl _, by omega, fun x _ hx => by omega, ⟨qi, ci, _, _, _, _, (unhide HK3).cell 0, (unhide HK3).cell 1, (unhide HK3).cell 2, unhide IT3, fun h => by omega, fun h => by omega⟩, below_grownG (unhide HB3)⟩
      go_wp2
      refine wp_loop_rounds 1 ?_
      rw [rounds_succ]; go_wp2
      go_ret
      exact unhide HFIN
    · obtain ⟨gn, ps, rfl, hps, hpc⟩ := unhide HPT (by omega)
      have hpt : PtS f w f.count ps := hps
      have hkn : gn ≠ gk := fun e => by
        have c1 := hpc 0 (by omega)
        obtain ⟨g, o, e1, _⟩ := hps 0 (by omega)
        have c2 := (unhide HRK3).cell (show 0 < f.count by omega)
        rw [e, c2, e1] at c1
        cases c1
      have hln : gn ≠ gl := fun e => by
        have c1 := hpc 0 (by omega)
        obtain ⟨g, o, e1, _⟩ := hps 0 (by omega)
        have c2 := (unhide HRL3).cell (show 0 < f.count by omega)
        rw [e, c2, e1] at c1
        cases c1
      have HA : Hid (Apt w b pb gk gl gn qi f.count) := hide ⟨hb0, by omega, by omega, by omega, g4, g5, g6, hkn, hln, fun g o e hh => by have := unhide hgi g o e hh; omega⟩
      have HST : Hid (SnM f w b pb gk gl gn ci qi ps D0 (fun _ => 0) (fun _ => 0) w3) := hide ⟨(unhide HM).later (unhide HB3), unhide HK3, unhide HRK3, unhide HRL3, unhide IT3, hpc, below_grownG (unhide HB3)⟩
      have HPS := hide hps
      have HPA : Hid (∀ W, w.grownBy W (some b) → CellLe w W) := hide (fun W hW => grown_le (unhide HM) hW)
      clear hps hpc hkn hln HPT HRK3 HRL3 IT3 HK3 HB3 hgi hpt
      clear HBX hplt hklt hllt
      go_wp2
      go_loopw [8] (fun z wr => ∃ (i : Nat) (D : List (List UInt8)) (ks ls : Nat → Int), z = .int .i64 ((i : Int) - 1) ∧ i ≤ f.count ∧ SnM f w b pb gk gl gn ci qi ps D ks ls wr ∧ D0 <+: D ∧ D.length + 3 * i ≤ D0.length + 3 * f.count ∧ PgF D f i ks ls ∧ (∀ x, x < f.count → I64 (ks x))) (fun z _ => (intOf z + 1).toNat)
      case atStart => exact ⟨f.count, D0, fun _ => 0, fun _ => 0, rfl, Nat.le_refl _, unhide HST, List.prefix_refl _, Nat.le_refl _, fun x h1 h2 => by omega, fun x _ => (show I64 0 from ⟨by decide, by decide⟩)⟩
      case round =>
        clear HST
        obtain ⟨i1, D, ks, ls, rfl, hi1, hst, hpre, hlen, hpg, h64⟩ := hrel
        by_cases hi0 : i1 = 0
        · subst hi0
          have hneg : ¬ (0 : Int) ≤ ((0 : Nat) : Int) - 1 := by omega
          have HFIN : Hid (NumM wr b D ∧ D0 <+: D ∧ D.length ≤ D0.length + 3 * f.count ∧ PgF D f 0 ks ls ∧ PgC pb f ks ls wr ∧ w.grownBy wr (some b)) := hide ⟨hst.nm, hpre, by omega, hpg, ⟨qi, ci, _, _, _, _, hst.kb.cell 0, hst.kb.cell 1, hst.kb.cell 2, hst.it, fun _ => ⟨gk, rfl, fun x hx => hst.rk.cell hx⟩, fun _ => ⟨gl, rfl, fun x hx => hst.rl.cell hx⟩⟩, hst.gr⟩
          clear hst hpre hlen hpg h64
          go_wp2
          go_ret
          exact ⟨pb, rfl, D, (unhide HFIN).1, (unhide HFIN).2.1, (unhide HFIN).2.2.1, ks, ls, (unhide HFIN).2.2.2.1, (unhide HFIN).2.2.2.2.1, (unhide HFIN).2.2.2.2.2⟩
        · obtain ⟨i, rfl⟩ : ∃ i, i1 = i + 1 := ⟨i1 - 1, by omega⟩
          rw [show (((i + 1 : Nat) : Int)) - 1 = (i : Int) by omega]
          have hic : (i : Int) < (f.count : Int) := by omega
          have hi9 : (i : Int) ≤ 900 := by omega
          have hi00 : (0 : Int) ≤ (i : Int) := by omega
          obtain ⟨k, sp, n, ats, tx, kids, r, hat⟩ := atP_some f i (by omega)
          obtain ⟨gp, op, hpp, hly⟩ := unhide HPS i (by omega)
          rw [hat] at hly
          obtain ⟨⟨c0, c1, c2, ⟨qa, ca, c3, hsl⟩, c4, ⟨qk, ck, c5, hck, hfo⟩⟩, _⟩ := hly
          have hle := unhide HPA wr hst.gr
          have hsm := smF_at f i (unhide HS)
          have hrn := rngF_at f i (unhide HRN)
          rw [hat] at hsm hrn
          have hsm1 : SmF (.cons k sp n ats tx kids .nil) := ⟨hsm.1, hsm.2.1, trivial⟩
          have hrn1 : RngF (.cons k sp n ats tx kids .nil) := ⟨hrn.1, trivial⟩
          have hki : KidOf f (i : Int) kids (i + 1) := .inr ⟨i, k, sp, n, ats, tx, r, rfl, by omega, hat, rfl⟩
          obtain ⟨D1, hD1⟩ : ∃ x, addT D (ktL k sp n ats tx) = x := ⟨_, rfl⟩
          obtain ⟨s, hsx⟩ : ∃ x, itoB (numT D1 (ktL k sp n ats tx)) ++ sepZ ((nums kids (i + 1)).map ks) = x := ⟨_, rfl⟩
          obtain ⟨D2, hD2⟩ : ∃ x, addT D1 s = x := ⟨_, rfl⟩
          obtain ⟨D3, hD3⟩ : ∃ x, addT D2 (labelB k sp n) = x := ⟨_, rfl⟩
          obtain ⟨hpg3, hpre3, hlen3⟩ := pgF_step hpg hat hD1 hsx hD2 hD3
          have l1 := addT_len D (ktL k sp n ats tx)
          have l2 := addT_len D1 s
          rw [hD1] at l1
          rw [hD2] at l2
          have hslen : s.length ≤ 20000 := by
            have hnl : (nums kids (i + 1)).length ≤ 900 := by rw [nums_len]; have h1 := kids.len_count; have h2 := hki.lies.1; omega
            have := txJ_len (numT D1 (ktL k sp n ats tx)) ks (nums kids (i + 1)) (nums kids (i + 1)).length (numT_i64 _ (by omega)) (fun j hj => h64 _ (nums_at f kids (i + 1) j hki.lies (by rw [nums_len] at hj; exact hj)).1) hnl
            unfold txJ at this
            rw [List.take_of_length_le (Nat.le_refl _), hsx] at this
            exact this
          have hssz : (bs s).size ≤ 9223372036854775807 := by
            simp [bs, ByteArray.size]; omega
          have hllen : (bs (labelB k sp n)).size ≤ 9223372036854775807 := by
            have n1 := numB_lenK hrn.1.1
            have n2 := numB_lenK hrn.1.2.1
            have n3 := textB_lenK (s := n) (by have := hsm.1.2.1; omega)
            simp [bs, ByteArray.size, labelB]; omega
          have CS : Hid (∀ W, SnM f w b pb gk gl gn ci qi ps D ks ls W → Calls Tryd.prog 70 #[.pointer (some ⟨pb, 0, none⟩), .int .i64 (i : Int), .agg #[.int .i64 k, .int .i64 sp, .string n, .slice qa ats.length ca, .string tx, .slice qk kids.len ck], .map (some b)] W fun e w' => e = .returned (.string (bs s)) ∧ NumM w' b D1 ∧ W.grownBy w' (some b)) := hide (fun W hW => by
            have hle2 := unhide HPA W hW.gr
            have X := shortKey_any f pb i b ci f.count qi (some ⟨gk, 0, none⟩) ks D k sp n ats tx kids (ndV k sp n qa ats.length ca tx qk kids.len ck) W (hW.kb.cell 0) (hW.kb.cell 1) hW.it (fun _ => ⟨gk, rfl, fun x hx => hW.rk.cell hx⟩) hki hW.nm ((unhide HT).grown (unhide HM) hW.gr) ⟨qa, ca, qk, ck, rfl, hsl.le hle2, Fo.le hle2 hfo, hck⟩ hsm1 hrn1 h64 (by omega) hc
            rw [hD1, hsx] at X
            exact X)
          have CN : Hid (∀ W, NumM W b D1 → Calls Tryd.prog 62 #[.map (some b), .string (bs s)] W fun e w' => e = .returned (.int .i64 (numT D2 s)) ∧ NumM w' b D2 ∧ W.grownBy w' (some b)) := hide (fun W hW => by
            have X := nof_any b D1 (bs s) W hW hssz (by omega)
            rw [bs_toList, hD2] at X
            exact X)
          have CL : Hid (∀ W, w.grownBy W (some b) → Calls Tryd.prog 32 #[.agg #[.int .i64 k, .int .i64 sp, .string n, .slice qa ats.length ca, .string tx, .slice qk kids.len ck]] W fun e w' => e = .returned (.string (bs (labelB k sp n))) ∧ Below W.heap.size W w') := hide (fun W hW => by
            have ht' := (unhide HT).grown (unhide HM) hW
            have h5 := hsm.1.2.1
            exact klab_any k sp n _ _ _ W (itoa_all ht' hrn.1.1) (itoa_all ht' hrn.1.2.1) (itoa_all ht' (i64_nat (by omega))) (by omega))
          have CM : Hid (∀ W, NumM W b D2 → Calls Tryd.prog 62 #[.map (some b), .string (bs (labelB k sp n))] W fun e w' => e = .returned (.int .i64 (numT D3 (labelB k sp n))) ∧ NumM w' b D3 ∧ W.grownBy w' (some b)) := hide (fun W hW => by
            have X := nof_any b D2 (bs (labelB k sp n)) W hW hllen (by omega)
            rw [bs_toList, hD3] at X
            exact X)
          have h64b : ∀ x, x < f.count → I64 (updI ks i (numT D2 s) x) := fun x hx => by
            unfold updI
            split
            · exact numT_i64 _ (by omega)
            · exact h64 x hx
          have HEND := hide (And.intro (hpre.trans hpre3) (And.intro (show D3.length + 3 * i ≤ D0.length + 3 * f.count by omega) (And.intro hpg3 h64b)))
          have hgpk : gp < w.heap.size := World.block_lt_of_cell? w _ c0
          have hgk0 := (unhide HA).k0
          have hgl0 := (unhide HA).l0
          have HNE : Hid (gp ≠ gk ∧ gp ≠ gl) := hide ⟨by omega, by omega⟩
          have HK1 : Hid (∀ W, SnM f w b pb gk gl gn ci qi ps D ks ls W → KpH pb 1 gk gn i gp op f.count k sp n qa ats.length ca tx qk kids.len ck W) := hide (fun W hW => by
            have h := unhide HPA W hW.gr
            exact ⟨hW.kb.cell 1, by rw [hW.pt i (by omega), hpp], h _ _ _ c0, h _ _ _ c1, h _ _ _ c2, h _ _ _ c3, h _ _ _ c4, h _ _ _ c5⟩)
          have HK2 : Hid (∀ W, SnM f w b pb gk gl gn ci qi ps D2 (updI ks i (numT D2 s)) ls W → KpH pb 2 gl gn i gp op f.count k sp n qa ats.length ca tx qk kids.len ck W) := hide (fun W hW => by
            have h := unhide HPA W hW.gr
            exact ⟨hW.kb.cell 2, by rw [hW.pt i (by omega), hpp], h _ _ _ c0, h _ _ _ c1, h _ _ _ c2, h _ _ _ c3, h _ _ _ c4, h _ _ _ c5⟩)
          have HST := hide hst
          generalize numT D3 (labelB k sp n) = zl at *
          generalize numT D2 s = zk at *
          generalize bs (labelB k sp n) = lb at *
          generalize bs s = sb at *
          clear hst hpre hlen hpg h64 hat c0 c1 c2 c3 c4 c5 hsl hfo hle hsm hrn hsm1 hrn1 hki hD1 hsx hD2 hD3 hpg3 hpre3 hlen3 l1 l2 hslen hssz hllen h64b hpp hck
          generalize ats.length = al at *
          generalize kids.len = kl at *
          go_upto_region 7 with fail
          go_cut [] from 30 to 47 (fun wx => SnM f w b pb gk gl gn ci qi ps D2 (updI ks i zk) ls wx)
          case first =>
            have HS1 := hide ((unhide HST).drew (unhide HA))
            have hSa := unhide HK1 _ (unhide HS1)
            refine wp_region_held (S := KpH pb 1 gk gn i gp op f.count k sp n qa al ca tx qk kl ck) (by kernel_rfl) ?_
            change wpAnyH _ _ _ _ _ _ _ _ (World.drew _)
            refine wpAnyH_take (i := 0) (oi := { dst := some 30, op := _, type := _, pos := _, after := _, guard := _ }) (v := ?va0_1) rfl (by kernel_rfl) (by kernel_rfl) (by kernel_rfl) (fun _ _ _ h => h) (Or.inl ⟨by kernel_rfl, ?ha0_1⟩) hSa ?ra0_1
            case ha0_1 => first | (intro w hSw; obtain ⟨s0, s1, s2, s3, s4, s5, s6, s7⟩ := hSw; go_simp; done) | (intro w hSw; obtain ⟨s0, s1, s2, s3, s4, s5, s6, s7⟩ := hSw; go_simp; with_reducible rfl)
            try simp only [Act.put, List.setIfInBounds_toArray, List.set_cons_zero, List.set_cons_succ]
            refine wpAnyH_take (i := 1) (oi := { dst := some 31, op := _, type := _, pos := _, after := _, guard := _ }) (v := ?va1_2) rfl (by kernel_rfl) (by kernel_rfl) (by kernel_rfl) (fun _ _ _ h => h) (Or.inl ⟨by kernel_rfl, ?ha1_2⟩) hSa ?ra1_2
            case ha1_2 => first | (intro w hSw; obtain ⟨s0, s1, s2, s3, s4, s5, s6, s7⟩ := hSw; go_simp; done) | (intro w hSw; obtain ⟨s0, s1, s2, s3, s4, s5, s6, s7⟩ := hSw; go_simp; with_reducible rfl)
            try simp only [Act.put, List.setIfInBounds_toArray, List.set_cons_zero, List.set_cons_succ]
            refine wpAnyH_take (i := 2) (oi := { dst := some 32, op := _, type := _, pos := _, after := _, guard := _ }) (v := ?va2_3) rfl (by kernel_rfl) (by kernel_rfl) (by kernel_rfl) (fun _ _ _ h => h) (Or.inl ⟨by kernel_rfl, ?ha2_3⟩) hSa ?ra2_3
            case ha2_3 => first | (intro w hSw; obtain ⟨s0, s1, s2, s3, s4, s5, s6, s7⟩ := hSw; go_simp; done) | (intro w hSw; obtain ⟨s0, s1, s2, s3, s4, s5, s6, s7⟩ := hSw; go_simp; with_reducible rfl)
            try simp only [Act.put, List.setIfInBounds_toArray, List.set_cons_zero, List.set_cons_succ]
            refine wpAnyH_take (i := 3) (oi := { dst := some 33, op := _, type := _, pos := _, after := _, guard := _ }) (v := ?va3_4) rfl (by kernel_rfl) (by kernel_rfl) (by kernel_rfl) (fun _ _ _ h => h) (Or.inl ⟨by kernel_rfl, ?ha3_4⟩) hSa ?ra3_4
            case ha3_4 => first | (intro w hSw; obtain ⟨s0, s1, s2, s3, s4, s5, s6, s7⟩ := hSw; go_simp; done) | (intro w hSw; obtain ⟨s0, s1, s2, s3, s4, s5, s6, s7⟩ := hSw; go_simp; with_reducible rfl)
            try simp only [Act.put, List.setIfInBounds_toArray, List.set_cons_zero, List.set_cons_succ]
            refine wpAnyH_take (i := 4) (oi := { dst := some 34, op := _, type := _, pos := _, after := _, guard := _ }) (v := ?va4_5) rfl (by kernel_rfl) (by kernel_rfl) (by kernel_rfl) (fun _ _ _ h => h) (Or.inl ⟨by kernel_rfl, ?ha4_5⟩) hSa ?ra4_5
            case ha4_5 => first | (intro w hSw; obtain ⟨s0, s1, s2, s3, s4, s5, s6, s7⟩ := hSw; go_simp; done) | (intro w hSw; obtain ⟨s0, s1, s2, s3, s4, s5, s6, s7⟩ := hSw; go_simp; with_reducible rfl)
            try simp only [Act.put, List.setIfInBounds_toArray, List.set_cons_zero, List.set_cons_succ]
            refine wpAnyH_take (i := 5) (oi := { dst := some 35, op := _, type := _, pos := _, after := _, guard := _ }) (v := ?va5_6) rfl (by kernel_rfl) (by kernel_rfl) (by kernel_rfl) (fun _ _ _ h => h) (Or.inl ⟨by kernel_rfl, ?ha5_6⟩) hSa ?ra5_6
            case ha5_6 => first | (intro w hSw; obtain ⟨s0, s1, s2, s3, s4, s5, s6, s7⟩ := hSw; go_simp; done) | (intro w hSw; obtain ⟨s0, s1, s2, s3, s4, s5, s6, s7⟩ := hSw; go_simp; with_reducible rfl)
            try simp only [Act.put, List.setIfInBounds_toArray, List.set_cons_zero, List.set_cons_succ]
            refine wpAnyH_take (i := 6) (oi := { dst := some 36, op := _, type := _, pos := _, after := _, guard := _ }) (v := ?va6_7) rfl (by kernel_rfl) (by kernel_rfl) (by kernel_rfl) (fun _ _ _ h => h) (Or.inl ⟨by kernel_rfl, ?ha6_7⟩) hSa ?ra6_7
            case ha6_7 => first | (intro w hSw; obtain ⟨s0, s1, s2, s3, s4, s5, s6, s7⟩ := hSw; go_simp; done) | (intro w hSw; obtain ⟨s0, s1, s2, s3, s4, s5, s6, s7⟩ := hSw; go_simp; with_reducible rfl)
            try simp only [Act.put, List.setIfInBounds_toArray, List.set_cons_zero, List.set_cons_succ]
            refine wpAnyH_take (i := 7) (oi := { dst := some 37, op := _, type := _, pos := _, after := _, guard := _ }) (v := ?va7_8) rfl (by kernel_rfl) (by kernel_rfl) (by kernel_rfl) (fun _ _ _ h => h) (Or.inl ⟨by kernel_rfl, ?ha7_8⟩) hSa ?ra7_8
            case ha7_8 => first | (intro w hSw; obtain ⟨s0, s1, s2, s3, s4, s5, s6, s7⟩ := hSw; go_simp; done) | (intro w hSw; obtain ⟨s0, s1, s2, s3, s4, s5, s6, s7⟩ := hSw; go_simp; with_reducible rfl)
            try simp only [Act.put, List.setIfInBounds_toArray, List.set_cons_zero, List.set_cons_succ]
            refine wpAnyH_take (i := 8) (oi := { dst := some 38, op := _, type := _, pos := _, after := _, guard := _ }) (v := ?va8_9) rfl (by kernel_rfl) (by kernel_rfl) (by kernel_rfl) (fun _ _ _ h => h) (Or.inl ⟨by kernel_rfl, ?ha8_9⟩) hSa ?ra8_9
            case ha8_9 => first | (intro w hSw; obtain ⟨s0, s1, s2, s3, s4, s5, s6, s7⟩ := hSw; go_simp; done) | (intro w hSw; obtain ⟨s0, s1, s2, s3, s4, s5, s6, s7⟩ := hSw; go_simp; with_reducible rfl)
            try simp only [Act.put, List.setIfInBounds_toArray, List.set_cons_zero, List.set_cons_succ]
            refine wpAnyH_take (i := 9) (oi := { dst := some 39, op := _, type := _, pos := _, after := _, guard := _ }) (v := ?va9_10) rfl (by kernel_rfl) (by kernel_rfl) (by kernel_rfl) (fun _ _ _ h => h) (Or.inl ⟨by kernel_rfl, ?ha9_10⟩) hSa ?ra9_10
            case ha9_10 => first | (intro w hSw; obtain ⟨s0, s1, s2, s3, s4, s5, s6, s7⟩ := hSw; go_simp; done) | (intro w hSw; obtain ⟨s0, s1, s2, s3, s4, s5, s6, s7⟩ := hSw; go_simp; with_reducible rfl)
            try simp only [Act.put, List.setIfInBounds_toArray, List.set_cons_zero, List.set_cons_succ]
            refine wpAnyH_take (i := 10) (oi := { dst := some 40, op := _, type := _, pos := _, after := _, guard := _ }) (v := ?va10_11) rfl (by kernel_rfl) (by kernel_rfl) (by kernel_rfl) (fun _ _ _ h => h) (Or.inl ⟨by kernel_rfl, ?ha10_11⟩) hSa ?ra10_11
            case ha10_11 => first | (intro w hSw; obtain ⟨s0, s1, s2, s3, s4, s5, s6, s7⟩ := hSw; go_simp; done) | (intro w hSw; obtain ⟨s0, s1, s2, s3, s4, s5, s6, s7⟩ := hSw; go_simp; with_reducible rfl)
            try simp only [Act.put, List.setIfInBounds_toArray, List.set_cons_zero, List.set_cons_succ]
            refine wpAnyH_take (i := 11) (oi := { dst := some 41, op := _, type := _, pos := _, after := _, guard := _ }) (v := ?va11_12) rfl (by kernel_rfl) (by kernel_rfl) (by kernel_rfl) (fun _ _ _ h => h) (Or.inl ⟨by kernel_rfl, ?ha11_12⟩) hSa ?ra11_12
            case ha11_12 => first | (intro w hSw; obtain ⟨s0, s1, s2, s3, s4, s5, s6, s7⟩ := hSw; go_simp; done) | (intro w hSw; obtain ⟨s0, s1, s2, s3, s4, s5, s6, s7⟩ := hSw; go_simp; with_reducible rfl)
            try simp only [Act.put, List.setIfInBounds_toArray, List.set_cons_zero, List.set_cons_succ]
            refine wpAnyH_take (i := 12) (oi := { dst := some 42, op := _, type := _, pos := _, after := _, guard := _ }) (v := ?va12_13) rfl (by kernel_rfl) (by kernel_rfl) (by kernel_rfl) (fun _ _ _ h => h) (Or.inl ⟨by kernel_rfl, ?ha12_13⟩) hSa ?ra12_13
            case ha12_13 => first | (intro w hSw; obtain ⟨s0, s1, s2, s3, s4, s5, s6, s7⟩ := hSw; go_simp; done) | (intro w hSw; obtain ⟨s0, s1, s2, s3, s4, s5, s6, s7⟩ := hSw; go_simp; with_reducible rfl)
            try simp only [Act.put, List.setIfInBounds_toArray, List.set_cons_zero, List.set_cons_succ]
            refine wpAnyH_take (i := 13) (oi := { dst := some 43, op := _, type := _, pos := _, after := _, guard := _ }) (v := ?va13_14) rfl (by kernel_rfl) (by kernel_rfl) (by kernel_rfl) (fun _ _ _ h => h) (Or.inl ⟨by kernel_rfl, ?ha13_14⟩) hSa ?ra13_14
            case ha13_14 => first | (intro w hSw; obtain ⟨s0, s1, s2, s3, s4, s5, s6, s7⟩ := hSw; go_simp; done) | (intro w hSw; obtain ⟨s0, s1, s2, s3, s4, s5, s6, s7⟩ := hSw; go_simp; with_reducible rfl)
            try simp only [Act.put, List.setIfInBounds_toArray, List.set_cons_zero, List.set_cons_succ]
            refine wpAnyH_take (i := 14) (oi := { dst := some 44, op := _, type := _, pos := _, after := _, guard := _ }) (v := ?va14_15) rfl (by kernel_rfl) (by kernel_rfl) (by kernel_rfl) (fun _ _ _ h => h) (Or.inl ⟨by kernel_rfl, ?ha14_15⟩) hSa ?ra14_15
            case ha14_15 => first | (intro w hSw; obtain ⟨s0, s1, s2, s3, s4, s5, s6, s7⟩ := hSw; go_simp; done) | (intro w hSw; obtain ⟨s0, s1, s2, s3, s4, s5, s6, s7⟩ := hSw; go_simp; with_reducible rfl)
            try simp only [Act.put, List.setIfInBounds_toArray, List.set_cons_zero, List.set_cons_succ]
            refine wpAnyH_ready (rs := [15]) (by kernel_rfl) (by simp) ?_
            refine AllReadyH.cons rfl (fun K hK => ?_) AllReadyH.nil
            go_simp
            refine (unhide CS _ (unhide HS1)).mono ?_
            rintro e9 w9 ⟨rfl, hm9, hg9⟩
            have HS2 := hide ((unhide HS1).grown (unhide HA) hg9 hm9)
            have hSa' := hSa.le (grown_le (unhide HS1).nm hg9)
            clear hm9 hg9
            refine hK _ _ hSa' (fun _ => ?_)
            clear hK K hSa
            have hSa := hSa'
            clear hSa'
            refine wpAnyH_ready (rs := [16]) (by kernel_rfl) (by simp) ?_
            refine AllReadyH.cons rfl (fun K hK => ?_) AllReadyH.nil
            go_simp
            refine (unhide CN _ (unhide HS2).nm).mono ?_
            rintro e9 w9 ⟨rfl, hm9, hg9⟩
            have HS3 := hide ((unhide HS2).grown (unhide HA) hg9 hm9)
            have hSa' := hSa.le (grown_le (unhide HS2).nm hg9)
            clear hm9 hg9
            refine hK _ _ hSa' (fun _ => ?_)
            clear hK K hSa
            have hSa := hSa'
            clear hSa'
            refine wpAnyH_take (i := 17) (oi := { dst := some 47, op := _, type := _, pos := _, after := _, guard := _ }) (v := ?va17_16) rfl (by kernel_rfl) (by kernel_rfl) (by kernel_rfl) (fun _ _ _ h => h) (Or.inl ⟨by kernel_rfl, ?ha17_16⟩) hSa ?ra17_16
            case ha17_16 => first | (intro w hSw; obtain ⟨s0, s1, s2, s3, s4, s5, s6, s7⟩ := hSw; go_simp; done) | (intro w hSw; obtain ⟨s0, s1, s2, s3, s4, s5, s6, s7⟩ := hSw; go_simp; with_reducible rfl)
            try simp only [Act.put, List.setIfInBounds_toArray, List.set_cons_zero, List.set_cons_succ]
            refine wpAnyH_ready (rs := [18]) (by kernel_rfl) (by simp) ?_
            refine AllReadyH.cons rfl (fun K hK => ?_) AllReadyH.nil
            have d0 := (unhide HS3).rk.cell (show i < f.count by omega)
            have d1 := (unhide HS3).rk.frozen i
            go_simp
            have HS4 := hide ((unhide HS3).setK (unhide HA) i zk)
            have hSa' := hSa.set (g := gk) (j := i) (v := .int .i64 zk) (by have := (unhide HA).kp; exact fun e => this e.symm) (unhide HA).kn (unhide HNE).1
            refine hK _ _ hSa' (fun _ => ?_)
            clear hK K hSa
            have hSa := hSa'
            clear hSa'
            refine wpAnyH_done (by kernel_rfl) ?_ _
            go_wp2_with fail
            go_meet
            exact unhide HS4
          case rest =>
            have HST2 := hide hcut
            clear hcut HST
            go_upto_region 8 with fail
            have HS1 := hide ((unhide HST2).drew (unhide HA))
            have hSb := unhide HK2 _ (unhide HS1)
            refine wp_region_held (S := KpH pb 2 gl gn i gp op f.count k sp n qa al ca tx qk kl ck) (by kernel_rfl) ?_
            change wpAnyH _ _ _ _ _ _ _ _ (World.drew _)
            refine wpAnyH_take (i := 0) (oi := { dst := some 48, op := _, type := _, pos := _, after := _, guard := _ }) (v := ?vb0_17) rfl (by kernel_rfl) (by kernel_rfl) (by kernel_rfl) (fun _ _ _ h => h) (Or.inl ⟨by kernel_rfl, ?hb0_17⟩) hSb ?rb0_17
            case hb0_17 => first | (intro w hSw; obtain ⟨s0, s1, s2, s3, s4, s5, s6, s7⟩ := hSw; go_simp; done) | (intro w hSw; obtain ⟨s0, s1, s2, s3, s4, s5, s6, s7⟩ := hSw; go_simp; with_reducible rfl)
            try simp only [Act.put, List.setIfInBounds_toArray, List.set_cons_zero, List.set_cons_succ]
            refine wpAnyH_take (i := 1) (oi := { dst := some 49, op := _, type := _, pos := _, after := _, guard := _ }) (v := ?vb1_18) rfl (by kernel_rfl) (by kernel_rfl) (by kernel_rfl) (fun _ _ _ h => h) (Or.inl ⟨by kernel_rfl, ?hb1_18⟩) hSb ?rb1_18
            case hb1_18 => first | (intro w hSw; obtain ⟨s0, s1, s2, s3, s4, s5, s6, s7⟩ := hSw; go_simp; done) | (intro w hSw; obtain ⟨s0, s1, s2, s3, s4, s5, s6, s7⟩ := hSw; go_simp; with_reducible rfl)
            try simp only [Act.put, List.setIfInBounds_toArray, List.set_cons_zero, List.set_cons_succ]
            refine wpAnyH_take (i := 2) (oi := { dst := some 50, op := _, type := _, pos := _, after := _, guard := _ }) (v := ?vb2_19) rfl (by kernel_rfl) (by kernel_rfl) (by kernel_rfl) (fun _ _ _ h => h) (Or.inl ⟨by kernel_rfl, ?hb2_19⟩) hSb ?rb2_19
            case hb2_19 => first | (intro w hSw; obtain ⟨s0, s1, s2, s3, s4, s5, s6, s7⟩ := hSw; go_simp; done) | (intro w hSw; obtain ⟨s0, s1, s2, s3, s4, s5, s6, s7⟩ := hSw; go_simp; with_reducible rfl)
            try simp only [Act.put, List.setIfInBounds_toArray, List.set_cons_zero, List.set_cons_succ]
            refine wpAnyH_take (i := 3) (oi := { dst := some 51, op := _, type := _, pos := _, after := _, guard := _ }) (v := ?vb3_20) rfl (by kernel_rfl) (by kernel_rfl) (by kernel_rfl) (fun _ _ _ h => h) (Or.inl ⟨by kernel_rfl, ?hb3_20⟩) hSb ?rb3_20
            case hb3_20 => first | (intro w hSw; obtain ⟨s0, s1, s2, s3, s4, s5, s6, s7⟩ := hSw; go_simp; done) | (intro w hSw; obtain ⟨s0, s1, s2, s3, s4, s5, s6, s7⟩ := hSw; go_simp; with_reducible rfl)
            try simp only [Act.put, List.setIfInBounds_toArray, List.set_cons_zero, List.set_cons_succ]
            refine wpAnyH_take (i := 4) (oi := { dst := some 52, op := _, type := _, pos := _, after := _, guard := _ }) (v := ?vb4_21) rfl (by kernel_rfl) (by kernel_rfl) (by kernel_rfl) (fun _ _ _ h => h) (Or.inl ⟨by kernel_rfl, ?hb4_21⟩) hSb ?rb4_21
            case hb4_21 => first | (intro w hSw; obtain ⟨s0, s1, s2, s3, s4, s5, s6, s7⟩ := hSw; go_simp; done) | (intro w hSw; obtain ⟨s0, s1, s2, s3, s4, s5, s6, s7⟩ := hSw; go_simp; with_reducible rfl)
            try simp only [Act.put, List.setIfInBounds_toArray, List.set_cons_zero, List.set_cons_succ]
            refine wpAnyH_take (i := 5) (oi := { dst := some 53, op := _, type := _, pos := _, after := _, guard := _ }) (v := ?vb5_22) rfl (by kernel_rfl) (by kernel_rfl) (by kernel_rfl) (fun _ _ _ h => h) (Or.inl ⟨by kernel_rfl, ?hb5_22⟩) hSb ?rb5_22
            case hb5_22 => first | (intro w hSw; obtain ⟨s0, s1, s2, s3, s4, s5, s6, s7⟩ := hSw; go_simp; done) | (intro w hSw; obtain ⟨s0, s1, s2, s3, s4, s5, s6, s7⟩ := hSw; go_simp; with_reducible rfl)
            try simp only [Act.put, List.setIfInBounds_toArray, List.set_cons_zero, List.set_cons_succ]
            refine wpAnyH_take (i := 6) (oi := { dst := some 54, op := _, type := _, pos := _, after := _, guard := _ }) (v := ?vb6_23) rfl (by kernel_rfl) (by kernel_rfl) (by kernel_rfl) (fun _ _ _ h => h) (Or.inl ⟨by kernel_rfl, ?hb6_23⟩) hSb ?rb6_23
            case hb6_23 => first | (intro w hSw; obtain ⟨s0, s1, s2, s3, s4, s5, s6, s7⟩ := hSw; go_simp; done) | (intro w hSw; obtain ⟨s0, s1, s2, s3, s4, s5, s6, s7⟩ := hSw; go_simp; with_reducible rfl)
            try simp only [Act.put, List.setIfInBounds_toArray, List.set_cons_zero, List.set_cons_succ]
            refine wpAnyH_take (i := 7) (oi := { dst := some 55, op := _, type := _, pos := _, after := _, guard := _ }) (v := ?vb7_24) rfl (by kernel_rfl) (by kernel_rfl) (by kernel_rfl) (fun _ _ _ h => h) (Or.inl ⟨by kernel_rfl, ?hb7_24⟩) hSb ?rb7_24
            case hb7_24 => first | (intro w hSw; obtain ⟨s0, s1, s2, s3, s4, s5, s6, s7⟩ := hSw; go_simp; done) | (intro w hSw; obtain ⟨s0, s1, s2, s3, s4, s5, s6, s7⟩ := hSw; go_simp; with_reducible rfl)
            try simp only [Act.put, List.setIfInBounds_toArray, List.set_cons_zero, List.set_cons_succ]
            refine wpAnyH_take (i := 8) (oi := { dst := some 56, op := _, type := _, pos := _, after := _, guard := _ }) (v := ?vb8_25) rfl (by kernel_rfl) (by kernel_rfl) (by kernel_rfl) (fun _ _ _ h => h) (Or.inl ⟨by kernel_rfl, ?hb8_25⟩) hSb ?rb8_25
            case hb8_25 => first | (intro w hSw; obtain ⟨s0, s1, s2, s3, s4, s5, s6, s7⟩ := hSw; go_simp; done) | (intro w hSw; obtain ⟨s0, s1, s2, s3, s4, s5, s6, s7⟩ := hSw; go_simp; with_reducible rfl)
            try simp only [Act.put, List.setIfInBounds_toArray, List.set_cons_zero, List.set_cons_succ]
            refine wpAnyH_take (i := 9) (oi := { dst := some 57, op := _, type := _, pos := _, after := _, guard := _ }) (v := ?vb9_26) rfl (by kernel_rfl) (by kernel_rfl) (by kernel_rfl) (fun _ _ _ h => h) (Or.inl ⟨by kernel_rfl, ?hb9_26⟩) hSb ?rb9_26
            case hb9_26 => first | (intro w hSw; obtain ⟨s0, s1, s2, s3, s4, s5, s6, s7⟩ := hSw; go_simp; done) | (intro w hSw; obtain ⟨s0, s1, s2, s3, s4, s5, s6, s7⟩ := hSw; go_simp; with_reducible rfl)
            try simp only [Act.put, List.setIfInBounds_toArray, List.set_cons_zero, List.set_cons_succ]
            refine wpAnyH_take (i := 10) (oi := { dst := some 58, op := _, type := _, pos := _, after := _, guard := _ }) (v := ?vb10_27) rfl (by kernel_rfl) (by kernel_rfl) (by kernel_rfl) (fun _ _ _ h => h) (Or.inl ⟨by kernel_rfl, ?hb10_27⟩) hSb ?rb10_27
            case hb10_27 => first | (intro w hSw; obtain ⟨s0, s1, s2, s3, s4, s5, s6, s7⟩ := hSw; go_simp; done) | (intro w hSw; obtain ⟨s0, s1, s2, s3, s4, s5, s6, s7⟩ := hSw; go_simp; with_reducible rfl)
            try simp only [Act.put, List.setIfInBounds_toArray, List.set_cons_zero, List.set_cons_succ]
            refine wpAnyH_take (i := 11) (oi := { dst := some 59, op := _, type := _, pos := _, after := _, guard := _ }) (v := ?vb11_28) rfl (by kernel_rfl) (by kernel_rfl) (by kernel_rfl) (fun _ _ _ h => h) (Or.inl ⟨by kernel_rfl, ?hb11_28⟩) hSb ?rb11_28
            case hb11_28 => first | (intro w hSw; obtain ⟨s0, s1, s2, s3, s4, s5, s6, s7⟩ := hSw; go_simp; done) | (intro w hSw; obtain ⟨s0, s1, s2, s3, s4, s5, s6, s7⟩ := hSw; go_simp; with_reducible rfl)
            try simp only [Act.put, List.setIfInBounds_toArray, List.set_cons_zero, List.set_cons_succ]
            refine wpAnyH_ready (rs := [12]) (by kernel_rfl) (by simp) ?_
            refine AllReadyH.cons rfl (fun K hK => ?_) AllReadyH.nil
            go_simp
            refine (unhide CL _ (unhide HS1).gr).mono ?_
            rintro e9 w9 ⟨rfl, hb9⟩
            have HS2 := hide ((unhide HS1).grown (unhide HA) (below_grownG hb9) ((unhide HS1).nm.later hb9))
            have hSb' := hSb.le (below_cells hb9)
            clear hb9
            refine hK _ _ hSb' (fun _ => ?_)
            clear hK K hSb
            have hSb := hSb'
            clear hSb'
            refine wpAnyH_ready (rs := [13]) (by kernel_rfl) (by simp) ?_
            refine AllReadyH.cons rfl (fun K hK => ?_) AllReadyH.nil
            go_simp
            refine (unhide CM _ (unhide HS2).nm).mono ?_
            rintro e9 w9 ⟨rfl, hm9, hg9⟩
            have HS3 := hide ((unhide HS2).grown (unhide HA) hg9 hm9)
            have hSb' := hSb.le (grown_le (unhide HS2).nm hg9)
            clear hm9 hg9
            refine hK _ _ hSb' (fun _ => ?_)
            clear hK K hSb
            have hSb := hSb'
            clear hSb'
            refine wpAnyH_take (i := 14) (oi := { dst := some 62, op := _, type := _, pos := _, after := _, guard := _ }) (v := ?vb14_29) rfl (by kernel_rfl) (by kernel_rfl) (by kernel_rfl) (fun _ _ _ h => h) (Or.inl ⟨by kernel_rfl, ?hb14_29⟩) hSb ?rb14_29
            case hb14_29 => first | (intro w hSw; obtain ⟨s0, s1, s2, s3, s4, s5, s6, s7⟩ := hSw; go_simp; done) | (intro w hSw; obtain ⟨s0, s1, s2, s3, s4, s5, s6, s7⟩ := hSw; go_simp; with_reducible rfl)
            try simp only [Act.put, List.setIfInBounds_toArray, List.set_cons_zero, List.set_cons_succ]
            refine wpAnyH_ready (rs := [15]) (by kernel_rfl) (by simp) ?_
            refine AllReadyH.cons rfl (fun K hK => ?_) AllReadyH.nil
            have d0 := (unhide HS3).rl.cell (show i < f.count by omega)
            have d1 := (unhide HS3).rl.frozen i
            go_simp
            have HS4 := hide ((unhide HS3).setL (unhide HA) i zl)
            have hSb' := hSb.set (g := gl) (j := i) (v := .int .i64 zl) (by have := (unhide HA).lp; exact fun e => this e.symm) (unhide HA).ln (unhide HNE).2
            refine hK _ _ hSb' (fun _ => ?_)
            clear hK K hSb
            have hSb := hSb'
            clear hSb'
            refine wpAnyH_done (by kernel_rfl) ?_ _
            have HST3 := hide (unhide HS4)
            clear HS4 hSb
            go_wp2
            go_roundw
            case rel => exact ⟨i, D3, updI ks i zk, updI ls i zl, by go_num, by omega, unhide HST3, (unhide HEND).1, (unhide HEND).2.1, (unhide HEND).2.2.1, (unhide HEND).2.2.2⟩
            case measure => first | (simp [intOf]; done) | (simp [intOf]; omega)
end Go.Proofs.YtbabmkilbbbmoaaDoor
