/-
  The walk of ActiveArk.
-/
import Derived.Test.YtdkjdomacilagaaBIn
import Derived.Deep.RegionHeld
namespace Go.Proofs.Ytdkjdomacilagaa
open Go.RowKit
set_option linter.unusedVariables false
set_option linter.unusedSimpArgs false

theorem ralike_b (x y : AEnt) (ax ay : List (ByteArray × ByteArray)) (w : World) (hx : AtsV x.q x.n ax w) (hy : AtsV y.q y.n ay w) :
    Calls Try.prog 34 #[entV x, entV y] w fun e w' => e = .returned (.bool (alikeB x.nm ax y.nm ay)) ∧ Below w.heap.size w w' := by
  have := ralike_any x.mr y.mr x.id y.id x.nm y.nm x.q y.q x.n x.c y.n y.c ax ay w hx hy
  rw [← ralike_eq]
  rw [hx.1, hy.1] at this
  unfold entV
  rw [hx.1, hy.1]
  exact this
def ArkAt (n : Nat) (w : World) (i : Value) (wr : World) : Prop :=
  ∃ (k : Nat) (P : List PEnt) (v : Value), k ≤ n ∧ i = .int .i64 k ∧ P.length ≤ 100 ∧ Ark P ∧ LstP w.heap.size w.heap.size v P wr ∧ Below w.heap.size w wr
def KeepK (ga o bs : Nat) (am : Bool) (ai : Int) (yn : ByteArray) (aq : Option Addr) (l c : Nat) (xm : Bool) (xi : Int) (xn : ByteArray) (xq : Option Addr) (xl xc : Nat) (W : World) : Prop :=
  W.cell? ⟨ga, o, none⟩ = some (.bool am) ∧ W.cell? ⟨ga, o + 1, none⟩ = some (.int .i64 ai) ∧ W.cell? ⟨ga, o + 2, none⟩ = some (.string yn) ∧ W.cell? ⟨ga, o + 3, none⟩ = some (.slice aq l c) ∧
  W.cell? ⟨bs, 2, none⟩ = some (.bool xm) ∧ W.cell? ⟨bs, 3, none⟩ = some (.int .i64 xi) ∧ W.cell? ⟨bs, 4, none⟩ = some (.string xn) ∧ W.cell? ⟨bs, 5, none⟩ = some (.slice xq xl xc)
theorem KeepK.below {ga o bs : Nat} {am xm : Bool} {ai xi : Int} {yn xn : ByteArray} {aq xq : Option Addr} {l c xl xc : Nat} {w w' : World} (h : KeepK ga o bs am ai yn aq l c xm xi xn xq xl xc w) (hb : Below w.heap.size w w') : KeepK ga o bs am ai yn aq l c xm xi xn xq xl xc w' :=
  ⟨cell_later hb h.1, cell_later hb h.2.1, cell_later hb h.2.2.1, cell_later hb h.2.2.2.1, cell_later hb h.2.2.2.2.1, cell_later hb h.2.2.2.2.2.1, cell_later hb h.2.2.2.2.2.2.1, cell_later hb h.2.2.2.2.2.2.2⟩
set_option maxHeartbeats 1000000 in
theorem arklaw_long (q : Option Addr) (n cap : Nat) (w : World) (h : 90 < n) :
    Calls Try.prog 5 #[.slice q n cap] w fun e w' => e = .returned (.bool true) ∧ Below w.heap.size w w' := by
  have CN := hide (fun w => new_p w.heap.size w (Nat.le_refl _))
  have CC := hide (fun w => four_any w)
  have h1 : (90 : Int) < (n : Int) := by omega
  unfold ptr at *
  go_enter Try.func5, Try.ntmps5
  go_wp2_with fail
  refine (unhide CN _).mono ?_
  rintro e w1 ⟨rfl, _, hb1⟩
  have HB := hide hb1
  clear hb1
  go_wp2_with fail
  refine (unhide CC _).mono ?_
  rintro e w3 ⟨rfl, hb3⟩
  go_wp2
  go_ret
  exact ⟨rfl, tr2 (unhide HB) hb3⟩

set_option maxHeartbeats 20000000 in
set_option maxRecDepth 100000 in
theorem arklaw_main (q : Option Addr) (n cap : Nat) (ls : List AStp) (w : World) (hn : Hid (ls.length = n)) (h90 : n ≤ 90) (hls : ls = [] ∨ ∃ g o, q = some ⟨g, o, none⟩ ∧ CellsS g o ls w) :
    Calls Try.prog 5 #[.slice q n cap] w fun e w' => e = .returned (.bool true) ∧ Below w.heap.size w w' := by
  have CN := hide (fun w => new_p w.heap.size w (Nat.le_refl _))
  have CC := hide (fun w => four_any w)
  have CM := hide (fun v P W h hb => mark_p w.heap.size w.heap.size v P W h hb)
  have CAd := hide (fun v P x q n c W h hb hN hq ha hs => add_p w.heap.size w.heap.size v P x q n c W h hb hN hq ha hs)
  have CAl := hide (fun v P W h hN => all_p w.heap.size w.heap.size v P W h hN)
  have HC := hide hls
  have h1 : ¬ (90 : Int) < (n : Int) := by omega
  clear hls
  unfold ptr at *
  go_enter Try.func5, Try.ntmps5
  go_wp2_with fail
  refine (unhide CN _).mono ?_
  rintro e w2 ⟨rfl, hs2, hb2⟩
  have HAT : Hid (ArkAt n w (.int .i64 0) w2) := hide ⟨0, [], _, Nat.zero_le _, rfl, by simp, ark_nil, hs2, hb2⟩
  clear hs2 hb2
  go_wp2
  go_loopw [24] (fun i wr => ArkAt n w i wr) (fun i _ => n - (intOf i).toNat)
  case atStart => exact unhide HAT
  case round =>
    clear HAT
    obtain ⟨k, P, v, hk, rfl, hP, hark, hL, hb⟩ := hrel
    have HB := hide hb
    have HL := hide hL
    have HARK := hide hark
    have hsz := hb.size
    clear hark
    by_cases hlk : k < n
    · have hlti : (k : Int) < (n : Int) := by omega
      rcases unhide HC with hnil | ⟨g, o, hq, hcs⟩
      · have := unhide hn; rw [hnil] at this; simp at this; omega
      subst hq
      have hkl : k < ls.length := by rw [unhide hn]; exact hlk
      have hatw := (hcs k hkl).2.2.2.2.2.2.2
      obtain ⟨c0, c1, c2, c3, c4, c5, hqn, hat⟩ := (hcs k hkl).below hb
      generalize ls.getD k st0 = y at *
      obtain ⟨wh, no, ⟨xm, xi, xn, ats⟩, xq, xl, xc⟩ := y
      dsimp only at *
      have al : Below wr.heap.size wr (wr.alloc (Obj.cells #[.int .i64 wh, .int .i64 no, .bool xm, .int .i64 xi, .string xn, .slice xq xl xc] 60)) := (Below.refl _ _).alloc (Nat.le_refl _) _
      have KS := hide (Blk.new wr #[.int .i64 wh, .int .i64 no, .bool xm, .int .i64 xi, .string xn, .slice xq xl xc] 60)
      have HLa := hide (hL.later al)
      have HBa := hide (tr2 hb al)
      have hza := (tr2 hb al).size
      have HATW := hide hatw
      by_cases h20 : 20 < xl
      · have h20i : (20 : Int) < (xl : Int) := by omega
        clear hL hb hcs hkl hatw hqn hat al CM CAd CAl
        go_wp2_with fail
        refine (unhide CC _).mono ?_
        rintro e w9 ⟨rfl, hb9⟩
        go_wp2
        go_ret
        exact ⟨rfl, tr2 (unhide HBa) hb9⟩
      have h20i : ¬ (20 : Int) < (xl : Int) := by omega
      have CM1 := hide (unhide CM v P _ (unhide HLa) hza)
      have hsafe : ∀ a, xq = some a → 0 < xl → a.block ≠ w.heap.size ∧ some a.block ≠ v.ownBlock := fun a ha h0 => by
        have hlt := hatw.lt ha h0
        obtain ⟨L, hs, _⟩ := hL
        exact ⟨by omega, fun e => by have := (hs.2.1.lt _ e.symm).1; omega⟩
      have CA1 := hide (unhide CAd v P ⟨xm, xi, xn, ats⟩ xq xl xc _ (unhide HLa) hza hP hqn (hat.below al) hsafe)
      have hPl := hide (addP_le ⟨xm, xi, xn, ats⟩ P hP)
      have HAA := hide (ark_add ⟨xm, xi, xn, ats⟩ P (unhide HARK))
      have HAM := hide (ark_mark P)
      have hvl : Hid (∀ j, v.ownBlock = some j → j < wr.heap.size) := hide fun j hj => by
        obtain ⟨L, hs, _⟩ := hL
        exact (hs.2.1.lt j hj).2
      have hpl : Hid (w.heap.size < wr.heap.size) := hide (by obtain ⟨L, hs, _⟩ := hL; exact hs.lt)
      clear hL hb hcs hkl hatw hqn hat hsafe al CM CAd
      dsimp only at CA1
      by_cases hw5 : wh = 5
      · subst hw5
        go_wp2_with fail
        refine (unhide CM1).mono ?_
        rintro e w3 ⟨rfl, hu⟩
        have HB3 := hide (updB (unhide HBa) (unhide HLa) (Nat.le_refl _) hu)
        obtain ⟨v', hL', _, _⟩ := hu
        have HL3 := hide hL'
        have hP3 : Hid ((if 100 ≤ P.length then P else P ++ [pMk]).length ≤ 100 ∧ Ark (if 100 ≤ P.length then P else P ++ [pMk])) := hide (by
          split
          · exact ⟨hP, unhide HARK⟩
          · exact ⟨by rw [List.length_append, List.length_singleton]; omega, unhide HAM⟩)
        clear hL'
        go_wp2
        go_roundw
        case rel => exact ⟨k + 1, _, v', by omega, by go_num, (unhide hP3).1, (unhide hP3).2, unhide HL3, unhide HB3⟩
        case measure => simp [intOf]; omega
      · have hw6 : (wh == 5) = false := beq_eq_false_iff_ne.2 hw5
        by_cases hR : addR ⟨xm, xi, xn, ats⟩ P.length = 0
        · rw [hR] at CA1
          go_wp2_with fail
          refine (unhide CA1).mono ?_
          rintro e w3 ⟨rfl, hu⟩
          have HB3 := hide (updB (unhide HBa) (unhide HLa) (Nat.le_refl _) hu)
          obtain ⟨v', hL', htc, _⟩ := hu
          have KS3 := hide (htc.blk_new (unhide KS) (unhide hpl) (unhide hvl))
          have HL3 := hide hL'
          have HATS := hide ((unhide HATW).below (unhide HB3))
          generalize addP ⟨xm, xi, xn, ats⟩ P = P2 at *
          generalize wr.heap.size = bs at *
          have CA2 := hide (unhide CAl v' P2 w3 hL' (by have := unhide hPl; omega))
          clear hL' htc HB HL HLa HBa CM1 CA1 HARK HAM hvl hpl CAl KS
          go_wp2_with fail
          refine (unhide CA2).mono ?_
          rintro e w4 ⟨ua, L2, rfl, hrow, hrel2, hb4⟩
          obtain ⟨qa, na, ca, rfl⟩ := slice_of hrow
          have hna := row_len hrow
          subst hna
          obtain ⟨t, ht⟩ : ∃ t, P2.length = t := ⟨_, rfl⟩
          have HT := hide ht
          have HL2 : Hid (L2.length = t) := hide (by rw [← ht]; exact hrel2.len)
          have hthree := hide (tellN_three ⟨xm, xi, xn, ats⟩ P2 (unhide HAA))
          have HB4 := hide (tr2 (unhide HB3) hb4)
          have HL4 := hide ((unhide HL3).later hb4)
          have KS4 := hide ((unhide KS3).later hb4)
          have HATS4 := hide ((unhide HATS).below hb4)
          have HRel := hide hrel2
          have hP100 : t ≤ 100 := by rw [← ht]; exact unhide hPl
          have HAc : Hid (∀ W, Below w4.heap.size w4 W → ∀ i, i < t → ∃ ga, qa = some ⟨ga, 0, none⟩ ∧ W.cell? ⟨ga, i * 4, none⟩ = some (.bool (L2.getD i e0).mr) ∧ W.cell? ⟨ga, i * 4 + 1, none⟩ = some (.int .i64 (L2.getD i e0).id) ∧ W.cell? ⟨ga, i * 4 + 2, none⟩ = some (.string (L2.getD i e0).nm) ∧ W.cell? ⟨ga, i * 4 + 3, none⟩ = some (.slice (L2.getD i e0).q (L2.getD i e0).n (L2.getD i e0).c)) := hide fun W hW i hi => by
            have hro := hrow
            obtain ⟨ga, hga⟩ := row_at hro (by omega)
            subst hga
            rw [← hrel2.len] at hro
            have := (cells4_of_row hro).below hW i (by rw [unhide HL2]; exact hi)
            rw [Nat.zero_add] at this
            exact ⟨ga, rfl, this⟩
          rw [ht] at hthree
          rw [ht]
          clear hrow hrel2 hb4 ht HB3 HL3 KS3 HATS CA2
          go_wp2
          go_loopw [6, 48] (fun c i wr => ∃ j : Nat, j ≤ t ∧ i = .int .i64 j ∧ c = .int .i64 (tellN ⟨xm, xi, xn, ats⟩ P2 j : Nat) ∧ Below w4.heap.size w4 wr) (fun _ i _ => t - (intOf i).toNat)
          case atStart => exact ⟨0, Nat.zero_le _, rfl, rfl, Below.refl _ _⟩
          case round =>
            obtain ⟨j, hj, rfl, rfl, hbj⟩ := hrel
            have HBj := hide hbj
            by_cases hjt : j < t
            · have hjti : (j : Int) < (t : Int) := by omega
              obtain ⟨ga, hga, a0, a1, a2, a3⟩ := unhide HAc wr hbj j hjt
              subst hga
              have hent := (unhide HRel).get j (by rw [unhide HL2]; exact hjt)
              obtain ⟨f1, f2, f3, f4, _, _⟩ := hent
              have kS := (unhide KS4).later hbj
              have hle := tellN_le ⟨xm, xi, xn, ats⟩ P2 j
              have CR := hide (fun W (hW : Below wr.heap.size wr W) => ralike_b (L2.getD j e0) ⟨xm, xi, xn, xq, xl, xc⟩ (P2.getD j p0).ats ats W (((f4.1.below hbj).below hW)) (((unhide HATS4).below hbj).below hW))
              have HS : Hid (tellN ⟨xm, xi, xn, ats⟩ P2 (j + 1) = if (P2.getD j p0).mr then 0 else if alikeB (P2.getD j p0).nm (P2.getD j p0).ats xn ats then tellN ⟨xm, xi, xn, ats⟩ P2 j + 1 else tellN ⟨xm, xi, xn, ats⟩ P2 j) := hide rfl
              rw [f3] at CR
              rw [← f1] at HS
              generalize alikeB (P2.getD j p0).nm (P2.getD j p0).ats xn ats = B at *
              have HK : Hid (KeepK ga (j * 4) bs (L2.getD j e0).mr (L2.getD j e0).id (L2.getD j e0).nm (L2.getD j e0).q (L2.getD j e0).n (L2.getD j e0).c xm xi xn xq xl xc wr.drew) := hide ⟨a0, a1, a2, a3, kS.cell 2, kS.cell 3, kS.cell 4, kS.cell 5⟩
              clear f1 f2 f3 f4 kS hbj
              generalize L2.getD j e0 = e at *
              obtain ⟨am, ai, yn, aq, l, c⟩ := e
              unfold entV at CR
              dsimp only at *
              generalize htl : tellN ⟨xm, xi, xn, ats⟩ P2 j = tl at *
              clear htl
              have htl1 : (tl : Int) + 1 ≤ 1000 := by omega
              cases ham : am with
              | true =>
                rw [ham] at HS a0
                go_wp2
                go_roundw
                case rel => exact ⟨j + 1, by omega, by go_num, by rw [unhide HS]; rfl, unhide HBj⟩
                case measure => simp [intOf]; omega
              | false =>
                rw [ham] at HS a0 HK CR
                go_wp2_with fail
                have hSa := unhide HK
                have HBn : Hid (Below wr.heap.size wr wr.drew) := hide (below_draws wr 1)
                have CF := hide (fun xm xi xn q n c W => aref_any xm xi xn q n c W)
                refine wp_region_held (S := KeepK ga (j * 4) bs false ai yn aq l c xm xi xn xq xl xc) (by kernel_rfl) ?_
                change wpAnyH _ _ _ _ _ _ _ _ (World.drew _)
                refine wpAnyH_take (i := 0) (oi := { dst := some 56, op := _, type := _, pos := _, after := _, guard := _ }) (v := ?va0_1) rfl (by kernel_rfl) (by kernel_rfl) (by kernel_rfl) (fun _ _ _ h => h) (Or.inl ⟨by kernel_rfl, ?ha0_1⟩) hSa ?ra0_1
                case ha0_1 => first | (intro w hSw; obtain ⟨s0, s1, s2, s3, s4, s5, s6, s7⟩ := hSw; go_simp; done) | (intro w hSw; obtain ⟨s0, s1, s2, s3, s4, s5, s6, s7⟩ := hSw; go_simp; with_reducible rfl)
                try simp only [Act.put, List.setIfInBounds_toArray, List.set_cons_zero, List.set_cons_succ]
                refine wpAnyH_take (i := 1) (oi := { dst := some 57, op := _, type := _, pos := _, after := _, guard := _ }) (v := ?va1_2) rfl (by kernel_rfl) (by kernel_rfl) (by kernel_rfl) (fun _ _ _ h => h) (Or.inl ⟨by kernel_rfl, ?ha1_2⟩) hSa ?ra1_2
                case ha1_2 => first | (intro w hSw; obtain ⟨s0, s1, s2, s3, s4, s5, s6, s7⟩ := hSw; go_simp; done) | (intro w hSw; obtain ⟨s0, s1, s2, s3, s4, s5, s6, s7⟩ := hSw; go_simp; with_reducible rfl)
                try simp only [Act.put, List.setIfInBounds_toArray, List.set_cons_zero, List.set_cons_succ]
                refine wpAnyH_take (i := 2) (oi := { dst := some 58, op := _, type := _, pos := _, after := _, guard := _ }) (v := ?va2_3) rfl (by kernel_rfl) (by kernel_rfl) (by kernel_rfl) (fun _ _ _ h => h) (Or.inl ⟨by kernel_rfl, ?ha2_3⟩) hSa ?ra2_3
                case ha2_3 => first | (intro w hSw; obtain ⟨s0, s1, s2, s3, s4, s5, s6, s7⟩ := hSw; go_simp; done) | (intro w hSw; obtain ⟨s0, s1, s2, s3, s4, s5, s6, s7⟩ := hSw; go_simp; with_reducible rfl)
                try simp only [Act.put, List.setIfInBounds_toArray, List.set_cons_zero, List.set_cons_succ]
                refine wpAnyH_take (i := 3) (oi := { dst := some 59, op := _, type := _, pos := _, after := _, guard := _ }) (v := ?va3_4) rfl (by kernel_rfl) (by kernel_rfl) (by kernel_rfl) (fun _ _ _ h => h) (Or.inl ⟨by kernel_rfl, ?ha3_4⟩) hSa ?ra3_4
                case ha3_4 => first | (intro w hSw; obtain ⟨s0, s1, s2, s3, s4, s5, s6, s7⟩ := hSw; go_simp; done) | (intro w hSw; obtain ⟨s0, s1, s2, s3, s4, s5, s6, s7⟩ := hSw; go_simp; with_reducible rfl)
                try simp only [Act.put, List.setIfInBounds_toArray, List.set_cons_zero, List.set_cons_succ]
                refine wpAnyH_take (i := 5) (oi := { dst := some 61, op := _, type := _, pos := _, after := _, guard := _ }) (v := ?va5_5) rfl (by kernel_rfl) (by kernel_rfl) (by kernel_rfl) (fun _ _ _ h => h) (Or.inl ⟨by kernel_rfl, ?ha5_5⟩) hSa ?ra5_5
                case ha5_5 => first | (intro w hSw; obtain ⟨s0, s1, s2, s3, s4, s5, s6, s7⟩ := hSw; go_simp; done) | (intro w hSw; obtain ⟨s0, s1, s2, s3, s4, s5, s6, s7⟩ := hSw; go_simp; with_reducible rfl)
                try simp only [Act.put, List.setIfInBounds_toArray, List.set_cons_zero, List.set_cons_succ]
                refine wpAnyH_take (i := 6) (oi := { dst := some 62, op := _, type := _, pos := _, after := _, guard := _ }) (v := ?va6_6) rfl (by kernel_rfl) (by kernel_rfl) (by kernel_rfl) (fun _ _ _ h => h) (Or.inl ⟨by kernel_rfl, ?ha6_6⟩) hSa ?ra6_6
                case ha6_6 => first | (intro w hSw; obtain ⟨s0, s1, s2, s3, s4, s5, s6, s7⟩ := hSw; go_simp; done) | (intro w hSw; obtain ⟨s0, s1, s2, s3, s4, s5, s6, s7⟩ := hSw; go_simp; with_reducible rfl)
                try simp only [Act.put, List.setIfInBounds_toArray, List.set_cons_zero, List.set_cons_succ]
                refine wpAnyH_ready (rs := [4]) (by kernel_rfl) (by simp) ?_
                refine AllReadyH.cons rfl (fun K hK => ?_) AllReadyH.nil
                go_simp
                refine (unhide CF _ _ _ _ _ _ _).mono ?_
                rintro e w5 ⟨rfl, hb⟩
                have hSa' := hSa.below hb
                replace HBn := hide (tr2 (unhide HBn) hb)
                clear hb
                refine hK _ _ hSa' (fun _ => ?_)
                clear hK K hSa
                have hSa := hSa'
                clear hSa'
                refine wpAnyH_ready (rs := [7]) (by kernel_rfl) (by simp) ?_
                refine AllReadyH.cons rfl (fun K hK => ?_) AllReadyH.nil
                go_simp
                refine (unhide CF _ _ _ _ _ _ _).mono ?_
                rintro e w6 ⟨rfl, hb⟩
                have hSa' := hSa.below hb
                replace HBn := hide (tr2 (unhide HBn) hb)
                clear hb
                refine hK _ _ hSa' (fun _ => ?_)
                clear hK K hSa
                have hSa := hSa'
                clear hSa'
                refine wpAnyH_ready (rs := [8]) (by kernel_rfl) (by simp) ?_
                refine AllReadyH.cons rfl (fun K hK => ?_) AllReadyH.nil
                go_simp
                refine (unhide CR _ (unhide HBn)).mono ?_
                rintro e w8 ⟨rfl, hb⟩
                have hSa' := hSa.below hb
                replace HBn := hide (tr2 (unhide HBn) hb)
                clear hb
                refine hK _ _ hSa' (fun _ => ?_)
                clear hK K hSa
                have hSa := hSa'
                clear hSa'
                refine wpAnyH_done (by kernel_rfl) ?_ _
                have HB9 := hide (tr2 (unhide HBj) (unhide HBn))
                clear hSa HK HBn CF CR
                cases B with
                | true =>
                  go_wp2
                  go_roundw
                  case rel => exact ⟨j + 1, by omega, by go_num, by rw [unhide HS]; simp, unhide HB9⟩
                  case measure => simp [intOf]; omega
                | false =>
                  go_wp2
                  go_roundw
                  case rel => exact ⟨j + 1, by omega, by go_num, by rw [unhide HS]; rfl, unhide HB9⟩
                  case measure => simp [intOf]; omega
            · have hjt2 : j = t := by omega
              subst hjt2
              have hnl : ¬ (j : Int) < (j : Int) := by omega
              have hle3 := unhide hthree
              have HB9 := hide (tr2 (unhide HB4) hbj)
              have HL9 := hide ((unhide HL4).later hbj)
              generalize tellN ⟨xm, xi, xn, ats⟩ P2 j = tl at *
              have h3i : ¬ (3 : Int) < (tl : Int) := by omega
              clear hbj hjt
              go_wp2
              go_roundw
              case rel => exact ⟨k + 1, P2, v', by omega, by go_num, unhide hPl, unhide HAA, unhide HL9, unhide HB9⟩
              case measure => simp [intOf]; omega
        · have hR1 : (addR ⟨xm, xi, xn, ats⟩ P.length == 0) = false := beq_eq_false_iff_ne.2 hR
          have hR2 : (addR ⟨xm, xi, xn, ats⟩ P.length != 0) = true := by simp [hR]
          generalize addR ⟨xm, xi, xn, ats⟩ P.length = r at *
          go_wp2_with fail
          refine (unhide CA1).mono ?_
          rintro e w3 ⟨rfl, hu⟩
          have HB3 := hide (updB (unhide HBa) (unhide HLa) (Nat.le_refl _) hu)
          obtain ⟨v', hL', _, _⟩ := hu
          have HL3 := hide hL'
          clear hL'
          go_wp2
          go_roundw
          case rel => exact ⟨k + 1, _, v', by omega, by go_num, unhide hPl, unhide HAA, unhide HL3, unhide HB3⟩
          case measure => simp [intOf]; omega
    · have hkn : n = k := by omega
      subst hkn
      have hnl : ¬ (n : Int) < (n : Int) := by omega
      clear hL hb hlk CM CAd CAl
      go_wp2_with fail
      refine (unhide CC _).mono ?_
      rintro e w9 ⟨rfl, hb9⟩
      go_wp2
      go_ret
      exact ⟨rfl, tr2 (unhide HB) hb9⟩
theorem activeArk_walk (q : Option Addr) (n cap : Nat) (ls : List AStp) (w : World) (hn : ls.length = n) (hls : ls = [] ∨ ∃ g o, q = some ⟨g, o, none⟩ ∧ CellsS g o ls w) :
    Calls Try.prog 5 #[.slice q n cap] w fun e w' => e = .returned (.bool true) ∧ Below w.heap.size w w' := by
  by_cases h : 90 < n
  · exact arklaw_long q n cap w h
  · exact arklaw_main q n cap ls w (hide hn) (by omega) hls
end Go.Proofs.Ytdkjdomacilagaa
