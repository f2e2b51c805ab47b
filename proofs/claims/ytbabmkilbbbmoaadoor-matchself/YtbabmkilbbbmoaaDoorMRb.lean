/-
  What the reference's best of layer 20 does (made by mk_mrb.py).
-/
import Derived.Test.YtbabmkilbbbmoaaDoorMgBB
namespace Go.Proofs.YtbabmkilbbbmoaaDoor
open Go.RowKit Go.Maps
set_option linter.unusedVariables false
set_option linter.unusedSimpArgs false

theorem infoRest0 : (Tryd.prog.info? 162).map (fun i => (i.zero, i.size, i.bytes)) = some (some (.agg #[.slice none 0 0]), 1, 24) := by kernel_rfl
theorem infoRest : ∃ i, Tryd.prog.info? 162 = some i ∧ i.zero = some (.agg #[.slice none 0 0]) ∧ i.size = 1 ∧ i.bytes = 24 := by
  have h := infoRest0
  cases hi : Tryd.prog.info? 162 with
  | none => rw [hi] at h; cases h
  | some i =>
    rw [hi] at h
    simp only [Option.map_some, Option.some.injEq, Prod.mk.injEq] at h
    exact ⟨i, rfl, h.1, h.2.1, h.2.2⟩
theorem cell_onR {w w' : World} {b o : Nat} {v : Value} (hb : Below w.heap.size w w') (h : w.cell? ⟨b, o, none⟩ = some v) : w'.cell? ⟨b, o, none⟩ = some v := cellB hb h
theorem view_atR {w w' : World} {q : Option Addr} {n c : Nat} {ss : List ByteArray} (h : View w (.slice q n c) ss) (hb : Below w.heap.size w w') (i : Nat) (hi : i < ss.length) : ∃ b o, q = some ⟨b, o, none⟩ ∧ w'.cell? ⟨b, o + i, none⟩ = some (.string (tx ss i)) := by
  obtain ⟨_, a, cap, e, hc⟩ := view_below h hb
  cases e
  obtain ⟨b, o, rfl, h2⟩ := hc (by omega)
  exact ⟨b, o, rfl, h2 i hi⟩
def lcI (ss tt : List ByteArray) (i j : Nat) : Int := (lcB (eqT ss tt) ss.length tt.length i j : Int)
theorem lcI_end (ss tt : List ByteArray) (j : Nat) : lcI ss tt ss.length j = 0 := by
  unfold lcI; rw [lcB_out _ _ _ _ _ (by omega)]; rfl
theorem lcI_last (ss tt : List ByteArray) (i : Nat) : lcI ss tt i tt.length = 0 := by
  unfold lcI; rw [lcB_out _ _ _ _ _ (by omega)]; rfl
theorem lcI_bound (ss tt : List ByteArray) (i j : Nat) (hn : ss.length ≤ 1000) : 0 ≤ lcI ss tt i j ∧ lcI ss tt i j ≤ 1000 := by
  have := (lcB_le (eqT ss tt) ss.length tt.length _ i j (Nat.le_refl _)).1
  unfold lcI; omega
theorem lcI_three (ss tt : List ByteArray) (i j : Nat) (hi : i < ss.length) (hj : j < tt.length) : lcI ss tt i j = if eqT ss tt i j = true ∧ max (lcI ss tt i (j + 1)) (lcI ss tt (i + 1) j) < lcI ss tt (i + 1) (j + 1) + 1 then lcI ss tt (i + 1) (j + 1) + 1 else max (lcI ss tt i (j + 1)) (lcI ss tt (i + 1) j) := by
  have h := lcB_three (eqT ss tt) ss.length tt.length i j hi hj
  unfold lcI
  generalize lcB (eqT ss tt) ss.length tt.length i j = a at *
  generalize lcB (eqT ss tt) ss.length tt.length i (j + 1) = b at *
  generalize lcB (eqT ss tt) ss.length tt.length (i + 1) j = c at *
  generalize lcB (eqT ss tt) ss.length tt.length (i + 1) (j + 1) = d at *
  rw [h]
  by_cases hc : eqT ss tt i j = true ∧ max b c < d + 1
  · rw [if_pos hc, if_pos ⟨hc.1, by omega⟩]; omega
  · rw [if_neg hc, if_neg (fun x => hc ⟨x.1, by omega⟩)]; omega

def BestSaid (ss tt : List ByteArray) (w : World) (e : Ending) (w' : World) : Prop := ∃ u, e = .returned u ∧ RestsV w' u (ss.length + 1) tt.length (fun i k => lcI ss tt i k) ∧ Below w.heap.size w w'

set_option maxHeartbeats 4000000 in
set_option maxRecDepth 100000 in
theorem best_any (va vb : Value) (ss tt : List ByteArray) (w : World) (ha : View w va ss) (hb : View w vb tt) (hn : ss.length ≤ 1000) (hm : tt.length ≤ 1000) :
    Calls Tryd.prog 87 #[va, vb] w (BestSaid ss tt w) := by
  obtain ⟨i0, hi0, hi1, hi2, hi3⟩ := mfoInt
  obtain ⟨r0, hr0, hr1, hr2, hr3⟩ := infoRest
  have HVA := hide ha
  have HVB := hide hb
  obtain ⟨a1, c1, rfl⟩ := view_slice ha
  obtain ⟨a2, c2, rfl⟩ := view_slice hb
  unfold BestSaid
  clear ha hb
  go_enter Tryd.func87, Tryd.ntmps87
  go_wp2
  go_loopw [17] (fun i wr => ∃ (k : Nat) (u : Value), k ≤ tt.length ∧ i = .int .i64 (k : Int) ∧ Blk wr w.heap.size #[u] 162 ∧ wr.ownsRow (w.heap.size + 1) 3 1 u k ((List.range k).map (fun _ => Value.int .i64 0)) ∧ Below w.heap.size w wr) (fun i _ => tt.length - (intOf i).toNat)
  case atStart => exact ⟨0, _, Nat.zero_le _, rfl, Blk.new w _ _, World.ownsRow_nil _ _ _ _, (Below.refl _ _).alloc (Nat.le_refl _) _⟩
  case round =>
    obtain ⟨k, u, hk, rfl, hblk, hrow, hbl⟩ := hrel
    have K0 := hide hblk
    have HR := hide hrow
    have HBL := hide hbl
    have hz := hblk.lt
    obtain ⟨xq, xn, xc, hu⟩ := slice_of hrow
    subst hu
    have c0 : wr.cell? ⟨w.heap.size, 0, none⟩ = some (.slice xq xn xc) := hblk.cell 0
    have f0 := hblk.frozen 0
    have hrb : Hid (∀ j, some j = (Value.slice xq xn xc).ownBlock → w.heap.size + 1 ≤ j) := hide (fun j hj => ((unhide HR).lt j hj.symm).1)
    clear hblk hrow hbl
    by_cases hkt : k < tt.length
    · have hkti : (k : Int) < (tt.length : Int) := by omega
      have k1 : Hid (Blk (wr.alloc (Obj.cells #[.int .i64 0] 3)) w.heap.size #[.slice xq xn xc] 162) := hide ((unhide K0).alloc _)
      go_wp2_with (at_builtin; refine wpList_append_own_at _ rfl _ _ 38 rfl (w.heap.size + 1) 3 i0 (.int .i64 0) 1 8 Tryd.underlying38 hi0 hi1 hi2 hi3 rfl (by decide) (.slice xq xn xc) _ _ rfl ((unhide HR).alloc _) ⟨wr.heap.size, 0, none⟩ 1 1 [.int .i64 0] rfl rfl (cell_one_new _ _ _) (by simp [Value.oneCell']) (by simp only [maxLen]; omega) (by omega) (by simp; omega) ?_; intro u' w3 hown hgr _ _; obtain ⟨yq, yn, yc, rfl⟩ := slice_of hown; have k3 := Blk.grown (unhide k1) hgr (fun e => by have := unhide hrb _ e; omega); have d0 : w3.cell? ⟨w.heap.size, 0, none⟩ = some (.slice xq xn xc) := k3.cell 0; have g0 := k3.frozen 0)
      have HOW := hide hown
      have HGR := hide hgr
      have K3 := hide k3
      clear hown hgr k3
      have hz3 : wr.heap.size ≤ w3.heap.size := by have := (unhide HGR).size; simp at this; omega
      go_wp2
      go_roundw
      case rel =>
        refine ⟨k + 1, _, by omega, by go_num, (unhide K3).set 0 (by simp) _, ?_, ?_⟩
        · rw [List.range_succ, List.map_append]
          refine owns_away (unhide HOW) (fun j hj => ?_)
          have := ((unhide HOW).lt j hj.symm).1
          omega
        · exact (((unhide HBL).alloc (by omega) _).grown (unhide HGR) (by simp; omega) (fun j hj => by have := unhide hrb j hj.symm; omega)).setCell (p := ⟨w.heap.size, 0, none⟩) (Nat.le_refl _) _
      case measure => simp [intOf]; omega
    · have hke : k = tt.length := by omega
      subst hke
      have k1 : Hid (Blk (wr.alloc (Obj.cells #[.int .i64 0] 3)) w.heap.size #[.slice xq xn xc] 162) := hide ((unhide K0).alloc _)
      go_wp2_with (at_builtin; refine wpList_append_own_at _ rfl _ _ 38 rfl (w.heap.size + 1) 3 i0 (.int .i64 0) 1 8 Tryd.underlying38 hi0 hi1 hi2 hi3 rfl (by decide) (.slice xq xn xc) _ _ rfl ((unhide HR).alloc _) ⟨wr.heap.size, 0, none⟩ 1 1 [.int .i64 0] rfl rfl (cell_one_new _ _ _) (by simp [Value.oneCell']) (by simp only [maxLen]; omega) (by omega) (by simp; omega) ?_; intro u' w3 hown hgr _ _; obtain ⟨yq, yn, yc, rfl⟩ := slice_of hown; have k3 := Blk.grown (unhide k1) hgr (fun e => by have := unhide hrb _ e; omega); have d0 : w3.cell? ⟨w.heap.size, 0, none⟩ = some (.slice xq xn xc) := k3.cell 0; have g0 := k3.frozen 0)
      have HOW := hide hown
      have HGR := hide hgr
      have K3 := hide k3
      clear hown hgr k3
      have hz3 : wr.heap.size ≤ w3.heap.size := by have := (unhide HGR).size; simp at this; omega
      have hB3 : Hid (Below w.heap.size w (w3.setCell ⟨w.heap.size, 0, none⟩ (.slice yq yn yc))) := hide ((((unhide HBL).alloc (by omega) _).grown (unhide HGR) (by simp; omega) (fun j hj => by have := unhide hrb j hj.symm; omega)).setCell (p := ⟨w.heap.size, 0, none⟩) (Nat.le_refl _) _)
      have hR3 : Hid ((w3.setCell ⟨w.heap.size, 0, none⟩ (.slice yq yn yc)).ownsRow (w.heap.size + 1) 3 1 (.slice yq yn yc) (tt.length + 1) ((List.range (tt.length + 1)).map (fun _ => Value.int .i64 0))) := hide (by
        rw [List.range_succ, List.map_append]
        refine owns_away (unhide HOW) (fun j hj => ?_)
        have := ((unhide HOW).lt j hj.symm).1
        omega)
      obtain ⟨gl, capl, hsl, _, hcl, hcells⟩ := owns_cells (unhide hR3) (by omega)
      cases hsl
      have HC0 := hide hcells
      have hzz : (w3.setCell ⟨w.heap.size, 0, none⟩ (.slice (some ⟨gl, 0, none⟩) (tt.length + 1) yc)).heap.size = w3.heap.size := by simp
      clear hcells K3 HOW HGR hrb K0 HR HBL k1 hR3
      go_wp2
      go_loopw [7, 6] (fun z u wr => ∃ i : Nat, i ≤ ss.length ∧ z = .int .i64 ((i : Int) - 1) ∧ RestsV wr u (ss.length - i + 1) tt.length (fun t k => lcI ss tt (i + t) k) ∧ Below w.heap.size w wr) (fun z _ _ => (intOf z + 1).toNat)
      case atStart =>
        refine ⟨ss.length, Nat.le_refl _, rfl, ⟨w3.heap.size, 0, 1, by rw [Nat.sub_self], by omega, fun i hi => ⟨some ⟨gl, 0, none⟩, yc, ?_, ?_⟩⟩, (unhide hB3).alloc (by rw [hzz]; omega) _⟩
        · have hi0' : i = 0 := by omega
          subst hi0'
          rw [← hzz]
          exact (Blk.new (w3.setCell ⟨w.heap.size, 0, none⟩ (.slice (some ⟨gl, 0, none⟩) (tt.length + 1) yc)) #[.slice (some ⟨gl, 0, none⟩) (tt.length + 1) yc] 162).cell 0
        · refine IntsF.below ?_ ((Below.refl _ _).alloc (Nat.le_refl _) _)
          refine ⟨gl, 0, rfl, fun q hq => ?_⟩
          have hi0' : i = 0 := by omega
          subst hi0'
          show _ = some (Value.int .i64 (lcI ss tt (ss.length + 0) q))
          rw [Nat.zero_add, unhide HC0 q (by omega), show lcI ss tt (ss.length + 0) q = 0 from lcI_end ss tt q, List.getElem?_map, List.getElem?_range (by omega)]
          rfl
      case round =>
        clear HC0 hB3 hzz
        obtain ⟨i1, hii1, rfl, hrs, hbl2⟩ := hrel
        by_cases hz0 : i1 = 0
        · subst hz0
          have HRS := hide hrs
          have HB2 := hide hbl2
          obtain ⟨ug, uo, uc, hu, _, _⟩ := hrs
          subst hu
          clear hbl2
          go_wp2
          go_ret
          exact ⟨_, rfl, (unhide HRS).congr (by omega) (fun i k _ _ => by rw [Nat.zero_add]), unhide HB2⟩
        · obtain ⟨i, rfl⟩ : ∃ i, i1 = i + 1 := ⟨i1 - 1, by omega⟩
          have ez : (((i + 1 : Nat) : Int) - 1) = (i : Int) := by omega
          rw [ez]
          have hin : i < ss.length := by omega
          have hini : (i : Int) < (ss.length : Int) := by omega
          have HRS := hide hrs
          have HB2 := hide hbl2
          obtain ⟨ug, uo, uc, hu, huc, hrows⟩ := hrs
          subst hu
          obtain ⟨aq, ad, cq, haf⟩ := hrows 0 (by omega)
          obtain ⟨ga, oa, rfl, hac⟩ := haf
          have hut : (0 : Int) < ((ss.length - (i + 1) + 1 : Nat) : Int) := by omega
          have HAC : Hid (∀ k, k < tt.length + 1 → wr.cell? ⟨ga, oa + k, none⟩ = some (.int .i64 (lcI ss tt (i + 1) k))) := hide (fun k hk => by have := hac k hk; rw [Nat.add_zero] at this; exact this)
          rw [Nat.add_zero] at cq
          have hB2s := hbl2.size
          clear hrows hac hbl2 ez hz0
          go_wp2
          go_loopw [10, 9] (fun z v wx => ∃ (j : Nat) (q : Option Addr) (c : Nat), j ≤ tt.length ∧ z = .int .i64 ((j : Int) - 1) ∧ v = .slice q (tt.length - j + 1) c ∧ IntsF wx q (tt.length - j + 1) (fun k => lcI ss tt i (j + k)) ∧ Below wr.heap.size wr wx) (fun z _ _ => (intOf z + 1).toNat)
          case atStart =>
            refine ⟨tt.length, _, 1, Nat.le_refl _, rfl, by rw [Nat.sub_self], ⟨wr.heap.size, 0, rfl, fun k hk => ?_⟩, (Below.refl _ _).alloc (Nat.le_refl _) _⟩
            have hk0 : k = 0 := by omega
            subst hk0
            show _ = some (Value.int .i64 (lcI ss tt i (tt.length + 0)))
            rw [show lcI ss tt i (tt.length + 0) = 0 from lcI_last ss tt i]
            exact (Blk.new wr #[.int .i64 0] 3).cell 0
          case round =>
            obtain ⟨j1, rq, rc, hj1, rfl, rfl, hrf, hbx⟩ := hrel
            by_cases hj0 : j1 = 0
            · subst hj0
              have HRF := hide hrf
              have HBX := hide hbx
              have hxz := hbx.size
              have hBW : Hid (Below w.heap.size w wr) := hide ((unhide HB2).trans (hbx.mono hB2s))
              have HRX := hide ((unhide HRS).below hbx)
              obtain ⟨vs, hvl, hvc, hvr⟩ := (unhide HRX).vals
              have HVC := hide hvc
              have HVR := hide hvr
              clear hrf hbx hvc hvr
              simp only [Nat.sub_zero] at HRF ⊢
              go_wp2_with (at_builtin; refine wpList_append_own_at _ rfl _ _ 159 rfl wr.heap.size 162 r0 (.agg #[.slice none 0 0]) 1 24 Tryd.underlying159 hr0 hr1 hr2 hr3 rfl (by decide) (.slice (some ⟨wr.heap.size, 0, none⟩) 1 1) 1 [.slice rq (tt.length + 1) rc] rfl (owns_lit wr _ _) ⟨ug, uo, none⟩ (ss.length - (i + 1) + 1) uc vs rfl (by rw [hvl, Nat.mul_one]) (vals_at (unhide HVC) ((Below.refl _ _).alloc (Nat.le_refl _) _)) (vals_one (unhide HVC)) (by simp only [maxLen]; omega) (by omega) (by simp) ?_; intro v' w4 hown hgr _ _; obtain ⟨nq, nn, nc, rfl⟩ := slice_of hown)
              have b4 : Below wr.heap.size wr w4 := ((Below.refl _ wr).alloc (Nat.le_refl _) _).grown hgr (by simp) (fun q hq => by simp [Value.ownBlock] at hq; omega)
              have HRN := hide (rests_cons (F := fun t k => lcI ss tt (i + 1 + t) k) hown hvl ((unhide HRF).below b4) (fun t ht => by obtain ⟨q, d, e1, e2⟩ := unhide HVR t ht; exact ⟨q, d, e1, e2.below b4⟩))
              have HB4 := hide ((unhide hBW).trans (b4.mono (unhide hBW).size))
              clear hown hgr b4
              go_wp2
              go_roundw
              case rel =>
                refine ⟨i, by omega, by go_num, (unhide HRN).congr (by omega) (fun t k ht hk => ?_), unhide HB4⟩
                cases t with
                | zero => show lcI ss tt i (0 + k) = lcI ss tt (i + 0) k; rw [Nat.zero_add, Nat.add_zero]
                | succ t => show lcI ss tt (i + 1 + t) k = lcI ss tt (i + (t + 1)) k; rw [Nat.add_assoc, Nat.add_comm 1 t]
              case measure => simp [intOf] <;> omega
            · obtain ⟨j, rfl⟩ : ∃ j, j1 = j + 1 := ⟨j1 - 1, by omega⟩
              have ez : (((j + 1 : Nat) : Int) - 1) = (j : Int) := by omega
              have el : tt.length - (j + 1) + 1 = tt.length - j := by omega
              rw [ez, el]
              rw [el] at hrf
              have hjm : j < tt.length := by omega
              have hjmi : (j : Int) < (tt.length : Int) := by omega
              have hxz := hbx.size
              have hBW : Below w.heap.size w wr := (unhide HB2).trans (hbx.mono hB2s)
              obtain ⟨ba, oba, hqa, cS⟩ := view_atR (unhide HVA) hBW i hin
              obtain ⟨bb, obb, hqb, cT⟩ := view_atR (unhide HVB) hBW j hjm
              subst hqa
              subst hqb
              obtain ⟨gr, orr, rfl, hrc⟩ := hrf
              have HRC : Hid (∀ k, k < tt.length - j → wr.cell? ⟨gr, orr + k, none⟩ = some (.int .i64 (lcI ss tt i (j + 1 + k)))) := hide hrc
              have rc0 : wr.cell? ⟨gr, orr, none⟩ = some (.int .i64 (lcI ss tt i (j + 1))) := hrc 0 (by omega)
              have a0 : wr.cell? ⟨ga, oa + j, none⟩ = some (.int .i64 (lcI ss tt (i + 1) j)) := cellB hbx (unhide HAC j (by omega))
              have a1 : wr.cell? ⟨ga, oa + (j + 1), none⟩ = some (.int .i64 (lcI ss tt (i + 1) (j + 1))) := cellB hbx (unhide HAC (j + 1) (by omega))
              have l1 := lcI_bound ss tt i (j + 1) hn
              have l2 := lcI_bound ss tt (i + 1) j hn
              have l3 := lcI_bound ss tt (i + 1) (j + 1) hn
              have LT := hide (lcI_three ss tt i j hin hjm)
              have hEQ : Hid (eqT ss tt i j = decide ((tx ss i).data.toList = (tx tt j).data.toList)) := hide rfl
              have hrl : (0 : Int) < ((tt.length - j : Nat) : Int) := by omega
              have HBX := hide hbx
              generalize tx ss i = s1 at *
              generalize tx tt j = s2 at *
              generalize lcI ss tt i (j + 1) = A01 at *
              generalize lcI ss tt (i + 1) j = A10 at *
              generalize lcI ss tt (i + 1) (j + 1) = A11 at *
              clear hrc hbx hBW ez el hj0 cq
              by_cases g1 : A01 < A10
              · by_cases e1 : s1 = s2
                · subst e1
                  have hE : eqT ss tt i j = true := by rw [unhide hEQ]; simp
                  by_cases g2 : A10 < A11 + 1
                  · have HZ : Hid (lcI ss tt i j = A11 + 1) := hide (by rw [unhide LT, if_pos ⟨hE, by omega⟩])
                    clear hEQ LT hE HAC
                    go_wp2
                    go_region
                    go_wp2_with (at_builtin; refine wpList_append_own_at _ rfl _ _ 38 rfl wr.heap.size 3 i0 (.int .i64 0) 1 8 Tryd.underlying38 hi0 hi1 hi2 hi3 rfl (by decide) (.slice (some ⟨wr.heap.size, 0, none⟩) 1 1) 1 [.int .i64 (A11 + 1)] rfl (owns_lit wr _ _) ⟨gr, orr, none⟩ (tt.length - j) rc ((List.range (tt.length - j)).map (fun k => Value.int .i64 (lcI ss tt i (j + 1 + k)))) rfl (by simp) (ints_vals (fun k hk => cellB ((Below.refl _ _).alloc (Nat.le_refl _) _).drew (unhide HRC k hk))) (ints_one _ _) (by simp only [maxLen]; omega) (by omega) (by simp) ?_; intro v' w4 hown hgr _ _; obtain ⟨nq, nc, rfl, hnf⟩ := ints_cons hown)
                    have HNF := hide hnf
                    have HG4 := hide hgr
                    have hwz : wr.heap.size ≤ w4.heap.size := by have := hgr.size; simp at this; omega
                    clear hown hgr hnf
                    go_wp2
                    go_roundw
                    case rel =>
                      refine ⟨j, nq, nc, by omega, by go_num, by rw [show tt.length - j + 1 = 1 + (tt.length - j) by omega], ?_, ?_⟩
                      · rw [show tt.length - j + 1 = 1 + (tt.length - j) by omega]
                        refine (unhide HNF).congr (fun k hk => ?_)
                        cases k with
                        | zero => exact (unhide HZ).symm
                        | succ k => show lcI ss tt i (j + 1 + k) = lcI ss tt i (j + (k + 1)); rw [Nat.add_assoc, Nat.add_comm 1 k]
                      · exact (unhide HBX).trans ((((Below.refl _ wr).alloc hxz _).drew.grown (unhide HG4) (by simp; omega) (fun q hq => by simp [Value.ownBlock] at hq; omega)))
                    case measure => simp [intOf] <;> omega
                  · have HZ : Hid (lcI ss tt i j = A10) := hide (by rw [unhide LT, if_neg (fun x => g2 (by have := x.2; omega))]; omega)
                    clear hEQ LT hE HAC
                    go_wp2
                    go_region
                    go_wp2_with (at_builtin; refine wpList_append_own_at _ rfl _ _ 38 rfl wr.heap.size 3 i0 (.int .i64 0) 1 8 Tryd.underlying38 hi0 hi1 hi2 hi3 rfl (by decide) (.slice (some ⟨wr.heap.size, 0, none⟩) 1 1) 1 [.int .i64 (A10)] rfl (owns_lit wr _ _) ⟨gr, orr, none⟩ (tt.length - j) rc ((List.range (tt.length - j)).map (fun k => Value.int .i64 (lcI ss tt i (j + 1 + k)))) rfl (by simp) (ints_vals (fun k hk => cellB ((Below.refl _ _).alloc (Nat.le_refl _) _).drew (unhide HRC k hk))) (ints_one _ _) (by simp only [maxLen]; omega) (by omega) (by simp) ?_; intro v' w4 hown hgr _ _; obtain ⟨nq, nc, rfl, hnf⟩ := ints_cons hown)
                    have HNF := hide hnf
                    have HG4 := hide hgr
                    have hwz : wr.heap.size ≤ w4.heap.size := by have := hgr.size; simp at this; omega
                    clear hown hgr hnf
                    go_wp2
                    go_roundw
                    case rel =>
                      refine ⟨j, nq, nc, by omega, by go_num, by rw [show tt.length - j + 1 = 1 + (tt.length - j) by omega], ?_, ?_⟩
                      · rw [show tt.length - j + 1 = 1 + (tt.length - j) by omega]
                        refine (unhide HNF).congr (fun k hk => ?_)
                        cases k with
                        | zero => exact (unhide HZ).symm
                        | succ k => show lcI ss tt i (j + 1 + k) = lcI ss tt i (j + (k + 1)); rw [Nat.add_assoc, Nat.add_comm 1 k]
                      · exact (unhide HBX).trans ((((Below.refl _ wr).alloc hxz _).drew.grown (unhide HG4) (by simp; omega) (fun q hq => by simp [Value.ownBlock] at hq; omega)))
                    case measure => simp [intOf] <;> omega
                · have e1b : (s1.toList == s2.toList) = false := beq_no e1
                  have hE : eqT ss tt i j = false := by rw [unhide hEQ, decide_eq_false (fun x => e1 (by cases s1; cases s2; simpa using x))]
                  have HZ : Hid (lcI ss tt i j = A10) := hide (by rw [unhide LT, if_neg (fun x => by rw [hE] at x; cases x.1)]; omega)
                  clear hEQ LT hE HAC
                  go_wp2
                  go_region
                  go_wp2_with (at_builtin; refine wpList_append_own_at _ rfl _ _ 38 rfl wr.heap.size 3 i0 (.int .i64 0) 1 8 Tryd.underlying38 hi0 hi1 hi2 hi3 rfl (by decide) (.slice (some ⟨wr.heap.size, 0, none⟩) 1 1) 1 [.int .i64 (A10)] rfl (owns_lit wr _ _) ⟨gr, orr, none⟩ (tt.length - j) rc ((List.range (tt.length - j)).map (fun k => Value.int .i64 (lcI ss tt i (j + 1 + k)))) rfl (by simp) (ints_vals (fun k hk => cellB ((Below.refl _ _).alloc (Nat.le_refl _) _).drew (unhide HRC k hk))) (ints_one _ _) (by simp only [maxLen]; omega) (by omega) (by simp) ?_; intro v' w4 hown hgr _ _; obtain ⟨nq, nc, rfl, hnf⟩ := ints_cons hown)
                  have HNF := hide hnf
                  have HG4 := hide hgr
                  have hwz : wr.heap.size ≤ w4.heap.size := by have := hgr.size; simp at this; omega
                  clear hown hgr hnf
                  go_wp2
                  go_roundw
                  case rel =>
                    refine ⟨j, nq, nc, by omega, by go_num, by rw [show tt.length - j + 1 = 1 + (tt.length - j) by omega], ?_, ?_⟩
                    · rw [show tt.length - j + 1 = 1 + (tt.length - j) by omega]
                      refine (unhide HNF).congr (fun k hk => ?_)
                      cases k with
                      | zero => exact (unhide HZ).symm
                      | succ k => show lcI ss tt i (j + 1 + k) = lcI ss tt i (j + (k + 1)); rw [Nat.add_assoc, Nat.add_comm 1 k]
                    · exact (unhide HBX).trans ((((Below.refl _ wr).alloc hxz _).drew.grown (unhide HG4) (by simp; omega) (fun q hq => by simp [Value.ownBlock] at hq; omega)))
                  case measure => simp [intOf] <;> omega
              · by_cases e1 : s1 = s2
                · subst e1
                  have hE : eqT ss tt i j = true := by rw [unhide hEQ]; simp
                  by_cases g2 : A01 < A11 + 1
                  · have HZ : Hid (lcI ss tt i j = A11 + 1) := hide (by rw [unhide LT, if_pos ⟨hE, by omega⟩])
                    clear hEQ LT hE HAC
                    go_wp2
                    go_region
                    go_wp2_with (at_builtin; refine wpList_append_own_at _ rfl _ _ 38 rfl wr.heap.size 3 i0 (.int .i64 0) 1 8 Tryd.underlying38 hi0 hi1 hi2 hi3 rfl (by decide) (.slice (some ⟨wr.heap.size, 0, none⟩) 1 1) 1 [.int .i64 (A11 + 1)] rfl (owns_lit wr _ _) ⟨gr, orr, none⟩ (tt.length - j) rc ((List.range (tt.length - j)).map (fun k => Value.int .i64 (lcI ss tt i (j + 1 + k)))) rfl (by simp) (ints_vals (fun k hk => cellB ((Below.refl _ _).alloc (Nat.le_refl _) _).drew (unhide HRC k hk))) (ints_one _ _) (by simp only [maxLen]; omega) (by omega) (by simp) ?_; intro v' w4 hown hgr _ _; obtain ⟨nq, nc, rfl, hnf⟩ := ints_cons hown)
                    have HNF := hide hnf
                    have HG4 := hide hgr
                    have hwz : wr.heap.size ≤ w4.heap.size := by have := hgr.size; simp at this; omega
                    clear hown hgr hnf
                    go_wp2
                    go_roundw
                    case rel =>
                      refine ⟨j, nq, nc, by omega, by go_num, by rw [show tt.length - j + 1 = 1 + (tt.length - j) by omega], ?_, ?_⟩
                      · rw [show tt.length - j + 1 = 1 + (tt.length - j) by omega]
                        refine (unhide HNF).congr (fun k hk => ?_)
                        cases k with
                        | zero => exact (unhide HZ).symm
                        | succ k => show lcI ss tt i (j + 1 + k) = lcI ss tt i (j + (k + 1)); rw [Nat.add_assoc, Nat.add_comm 1 k]
                      · exact (unhide HBX).trans ((((Below.refl _ wr).alloc hxz _).drew.grown (unhide HG4) (by simp; omega) (fun q hq => by simp [Value.ownBlock] at hq; omega)))
                    case measure => simp [intOf] <;> omega
                  · have HZ : Hid (lcI ss tt i j = A01) := hide (by rw [unhide LT, if_neg (fun x => g2 (by have := x.2; omega))]; omega)
                    clear hEQ LT hE HAC
                    go_wp2
                    go_region
                    go_wp2_with (at_builtin; refine wpList_append_own_at _ rfl _ _ 38 rfl wr.heap.size 3 i0 (.int .i64 0) 1 8 Tryd.underlying38 hi0 hi1 hi2 hi3 rfl (by decide) (.slice (some ⟨wr.heap.size, 0, none⟩) 1 1) 1 [.int .i64 (A01)] rfl (owns_lit wr _ _) ⟨gr, orr, none⟩ (tt.length - j) rc ((List.range (tt.length - j)).map (fun k => Value.int .i64 (lcI ss tt i (j + 1 + k)))) rfl (by simp) (ints_vals (fun k hk => cellB ((Below.refl _ _).alloc (Nat.le_refl _) _).drew (unhide HRC k hk))) (ints_one _ _) (by simp only [maxLen]; omega) (by omega) (by simp) ?_; intro v' w4 hown hgr _ _; obtain ⟨nq, nc, rfl, hnf⟩ := ints_cons hown)
                    have HNF := hide hnf
                    have HG4 := hide hgr
                    have hwz : wr.heap.size ≤ w4.heap.size := by have := hgr.size; simp at this; omega
                    clear hown hgr hnf
                    go_wp2
                    go_roundw
                    case rel =>
                      refine ⟨j, nq, nc, by omega, by go_num, by rw [show tt.length - j + 1 = 1 + (tt.length - j) by omega], ?_, ?_⟩
                      · rw [show tt.length - j + 1 = 1 + (tt.length - j) by omega]
                        refine (unhide HNF).congr (fun k hk => ?_)
                        cases k with
                        | zero => exact (unhide HZ).symm
                        | succ k => show lcI ss tt i (j + 1 + k) = lcI ss tt i (j + (k + 1)); rw [Nat.add_assoc, Nat.add_comm 1 k]
                      · exact (unhide HBX).trans ((((Below.refl _ wr).alloc hxz _).drew.grown (unhide HG4) (by simp; omega) (fun q hq => by simp [Value.ownBlock] at hq; omega)))
                    case measure => simp [intOf] <;> omega
                · have e1b : (s1.toList == s2.toList) = false := beq_no e1
                  have hE : eqT ss tt i j = false := by rw [unhide hEQ, decide_eq_false (fun x => e1 (by cases s1; cases s2; simpa using x))]
                  have HZ : Hid (lcI ss tt i j = A01) := hide (by rw [unhide LT, if_neg (fun x => by rw [hE] at x; cases x.1)]; omega)
                  clear hEQ LT hE HAC
                  go_wp2
                  go_region
                  go_wp2_with (at_builtin; refine wpList_append_own_at _ rfl _ _ 38 rfl wr.heap.size 3 i0 (.int .i64 0) 1 8 Tryd.underlying38 hi0 hi1 hi2 hi3 rfl (by decide) (.slice (some ⟨wr.heap.size, 0, none⟩) 1 1) 1 [.int .i64 (A01)] rfl (owns_lit wr _ _) ⟨gr, orr, none⟩ (tt.length - j) rc ((List.range (tt.length - j)).map (fun k => Value.int .i64 (lcI ss tt i (j + 1 + k)))) rfl (by simp) (ints_vals (fun k hk => cellB ((Below.refl _ _).alloc (Nat.le_refl _) _).drew (unhide HRC k hk))) (ints_one _ _) (by simp only [maxLen]; omega) (by omega) (by simp) ?_; intro v' w4 hown hgr _ _; obtain ⟨nq, nc, rfl, hnf⟩ := ints_cons hown)
                  have HNF := hide hnf
                  have HG4 := hide hgr
                  have hwz : wr.heap.size ≤ w4.heap.size := by have := hgr.size; simp at this; omega
                  clear hown hgr hnf
                  go_wp2
                  go_roundw
                  case rel =>
                    refine ⟨j, nq, nc, by omega, by go_num, by rw [show tt.length - j + 1 = 1 + (tt.length - j) by omega], ?_, ?_⟩
                    · rw [show tt.length - j + 1 = 1 + (tt.length - j) by omega]
                      refine (unhide HNF).congr (fun k hk => ?_)
                      cases k with
                      | zero => exact (unhide HZ).symm
                      | succ k => show lcI ss tt i (j + 1 + k) = lcI ss tt i (j + (k + 1)); rw [Nat.add_assoc, Nat.add_comm 1 k]
                    · exact (unhide HBX).trans ((((Below.refl _ wr).alloc hxz _).drew.grown (unhide HG4) (by simp; omega) (fun q hq => by simp [Value.ownBlock] at hq; omega)))
                  case measure => simp [intOf] <;> omega
end Go.Proofs.YtbabmkilbbbmoaaDoor
