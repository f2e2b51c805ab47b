/-
  The reference's Add.
-/
import Derived.Test.YtabajhbghjfhoaaMgA
namespace Go.Proofs.Ytabajhbghjfhoaa
open Go.RowKit
set_option linter.unusedVariables false
set_option linter.unusedSimpArgs false

/-- How many hold from a place on, and the first of them. -/
def adN (f : Nat → Bool) (pt : Int) : List AEnt → Nat → Int × Int → Int × Int
  | [], _, a => a
  | e :: r, i, a => adN f pt r (i + 1) (if (decide (pt ≤ (i : Int)) && f i) = true then (a.1 + 1, if a.2 < 0 then (i : Int) else a.2) else a)
theorem adN_step (f : Nat → Bool) (pt : Int) (L : List AEnt) (k : Nat) (a : Int × Int) (h : k < L.length) : adN f pt (L.drop k) k a = adN f pt (L.drop (k + 1)) (k + 1) (if (decide (pt ≤ (k : Int)) && f k) = true then (a.1 + 1, if a.2 < 0 then (k : Int) else a.2) else a) := by
  rw [List.drop_eq_getElem_cons h, adN]
/-- What is left by Add. -/
def addG (f : Nat → Bool) (pt : Int) (L : List AEnt) (x : AEnt) : List AEnt := (if 2 < (adN f pt L 0 (0, -1)).1 then L.eraseIdx (adN f pt L 0 (0, -1)).2.toNat else L) ++ [x]
theorem adN_lt (f : Nat → Bool) (pt : Int) (L : List AEnt) (i : Nat) (a : Int × Int) (h1 : a.2 < (i : Int) ∧ -1 ≤ a.2 ∧ 0 ≤ a.1 ∧ a.1 ≤ (i : Int) ∧ (0 < a.1 → 0 ≤ a.2)) : (adN f pt L i a).2 < (i : Int) + L.length ∧ -1 ≤ (adN f pt L i a).2 ∧ (0 < (adN f pt L i a).1 → 0 ≤ (adN f pt L i a).2) := by
  induction L generalizing i a with
  | nil => simp [adN]; omega
  | cons y r ih =>
    rw [adN, List.length_cons]
    have := ih (i + 1) (if (decide (pt ≤ (i : Int)) && f i) = true then (a.1 + 1, if a.2 < 0 then (i : Int) else a.2) else a) (by
      split
      · dsimp only; split <;> omega
      · omega)
    omega
set_option maxHeartbeats 4000000 in
set_option maxRecDepth 100000 in
theorem radd_loop (base g cap p : Nat) (xm : Bool) (xi : Int) (xn : ByteArray) (xq : Option Addr) (xl xc : Nat) (f : Nat → Bool) (L : List AEnt) (n : Nat) (pt : Int) (w : World) (hn : Hid (L.length = n)) (h0 : 0 < n) (hn2 : n < 100) (h : RStk base p (.slice (some ⟨g, 0, none⟩) n cap) L w) (hbase : base ≤ w.heap.size) (hpt : lastE (fun x => x.mr) L + 1 = pt) (hx : isElB ⟨xm, xi, xn, xq, xl, xc⟩ = true)
    (hf : Hid (∀ k, k < L.length → ∀ W, Below w.heap.size w W → Calls Try.prog 34 #[entV (L.getD k e0), entV ⟨xm, xi, xn, xq, xl, xc⟩] W fun e w' => e = .returned (.bool (f k)) ∧ Below W.heap.size W w')) :
    Calls Try.prog 56 #[ptr p, entV ⟨xm, xi, xn, xq, xl, xc⟩] w fun e w' => e = .returned (.int .i64 0) ∧ RUpd base p (.slice (some ⟨g, 0, none⟩) n cap) (addG f pt L ⟨xm, xi, xn, xq, xl, xc⟩) w w' := by
  have H := hide h
  have CW := hide (fun W => rwrong_any ⟨xm, xi, xn, xq, xl, xc⟩ W)
  rw [hx] at CW
  have HC := hide h.cells
  have CP : Hid (∀ W, Below w.heap.size w W → Calls Try.prog 71 #[ptr p] W fun e w' => e = .returned (.int .i64 pt) ∧ Below W.heap.size W w') := hide fun W hW => by
    have := rpart_any base p _ L W (h.later hW) (by rw [unhide hn]; omega)
    rw [hpt] at this
    exact this
  have hfull : ¬ (99 : Int) < (n : Int) := by omega
  have HLT : Hid ((adN f pt L 0 (0, -1)).2 < (n : Int) ∧ -1 ≤ (adN f pt L 0 (0, -1)).2 ∧ (0 < (adN f pt L 0 (0, -1)).1 → 0 ≤ (adN f pt L 0 (0, -1)).2)) := hide (by have := adN_lt f pt L 0 (0, -1) (by simp); rw [unhide hn] at this; simpa using this)
  clear h hpt hx
  unfold ptr at *
  unfold entV at CW hf
  dsimp only at CW hf
  unfold entV
  dsimp only
  go_enter Try.func56, Try.ntmps56
  go_wp2_with fail
  refine (unhide CW _).mono ?_
  rintro e w1 ⟨rfl, hb1⟩
  have HB1 := hide (bel_of hb1)
  have KX1 := hide ((Blk.new w #[.bool xm, .int .i64 xi, .string xn, .slice xq xl xc] 65).later hb1)
  have c0 : w1.cell? ⟨p, 0, none⟩ = some (.slice (some ⟨g, 0, none⟩) n cap) := ((unhide H).later (unhide HB1)).1.cell 0
  clear hb1
  go_wp2
  go_loopw [5, 6, 22] (fun c s i wr => ∃ (k : Nat) (a : Int × Int), k ≤ n ∧ i = .int .i64 k ∧ c = .int .i64 a.1 ∧ s = .int .i64 a.2 ∧ Below w.heap.size w wr ∧ Blk wr w.heap.size #[.bool xm, .int .i64 xi, .string xn, .slice xq xl xc] 65 ∧ (0 ≤ a.1 ∧ a.1 ≤ (k : Int)) ∧ adN f pt L 0 (0, -1) = adN f pt (L.drop k) k a) (fun _ _ i _ => n - (intOf i).toNat)
  case atStart => exact ⟨0, (0, -1), Nat.zero_le _, rfl, rfl, rfl, unhide HB1, unhide KX1, by simp, by simp⟩
  case round =>
    obtain ⟨k, ⟨ca, cs⟩, hk, rfl, rfl, rfl, hbw, hkx, hca, hr⟩ := hrel
    obtain ⟨wr, hbw1, hwr⟩ : ∃ wr', Below w.heap.size w wr' ∧ wr' = _ := ⟨_, hbw, rfl⟩
    subst hwr
    clear hbw1
    have HR := hide hr
    have HB := hide hbw
    have KX := hide hkx
    dsimp only at hca
    obtain ⟨hc0, hck⟩ := hca
    clear hr hkx
    by_cases hlt : k < n
    · have hlti : (k : Int) < (n : Int) := by omega
      have hkl : k < L.length := by rw [unhide hn]; exact hlt
      obtain ⟨c1, c2, c3, c4⟩ := (unhide HC).below hbw k hkl
      have HE := hide ((unhide HR).trans (adN_step f pt L k (ca, cs) hkl))
      have CA := hide (unhide hf k hkl)
      rw [Nat.zero_add] at c1 c2 c3 c4
      generalize hfy : f k = fy at *
      clear hfy
      generalize L.getD k e0 = y at *
      obtain ⟨ym, yi, yn, yq, yl, yc⟩ := y
      dsimp only at *
      have HA : Hid (Below w.heap.size w (wr.alloc (Obj.cells #[.bool ym, .int .i64 yi, .string yn, .slice yq yl yc] 65))) := hide (hbw.alloc hbw.size _)
      have KY : Hid (Blk (wr.alloc (Obj.cells #[.bool ym, .int .i64 yi, .string yn, .slice yq yl yc] 65)) wr.heap.size #[.bool ym, .int .i64 yi, .string yn, .slice yq yl yc] 65) := hide (Blk.new wr _ _)
      clear hkl hbw
      have hca1 : ca + 1 ≤ 9223372036854775807 := by omega
      by_cases hp : pt ≤ (k : Int)
      · cases fy with
        | true =>
          by_cases hs : cs < 0
          · skip
            have HX : Hid (adN f pt L 0 (0, -1) = adN f pt (L.drop (k + 1)) (k + 1) (ca + 1, (k : Int))) := hide (by rw [unhide HE]; simp [hp, hs])
            go_wp2_with fail
            refine (unhide CP _ (unhide HA)).mono ?_
            rintro e w2 ⟨rfl, hb2⟩
            have HB2 := hide ((unhide HA).trans (hb2.mono (unhide HA).size))
            have KY2 := hide ((unhide KY).later hb2)
            have KX2 := hide (((unhide KX).alloc (Obj.cells #[.bool ym, .int .i64 yi, .string yn, .slice yq yl yc] 65)).later hb2)
            have y0 : w2.cell? ⟨wr.heap.size, 0, none⟩ = some (.bool ym) := (unhide KY2).cell 0
            have y1 : w2.cell? ⟨wr.heap.size, 1, none⟩ = some (.int .i64 yi) := (unhide KY2).cell 1
            have y2 : w2.cell? ⟨wr.heap.size, 2, none⟩ = some (.string yn) := (unhide KY2).cell 2
            have y3 : w2.cell? ⟨wr.heap.size, 3, none⟩ = some (.slice yq yl yc) := (unhide KY2).cell 3
            have x0 : w2.cell? ⟨w.heap.size, 0, none⟩ = some (.bool xm) := (unhide KX2).cell 0
            have x1 : w2.cell? ⟨w.heap.size, 1, none⟩ = some (.int .i64 xi) := (unhide KX2).cell 1
            have x2 : w2.cell? ⟨w.heap.size, 2, none⟩ = some (.string xn) := (unhide KX2).cell 2
            have x3 : w2.cell? ⟨w.heap.size, 3, none⟩ = some (.slice xq xl xc) := (unhide KX2).cell 3
            clear hb2
            go_wp2_with fail
            refine (unhide CA _ (unhide HB2)).mono ?_
            rintro e w3 ⟨rfl, hb3⟩
            have HB3 := hide ((unhide HB2).trans (hb3.mono (unhide HB2).size))
            have KX3 := hide ((unhide KX2).later hb3)
            clear hb3
            go_wp2
            go_roundw
            case rel => exact ⟨k + 1, (ca + 1, (k : Int)), by omega, by go_num, by go_num, rfl, unhide HB3, unhide KX3, by dsimp only; omega, unhide HX⟩
            case measure => simp [intOf]; omega
          · skip
            have HX : Hid (adN f pt L 0 (0, -1) = adN f pt (L.drop (k + 1)) (k + 1) (ca + 1, cs)) := hide (by rw [unhide HE]; simp [hp, hs])
            go_wp2_with fail
            refine (unhide CP _ (unhide HA)).mono ?_
            rintro e w2 ⟨rfl, hb2⟩
            have HB2 := hide ((unhide HA).trans (hb2.mono (unhide HA).size))
            have KY2 := hide ((unhide KY).later hb2)
            have KX2 := hide (((unhide KX).alloc (Obj.cells #[.bool ym, .int .i64 yi, .string yn, .slice yq yl yc] 65)).later hb2)
            have y0 : w2.cell? ⟨wr.heap.size, 0, none⟩ = some (.bool ym) := (unhide KY2).cell 0
            have y1 : w2.cell? ⟨wr.heap.size, 1, none⟩ = some (.int .i64 yi) := (unhide KY2).cell 1
            have y2 : w2.cell? ⟨wr.heap.size, 2, none⟩ = some (.string yn) := (unhide KY2).cell 2
            have y3 : w2.cell? ⟨wr.heap.size, 3, none⟩ = some (.slice yq yl yc) := (unhide KY2).cell 3
            have x0 : w2.cell? ⟨w.heap.size, 0, none⟩ = some (.bool xm) := (unhide KX2).cell 0
            have x1 : w2.cell? ⟨w.heap.size, 1, none⟩ = some (.int .i64 xi) := (unhide KX2).cell 1
            have x2 : w2.cell? ⟨w.heap.size, 2, none⟩ = some (.string xn) := (unhide KX2).cell 2
            have x3 : w2.cell? ⟨w.heap.size, 3, none⟩ = some (.slice xq xl xc) := (unhide KX2).cell 3
            clear hb2
            go_wp2_with fail
            refine (unhide CA _ (unhide HB2)).mono ?_
            rintro e w3 ⟨rfl, hb3⟩
            have HB3 := hide ((unhide HB2).trans (hb3.mono (unhide HB2).size))
            have KX3 := hide ((unhide KX2).later hb3)
            clear hb3
            go_wp2
            go_roundw
            case rel => exact ⟨k + 1, (ca + 1, cs), by omega, by go_num, by go_num, rfl, unhide HB3, unhide KX3, by dsimp only; omega, unhide HX⟩
            case measure => simp [intOf]; omega
        | false =>
          have HX : Hid (adN f pt L 0 (0, -1) = adN f pt (L.drop (k + 1)) (k + 1) (ca, cs)) := hide (by rw [unhide HE]; simp)
          go_wp2_with fail
          refine (unhide CP _ (unhide HA)).mono ?_
          rintro e w2 ⟨rfl, hb2⟩
          have HB2 := hide ((unhide HA).trans (hb2.mono (unhide HA).size))
          have KY2 := hide ((unhide KY).later hb2)
          have KX2 := hide (((unhide KX).alloc (Obj.cells #[.bool ym, .int .i64 yi, .string yn, .slice yq yl yc] 65)).later hb2)
          have y0 : w2.cell? ⟨wr.heap.size, 0, none⟩ = some (.bool ym) := (unhide KY2).cell 0
          have y1 : w2.cell? ⟨wr.heap.size, 1, none⟩ = some (.int .i64 yi) := (unhide KY2).cell 1
          have y2 : w2.cell? ⟨wr.heap.size, 2, none⟩ = some (.string yn) := (unhide KY2).cell 2
          have y3 : w2.cell? ⟨wr.heap.size, 3, none⟩ = some (.slice yq yl yc) := (unhide KY2).cell 3
          have x0 : w2.cell? ⟨w.heap.size, 0, none⟩ = some (.bool xm) := (unhide KX2).cell 0
          have x1 : w2.cell? ⟨w.heap.size, 1, none⟩ = some (.int .i64 xi) := (unhide KX2).cell 1
          have x2 : w2.cell? ⟨w.heap.size, 2, none⟩ = some (.string xn) := (unhide KX2).cell 2
          have x3 : w2.cell? ⟨w.heap.size, 3, none⟩ = some (.slice xq xl xc) := (unhide KX2).cell 3
          clear hb2
          go_wp2_with fail
          refine (unhide CA _ (unhide HB2)).mono ?_
          rintro e w3 ⟨rfl, hb3⟩
          have HB3 := hide ((unhide HB2).trans (hb3.mono (unhide HB2).size))
          have KX3 := hide ((unhide KX2).later hb3)
          clear hb3
          go_wp2
          go_roundw
          case rel => exact ⟨k + 1, (ca, cs), by omega, by go_num, rfl, rfl, unhide HB3, unhide KX3, by dsimp only; omega, unhide HX⟩
          case measure => simp [intOf]; omega
      · have hp1 : (k : Int) < pt := by omega
        have HX : Hid (adN f pt L 0 (0, -1) = adN f pt (L.drop (k + 1)) (k + 1) (ca, cs)) := hide (by rw [unhide HE]; simp [hp])
        go_wp2_with fail
        refine (unhide CP _ (unhide HA)).mono ?_
        rintro e w2 ⟨rfl, hb2⟩
        have HB2 := hide ((unhide HA).trans (hb2.mono (unhide HA).size))
        have KY2 := hide ((unhide KY).later hb2)
        have KX2 := hide (((unhide KX).alloc (Obj.cells #[.bool ym, .int .i64 yi, .string yn, .slice yq yl yc] 65)).later hb2)
        have y0 : w2.cell? ⟨wr.heap.size, 0, none⟩ = some (.bool ym) := (unhide KY2).cell 0
        have y1 : w2.cell? ⟨wr.heap.size, 1, none⟩ = some (.int .i64 yi) := (unhide KY2).cell 1
        have y2 : w2.cell? ⟨wr.heap.size, 2, none⟩ = some (.string yn) := (unhide KY2).cell 2
        have y3 : w2.cell? ⟨wr.heap.size, 3, none⟩ = some (.slice yq yl yc) := (unhide KY2).cell 3
        have x0 : w2.cell? ⟨w.heap.size, 0, none⟩ = some (.bool xm) := (unhide KX2).cell 0
        have x1 : w2.cell? ⟨w.heap.size, 1, none⟩ = some (.int .i64 xi) := (unhide KX2).cell 1
        have x2 : w2.cell? ⟨w.heap.size, 2, none⟩ = some (.string xn) := (unhide KX2).cell 2
        have x3 : w2.cell? ⟨w.heap.size, 3, none⟩ = some (.slice xq xl xc) := (unhide KX2).cell 3
        clear hb2
        go_wp2
        go_roundw
        case rel => exact ⟨k + 1, (ca, cs), by omega, by go_num, rfl, rfl, unhide HB2, unhide KX2, by dsimp only; omega, unhide HX⟩
        case measure => simp [intOf]; omega
    · have hlti : ¬ (k : Int) < (n : Int) := by omega
      have HX : Hid (adN f pt L 0 (0, -1) = (ca, cs)) := hide (by
        have := unhide HR
        rw [List.drop_eq_nil_of_le (by rw [unhide hn]; omega), adN] at this
        exact this)
      have hlt2 := unhide HLT
      rw [unhide HX] at hlt2
      obtain ⟨hl1, hl2, hl3⟩ := hlt2
      dsimp only at hl1 hl2 hl3
      clear hlt hbw
      have HS := hide ((unhide H).later (unhide HB))
      have hzw := (unhide HB).size
      have hpl : p < w.heap.size := (unhide H).lt
      by_cases h2 : 2 < ca
      · have hcs : 0 ≤ cs := hl3 (by omega)
        have e1 : ((cs.toNat : Nat) : Int) = cs := by omega
        have DR := hide (rdrop_any base p cs.toNat _ L wr (unhide HS) (by omega) (by rw [unhide hn]; omega) (by rw [unhide hn]; omega))
        rw [e1] at DR
        have HLE : Hid ((L.eraseIdx cs.toNat).length = n - 1) := hide (by rw [List.length_eraseIdx, if_pos (by rw [unhide hn]; omega), unhide hn])
        have HG : Hid (addG f pt L ⟨xm, xi, xn, xq, xl, xc⟩ = L.eraseIdx cs.toNat ++ [⟨xm, xi, xn, xq, xl, xc⟩]) := hide (by unfold addG; rw [unhide HX]; dsimp only; rw [if_pos h2])
        unfold ptr at DR
        generalize L.eraseIdx cs.toNat = T1 at *
        clear e1 hl1 hl2 hl3
        go_wp2_with fail
        refine (unhide DR).mono ?_
        rintro e w3 ⟨rfl, v3, hs3, ht3, ho3⟩
        have K3 := hide (ht3.blk_new (unhide KX) hpl (fun k hk => (unhide H).own k hk))
        obtain ⟨q3, cap3, hv3, _⟩ := hs3.slice
        subst hv3
        rw [unhide HLE] at hs3
        have PU := hide (rput_any base p T1.length (.slice q3 (n - 1) cap3) ⟨xm, xi, xn, xq, xl, xc⟩ T1 w3.drew (hs3.later (below_draws w3 1)) (by have := ht3.size; show base ≤ w3.heap.size; omega) (by rw [unhide HLE]; omega) (Nat.le_refl _))
        rw [List.take_length, List.drop_length, List.append_nil, unhide HLE] at PU
        have d0 : w3.cell? ⟨p, 0, none⟩ = some (.slice q3 (n - 1) cap3) := hs3.1.cell 0
        have x0 : w3.cell? ⟨w.heap.size, 0, none⟩ = some (.bool xm) := (unhide K3).cell 0
        have x1 : w3.cell? ⟨w.heap.size, 1, none⟩ = some (.int .i64 xi) := (unhide K3).cell 1
        have x2 : w3.cell? ⟨w.heap.size, 2, none⟩ = some (.string xn) := (unhide K3).cell 2
        have x3 : w3.cell? ⟨w.heap.size, 3, none⟩ = some (.slice xq xl xc) := (unhide K3).cell 3
        unfold ptr entV at PU
        dsimp only at PU
        have HT := hide ht3
        have HO := hide ho3
        clear hs3 ht3 ho3
        go_wp2_with fail
        go_region_with (go_at_call 92; refine (unhide PU).mono ?_; rintro e w4 ⟨rfl, hu⟩; have HU := hide hu; clear hu)
        all_goals (
          go_wp2
          go_ret
          refine ⟨rfl, ?_⟩
          rw [unhide HG]
          rw [unhide HLE] at HO
          exact RUpd.ahead (unhide HB) (RUpd.trans (L := L) (unhide HT) (unhide HO) (RUpd.ahead (below_draws w3 1) (unhide HU))))
      · have HG : Hid (addG f pt L ⟨xm, xi, xn, xq, xl, xc⟩ = L ++ [⟨xm, xi, xn, xq, xl, xc⟩]) := hide (by unfold addG; rw [unhide HX]; dsimp only; rw [if_neg h2])
        have PU := hide (rput_any base p L.length _ ⟨xm, xi, xn, xq, xl, xc⟩ L wr.drew ((unhide HS).later (below_draws wr 1)) (by show base ≤ wr.heap.size; omega) (by rw [unhide hn]; omega) (Nat.le_refl _))
        rw [List.take_length, List.drop_length, List.append_nil, unhide hn] at PU
        have d0 : wr.cell? ⟨p, 0, none⟩ = some (.slice (some ⟨g, 0, none⟩) n cap) := (unhide HS).1.cell 0
        have x0 : wr.cell? ⟨w.heap.size, 0, none⟩ = some (.bool xm) := (unhide KX).cell 0
        have x1 : wr.cell? ⟨w.heap.size, 1, none⟩ = some (.int .i64 xi) := (unhide KX).cell 1
        have x2 : wr.cell? ⟨w.heap.size, 2, none⟩ = some (.string xn) := (unhide KX).cell 2
        have x3 : wr.cell? ⟨w.heap.size, 3, none⟩ = some (.slice xq xl xc) := (unhide KX).cell 3
        unfold ptr entV at PU
        dsimp only at PU
        clear hl1 hl2 hl3
        go_wp2_with fail
        go_region_with (go_at_call 92; refine (unhide PU).mono ?_; rintro e w4 ⟨rfl, hu⟩; have HU := hide hu; clear hu)
        all_goals (
          go_wp2
          go_ret
          refine ⟨rfl, ?_⟩
          rw [unhide HG]
          exact RUpd.ahead (unhide HB) (RUpd.ahead (below_draws wr 1) (unhide HU)))
end Go.Proofs.Ytabajhbghjfhoaa
