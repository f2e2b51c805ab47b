/-
  What a list's Add does, of entries without attributes.
-/
import Derived.Test.YtabajhbghjfhoaaATp
namespace Go.Proofs.Ytabajhbghjfhoaa
open Go.RowKit
set_option linter.unusedVariables false
set_option linter.unusedSimpArgs false

def mkE (xm : Bool) (xi : Int) (xn : ByteArray) : AEnt := ⟨xm, xi, xn, none, 0, 0⟩
set_option maxHeartbeats 1000000 in
theorem add_bad (q : Value) (x : AEnt) (w : World) (hx : isElB x = false) :
    Calls Try.prog 33 #[q, entV x] w fun e w' => e = .returned (.int .i64 1) ∧ Below w.heap.size w w' := by
  have C := hide (fun w => element_any x w)
  rw [hx] at C
  obtain ⟨xm, xi, xn, xq, xl, xc⟩ := x
  unfold entV at *
  dsimp only at *
  go_enter Try.func33, Try.ntmps33
  go_wp2_with fail
  refine (unhide C _).mono ?_
  rintro e w1 ⟨rfl, hb⟩
  go_wp2
  go_ret
  exact ⟨rfl, bel_of hb⟩
set_option maxHeartbeats 1000000 in
theorem add_room (q : Value) (x : AEnt) (r : Int) (w : World) (hx : isElB x = true) (hr : ¬ r = 0) (hq : Hid (∀ w1, Below w.heap.size w w1 → Calls Try.prog 74 #[q] w1 fun e w' => e = .returned (.int .i64 r) ∧ w' = w1)) :
    Calls Try.prog 33 #[q, entV x] w fun e w' => e = .returned (.int .i64 r) ∧ Below w.heap.size w w' := by
  have C := hide (fun w => element_any x w)
  rw [hx] at C
  have hr1 : (r == 0) = false := beq_eq_false_iff_ne.2 hr
  have hr2 : (r != 0) = true := by simp [hr]
  obtain ⟨xm, xi, xn, xq, xl, xc⟩ := x
  unfold entV at *
  dsimp only at *
  go_enter Try.func33, Try.ntmps33
  go_wp2_with fail
  refine (unhide C _).mono ?_
  rintro e w1 ⟨rfl, hb⟩
  have HB := hide (bel_of hb)
  clear hb
  go_wp2_with fail
  refine (unhide hq _ (unhide HB)).mono ?_
  rintro e w2 ⟨rfl, rfl⟩
  go_wp2
  go_ret
  exact ⟨rfl, unhide HB⟩

set_option maxHeartbeats 4000000 in
set_option maxRecDepth 100000 in
theorem add_few (base p : Nat) (v : Value) (xm : Bool) (xi : Int) (xn : ByteArray) (ps : List Nat) (L : List AEnt) (w : World) (h : Stk base p v L w) (hbase : base ≤ w.heap.size) (hN : L.length < 100) (hx : isElB (mkE xm xi xn) = true)
    (hT : Hid (∀ W, Below w.heap.size w W → Calls Try.prog 76 #[ptr p, entV (mkE xm xi xn)] W (ToPost ps W))) (hps : ps.length < 3) :
    Calls Try.prog 33 #[ptr p, entV (mkE xm xi xn)] w fun e w' => e = .returned (.int .i64 0) ∧ Upd base p v (L ++ [mkE xm xi xn]) w w' := by
  obtain ⟨i0, hi0, hi1, hi2, hi3⟩ := infoA
  have C := hide (fun w => element_any (mkE xm xi xn) w)
  rw [hx] at C
  have CR := hide (fun W (hW : Stk base p v L W) => room_any base p v L W hW)
  simp only [if_neg (show ¬ 100 ≤ L.length by omega)] at CR
  have OW := hide (fun w => own_none xm xi xn w)
  have hpl := h.lt
  have hol := hide h.own
  have H := hide h
  obtain ⟨L3, hL3⟩ : ∃ L3, L3 = L := ⟨_, rfl⟩
  have hl3 : L3.length < 100 := by rw [hL3]; exact hN
  have AP : Hid (∀ (v3 : Value) (W : World), Stk base p v3 L3 W → base ≤ W.heap.size → ∃ v' w', (Builtin.append_ #[62, 62] 62 #[v3, .slice (some ⟨W.heap.size, 0, none⟩) 1 1]).run Try.prog (W.alloc (Obj.cells #[.bool xm, .int .i64 xi, .string xn, .slice none 0 0] 58)) = .ok v' w' ∧ w'.ownsRow base 58 4 v' (L3.length + 1) (flatE L3 ++ entL (mkE xm xi xn)) ∧ (W.alloc (Obj.cells #[.bool xm, .int .i64 xi, .string xn, .slice none 0 0] 58)).grownBy w' v3.ownBlock ∧ (v' = .slice none 0 0 ↔ v3 = .slice none 0 0 ∧ 1 = 0) ∧ (v'.ownBlock = v3.ownBlock ∨ v'.ownBlock = some (W.alloc (Obj.cells #[.bool xm, .int .i64 xi, .string xn, .slice none 0 0] 58)).heap.size)) := hide fun v3 W hW hb =>
    run_append_own_at (P := Try.prog) (W.alloc (Obj.cells #[.bool xm, .int .i64 xi, .string xn, .slice none 0 0] 58)) base 62 62 58 i0 (.agg #[.bool false, .int .i64 0, .string ⟨#[]⟩, .slice none 0 0]) 4 56 Try.underlying62 hi0 hi1 hi2 hi3 rfl (by decide) v3 L3.length (flatE L3) (hW.2.1.alloc _) ⟨W.heap.size, 0, none⟩ 1 1 (entL (mkE xm xi xn)) rfl (fun j u hj => by
      rw [Addr.add_lit, Nat.zero_add, (Blk.new W _ _).cell j]
      simpa [entL, mkE] using hj) (by simp [entL, mkE, Value.oneCell']) (by simp only [maxLen]; omega) (by omega) (by simp; omega)
  have HL3 := hide hL3
  have HLN : Hid ((L3 ++ [mkE xm xi xn]).length = L3.length + 1) := hide (by simp)
  have HF : Hid (flatE (L3 ++ [mkE xm xi xn]) = flatE L3 ++ entL (mkE xm xi xn)) := hide (by rw [flatE_app, flatE_one1])
  rw [← hL3]
  clear h hL3 hx hi0 hi1 hi2 hi3
  unfold entV mkE at C hT
  dsimp only at C hT
  unfold ptr at *
  unfold entV
  rw [show (mkE xm xi xn).mr = xm from rfl, show (mkE xm xi xn).id = xi from rfl, show (mkE xm xi xn).nm = xn from rfl, show (mkE xm xi xn).q = none from rfl, show (mkE xm xi xn).n = 0 from rfl, show (mkE xm xi xn).c = 0 from rfl]
  go_enter Try.func33, Try.ntmps33
  go_wp2_with fail
  refine (unhide C _).mono ?_
  rintro e w1 ⟨rfl, hb⟩
  have B1 := hide (bel_of hb)
  have K1 : Hid (Blk w1 w.heap.size #[.bool xm, .int .i64 xi, .string xn, .slice none 0 0] 58) := hide ((Blk.new w _ _).later hb)
  have S1 := hide ((unhide H).later (unhide B1))
  clear hb
  go_wp2_with fail
  refine (unhide CR _ (unhide S1)).mono ?_
  rintro e w2 ⟨rfl, hw⟩
  obtain rfl : w1 = w2 := hw.symm
  have k0 : w1.cell? ⟨w.heap.size, 0, none⟩ = some (.bool xm) := (unhide K1).cell 0
  have k1 : w1.cell? ⟨w.heap.size, 1, none⟩ = some (.int .i64 xi) := (unhide K1).cell 1
  have k2 : w1.cell? ⟨w.heap.size, 2, none⟩ = some (.string xn) := (unhide K1).cell 2
  have k3 : w1.cell? ⟨w.heap.size, 3, none⟩ = some (.slice none 0 0) := (unhide K1).cell 3
  clear hw
  go_wp2_with fail
  refine (unhide hT _ (unhide B1)).mono ?_
  rintro e w3 ⟨u, rfl, hu, hb⟩
  have B3 := hide (cellC (unhide B1) hb)
  have K3 := hide ((unhide K1).later hb)
  have S3 := hide ((unhide S1).later hb)
  have hlu : ∃ qu cu, u = .slice qu ps.length cu := by
    rcases hu.2 with ⟨rfl, h0⟩ | ⟨g, cap, cur, rfl, _⟩
    · exact ⟨none, 0, by rw [h0]⟩
    · exact ⟨_, cap, rfl⟩
  obtain ⟨qu, cu, rfl⟩ := hlu
  have hpI : ¬ (3 : Int) ≤ (ps.length : Int) := by omega
  clear hu hb k0 k1 k2 k3
  have S5 : Hid (Stk base p v L3 w3) := hide (by rw [unhide HL3]; exact unhide S3)
  have K5 := K3
  have hz5 : base ≤ w3.heap.size := by have := (unhide B3).size; omega
  obtain ⟨q5, n5, c5, hv5⟩ : ∃ q n c, v = .slice q n c := by obtain ⟨q, cap, e, _⟩ := (unhide S5).slice; exact ⟨_, _, _, e⟩
  subst hv5
  have m0 : w3.cell? ⟨w.heap.size, 0, none⟩ = some (.bool xm) := (unhide K5).cell 0
  have m1 : w3.cell? ⟨w.heap.size, 1, none⟩ = some (.int .i64 xi) := (unhide K5).cell 1
  have m2 : w3.cell? ⟨w.heap.size, 2, none⟩ = some (.string xn) := (unhide K5).cell 2
  have m3 : w3.cell? ⟨w.heap.size, 3, none⟩ = some (.slice none 0 0) := (unhide K5).cell 3
  have mp : w3.cell? ⟨p, 0, none⟩ = some (.slice q5 n5 c5) := (unhide S5).1.cell 0
  have HSL : Hid (Stk base p (.slice q5 n5 c5) L3 w3.drew) := unhide S5
  go_wp2_with fail
  go_region_law (first
    | (obtain ⟨v6, w6, hr, hown, hgr, hnil, hat⟩ := unhide AP (.slice q5 n5 c5) w4 (unhide S4) (unhide hz4); refine step_append_run rfl (.tmp 30) (.tmp 33) 62 62 rfl (.slice q5 n5 c5) (.slice (some ⟨w4.heap.size, 0, none⟩) 1 1) (by simp [Act.eval, Act.put]) (by simp [Act.eval, Act.put]) hr ?_; have kb : Blk w6 p _ _ := (hgr.block p (by simp; exact Nat.lt_succ_of_lt (unhide S4).lt) (fun e => (unhide S4).2.2 e.symm)).trans ((unhide S4).1.alloc _); have d0 : w6.cell? ⟨p, 0, none⟩ = some (.slice q5 n5 c5) := kb.cell 0; have fz : w6.frozen? ⟨p, 0, none⟩ = false := kb.frozen 0; have KB := hide kb; clear kb; obtain ⟨q6, n6, c6, rfl⟩ := slice_of hown)
    | (go_simp; go_wp2_with (go_at_call 68; refine (unhide OW _).mono ?_; rintro e w4 ⟨rfl, hb4⟩; have S4 := hide ((unhide HSL).later hb4); have HB4 := hide hb4; have hz4 : Hid (base ≤ w4.heap.size) := hide (Nat.le_trans hz5 hb4.size); have mp4 : w4.cell? ⟨p, 0, none⟩ = some (.slice q5 n5 c5) := (unhide S4).1.cell 0; have hp4 : p < w4.heap.size := (unhide S4).lt; clear hb4)))
  all_goals (
    go_wp2
    go_ret
    refine ⟨rfl, ?_⟩
    have hc := app_close (w := w3.drew) ((unhide HB4).alloc (unhide HB4).size (Obj.cells #[.bool xm, .int .i64 xi, .string xn, .slice none 0 0] 58)) ((unhide S4).later ((Below.refl _ _).alloc (Nat.le_refl _) _)) hgr hown (unhide HLN) (unhide HF) hat (unhide KB)
    have hc2 := Upd.ahead (below_draws w3 1) hc
    exact Upd.ahead (unhide B3) hc2)

set_option maxHeartbeats 4000000 in
set_option maxRecDepth 100000 in
theorem add_three (base p : Nat) (v : Value) (xm : Bool) (xi : Int) (xn : ByteArray) (ps : List Nat) (L : List AEnt) (w : World) (h : Stk base p v L w) (hbase : base ≤ w.heap.size) (hN : L.length < 100) (hx : isElB (mkE xm xi xn) = true)
    (hT : Hid (∀ W, Below w.heap.size w W → Calls Try.prog 76 #[ptr p, entV (mkE xm xi xn)] W (ToPost ps W))) (hps : 3 ≤ ps.length) (hp0 : ps.getD 0 0 < L.length) :
    Calls Try.prog 33 #[ptr p, entV (mkE xm xi xn)] w fun e w' => e = .returned (.int .i64 0) ∧ Upd base p v (L.eraseIdx (ps.getD 0 0) ++ [mkE xm xi xn]) w w' := by
  obtain ⟨i0, hi0, hi1, hi2, hi3⟩ := infoA
  have C := hide (fun w => element_any (mkE xm xi xn) w)
  rw [hx] at C
  have CR := hide (fun W (hW : Stk base p v L W) => room_any base p v L W hW)
  simp only [if_neg (show ¬ 100 ≤ L.length by omega)] at CR
  have OW := hide (fun w => own_none xm xi xn w)
  have hpl := h.lt
  have hol := hide h.own
  have H := hide h
  have CT := hide (fun W hW => takeOut_any base p (ps.getD 0 0) v L W hW hp0)
  obtain ⟨L3, hL3⟩ : ∃ L3, L3 = L.eraseIdx (ps.getD 0 0) := ⟨_, rfl⟩
  have hl3 : L3.length < 100 := by rw [hL3]; rw [List.length_eraseIdx, if_pos hp0]; omega
  have AP : Hid (∀ (v3 : Value) (W : World), Stk base p v3 L3 W → base ≤ W.heap.size → ∃ v' w', (Builtin.append_ #[62, 62] 62 #[v3, .slice (some ⟨W.heap.size, 0, none⟩) 1 1]).run Try.prog (W.alloc (Obj.cells #[.bool xm, .int .i64 xi, .string xn, .slice none 0 0] 58)) = .ok v' w' ∧ w'.ownsRow base 58 4 v' (L3.length + 1) (flatE L3 ++ entL (mkE xm xi xn)) ∧ (W.alloc (Obj.cells #[.bool xm, .int .i64 xi, .string xn, .slice none 0 0] 58)).grownBy w' v3.ownBlock ∧ (v' = .slice none 0 0 ↔ v3 = .slice none 0 0 ∧ 1 = 0) ∧ (v'.ownBlock = v3.ownBlock ∨ v'.ownBlock = some (W.alloc (Obj.cells #[.bool xm, .int .i64 xi, .string xn, .slice none 0 0] 58)).heap.size)) := hide fun v3 W hW hb =>
    run_append_own_at (P := Try.prog) (W.alloc (Obj.cells #[.bool xm, .int .i64 xi, .string xn, .slice none 0 0] 58)) base 62 62 58 i0 (.agg #[.bool false, .int .i64 0, .string ⟨#[]⟩, .slice none 0 0]) 4 56 Try.underlying62 hi0 hi1 hi2 hi3 rfl (by decide) v3 L3.length (flatE L3) (hW.2.1.alloc _) ⟨W.heap.size, 0, none⟩ 1 1 (entL (mkE xm xi xn)) rfl (fun j u hj => by
      rw [Addr.add_lit, Nat.zero_add, (Blk.new W _ _).cell j]
      simpa [entL, mkE] using hj) (by simp [entL, mkE, Value.oneCell']) (by simp only [maxLen]; omega) (by omega) (by simp; omega)
  have HL3 := hide hL3
  have HLN : Hid ((L3 ++ [mkE xm xi xn]).length = L3.length + 1) := hide (by simp)
  have HF : Hid (flatE (L3 ++ [mkE xm xi xn]) = flatE L3 ++ entL (mkE xm xi xn)) := hide (by rw [flatE_app, flatE_one1])
  rw [← hL3]
  rw [← hL3] at CT
  clear h hL3 hx hi0 hi1 hi2 hi3
  unfold entV mkE at C hT
  dsimp only at C hT
  unfold ptr at *
  unfold entV
  rw [show (mkE xm xi xn).mr = xm from rfl, show (mkE xm xi xn).id = xi from rfl, show (mkE xm xi xn).nm = xn from rfl, show (mkE xm xi xn).q = none from rfl, show (mkE xm xi xn).n = 0 from rfl, show (mkE xm xi xn).c = 0 from rfl]
  go_enter Try.func33, Try.ntmps33
  go_wp2_with fail
  refine (unhide C _).mono ?_
  rintro e w1 ⟨rfl, hb⟩
  have B1 := hide (bel_of hb)
  have K1 : Hid (Blk w1 w.heap.size #[.bool xm, .int .i64 xi, .string xn, .slice none 0 0] 58) := hide ((Blk.new w _ _).later hb)
  have S1 := hide ((unhide H).later (unhide B1))
  clear hb
  go_wp2_with fail
  refine (unhide CR _ (unhide S1)).mono ?_
  rintro e w2 ⟨rfl, hw⟩
  obtain rfl : w1 = w2 := hw.symm
  have k0 : w1.cell? ⟨w.heap.size, 0, none⟩ = some (.bool xm) := (unhide K1).cell 0
  have k1 : w1.cell? ⟨w.heap.size, 1, none⟩ = some (.int .i64 xi) := (unhide K1).cell 1
  have k2 : w1.cell? ⟨w.heap.size, 2, none⟩ = some (.string xn) := (unhide K1).cell 2
  have k3 : w1.cell? ⟨w.heap.size, 3, none⟩ = some (.slice none 0 0) := (unhide K1).cell 3
  clear hw
  go_wp2_with fail
  refine (unhide hT _ (unhide B1)).mono ?_
  rintro e w3 ⟨u, rfl, hu, hb⟩
  have B3 := hide (cellC (unhide B1) hb)
  have K3 := hide ((unhide K1).later hb)
  have S3 := hide ((unhide S1).later hb)
  have hlu : ∃ qu cu, u = .slice qu ps.length cu := by
    rcases hu.2 with ⟨rfl, h0⟩ | ⟨g, cap, cur, rfl, _⟩
    · exact ⟨none, 0, by rw [h0]⟩
    · exact ⟨_, cap, rfl⟩
  obtain ⟨qu, cu, rfl⟩ := hlu
  have hpI : (3 : Int) ≤ (ps.length : Int) := by omega
  have hgu : ∃ gu, qu = some ⟨gu, 0, none⟩ ∧ w3.cell? ⟨gu, 0, none⟩ = some (.int .i64 ((ps.getD 0 0 : Nat) : Int)) := by
    rcases hu.2 with ⟨h, h0⟩ | ⟨g, cap, cur, h, _⟩
    · omega
    · simp only [Value.slice.injEq] at h
      refine ⟨g, h.1, ?_⟩
      rw [h.1] at hu
      have := hu.cells (g := g) rfl 0 (intV (ps.getD 0 0)) (by
        rw [List.getElem?_map, List.getD, List.getElem?_eq_getElem (by omega)]; rfl)
      rw [Addr.add_lit] at this
      exact this
  obtain ⟨gu, rfl, c0⟩ := hgu
  have hp1 : (0 : Int) < (ps.length : Int) := by omega
  generalize ps.getD 0 0 = i at *
  clear hu hb k0 k1 k2 k3
  go_wp2_with fail
  refine (unhide CT _ (unhide S3)).mono ?_
  rintro e w5 ⟨rfl, v5, hs5, ht5, ho5⟩
  have T5 := hide (And.intro ht5 ho5)
  have S5 := hide hs5
  have B5 := hide (unhide B3)
  have K5 := hide (ht5.blk_new (unhide K3) hpl (unhide hol))
  have hz5 : base ≤ w5.heap.size := by have := (unhide B3).size; have := ht5.size; omega
  clear hs5 ht5 ho5
  obtain ⟨q5, n5, c5, hv5⟩ : ∃ q n c, v5 = .slice q n c := by obtain ⟨q, cap, e, _⟩ := (unhide S5).slice; exact ⟨_, _, _, e⟩
  subst hv5
  have m0 : w5.cell? ⟨w.heap.size, 0, none⟩ = some (.bool xm) := (unhide K5).cell 0
  have m1 : w5.cell? ⟨w.heap.size, 1, none⟩ = some (.int .i64 xi) := (unhide K5).cell 1
  have m2 : w5.cell? ⟨w.heap.size, 2, none⟩ = some (.string xn) := (unhide K5).cell 2
  have m3 : w5.cell? ⟨w.heap.size, 3, none⟩ = some (.slice none 0 0) := (unhide K5).cell 3
  have mp : w5.cell? ⟨p, 0, none⟩ = some (.slice q5 n5 c5) := (unhide S5).1.cell 0
  have HSL : Hid (Stk base p (.slice q5 n5 c5) L3 w5.drew) := unhide S5
  go_wp2_with fail
  go_region_law (first
    | (obtain ⟨v6, w6, hr, hown, hgr, hnil, hat⟩ := unhide AP (.slice q5 n5 c5) w4 (unhide S4) (unhide hz4); refine step_append_run rfl (.tmp 30) (.tmp 33) 62 62 rfl (.slice q5 n5 c5) (.slice (some ⟨w4.heap.size, 0, none⟩) 1 1) (by simp [Act.eval, Act.put]) (by simp [Act.eval, Act.put]) hr ?_; have kb : Blk w6 p _ _ := (hgr.block p (by simp; exact Nat.lt_succ_of_lt (unhide S4).lt) (fun e => (unhide S4).2.2 e.symm)).trans ((unhide S4).1.alloc _); have d0 : w6.cell? ⟨p, 0, none⟩ = some (.slice q5 n5 c5) := kb.cell 0; have fz : w6.frozen? ⟨p, 0, none⟩ = false := kb.frozen 0; have KB := hide kb; clear kb; obtain ⟨q6, n6, c6, rfl⟩ := slice_of hown)
    | (go_simp; go_wp2_with (go_at_call 68; refine (unhide OW _).mono ?_; rintro e w4 ⟨rfl, hb4⟩; have S4 := hide ((unhide HSL).later hb4); have HB4 := hide hb4; have hz4 : Hid (base ≤ w4.heap.size) := hide (Nat.le_trans hz5 hb4.size); have mp4 : w4.cell? ⟨p, 0, none⟩ = some (.slice q5 n5 c5) := (unhide S4).1.cell 0; have hp4 : p < w4.heap.size := (unhide S4).lt; clear hb4)))
  all_goals (
    go_wp2
    go_ret
    refine ⟨rfl, ?_⟩
    have hc := app_close (w := w5.drew) ((unhide HB4).alloc (unhide HB4).size (Obj.cells #[.bool xm, .int .i64 xi, .string xn, .slice none 0 0] 58)) ((unhide S4).later ((Below.refl _ _).alloc (Nat.le_refl _) _)) hgr hown (unhide HLN) (unhide HF) hat (unhide KB)
    have hc2 := Upd.ahead (below_draws w5 1) hc
    exact Upd.ahead (unhide B3) (Upd.trans (L := L) (unhide T5).1 (unhide T5).2 hc2))
end Go.Proofs.Ytabajhbghjfhoaa
