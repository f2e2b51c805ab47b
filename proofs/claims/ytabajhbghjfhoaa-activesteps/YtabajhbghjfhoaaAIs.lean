/-
  What a list's Insert does, of entries without attributes.
-/
import Derived.Test.YtabajhbghjfhoaaAFo
namespace Go.Proofs.Ytabajhbghjfhoaa
open Go.RowKit
set_option linter.unusedVariables false
set_option linter.unusedSimpArgs false

theorem flatE_ins (L : List AEnt) (i : Nat) (x : AEnt) (h : i ≤ L.length) : flatE (L.take i ++ [x] ++ L.drop i) = (flatE L).take (i * 4) ++ entL x ++ (flatE L).drop (i * 4) := by
  rw [flatE_app, flatE_app, flatE_take L i h, flatE_drop L i h]
  simp [flatE]
set_option maxHeartbeats 1000000 in
theorem insert_room (q : Value) (x : AEnt) (r : Int) (i n cap : Nat) (z : Option Addr) (w : World) (hx : isElB x = true) (hr : ¬ r = 0) (hi : i ≤ n) (hn : n ≤ 1000) (hq : Hid (∀ w1, Below w.heap.size w w1 → Calls Try.prog 74 #[q] w1 fun e w' => e = .returned (.int .i64 r) ∧ w' = w1))
    (he : Hid (∀ w1, Below w.heap.size w w1 → Calls Try.prog 67 #[q] w1 fun e w' => e = .returned (.slice z n cap) ∧ w' = w1)) :
    Calls Try.prog 38 #[q, .int .i64 (i : Int), entV x] w fun e w' => e = .returned (.int .i64 r) ∧ Below w.heap.size w w' := by
  have C := hide (fun w => element_any x w)
  rw [hx] at C
  have hr1 : (r == 0) = false := beq_eq_false_iff_ne.2 hr
  have hr2 : (r != 0) = true := by simp [hr]
  have hd1 : decide ((i : Int) < 0) = false := decide_eq_false (by omega)
  have hd2 : ¬ (n : Int) < (i : Int) := by omega
  have hd3 : ¬ (i : Int) < 0 := by omega
  obtain ⟨xm, xi, xn, xq, xl, xc⟩ := x
  unfold entV at *
  dsimp only at *
  go_enter Try.func38, Try.ntmps38
  go_wp2_with fail
  refine (unhide C _).mono ?_
  rintro e w1 ⟨rfl, hb⟩
  have HB := hide (bel_of hb)
  clear hb
  go_wp2_with fail
  refine (unhide he _ (unhide HB)).mono ?_
  rintro e w2 ⟨rfl, hw⟩
  obtain rfl : w1 = w2 := hw.symm
  clear hw
  go_wp2_with fail
  refine (unhide hq _ (unhide HB)).mono ?_
  rintro e w2 ⟨rfl, hw⟩
  obtain rfl : w1 = w2 := hw.symm
  clear hw
  go_wp2
  go_ret
  exact ⟨rfl, unhide HB⟩
set_option maxHeartbeats 4000000 in
set_option maxRecDepth 100000 in
theorem insert_in (base p i : Nat) (v : Value) (xm : Bool) (xi : Int) (xn : ByteArray) (L : List AEnt) (w : World) (h : Stk base p v L w) (hbase : base ≤ w.heap.size) (hi : i ≤ L.length) (hN : L.length < 100) (hx : isElB (mkE xm xi xn) = true) :
    Calls Try.prog 38 #[ptr p, .int .i64 (i : Int), entV (mkE xm xi xn)] w fun e w' => e = .returned (.int .i64 0) ∧ Upd base p v (L.take i ++ [mkE xm xi xn] ++ L.drop i) w w' := by
  have C := hide (fun w => element_any (mkE xm xi xn) w)
  rw [hx] at C
  obtain ⟨q, cap, hv, hc, hm, hg⟩ := h.slice
  have CE := hide (fun W (hW : Stk base p v L W) => entries_at p v W hW.1 ⟨_, _, _, hv⟩)
  have CR := hide (fun W (hW : Stk base p v L W) => room_any base p v L W hW)
  simp only [if_neg (show ¬ 100 ≤ L.length by omega)] at CR
  have OW := hide (fun w => own_none xm xi xn w)
  have DD : Hid (∀ W : World, Stk base p v L W → base ≤ W.heap.size → Calls Try.prog 80 #[v, .int .i64 (i : Int), .slice (some ⟨W.heap.size, 0, none⟩) 1 1] (W.alloc (Obj.cells #[.bool xm, .int .i64 xi, .string xn, .slice none 0 0] 58)) (AInsPost base v L.length i (flatE L) (entL (mkE xm xi xn)) (W.alloc (Obj.cells #[.bool xm, .int .i64 xi, .string xn, .slice none 0 0] 58)))) := hide fun W hW hb =>
    ains_any base W.heap.size L.length i v (flatE L) (entL (mkE xm xi xn)) _ (hW.2.1.alloc _) (by omega) hi (flatE_one L) (Blk.new W _ _) rfl (by simp [entL, mkE, Value.oneCell']) (by simp; omega) (fun e => by have := hW.own _ e; omega)
  have H := hide h
  have HF := hide (flatE_ins L i (mkE xm xi xn) hi)
  have HLN : Hid ((L.take i ++ [mkE xm xi xn] ++ L.drop i).length = L.length + 1) := hide (by simp; omega)
  have hd1 : decide ((i : Int) < 0) = false := decide_eq_false (by omega)
  have hd2 : ¬ (L.length : Int) < (i : Int) := by omega
  have hd3 : ¬ (i : Int) < 0 := by omega
  clear h hg hx hi
  subst hv
  unfold entV mkE at C
  dsimp only at C
  unfold ptr at *
  unfold entV
  rw [show (mkE xm xi xn).mr = xm from rfl, show (mkE xm xi xn).id = xi from rfl, show (mkE xm xi xn).nm = xn from rfl, show (mkE xm xi xn).q = none from rfl, show (mkE xm xi xn).n = 0 from rfl, show (mkE xm xi xn).c = 0 from rfl]
  go_enter Try.func38, Try.ntmps38
  go_wp2_with fail
  refine (unhide C _).mono ?_
  rintro e w1 ⟨rfl, hb⟩
  have B1 := hide (bel_of hb)
  have K1 : Hid (Blk w1 w.heap.size #[.bool xm, .int .i64 xi, .string xn, .slice none 0 0] 58) := hide ((Blk.new w _ _).later hb)
  have S1 := hide ((unhide H).later (unhide B1))
  clear hb
  go_wp2_with fail
  refine (unhide CE _ (unhide S1)).mono ?_
  rintro e w2 ⟨rfl, hw⟩
  obtain rfl : w1 = w2 := hw.symm
  clear hw
  go_wp2_with fail
  refine (unhide CR _ (unhide S1)).mono ?_
  rintro e w2 ⟨rfl, hw⟩
  obtain rfl : w1 = w2 := hw.symm
  clear hw
  have m0 : w1.cell? ⟨w.heap.size, 0, none⟩ = some (.bool xm) := (unhide K1).cell 0
  have m1 : w1.cell? ⟨w.heap.size, 1, none⟩ = some (.int .i64 xi) := (unhide K1).cell 1
  have m2 : w1.cell? ⟨w.heap.size, 2, none⟩ = some (.string xn) := (unhide K1).cell 2
  have m3 : w1.cell? ⟨w.heap.size, 3, none⟩ = some (.slice none 0 0) := (unhide K1).cell 3
  have mp : w1.cell? ⟨p, 0, none⟩ = some (.slice q L.length cap) := (unhide S1).1.cell 0
  have HSL : Hid (Stk base p (.slice q L.length cap) L w1.drew) := unhide S1
  have hz1 : base ≤ w1.heap.size := by have := (unhide B1).size; omega
  go_wp2_with fail
  go_region_with (first
    | (go_at_call 68; refine (unhide OW _).mono ?_; rintro e w4 ⟨rfl, hb4⟩; have S4 := hide ((unhide HSL).later hb4); have HB4 := hide hb4; have hz4 : Hid (base ≤ w4.heap.size) := hide (Nat.le_trans hz1 hb4.size); have mp4 : w4.cell? ⟨p, 0, none⟩ = some (.slice q L.length cap) := (unhide S4).1.cell 0; have hp4 : p < w4.heap.size := (unhide S4).lt; clear hb4)
    | (go_at_call 80; refine (unhide DD w4 (unhide S4) (unhide hz4)).mono ?_; rintro e w6 ⟨v6, rfl, hown, hgr, hat⟩; have kb : Blk w6 p _ _ := (hgr.block p (by simp; exact Nat.lt_succ_of_lt (unhide S4).lt) (fun e => (unhide S4).2.2 e.symm)).trans ((unhide S4).1.alloc _); have d0 : w6.cell? ⟨p, 0, none⟩ = some (.slice q L.length cap) := kb.cell 0; have fz : w6.frozen? ⟨p, 0, none⟩ = false := kb.frozen 0; have KB := hide kb; clear kb; obtain ⟨q6, n6, c6, rfl⟩ := slice_of hown))
  all_goals (
    go_wp2
    go_ret
    refine ⟨rfl, ?_⟩
    have hc := app_close (w := w1.drew) ((unhide HB4).alloc (unhide HB4).size (Obj.cells #[.bool xm, .int .i64 xi, .string xn, .slice none 0 0] 58)) ((unhide S4).later ((Below.refl _ _).alloc (Nat.le_refl _) _)) hgr hown (unhide HLN) (unhide HF) hat (unhide KB)
    exact Upd.ahead (unhide B1) (Upd.ahead (below_draws w1 1) hc))
end Go.Proofs.Ytabajhbghjfhoaa
