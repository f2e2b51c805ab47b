/-
  What a list's Insert does, of entries with any attributes.
-/
import Derived.Test.YtabajhbghjfhoaaALs
namespace Go.Proofs.Ytabajhbghjfhoaa
open Go.RowKit
set_option linter.unusedVariables false
set_option linter.unusedSimpArgs false

set_option maxHeartbeats 4000000 in
set_option maxRecDepth 100000 in
theorem insert_inA (base p i : Nat) (v : Value) (xm : Bool) (xi : Int) (xn : ByteArray) (xq : Option Addr) (xl xc : Nat) (ats : List (ByteArray × ByteArray)) (L : List AEnt) (w : World) (h : Stk base p v L w) (hbase : base ≤ w.heap.size) (hi : i ≤ L.length) (hN : L.length < 100) (hx : isElB ⟨xm, xi, xn, xq, xl, xc⟩ = true) (hq : xq = none → xl = 0 ∧ xc = 0) (hats : AtsV xq xl ats w) :
    Calls Try.prog 38 #[ptr p, .int .i64 (i : Int), entV ⟨xm, xi, xn, xq, xl, xc⟩] w fun e w' => ∃ q2 c2 v', e = .returned (.int .i64 0) ∧ UpdV base p v v' (L.take i ++ [⟨xm, xi, xn, q2, xl, c2⟩] ++ L.drop i) w w' ∧ OwnA w.heap.size q2 xl ats w' ∧ (q2 = none → xl = 0 ∧ c2 = 0) ∧ (∀ g, q2 = some ⟨g, 0, none⟩ → some g ≠ v'.ownBlock) := by
  have C := hide (fun w => element_any ⟨xm, xi, xn, xq, xl, xc⟩ w)
  rw [hx] at C
  obtain ⟨q, cap, hv, hc, hm, hg⟩ := h.slice
  have CE := hide (fun W (hW : Stk base p v L W) => entries_at p v W hW.1 ⟨_, _, _, hv⟩)
  have CR := hide (fun W (hW : Stk base p v L W) => room_any base p v L W hW)
  simp only [if_neg (show ¬ 100 ≤ L.length by omega)] at CR
  have OW := hide (fun W (hW : Below w.heap.size w W) => own_any xm xi xn xq xl xc ats W hq (hats.below hW))
  have DD : Hid (∀ (q2 : Option Addr) (c2 : Nat) (W : World), Stk base p v L W → base ≤ W.heap.size → Calls Try.prog 80 #[v, .int .i64 (i : Int), .slice (some ⟨W.heap.size, 0, none⟩) 1 1] (W.alloc (Obj.cells #[.bool xm, .int .i64 xi, .string xn, .slice q2 xl c2] 58)) (AInsPost base v L.length i (flatE L) (entL ⟨xm, xi, xn, q2, xl, c2⟩) (W.alloc (Obj.cells #[.bool xm, .int .i64 xi, .string xn, .slice q2 xl c2] 58)))) := hide fun q2 c2 W hW hb =>
    ains_any base W.heap.size L.length i v (flatE L) (entL ⟨xm, xi, xn, q2, xl, c2⟩) _ (hW.2.1.alloc _) (by omega) hi (flatE_one L) (Blk.new W _ _) rfl (by simp [entL, Value.oneCell']) (by simp; omega) (fun e => by have := hW.own _ e; omega)
  have H := hide h
  have HF : Hid (∀ (q2 : Option Addr) (c2 : Nat), flatE (L.take i ++ [(⟨xm, xi, xn, q2, xl, c2⟩ : AEnt)] ++ L.drop i) = (flatE L).take (i * 4) ++ entL ⟨xm, xi, xn, q2, xl, c2⟩ ++ (flatE L).drop (i * 4)) := hide (fun q2 c2 => flatE_ins L i ⟨xm, xi, xn, q2, xl, c2⟩ hi)
  have HLN : Hid (∀ (q2 : Option Addr) (c2 : Nat), (L.take i ++ [(⟨xm, xi, xn, q2, xl, c2⟩ : AEnt)] ++ L.drop i).length = L.length + 1) := hide (fun q2 c2 => by simp; omega)
  have hd1 : decide ((i : Int) < 0) = false := decide_eq_false (by omega)
  have hd2 : ¬ (L.length : Int) < (i : Int) := by omega
  have hd3 : ¬ (i : Int) < 0 := by omega
  clear h hg hx hi
  subst hv
  unfold entV at C
  dsimp only at C
  unfold ptr at *
  unfold entV
  dsimp only
  go_enter Try.func38, Try.ntmps38
  go_wp2_with fail
  refine (unhide C _).mono ?_
  rintro e w1 ⟨rfl, hb⟩
  have B1 := hide (bel_of hb)
  have K1 : Hid (Blk w1 w.heap.size #[.bool xm, .int .i64 xi, .string xn, .slice xq xl xc] 58) := hide ((Blk.new w _ _).later hb)
  have S1 := hide ((unhide H).later (unhide B1))
  clear hb
  go_wp2_with fail
  refine (unhide CE _ (unhide S1)).mono ?_
  rintro e w2 ⟨rfl, hw⟩
  obtain rfl : w1 = w2 := hw.symm
  clear hw
  go_wp2_with fail
  refine (unhide CR _ (unhide S1)).mono ?_
  rintro e w2 ⟨rfl, hw⟩
  obtain rfl : w1 = w2 := hw.symm
  clear hw
  have m0 : w1.cell? ⟨w.heap.size, 0, none⟩ = some (.bool xm) := (unhide K1).cell 0
  have m1 : w1.cell? ⟨w.heap.size, 1, none⟩ = some (.int .i64 xi) := (unhide K1).cell 1
  have m2 : w1.cell? ⟨w.heap.size, 2, none⟩ = some (.string xn) := (unhide K1).cell 2
  have m3 : w1.cell? ⟨w.heap.size, 3, none⟩ = some (.slice xq xl xc) := (unhide K1).cell 3
  have mp : w1.cell? ⟨p, 0, none⟩ = some (.slice q L.length cap) := (unhide S1).1.cell 0
  have HSL : Hid (Stk base p (.slice q L.length cap) L w1.drew) := unhide S1
  have HBO : Hid (Below w.heap.size w w1.drew) := hide (tr2 (unhide B1) (below_draws w1 1))
  have HOW : Hid (∀ k, (Value.slice q L.length cap).ownBlock = some k → k < w1.heap.size) := hide (unhide S1).own
  have HZL : Hid (w1.heap.size ≤ w1.drew.heap.size) := hide (Nat.le_refl _)
  have HPL : Hid (p < w1.drew.heap.size) := hide (unhide S1).lt
  have HZM : Hid (w.heap.size ≤ w1.drew.heap.size) := hide (unhide B1).size
  have hz1 : base ≤ w1.heap.size := by have := (unhide B1).size; omega
  go_wp2_with fail
  go_region_with (first
    | (go_at_call 68; refine (unhide OW _ (unhide HBO)).mono ?_; rintro e w4 ⟨q2, c2, rfl, hO4, hn4, hb4⟩; have O4 := hide hO4; have N4 := hide hn4; clear hO4 hn4; have S4 := hide ((unhide HSL).later hb4); have HB4 := hide hb4; have hz4 : Hid (base ≤ w4.heap.size) := hide (Nat.le_trans hz1 hb4.size); have mp4 : w4.cell? ⟨p, 0, none⟩ = some (.slice q L.length cap) := (unhide S4).1.cell 0; have hp4 : p < w4.heap.size := (unhide S4).lt; clear hb4)
    | (go_at_call 80; refine (unhide DD q2 c2 w4 (unhide S4) (unhide hz4)).mono ?_; rintro e w6 ⟨v6, rfl, hown, hgr, hat⟩; have kb : Blk w6 p _ _ := (hgr.block p (by simp; exact Nat.lt_succ_of_lt (unhide S4).lt) (fun e => (unhide S4).2.2 e.symm)).trans ((unhide S4).1.alloc _); have d0 : w6.cell? ⟨p, 0, none⟩ = some (.slice q L.length cap) := kb.cell 0; have fz : w6.frozen? ⟨p, 0, none⟩ = false := kb.frozen 0; have KB := hide kb; clear kb; obtain ⟨q6, n6, c6, rfl⟩ := slice_of hown))
  all_goals (
    go_wp2
    go_ret
    refine ⟨q2, c2, .slice q6 n6 c6, rfl, ?_, ?_, unhide N4, ?_⟩
    rotate_left
    · exact (((((unhide O4).below ((Below.refl _ _).alloc (Nat.le_refl _) (Obj.cells #[.bool xm, .int .i64 xi, .string xn, .slice q2 xl c2] 58))).keep hgr.size (fun g _ hg hl => hgr.block g hl (fun e => by have := unhide HOW g e.symm; have := unhide HZL; omega))).away (unhide HPL) _).mono (unhide HZM))
    · intro g hg e
      rcases (unhide O4).2 with hn | ⟨g', hg', hz, hl'⟩
      · rw [hg] at hn; cases hn
      · rw [hg] at hg'
        injection hg' with hg'
        injection hg' with e1 _
        rcases hat with h | h
        · rw [h] at e; have := unhide HOW g e.symm; have := unhide HZL; omega
        · rw [h] at e; injection e with e; simp at e; omega
    have hc := app_closeV (w := w1.drew) ((unhide HB4).alloc (unhide HB4).size (Obj.cells #[.bool xm, .int .i64 xi, .string xn, .slice q2 xl c2] 58)) ((unhide S4).later ((Below.refl _ _).alloc (Nat.le_refl _) _)) hgr hown (unhide HLN q2 c2) (unhide HF q2 c2) hat (unhide KB)
    exact UpdV.ahead (unhide B1) (UpdV.ahead (below_draws w1 1) hc))
set_option maxHeartbeats 1000000 in
theorem insert_notel (q : Value) (at' : Int) (x : AEnt) (w : World) (hx : isElB x = false) :
    Calls Try.prog 38 #[q, .int .i64 at', entV x] w fun e w' => e = .returned (.int .i64 1) ∧ Below w.heap.size w w' := by
  have C := hide (fun w => element_any x w)
  rw [hx] at C
  obtain ⟨xm, xi, xn, xq, xl, xc⟩ := x
  unfold entV at *
  dsimp only at *
  go_enter Try.func38, Try.ntmps38
  go_wp2_with fail
  refine (unhide C _).mono ?_
  rintro e w1 ⟨rfl, hb⟩
  go_wp2
  go_ret
  exact ⟨rfl, bel_of hb⟩
set_option maxHeartbeats 1000000 in
theorem insert_neg (q : Value) (at' : Int) (x : AEnt) (w : World) (hx : isElB x = true) (ha : at' < 0) :
    Calls Try.prog 38 #[q, .int .i64 at', entV x] w fun e w' => e = .returned (.int .i64 1) ∧ Below w.heap.size w w' := by
  have C := hide (fun w => element_any x w)
  rw [hx] at C
  obtain ⟨xm, xi, xn, xq, xl, xc⟩ := x
  unfold entV at *
  dsimp only at *
  go_enter Try.func38, Try.ntmps38
  go_wp2_with fail
  refine (unhide C _).mono ?_
  rintro e w1 ⟨rfl, hb⟩
  go_wp2
  go_ret
  exact ⟨rfl, bel_of hb⟩
set_option maxHeartbeats 1000000 in
theorem insert_far (q : Value) (at' : Int) (x : AEnt) (z : Option Addr) (n cap : Nat) (w : World) (hx : isElB x = true) (ha : ¬ at' < 0) (hn : (n : Int) < at')
    (he : Hid (∀ w1, Below w.heap.size w w1 → Calls Try.prog 67 #[q] w1 fun e w' => e = .returned (.slice z n cap) ∧ w' = w1)) :
    Calls Try.prog 38 #[q, .int .i64 at', entV x] w fun e w' => e = .returned (.int .i64 1) ∧ Below w.heap.size w w' := by
  have C := hide (fun w => element_any x w)
  rw [hx] at C
  have hd : decide (at' < 0) = false := decide_eq_false ha
  obtain ⟨xm, xi, xn, xq, xl, xc⟩ := x
  unfold entV at *
  dsimp only at *
  go_enter Try.func38, Try.ntmps38
  go_wp2_with fail
  refine (unhide C _).mono ?_
  rintro e w1 ⟨rfl, hb⟩
  have HB := hide (bel_of hb)
  clear hb
  go_wp2_with fail
  refine (unhide he _ (unhide HB)).mono ?_
  rintro e w2 ⟨rfl, hw⟩
  obtain rfl : w1 = w2 := hw.symm
  clear hw
  go_wp2
  go_ret
  exact ⟨rfl, unhide HB⟩
theorem Rel2.take {R : AEnt → PEnt → Prop} : ∀ {L : List AEnt} {P : List PEnt} (i : Nat), Rel2 R L P → Rel2 R (L.take i) (P.take i)
  | [], [], i, _ => by simp; trivial
  | a :: l, b :: m, 0, h => trivial
  | a :: l, b :: m, i + 1, h => ⟨h.1, Rel2.take i h.2⟩
  | [], b :: m, _, h => h.elim
  | a :: l, [], _, h => h.elim
theorem Rel2.drop {R : AEnt → PEnt → Prop} : ∀ {L : List AEnt} {P : List PEnt} (i : Nat), Rel2 R L P → Rel2 R (L.drop i) (P.drop i)
  | [], [], i, _ => by simp; trivial
  | a :: l, b :: m, 0, h => h
  | a :: l, b :: m, i + 1, h => Rel2.drop i h.2
  | [], b :: m, _, h => h.elim
  | a :: l, [], _, h => h.elim
def insR (at' : Int) (x : PEnt) (n : Nat) : Int := if isElP x = false ∨ at' < 0 ∨ (n : Int) < at' then 1 else if 100 ≤ n then 5 else 0
def insP (at' : Int) (x : PEnt) (P : List PEnt) : List PEnt := if isElP x = false ∨ at' < 0 ∨ (P.length : Int) < at' then P else if 100 ≤ P.length then P else P.take at'.toNat ++ [x] ++ P.drop at'.toNat
theorem insert_p (base p : Nat) (v : Value) (P : List PEnt) (at' : Int) (x : PEnt) (q : Option Addr) (n c : Nat) (w : World) (h : LstP base p v P w) (hbase : base ≤ w.heap.size) (hN : P.length ≤ 100)
    (hq : q = none → n = 0 ∧ c = 0) (hats : AtsV q n x.ats w) :
    Calls Try.prog 38 #[ptr p, .int .i64 at', .agg #[.bool x.mr, .int .i64 x.id, .string x.nm, .slice q n c]] w fun e w' => e = .returned (.int .i64 (insR at' x P.length)) ∧ UpdP base p v (insP at' x P) w w' := by
  obtain ⟨L, hs, hr⟩ := h
  have hl := hr.len
  obtain ⟨xm, xi, xn, ats⟩ := x
  dsimp only at *
  have hEl : isElB ⟨xm, xi, xn, q, n, c⟩ = isElP ⟨xm, xi, xn, ats⟩ := rfl
  have hent : Hid (∃ z cap, ∀ w1, Below w.heap.size w w1 → Calls Try.prog 67 #[ptr p] w1 fun e w' => e = .returned (.slice z P.length cap) ∧ w' = w1) := hide (by
    obtain ⟨q', cap, hv, _⟩ := hs.slice
    refine ⟨q', cap, fun w1 hb1 => ?_⟩
    have := entries_at p v w1 (hs.later hb1).1 ⟨_, _, _, hv⟩
    rw [hv, hl] at this
    exact this)
  obtain ⟨z, cap, hent⟩ := unhide hent
  unfold insR insP
  by_cases hb : isElP ⟨xm, xi, xn, ats⟩ = false ∨ at' < 0 ∨ (P.length : Int) < at'
  · rw [if_pos hb, if_pos hb]
    have hbad : Calls Try.prog 38 #[ptr p, .int .i64 at', entV ⟨xm, xi, xn, q, n, c⟩] w fun e w' => e = .returned (.int .i64 1) ∧ Below w.heap.size w w' := by
      cases hE : isElP ⟨xm, xi, xn, ats⟩ with
      | false => exact insert_notel (ptr p) at' _ w (hEl.trans hE)
      | true =>
        by_cases ha : at' < 0
        · exact insert_neg (ptr p) at' _ w (hEl.trans hE) ha
        · have hfar : (P.length : Int) < at' := by
            rcases hb with h | h | h
            · rw [hE] at h; cases h
            · exact absurd h ha
            · exact h
          exact insert_far (ptr p) at' _ z P.length cap w (hEl.trans hE) ha hfar (hide hent)
    refine hbad.mono ?_
    rintro e w' ⟨rfl, hb'⟩
    exact ⟨rfl, UpdP.same ⟨L, hs, hr⟩ hb'⟩
  · rw [if_neg hb, if_neg hb]
    have hE : isElP ⟨xm, xi, xn, ats⟩ = true := by
      cases hE : isElP ⟨xm, xi, xn, ats⟩ with
      | true => rfl
      | false => exact absurd (Or.inl hE) hb
    have ha0 : ¬ at' < 0 := fun h => hb (Or.inr (Or.inl h))
    have ha1 : ¬ (P.length : Int) < at' := fun h => hb (Or.inr (Or.inr h))
    have hat : ((at'.toNat : Nat) : Int) = at' := by omega
    by_cases hF : 100 ≤ P.length
    · rw [if_pos hF, if_pos hF]
      have := insert_room (ptr p) ⟨xm, xi, xn, q, n, c⟩ 5 at'.toNat P.length cap z w (hEl.trans hE) (by decide) (by omega) (by omega) (hide fun w1 hb1 => by
        have := room_any base p v L w1 (hs.later hb1)
        rw [if_pos (by omega)] at this
        exact this) (hide hent)
      rw [hat] at this
      refine this.mono ?_
      rintro e w' ⟨rfl, hb'⟩
      exact ⟨rfl, UpdP.same ⟨L, hs, hr⟩ hb'⟩
    · rw [if_neg hF, if_neg hF]
      have := insert_inA base p at'.toNat v xm xi xn q n c ats L w hs hbase (by omega) (by omega) (hEl.trans hE) hq hats
      rw [hat] at this
      refine this.mono ?_
      rintro e w' ⟨q2, c2, v', rfl, ⟨hs', ht, ho⟩, hown, hnn, hne⟩
      have hone : Rel2 (EntP base p v' w') [⟨xm, xi, xn, q2, n, c2⟩] [⟨xm, xi, xn, ats⟩] := ⟨⟨rfl, rfl, rfl, hown.mono hbase, hnn, fun g hg => newsafe hs.lt hown hne hg⟩, trivial⟩
      refine ⟨rfl, v', ⟨_, hs', (((hr.take _).mono fun a b hab => hab.tch ht ho).app hone).app ((hr.drop _).mono fun a b hab => hab.tch ht ho)⟩, ht, ho⟩
end Go.Proofs.Ytabajhbghjfhoaa
