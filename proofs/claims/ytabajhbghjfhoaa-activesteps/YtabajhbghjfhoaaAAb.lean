/-
  What a list's Add does, of entries with any attributes.
-/
import Derived.Test.YtabajhbghjfhoaaAAa
import Derived.Test.YtabajhbghjfhoaaATq
namespace Go.Proofs.Ytabajhbghjfhoaa
open Go.RowKit
set_option linter.unusedVariables false
set_option linter.unusedSimpArgs false

/-- What an operation leaves, its row named. -/
def UpdV (base p : Nat) (v v' : Value) (L' : List AEnt) (w w' : World) : Prop :=
  Stk base p v' L' w' ∧ Tch p v.ownBlock w w' ∧ (∀ k, v'.ownBlock = some k → v.ownBlock = some k ∨ w.heap.size ≤ k)
theorem UpdV.ahead {base p : Nat} {v v' : Value} {L : List AEnt} {w w' w'' : World} (hb : Below w.heap.size w w') (h : UpdV base p v v' L w' w'') : UpdV base p v v' L w w'' := by
  obtain ⟨hs, ht, ho⟩ := h
  refine ⟨hs, ⟨ht.os.trans hb.os, ht.tape.trans hb.tape, ht.output.trans hb.output, Nat.le_trans hb.size ht.size, fun k hk h1 h2 => (ht.block k (Nat.lt_of_lt_of_le hk hb.size) h1 h2).trans (hb.block k hk)⟩, fun k hk => ?_⟩
  rcases ho k hk with h | h
  · exact Or.inl h
  · exact Or.inr (Nat.le_trans hb.size h)
theorem UpdV.trans {base p : Nat} {v v' v'' : Value} {L' : List AEnt} {w w' w'' : World} (ht : Tch p v.ownBlock w w') (ho : ∀ k, v'.ownBlock = some k → v.ownBlock = some k ∨ w.heap.size ≤ k) (h : UpdV base p v' v'' L' w' w'') : UpdV base p v v'' L' w w'' := by
  obtain ⟨hs, ht', ho'⟩ := h
  refine ⟨hs, ⟨ht'.os.trans ht.os, ht'.tape.trans ht.tape, ht'.output.trans ht.output, Nat.le_trans ht.size ht'.size, fun k hk h1 h2 => ?_⟩, fun k hk => ?_⟩
  · refine (ht'.block k (Nat.lt_of_lt_of_le hk ht.size) h1 (fun e => ?_)).trans (ht.block k hk h1 h2)
    rcases ho k e.symm with h | h
    · exact h2 h.symm
    · omega
  · rcases ho' k hk with h | h
    · exact ho k h
    · exact Or.inr (Nat.le_trans ht.size h)
theorem app_closeV {base p n : Nat} {v v' : Value} {L L' : List AEnt} {xs : List Value} {w W w3 : World} (hb : Below w.heap.size w W) (hs : Stk base p v L W) (hgr : W.grownBy w3 v.ownBlock) (hown : w3.ownsRow base 58 4 v' n xs) (hn : L'.length = n) (hx : flatE L' = xs) (hat : v'.ownBlock = v.ownBlock ∨ v'.ownBlock = some W.heap.size) (kb : Blk w3 p #[v] 94) :
    UpdV base p v v' L' w (w3.setCell ⟨p, 0, none⟩ v') := by
  have hp := hs.lt
  have hne : v'.ownBlock ≠ some p := by
    rcases hat with h | h
    · rw [h]; exact hs.2.2
    · rw [h]; simp; omega
  refine UpdV.ahead hb ⟨⟨kb.set 0 (by simp) v', ?_, hne⟩, (Tch.of_grown hgr).set _ _, fun k hk => ?_⟩
  · rw [hn, hx]; exact ownsRow_away hown hne _
  · rcases hat with h | h
    · exact Or.inl (by rw [← h]; exact hk)
    · rw [h] at hk; cases hk; exact Or.inr (Nat.le_refl _)
theorem AtsV.lt {q : Option Addr} {n : Nat} {ats : List (ByteArray × ByteArray)} {w : World} (h : AtsV q n ats w) {a : Addr} (ha : q = some a) (h0 : 0 < n) : a.block < w.heap.size := by
  obtain ⟨h1, h2, h3, h4⟩ := h
  rcases h4 with h | ⟨g, o, he, hc⟩
  · omega
  · rw [ha] at he
    injection he with he
    subst he
    exact World.block_lt_of_cell? w _ (hc 0 (by omega)).1
theorem AtsV.tch {q : Option Addr} {n p : Nat} {o : Option Nat} {ats : List (ByteArray × ByteArray)} {w w' : World} (h : AtsV q n ats w) (ht : Tch p o w w') (hs : ∀ a, q = some a → 0 < n → a.block ≠ p ∧ some a.block ≠ o) (hl : ∀ a, q = some a → 0 < n → a.block < w.heap.size) : AtsV q n ats w' := by
  obtain ⟨h1, h2, h3, h4⟩ := h
  refine ⟨h1, h2, h3, ?_⟩
  by_cases h0 : n = 0
  · exact Or.inl h0
  rcases h4 with h | ⟨g, o', he, hc⟩
  · exact Or.inl h
  · have hb := ht.block g (hl _ he (by omega)) (hs _ he (by omega)).1 (hs _ he (by omega)).2
    exact Or.inr ⟨g, o', he, fun k hk => ⟨(cell_same hb _).trans (hc k hk).1, (cell_same hb _).trans (hc k hk).2⟩⟩
set_option maxHeartbeats 4000000 in
set_option maxRecDepth 100000 in
theorem add_fewA (base p : Nat) (v : Value) (xm : Bool) (xi : Int) (xn : ByteArray) (xq : Option Addr) (xl xc : Nat) (ats : List (ByteArray × ByteArray)) (ps : List Nat) (L : List AEnt) (w : World) (h : Stk base p v L w) (hbase : base ≤ w.heap.size) (hN : L.length < 100) (hx : isElB ⟨xm, xi, xn, xq, xl, xc⟩ = true) (hq : xq = none → xl = 0 ∧ xc = 0) (hats : AtsV xq xl ats w)
    (hT : Hid (∀ W, Below w.heap.size w W → Calls Try.prog 76 #[ptr p, entV ⟨xm, xi, xn, xq, xl, xc⟩] W (ToPost ps W))) (hps : ps.length < 3) :
    Calls Try.prog 33 #[ptr p, entV ⟨xm, xi, xn, xq, xl, xc⟩] w fun e w' => ∃ q2 c2 v', e = .returned (.int .i64 0) ∧ UpdV base p v v' (L ++ [⟨xm, xi, xn, q2, xl, c2⟩]) w w' ∧ OwnA w.heap.size q2 xl ats w' ∧ (q2 = none → xl = 0 ∧ c2 = 0) ∧ (∀ g, q2 = some ⟨g, 0, none⟩ → some g ≠ v'.ownBlock) := by
  obtain ⟨i0, hi0, hi1, hi2, hi3⟩ := infoA
  have C := hide (fun w => element_any ⟨xm, xi, xn, xq, xl, xc⟩ w)
  rw [hx] at C
  have CR := hide (fun W (hW : Stk base p v L W) => room_any base p v L W hW)
  simp only [if_neg (show ¬ 100 ≤ L.length by omega)] at CR
  have OW := hide (fun W (hW : Below w.heap.size w W) => own_any xm xi xn xq xl xc ats W hq (hats.below hW))
  have hpl := h.lt
  have hol := hide h.own
  have H := hide h
  obtain ⟨L3, hL3⟩ : ∃ L3, L3 = L := ⟨_, rfl⟩
  have hl3 : L3.length < 100 := by rw [hL3]; exact hN
  have AP : Hid (∀ (q2 : Option Addr) (c2 : Nat) (v3 : Value) (W : World), Stk base p v3 L3 W → base ≤ W.heap.size → ∃ v' w', (Builtin.append_ #[62, 62] 62 #[v3, .slice (some ⟨W.heap.size, 0, none⟩) 1 1]).run Try.prog (W.alloc (Obj.cells #[.bool xm, .int .i64 xi, .string xn, .slice q2 xl c2] 58)) = .ok v' w' ∧ w'.ownsRow base 58 4 v' (L3.length + 1) (flatE L3 ++ entL ⟨xm, xi, xn, q2, xl, c2⟩) ∧ (W.alloc (Obj.cells #[.bool xm, .int .i64 xi, .string xn, .slice q2 xl c2] 58)).grownBy w' v3.ownBlock ∧ (v' = .slice none 0 0 ↔ v3 = .slice none 0 0 ∧ 1 = 0) ∧ (v'.ownBlock = v3.ownBlock ∨ v'.ownBlock = some (W.alloc (Obj.cells #[.bool xm, .int .i64 xi, .string xn, .slice q2 xl c2] 58)).heap.size)) := hide fun q2 c2 v3 W hW hb =>
    run_append_own_at (P := Try.prog) (W.alloc (Obj.cells #[.bool xm, .int .i64 xi, .string xn, .slice q2 xl c2] 58)) base 62 62 58 i0 (.agg #[.bool false, .int .i64 0, .string ⟨#[]⟩, .slice none 0 0]) 4 56 Try.underlying62 hi0 hi1 hi2 hi3 rfl (by decide) v3 L3.length (flatE L3) (hW.2.1.alloc _) ⟨W.heap.size, 0, none⟩ 1 1 (entL ⟨xm, xi, xn, q2, xl, c2⟩) rfl (fun j u hj => by
      rw [Addr.add_lit, Nat.zero_add, (Blk.new W _ _).cell j]
      simpa [entL] using hj) (by simp [entL, Value.oneCell']) (by simp only [maxLen]; omega) (by omega) (by simp; omega)
  have HL3 := hide hL3
  have HLN : Hid (∀ (q2 : Option Addr) (c2 : Nat), (L3 ++ [(⟨xm, xi, xn, q2, xl, c2⟩ : AEnt)]).length = L3.length + 1) := hide (by simp)
  have HF : Hid (∀ (q2 : Option Addr) (c2 : Nat), flatE (L3 ++ [(⟨xm, xi, xn, q2, xl, c2⟩ : AEnt)]) = flatE L3 ++ entL ⟨xm, xi, xn, q2, xl, c2⟩) := hide (fun q2 c2 => by rw [flatE_app, flatE_one1])
  rw [← hL3]
  clear h hL3 hx hi0 hi1 hi2 hi3
  unfold entV at C hT
  dsimp only at C hT
  unfold ptr at *
  unfold entV
  dsimp only
  go_enter Try.func33, Try.ntmps33
  go_wp2_with fail
  refine (unhide C _).mono ?_
  rintro e w1 ⟨rfl, hb⟩
  have B1 := hide (bel_of hb)
  have K1 : Hid (Blk w1 w.heap.size #[.bool xm, .int .i64 xi, .string xn, .slice xq xl xc] 58) := hide ((Blk.new w _ _).later hb)
  have S1 := hide ((unhide H).later (unhide B1))
  clear hb
  go_wp2_with fail
  refine (unhide CR _ (unhide S1)).mono ?_
  rintro e w2 ⟨rfl, hw⟩
  obtain rfl : w1 = w2 := hw.symm
  have k0 : w1.cell? ⟨w.heap.size, 0, none⟩ = some (.bool xm) := (unhide K1).cell 0
  have k1 : w1.cell? ⟨w.heap.size, 1, none⟩ = some (.int .i64 xi) := (unhide K1).cell 1
  have k2 : w1.cell? ⟨w.heap.size, 2, none⟩ = some (.string xn) := (unhide K1).cell 2
  have k3 : w1.cell? ⟨w.heap.size, 3, none⟩ = some (.slice xq xl xc) := (unhide K1).cell 3
  clear hw
  go_wp2_with fail
  refine (unhide hT _ (unhide B1)).mono ?_
  rintro e w3 ⟨u, rfl, hu, hb⟩
  have B3 := hide (cellC (unhide B1) hb)
  have K3 := hide ((unhide K1).later hb)
  have S3 := hide ((unhide S1).later hb)
  have hlu : ∃ qu cu, u = .slice qu ps.length cu := by
    rcases hu.2 with ⟨rfl, h0⟩ | ⟨g, cap, cur, rfl, _⟩
    · exact ⟨none, 0, by rw [h0]⟩
    · exact ⟨_, cap, rfl⟩
  obtain ⟨qu, cu, rfl⟩ := hlu
  have hpI : ¬ (3 : Int) ≤ (ps.length : Int) := by omega
  clear hu hb k0 k1 k2 k3
  have S5 : Hid (Stk base p v L3 w3) := hide (by rw [unhide HL3]; exact unhide S3)
  have K5 := K3
  have hz5 : base ≤ w3.heap.size := by have := (unhide B3).size; omega
  obtain ⟨q5, n5, c5, hv5⟩ : ∃ q n c, v = .slice q n c := by obtain ⟨q, cap, e, _⟩ := (unhide S5).slice; exact ⟨_, _, _, e⟩
  subst hv5
  have m0 : w3.cell? ⟨w.heap.size, 0, none⟩ = some (.bool xm) := (unhide K5).cell 0
  have m1 : w3.cell? ⟨w.heap.size, 1, none⟩ = some (.int .i64 xi) := (unhide K5).cell 1
  have m2 : w3.cell? ⟨w.heap.size, 2, none⟩ = some (.string xn) := (unhide K5).cell 2
  have m3 : w3.cell? ⟨w.heap.size, 3, none⟩ = some (.slice xq xl xc) := (unhide K5).cell 3
  have mp : w3.cell? ⟨p, 0, none⟩ = some (.slice q5 n5 c5) := (unhide S5).1.cell 0
  have HSL : Hid (Stk base p (.slice q5 n5 c5) L3 w3.drew) := unhide S5
  have HBO : Hid (Below w.heap.size w w3.drew) := hide (tr2 (unhide B3) (below_draws w3 1))
  have HOW : Hid (∀ k, (Value.slice q5 n5 c5).ownBlock = some k → k < w3.heap.size) := hide (unhide S5).own
  have HZL : Hid (w3.heap.size ≤ w3.drew.heap.size) := hide (Nat.le_refl _)
  have HPL : Hid (p < w3.drew.heap.size) := hide (unhide S5).lt
  have HZM : Hid (w.heap.size ≤ w3.drew.heap.size) := hide (unhide B3).size
  go_wp2_with fail
  go_region_law (first
    | (obtain ⟨v6, w6, hr, hown, hgr, hnil, hat⟩ := unhide AP q2 c2 (.slice q5 n5 c5) w4 (unhide S4) (unhide hz4); refine step_append_run rfl (.tmp 30) (.tmp 33) 62 62 rfl (.slice q5 n5 c5) (.slice (some ⟨w4.heap.size, 0, none⟩) 1 1) (by simp [Act.eval, Act.put]) (by simp [Act.eval, Act.put]) hr ?_; have kb : Blk w6 p _ _ := (hgr.block p (by simp; exact Nat.lt_succ_of_lt (unhide S4).lt) (fun e => (unhide S4).2.2 e.symm)).trans ((unhide S4).1.alloc _); have d0 : w6.cell? ⟨p, 0, none⟩ = some (.slice q5 n5 c5) := kb.cell 0; have fz : w6.frozen? ⟨p, 0, none⟩ = false := kb.frozen 0; have KB := hide kb; clear kb; obtain ⟨q6, n6, c6, rfl⟩ := slice_of hown)
    | (go_simp; go_wp2_with (go_at_call 68; refine (unhide OW _ (unhide HBO)).mono ?_; rintro e w4 ⟨q2, c2, rfl, hO4, hn4, hb4⟩; have O4 := hide hO4; have N4 := hide hn4; clear hO4 hn4; have S4 := hide ((unhide HSL).later hb4); have HB4 := hide hb4; have hz4 : Hid (base ≤ w4.heap.size) := hide (Nat.le_trans hz5 hb4.size); have mp4 : w4.cell? ⟨p, 0, none⟩ = some (.slice q5 n5 c5) := (unhide S4).1.cell 0; have hp4 : p < w4.heap.size := (unhide S4).lt; clear hb4)))
  all_goals (
    go_wp2
    go_ret
    refine ⟨q2, c2, .slice q6 n6 c6, rfl, ?_, ?_, unhide N4, ?_⟩
    rotate_left
    · exact (((((unhide O4).below ((Below.refl _ _).alloc (Nat.le_refl _) (Obj.cells #[.bool xm, .int .i64 xi, .string xn, .slice q2 xl c2] 58))).keep hgr.size (fun g _ hg hl => hgr.block g hl (fun e => by have := unhide HOW g e.symm; have := unhide HZL; omega))).away (unhide HPL) _).mono (unhide HZM))
    · intro g hg e
      rcases (unhide O4).2 with hn | ⟨g', hg', hz, hl'⟩
      · rw [hg] at hn; cases hn
      · rw [hg] at hg'
        injection hg' with hg'
        injection hg' with e1 _
        rcases hat with h | h
        · rw [h] at e; have := unhide HOW g e.symm; have := unhide HZL; omega
        · rw [h] at e; injection e with e; simp at e; omega
    have hc := app_closeV (w := w3.drew) ((unhide HB4).alloc (unhide HB4).size (Obj.cells #[.bool xm, .int .i64 xi, .string xn, .slice q2 xl c2] 58)) ((unhide S4).later ((Below.refl _ _).alloc (Nat.le_refl _) _)) hgr hown (unhide HLN q2 c2) (unhide HF q2 c2) hat (unhide KB)
    have hc2 := UpdV.ahead (below_draws w3 1) hc
    exact UpdV.ahead (unhide B3) hc2)

set_option maxHeartbeats 4000000 in
set_option maxRecDepth 100000 in
theorem add_threeA (base p : Nat) (v : Value) (xm : Bool) (xi : Int) (xn : ByteArray) (xq : Option Addr) (xl xc : Nat) (ats : List (ByteArray × ByteArray)) (ps : List Nat) (L : List AEnt) (w : World) (h : Stk base p v L w) (hbase : base ≤ w.heap.size) (hN : L.length < 100) (hx : isElB ⟨xm, xi, xn, xq, xl, xc⟩ = true) (hq : xq = none → xl = 0 ∧ xc = 0) (hats : AtsV xq xl ats w) (hsafe : ∀ a, xq = some a → 0 < xl → a.block ≠ p ∧ some a.block ≠ v.ownBlock)
    (hT : Hid (∀ W, Below w.heap.size w W → Calls Try.prog 76 #[ptr p, entV ⟨xm, xi, xn, xq, xl, xc⟩] W (ToPost ps W))) (hps : 3 ≤ ps.length) (hp0 : ps.getD 0 0 < L.length) :
    Calls Try.prog 33 #[ptr p, entV ⟨xm, xi, xn, xq, xl, xc⟩] w fun e w' => ∃ q2 c2 v', e = .returned (.int .i64 0) ∧ UpdV base p v v' (L.eraseIdx (ps.getD 0 0) ++ [⟨xm, xi, xn, q2, xl, c2⟩]) w w' ∧ OwnA w.heap.size q2 xl ats w' ∧ (q2 = none → xl = 0 ∧ c2 = 0) ∧ (∀ g, q2 = some ⟨g, 0, none⟩ → some g ≠ v'.ownBlock) := by
  obtain ⟨i0, hi0, hi1, hi2, hi3⟩ := infoA
  have C := hide (fun w => element_any ⟨xm, xi, xn, xq, xl, xc⟩ w)
  rw [hx] at C
  have CR := hide (fun W (hW : Stk base p v L W) => room_any base p v L W hW)
  simp only [if_neg (show ¬ 100 ≤ L.length by omega)] at CR
  have OW := hide (fun W (hW : AtsV xq xl ats W) => own_any xm xi xn xq xl xc ats W hq hW)
  have HATS := hide hats
  have HAL : Hid (∀ a, xq = some a → 0 < xl → a.block < w.heap.size) := hide (fun a ha h0 => hats.lt ha h0)
  have HSF := hide hsafe
  have hpl := h.lt
  have hol := hide h.own
  have H := hide h
  have CT := hide (fun W hW => takeOut_any base p (ps.getD 0 0) v L W hW hp0)
  obtain ⟨L3, hL3⟩ : ∃ L3, L3 = L.eraseIdx (ps.getD 0 0) := ⟨_, rfl⟩
  have hl3 : L3.length < 100 := by rw [hL3]; rw [List.length_eraseIdx, if_pos hp0]; omega
  have AP : Hid (∀ (q2 : Option Addr) (c2 : Nat) (v3 : Value) (W : World), Stk base p v3 L3 W → base ≤ W.heap.size → ∃ v' w', (Builtin.append_ #[62, 62] 62 #[v3, .slice (some ⟨W.heap.size, 0, none⟩) 1 1]).run Try.prog (W.alloc (Obj.cells #[.bool xm, .int .i64 xi, .string xn, .slice q2 xl c2] 58)) = .ok v' w' ∧ w'.ownsRow base 58 4 v' (L3.length + 1) (flatE L3 ++ entL ⟨xm, xi, xn, q2, xl, c2⟩) ∧ (W.alloc (Obj.cells #[.bool xm, .int .i64 xi, .string xn, .slice q2 xl c2] 58)).grownBy w' v3.ownBlock ∧ (v' = .slice none 0 0 ↔ v3 = .slice none 0 0 ∧ 1 = 0) ∧ (v'.ownBlock = v3.ownBlock ∨ v'.ownBlock = some (W.alloc (Obj.cells #[.bool xm, .int .i64 xi, .string xn, .slice q2 xl c2] 58)).heap.size)) := hide fun q2 c2 v3 W hW hb =>
    run_append_own_at (P := Try.prog) (W.alloc (Obj.cells #[.bool xm, .int .i64 xi, .string xn, .slice q2 xl c2] 58)) base 62 62 58 i0 (.agg #[.bool false, .int .i64 0, .string ⟨#[]⟩, .slice none 0 0]) 4 56 Try.underlying62 hi0 hi1 hi2 hi3 rfl (by decide) v3 L3.length (flatE L3) (hW.2.1.alloc _) ⟨W.heap.size, 0, none⟩ 1 1 (entL ⟨xm, xi, xn, q2, xl, c2⟩) rfl (fun j u hj => by
      rw [Addr.add_lit, Nat.zero_add, (Blk.new W _ _).cell j]
      simpa [entL] using hj) (by simp [entL, Value.oneCell']) (by simp only [maxLen]; omega) (by omega) (by simp; omega)
  have HL3 := hide hL3
  have HLN : Hid (∀ (q2 : Option Addr) (c2 : Nat), (L3 ++ [(⟨xm, xi, xn, q2, xl, c2⟩ : AEnt)]).length = L3.length + 1) := hide (by simp)
  have HF : Hid (∀ (q2 : Option Addr) (c2 : Nat), flatE (L3 ++ [(⟨xm, xi, xn, q2, xl, c2⟩ : AEnt)]) = flatE L3 ++ entL ⟨xm, xi, xn, q2, xl, c2⟩) := hide (fun q2 c2 => by rw [flatE_app, flatE_one1])
  rw [← hL3]
  rw [← hL3] at CT
  clear h hL3 hx hi0 hi1 hi2 hi3
  unfold entV at C hT
  dsimp only at C hT
  unfold ptr at *
  unfold entV
  dsimp only
  go_enter Try.func33, Try.ntmps33
  go_wp2_with fail
  refine (unhide C _).mono ?_
  rintro e w1 ⟨rfl, hb⟩
  have B1 := hide (bel_of hb)
  have K1 : Hid (Blk w1 w.heap.size #[.bool xm, .int .i64 xi, .string xn, .slice xq xl xc] 58) := hide ((Blk.new w _ _).later hb)
  have S1 := hide ((unhide H).later (unhide B1))
  clear hb
  go_wp2_with fail
  refine (unhide CR _ (unhide S1)).mono ?_
  rintro e w2 ⟨rfl, hw⟩
  obtain rfl : w1 = w2 := hw.symm
  have k0 : w1.cell? ⟨w.heap.size, 0, none⟩ = some (.bool xm) := (unhide K1).cell 0
  have k1 : w1.cell? ⟨w.heap.size, 1, none⟩ = some (.int .i64 xi) := (unhide K1).cell 1
  have k2 : w1.cell? ⟨w.heap.size, 2, none⟩ = some (.string xn) := (unhide K1).cell 2
  have k3 : w1.cell? ⟨w.heap.size, 3, none⟩ = some (.slice xq xl xc) := (unhide K1).cell 3
  clear hw
  go_wp2_with fail
  refine (unhide hT _ (unhide B1)).mono ?_
  rintro e w3 ⟨u, rfl, hu, hb⟩
  have B3 := hide (cellC (unhide B1) hb)
  have K3 := hide ((unhide K1).later hb)
  have S3 := hide ((unhide S1).later hb)
  have hlu : ∃ qu cu, u = .slice qu ps.length cu := by
    rcases hu.2 with ⟨rfl, h0⟩ | ⟨g, cap, cur, rfl, _⟩
    · exact ⟨none, 0, by rw [h0]⟩
    · exact ⟨_, cap, rfl⟩
  obtain ⟨qu, cu, rfl⟩ := hlu
  have hpI : (3 : Int) ≤ (ps.length : Int) := by omega
  have hgu : ∃ gu, qu = some ⟨gu, 0, none⟩ ∧ w3.cell? ⟨gu, 0, none⟩ = some (.int .i64 ((ps.getD 0 0 : Nat) : Int)) := by
    rcases hu.2 with ⟨h, h0⟩ | ⟨g, cap, cur, h, _⟩
    · omega
    · simp only [Value.slice.injEq] at h
      refine ⟨g, h.1, ?_⟩
      rw [h.1] at hu
      have := hu.cells (g := g) rfl 0 (intV (ps.getD 0 0)) (by
        rw [List.getElem?_map, List.getD, List.getElem?_eq_getElem (by omega)]; rfl)
      rw [Addr.add_lit] at this
      exact this
  obtain ⟨gu, rfl, c0⟩ := hgu
  have hp1 : (0 : Int) < (ps.length : Int) := by omega
  generalize ps.getD 0 0 = i at *
  clear hu hb k0 k1 k2 k3
  go_wp2_with fail
  refine (unhide CT _ (unhide S3)).mono ?_
  rintro e w5 ⟨rfl, v5, hs5, ht5, ho5⟩
  have HA5 := hide (((unhide HATS).below (unhide B3)).tch ht5 (unhide HSF) (fun a ha h0 => Nat.lt_of_lt_of_le (unhide HAL a ha h0) (unhide B3).size))
  have T5 := hide (And.intro ht5 ho5)
  have S5 := hide hs5
  have B5 := hide (unhide B3)
  have K5 := hide (ht5.blk_new (unhide K3) hpl (unhide hol))
  have hz5 : base ≤ w5.heap.size := by have := (unhide B3).size; have := ht5.size; omega
  clear hs5 ht5 ho5
  obtain ⟨q5, n5, c5, hv5⟩ : ∃ q n c, v5 = .slice q n c := by obtain ⟨q, cap, e, _⟩ := (unhide S5).slice; exact ⟨_, _, _, e⟩
  subst hv5
  have m0 : w5.cell? ⟨w.heap.size, 0, none⟩ = some (.bool xm) := (unhide K5).cell 0
  have m1 : w5.cell? ⟨w.heap.size, 1, none⟩ = some (.int .i64 xi) := (unhide K5).cell 1
  have m2 : w5.cell? ⟨w.heap.size, 2, none⟩ = some (.string xn) := (unhide K5).cell 2
  have m3 : w5.cell? ⟨w.heap.size, 3, none⟩ = some (.slice xq xl xc) := (unhide K5).cell 3
  have mp : w5.cell? ⟨p, 0, none⟩ = some (.slice q5 n5 c5) := (unhide S5).1.cell 0
  have HSL : Hid (Stk base p (.slice q5 n5 c5) L3 w5.drew) := unhide S5
  have HBO : Hid (AtsV xq xl ats w5.drew) := hide (unhide HA5)
  have HOW : Hid (∀ k, (Value.slice q5 n5 c5).ownBlock = some k → k < w5.heap.size) := hide (unhide S5).own
  have HZL : Hid (w5.heap.size ≤ w5.drew.heap.size) := hide (Nat.le_refl _)
  have HPL : Hid (p < w5.drew.heap.size) := hide (unhide S5).lt
  have HZM : Hid (w.heap.size ≤ w5.drew.heap.size) := hide (Nat.le_trans (unhide B3).size (unhide T5).1.size)
  go_wp2_with fail
  go_region_law (first
    | (obtain ⟨v6, w6, hr, hown, hgr, hnil, hat⟩ := unhide AP q2 c2 (.slice q5 n5 c5) w4 (unhide S4) (unhide hz4); refine step_append_run rfl (.tmp 30) (.tmp 33) 62 62 rfl (.slice q5 n5 c5) (.slice (some ⟨w4.heap.size, 0, none⟩) 1 1) (by simp [Act.eval, Act.put]) (by simp [Act.eval, Act.put]) hr ?_; have kb : Blk w6 p _ _ := (hgr.block p (by simp; exact Nat.lt_succ_of_lt (unhide S4).lt) (fun e => (unhide S4).2.2 e.symm)).trans ((unhide S4).1.alloc _); have d0 : w6.cell? ⟨p, 0, none⟩ = some (.slice q5 n5 c5) := kb.cell 0; have fz : w6.frozen? ⟨p, 0, none⟩ = false := kb.frozen 0; have KB := hide kb; clear kb; obtain ⟨q6, n6, c6, rfl⟩ := slice_of hown)
    | (go_simp; go_wp2_with (go_at_call 68; refine (unhide OW _ (unhide HBO)).mono ?_; rintro e w4 ⟨q2, c2, rfl, hO4, hn4, hb4⟩; have O4 := hide hO4; have N4 := hide hn4; clear hO4 hn4; have S4 := hide ((unhide HSL).later hb4); have HB4 := hide hb4; have hz4 : Hid (base ≤ w4.heap.size) := hide (Nat.le_trans hz5 hb4.size); have mp4 : w4.cell? ⟨p, 0, none⟩ = some (.slice q5 n5 c5) := (unhide S4).1.cell 0; have hp4 : p < w4.heap.size := (unhide S4).lt; clear hb4)))
  all_goals (
    go_wp2
    go_ret
    refine ⟨q2, c2, .slice q6 n6 c6, rfl, ?_, ?_, unhide N4, ?_⟩
    rotate_left
    · exact (((((unhide O4).below ((Below.refl _ _).alloc (Nat.le_refl _) (Obj.cells #[.bool xm, .int .i64 xi, .string xn, .slice q2 xl c2] 58))).keep hgr.size (fun g _ hg hl => hgr.block g hl (fun e => by have := unhide HOW g e.symm; have := unhide HZL; omega))).away (unhide HPL) _).mono (unhide HZM))
    · intro g hg e
      rcases (unhide O4).2 with hn | ⟨g', hg', hz, hl'⟩
      · rw [hg] at hn; cases hn
      · rw [hg] at hg'
        injection hg' with hg'
        injection hg' with e1 _
        rcases hat with h | h
        · rw [h] at e; have := unhide HOW g e.symm; have := unhide HZL; omega
        · rw [h] at e; injection e with e; simp at e; omega
    have hc := app_closeV (w := w5.drew) ((unhide HB4).alloc (unhide HB4).size (Obj.cells #[.bool xm, .int .i64 xi, .string xn, .slice q2 xl c2] 58)) ((unhide S4).later ((Below.refl _ _).alloc (Nat.le_refl _) _)) hgr hown (unhide HLN q2 c2) (unhide HF q2 c2) hat (unhide KB)
    have hc2 := UpdV.ahead (below_draws w5 1) hc
    exact UpdV.ahead (unhide B3) (UpdV.trans (unhide T5).1 (unhide T5).2 hc2))
end Go.Proofs.Ytabajhbghjfhoaa
