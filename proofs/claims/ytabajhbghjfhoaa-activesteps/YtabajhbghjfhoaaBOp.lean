/-
  What a list's Find, Remove and Last do, with any attributes.
-/
import Derived.Test.YtabajhbghjfhoaaACv
import Derived.Test.YtabajhbghjfhoaaAOl
namespace Go.Proofs.Ytabajhbghjfhoaa
open Go.RowKit
set_option linter.unusedVariables false
set_option linter.unusedSimpArgs false

def findP (id : Int) (P : List PEnt) : Int := lastP (fun x => !x.mr && (x.id == id)) P
theorem find_p (base p : Nat) (v : Value) (id : Int) (P : List PEnt) (w : World) (h : LstP base p v P w) :
    Calls Try.prog 23 #[ptr p, .int .i64 id] w fun e w' => e = .returned (.int .i64 (findP id P)) ∧ Below w.heap.size w w' := by
  obtain ⟨L, hs, hr⟩ := h
  have := find_any base p v id L w hs
  rw [show lastE (isId id) L = findP id P from last_rel (fun a b hab => by unfold isId; rw [hab.1, hab.2.1]) hr] at this
  exact this
def removeP (id : Int) (P : List PEnt) : List PEnt := if 0 ≤ findP id P then P.eraseIdx (findP id P).toNat else P
set_option maxHeartbeats 1000000 in
theorem remove_p (base p : Nat) (v : Value) (id : Int) (P : List PEnt) (w : World) (h : LstP base p v P w) :
    Calls Try.prog 60 #[ptr p, .int .i64 id] w fun e w' => e = .returned (.bool (decide (0 ≤ findP id P))) ∧ UpdP base p v (removeP id P) w w' := by
  have C := hide (find_p base p v id P w h)
  have hlt := lastP_lt (fun x => !x.mr && (x.id == id)) P
  have hlt2 : findP id P < P.length ∧ -1 ≤ findP id P := hlt
  unfold removeP
  by_cases h0 : 0 ≤ findP id P
  · rw [if_pos h0, decide_eq_true h0]
    obtain ⟨L, hs, hr⟩ := h
    have hl := hr.len
    have e : (((findP id P).toNat : Nat) : Int) = findP id P := by omega
    have HR := hide hr
    have D : Hid (∀ W, Below w.heap.size w W → Calls Try.prog 77 #[ptr p, .int .i64 (findP id P)] W fun e w' => e = .returned (.tuple #[]) ∧ UpdP base p v (P.eraseIdx (findP id P).toNat) w w') := hide fun W hW => by
      have := takeOut_any base p (findP id P).toNat v L W (hs.later hW) (by omega)
      rw [e] at this
      refine this.mono ?_
      rintro e w' ⟨rfl, hu⟩
      obtain ⟨v', hs', ht, ho⟩ := Upd.ahead hW hu
      exact ⟨rfl, v', ⟨_, hs', (hr.erase _).mono fun a b hab => hab.tch ht ho⟩, ht, ho⟩
    generalize findP id P = k at *
    have h1 : ¬ k < 0 := by omega
    clear e hs hr hlt hlt2
    unfold ptr at *
    go_enter Try.func60, Try.ntmps60
    go_wp2_with fail
    refine (unhide C).mono ?_
    rintro e w1 ⟨rfl, hb1⟩
    have HB1 := hide hb1
    clear hb1
    go_wp2_with fail
    refine (unhide D _ (unhide HB1)).mono ?_
    rintro e w2 ⟨rfl, hu⟩
    have HU := hide hu
    clear hu
    go_wp2
    go_ret
    exact ⟨rfl, unhide HU⟩
  · rw [if_neg h0, decide_eq_false h0]
    have H := hide h
    generalize findP id P = k at *
    have h1 : k < 0 := by omega
    clear h hlt hlt2
    unfold ptr at *
    go_enter Try.func60, Try.ntmps60
    go_wp2_with fail
    refine (unhide C).mono ?_
    rintro e w1 ⟨rfl, hb1⟩
    have HB1 := hide hb1
    clear hb1
    go_wp2
    go_ret
    exact ⟨rfl, UpdP.same (unhide H) (unhide HB1)⟩
def lastNm (nm : ByteArray) (P : List PEnt) : Int := lastP (fun x => x.mr || (x.nm.toList == nm.toList)) P
set_option maxHeartbeats 2000000 in
set_option maxRecDepth 100000 in
theorem lastnm_none (base p : Nat) (v : Value) (nm : ByteArray) (P : List PEnt) (w : World) (h : LstP base p v P w) (hat : lastNm nm P < 0) :
    Calls Try.prog 27 #[ptr p, .string nm] w fun e w' => e = .returned (.tuple #[.agg #[.bool false, .int .i64 0, .string ⟨#[]⟩, .slice none 0 0], .bool false]) ∧ Below w.heap.size w w' := by
  obtain ⟨L, hs, hr⟩ := h
  have b2 : Below w.heap.size w ((w.alloc (Obj.cells #[.string nm] 9)).alloc (Obj.cells #[.bool false, .int .i64 0, .string ⟨#[]⟩, .slice none 0 0] 58)) := ((Below.refl w.heap.size w).alloc (Nat.le_refl _) _).alloc (by simp) _
  have C := hide (last_name base p v w.heap.size (nameB nm) L _ (hs.later b2) (hide fun x W hW => last1_any x w.heap.size nm W (((Blk.new w _ _).alloc _).later hW)))
  rw [show lastE (nameB nm) L = lastNm nm P from last_rel (fun a b hab => by unfold nameB; rw [hab.1, hab.2.2.1]) hr] at C
  have K1 : Hid (Blk ((w.alloc (Obj.cells #[.string nm] 9)).alloc (Obj.cells #[.bool false, .int .i64 0, .string ⟨#[]⟩, .slice none 0 0] 58)) (w.heap.size + 1) #[.bool false, .int .i64 0, .string ⟨#[]⟩, .slice none 0 0] 58) := by
    have h1 := Blk.new (w.alloc (Obj.cells #[.string nm] 9)) #[.bool false, .int .i64 0, .string ⟨#[]⟩, .slice none 0 0] 58
    rw [show (w.alloc (Obj.cells #[.string nm] 9)).heap.size = w.heap.size + 1 by simp] at h1
    exact h1
  have HB := hide b2
  generalize lastNm nm P = at' at *
  clear hs hr b2
  unfold ptr at *
  go_enter Try.func27, Try.ntmps27
  go_wp2_with fail
  refine (unhide C).mono ?_
  rintro e w2 ⟨rfl, hb⟩
  have B2 := hide ((unhide HB).trans (hb.mono (unhide HB).size))
  have k1 := (unhide K1).later hb
  have r0 : w2.cell? ⟨w.heap.size + 1, 0, none⟩ = some (.bool false) := k1.cell 0
  have r1 : w2.cell? ⟨w.heap.size + 1, 1, none⟩ = some (.int .i64 0) := k1.cell 1
  have r2 : w2.cell? ⟨w.heap.size + 1, 2, none⟩ = some (.string ⟨#[]⟩) := k1.cell 2
  have r3 : w2.cell? ⟨w.heap.size + 1, 3, none⟩ = some (.slice none 0 0) := k1.cell 3
  have e0 : w2.frozen? ⟨w.heap.size + 1, 0, none⟩ = false := k1.frozen 0
  have e1 : w2.frozen? ⟨w.heap.size + 1, 1, none⟩ = false := k1.frozen 1
  have e2 : w2.frozen? ⟨w.heap.size + 1, 2, none⟩ = false := k1.frozen 2
  have e3 : w2.frozen? ⟨w.heap.size + 1, 3, none⟩ = false := k1.frozen 3
  have kF := hide ((((k1.set 0 (by simp) (.bool false)).set 1 (by simp) (.int .i64 0)).set 2 (by simp) (.string ⟨#[]⟩)).set 3 (by simp) (.slice none 0 0))
  clear hb k1
  go_wp2
  have g0 := (unhide kF).cell 0
  have g1 := (unhide kF).cell 1
  have g2c := (unhide kF).cell 2
  have g3 := (unhide kF).cell 3
  refine bodyPost_ret (v := .tuple #[.agg #[.bool false, .int .i64 0, .string ⟨#[]⟩, .slice none 0 0], .bool false]) (by simp [results, Try.results27, go_sem, g0, g1, g2c, g3]) rfl ?_
  exact ⟨rfl, ((((unhide B2).setCell (by simp) _).setCell (by simp) _).setCell (by simp) _).setCell (by simp) _⟩
set_option maxHeartbeats 4000000 in
set_option maxRecDepth 100000 in
theorem lastnm_mark (base p : Nat) (v : Value) (nm : ByteArray) (P : List PEnt) (i : Nat) (w : World) (h : LstP base p v P w) (hN : P.length ≤ 1000) (hat : lastNm nm P = (i : Int)) (hm : (P.getD i p0).mr = true) :
    Calls Try.prog 27 #[ptr p, .string nm] w fun e w' => e = .returned (.tuple #[.agg #[.bool false, .int .i64 0, .string ⟨#[]⟩, .slice none 0 0], .bool false]) ∧ Below w.heap.size w w' := by
  obtain ⟨L, hs, hr⟩ := h
  have hlt := lastP_lt (fun x => x.mr || (x.nm.toList == nm.toList)) P
  have hlt2 : lastNm nm P < P.length := hlt.1
  have hl := hr.len
  have hiL : i < L.length := by omega
  have b2 : Below w.heap.size w ((w.alloc (Obj.cells #[.string nm] 9)).alloc (Obj.cells #[.bool false, .int .i64 0, .string ⟨#[]⟩, .slice none 0 0] 58)) := ((Below.refl w.heap.size w).alloc (Nat.le_refl _) _).alloc (by simp) _
  have C := hide (last_name base p v w.heap.size (nameB nm) L _ (hs.later b2) (hide fun x W hW => last1_any x w.heap.size nm W (((Blk.new w _ _).alloc _).later hW)))
  rw [show lastE (nameB nm) L = lastNm nm P from last_rel (fun a b hab => by unfold nameB; rw [hab.1, hab.2.2.1]) hr, hat] at C
  have K1 : Hid (Blk ((w.alloc (Obj.cells #[.string nm] 9)).alloc (Obj.cells #[.bool false, .int .i64 0, .string ⟨#[]⟩, .slice none 0 0] 58)) (w.heap.size + 1) #[.bool false, .int .i64 0, .string ⟨#[]⟩, .slice none 0 0] 58) := by
    have h1 := Blk.new (w.alloc (Obj.cells #[.string nm] 9)) #[.bool false, .int .i64 0, .string ⟨#[]⟩, .slice none 0 0] 58
    rw [show (w.alloc (Obj.cells #[.string nm] 9)).heap.size = w.heap.size + 1 by simp] at h1
    exact h1
  have HB := hide b2
  have hmr := (hr.get i hiL).1.trans hm
  obtain ⟨r, cap, hv, hc, hmm, hg⟩ := hs.slice
  obtain ⟨g, hgq, _⟩ := hg (by omega)
  subst hgq
  subst hv
  have H := hide hs
  clear hs hr b2 hg hat hm
  generalize hLl : L.length = t at *
  have hit : (i : Int) < (t : Int) := by omega
  unfold ptr at *
  go_enter Try.func27, Try.ntmps27
  go_wp2_with fail
  refine (unhide C).mono ?_
  rintro e w2 ⟨rfl, hb⟩
  have B2 := hide ((unhide HB).trans (hb.mono (unhide HB).size))
  have S1 := (unhide H).later (unhide B2)
  have cp : w2.cell? ⟨p, 0, none⟩ = some (.slice (some ⟨g, 0, none⟩) t cap) := S1.1.cell 0
  obtain ⟨c0, _, _, _⟩ := S1.cells i (by omega)
  rw [Nat.zero_add, hmr] at c0
  have k1 := (unhide K1).later hb
  have r0 : w2.cell? ⟨w.heap.size + 1, 0, none⟩ = some (.bool false) := k1.cell 0
  have r1 : w2.cell? ⟨w.heap.size + 1, 1, none⟩ = some (.int .i64 0) := k1.cell 1
  have r2 : w2.cell? ⟨w.heap.size + 1, 2, none⟩ = some (.string ⟨#[]⟩) := k1.cell 2
  have r3 : w2.cell? ⟨w.heap.size + 1, 3, none⟩ = some (.slice none 0 0) := k1.cell 3
  have e0 : w2.frozen? ⟨w.heap.size + 1, 0, none⟩ = false := k1.frozen 0
  have e1 : w2.frozen? ⟨w.heap.size + 1, 1, none⟩ = false := k1.frozen 1
  have e2 : w2.frozen? ⟨w.heap.size + 1, 2, none⟩ = false := k1.frozen 2
  have e3 : w2.frozen? ⟨w.heap.size + 1, 3, none⟩ = false := k1.frozen 3
  have kF := hide ((((k1.set 0 (by simp) (.bool false)).set 1 (by simp) (.int .i64 0)).set 2 (by simp) (.string ⟨#[]⟩)).set 3 (by simp) (.slice none 0 0))
  clear hb k1 S1 hmr
  go_wp2
  have g0 := (unhide kF).cell 0
  have g1 := (unhide kF).cell 1
  have g2c := (unhide kF).cell 2
  have g3 := (unhide kF).cell 3
  refine bodyPost_ret (v := .tuple #[.agg #[.bool false, .int .i64 0, .string ⟨#[]⟩, .slice none 0 0], .bool false]) (by simp [results, Try.results27, go_sem, g0, g1, g2c, g3]) rfl ?_
  exact ⟨rfl, ((((unhide B2).setCell (by simp) _).setCell (by simp) _).setCell (by simp) _).setCell (by simp) _⟩
set_option maxHeartbeats 4000000 in
set_option maxRecDepth 100000 in
theorem lastnm_some (base p : Nat) (v : Value) (nm : ByteArray) (P : List PEnt) (i : Nat) (w : World) (h : LstP base p v P w) (hN : P.length ≤ 1000) (hat : lastNm nm P = (i : Int)) (hm : (P.getD i p0).mr = false) :
    Calls Try.prog 27 #[ptr p, .string nm] w fun e w' => ∃ q2 l2 c2, e = .returned (.tuple #[.agg #[.bool false, .int .i64 (P.getD i p0).id, .string (P.getD i p0).nm, .slice q2 l2 c2], .bool true]) ∧ OwnA w.heap.size q2 l2 (P.getD i p0).ats w' ∧ (q2 = none → l2 = 0 ∧ c2 = 0) ∧ Below w.heap.size w w' := by
  obtain ⟨L, hs, hr⟩ := h
  have hlt := lastP_lt (fun x => x.mr || (x.nm.toList == nm.toList)) P
  have hlt2 : lastNm nm P < P.length := hlt.1
  have hl := hr.len
  have hiL : i < L.length := by omega
  have b2 : Below w.heap.size w ((w.alloc (Obj.cells #[.string nm] 9)).alloc (Obj.cells #[.bool false, .int .i64 0, .string ⟨#[]⟩, .slice none 0 0] 58)) := ((Below.refl w.heap.size w).alloc (Nat.le_refl _) _).alloc (by simp) _
  have C := hide (last_name base p v w.heap.size (nameB nm) L _ (hs.later b2) (hide fun x W hW => last1_any x w.heap.size nm W (((Blk.new w _ _).alloc _).later hW)))
  rw [show lastE (nameB nm) L = lastNm nm P from last_rel (fun a b hab => by unfold nameB; rw [hab.1, hab.2.2.1]) hr, hat] at C
  have K1 : Hid (Blk ((w.alloc (Obj.cells #[.string nm] 9)).alloc (Obj.cells #[.bool false, .int .i64 0, .string ⟨#[]⟩, .slice none 0 0] 58)) (w.heap.size + 1) #[.bool false, .int .i64 0, .string ⟨#[]⟩, .slice none 0 0] 58) := by
    have h1 := Blk.new (w.alloc (Obj.cells #[.string nm] 9)) #[.bool false, .int .i64 0, .string ⟨#[]⟩, .slice none 0 0] 58
    rw [show (w.alloc (Obj.cells #[.string nm] 9)).heap.size = w.heap.size + 1 by simp] at h1
    exact h1
  have HB := hide b2
  have hent := hr.get i hiL
  have hmr := hent.1.trans hm
  obtain ⟨_, hid, hnm, hown, hqn, _⟩ := hent
  have OW := hide (fun W hW => own_any (L.getD i e0).mr (L.getD i e0).id (L.getD i e0).nm (L.getD i e0).q (L.getD i e0).n (L.getD i e0).c (P.getD i p0).ats W hqn (hown.1.below hW))
  rw [hmr] at OW
  obtain ⟨r, cap, hv, hc, hmm, hg⟩ := hs.slice
  obtain ⟨g, hgq, _⟩ := hg (by omega)
  subst hgq
  subst hv
  have H := hide hs
  rw [← hid, ← hnm]
  obtain ⟨x, hx⟩ : ∃ x, x = L.getD i e0 := ⟨_, rfl⟩
  rw [← hx] at OW hmr
  rw [← hx]
  have HXX := hide hx
  generalize (P.getD i p0).ats = ats at *
  clear hs hr b2 hg hat hm hown hqn hid hnm hx
  obtain ⟨xm, xi, xn, xq, xl, xc⟩ := x
  dsimp only at *
  subst hmr
  generalize hLl : L.length = t at *
  have hit : (i : Int) < (t : Int) := by omega
  unfold ptr at *
  go_enter Try.func27, Try.ntmps27
  go_wp2_with fail
  refine (unhide C).mono ?_
  rintro e w2 ⟨rfl, hb⟩
  have B2 := hide ((unhide HB).trans (hb.mono (unhide HB).size))
  have S1 := (unhide H).later (unhide B2)
  have cp : w2.cell? ⟨p, 0, none⟩ = some (.slice (some ⟨g, 0, none⟩) t cap) := S1.1.cell 0
  obtain ⟨c0, c1, c2, c3⟩ := S1.cells i (by omega)
  rw [Nat.zero_add] at c0 c1 c2 c3
  rw [← unhide HXX] at c0 c1 c2 c3
  dsimp only at c0 c1 c2 c3
  have K2 := hide ((unhide K1).later hb)
  clear hb S1
  go_wp2_with fail
  refine (unhide OW _ (unhide B2)).mono ?_
  rintro e w3 ⟨q2, c2', rfl, hA2, hnn, hb2⟩
  have hz2 : w.heap.size + 1 < w2.heap.size := (unhide K2).lt
  have k1 := (unhide K2).later hb2
  have r0 : w3.cell? ⟨w.heap.size + 1, 0, none⟩ = some (.bool false) := k1.cell 0
  have r1 : w3.cell? ⟨w.heap.size + 1, 1, none⟩ = some (.int .i64 0) := k1.cell 1
  have r2 : w3.cell? ⟨w.heap.size + 1, 2, none⟩ = some (.string ⟨#[]⟩) := k1.cell 2
  have r3 : w3.cell? ⟨w.heap.size + 1, 3, none⟩ = some (.slice none 0 0) := k1.cell 3
  have e0 : w3.frozen? ⟨w.heap.size + 1, 0, none⟩ = false := k1.frozen 0
  have e1 : w3.frozen? ⟨w.heap.size + 1, 1, none⟩ = false := k1.frozen 1
  have e2 : w3.frozen? ⟨w.heap.size + 1, 2, none⟩ = false := k1.frozen 2
  have e3 : w3.frozen? ⟨w.heap.size + 1, 3, none⟩ = false := k1.frozen 3
  have B3 := hide (cellC (unhide B2) hb2)
  have HA2 := hide hA2
  have HNN := hide hnn
  have hzw : w.heap.size ≤ w2.heap.size := (unhide B2).size
  have kF := hide ((((k1.set 0 (by simp) (.bool false)).set 1 (by simp) (.int .i64 xi)).set 2 (by simp) (.string xn)).set 3 (by simp) (.slice q2 xl c2'))
  clear hA2 hb2 k1 hnn
  go_wp2
  have g0 := (unhide kF).cell 0
  have g1 := (unhide kF).cell 1
  have g2c := (unhide kF).cell 2
  have g3 := (unhide kF).cell 3
  refine bodyPost_ret (v := .tuple #[.agg #[.bool false, .int .i64 xi, .string xn, .slice q2 xl c2'], .bool true]) (by simp [results, Try.results27, go_sem, g0, g1, g2c, g3]) rfl ?_
  exact ⟨q2, xl, c2', rfl, (((((unhide HA2).away (by omega) _).away (by omega) _).away (by omega) _).away (by omega) _).mono hzw, unhide HNN, ((((unhide B3).setCell (by simp) _).setCell (by simp) _).setCell (by simp) _).setCell (by simp) _⟩
end Go.Proofs.Ytabajhbghjfhoaa
