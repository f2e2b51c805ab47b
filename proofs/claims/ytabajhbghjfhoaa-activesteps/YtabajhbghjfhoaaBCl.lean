/-
  What a list's Clear does.
-/
import Derived.Test.YtabajhbghjfhoaaBDl
import Derived.Test.YtabajhbghjfhoaaBIs
namespace Go.Proofs.Ytabajhbghjfhoaa
open Go.RowKit
set_option linter.unusedVariables false
set_option linter.unusedSimpArgs false

set_option maxHeartbeats 4000000 in
set_option maxRecDepth 100000 in
theorem clear_mark (base p : Nat) (i : Nat) (v : Value) (L : List AEnt) (w : World) (h : Stk base p v L w) (hi : i < L.length) (hat : lastE (fun x => x.mr) L = (i : Int)) :
    Calls Try.prog 58 #[ptr p] w fun e w' => e = .returned (.tuple #[]) ∧ Upd base p v (L.take i) w w' := by
  have C := hide (last_mark base p v (fun x => x.mr) L w h (hide fun x W _ => isMark_any x W))
  rw [hat] at C
  obtain ⟨q, cap, rfl, hc, hm, hg⟩ := h.slice
  obtain ⟨g, rfl, hgl⟩ := hg (by omega)
  have hgp : g ≠ p := by have := h.2.2; simpa [Value.ownBlock] using this
  have D : Hid (∀ W, Below w.heap.size w W → Calls Try.prog 94 #[.slice (some ⟨g, 0, none⟩) L.length cap, .int .i64 (i : Int), .int .i64 (L.length : Int)] W fun e w' =>
      e = .returned (.slice (some ⟨g, 0, none⟩) i cap) ∧ w'.ownsRow base 58 4 (.slice (some ⟨g, 0, none⟩) i cap) i ((flatE L).take (i * 4)) ∧ W.grownBy w' (some g)) := hide fun W hW => adel_tail base g L.length cap i (flatE L) W (h.later hW).2.1 hi
  have H := hide h
  have HI : Hid ((L.take i).length = i) := hide (by rw [List.length_take]; omega)
  have HF : Hid (flatE (L.take i) = (flatE L).take (i * 4)) := hide (flatE_take L i (by omega)).symm
  have hi0 : ¬ (i : Int) < 0 := by omega
  have hi1 : (0 : Int) ≤ (i : Int) := by omega
  have hi2 : max (i : Int) 0 = (i : Int) := by omega
  clear h hat hg
  unfold ptr at *
  go_enter Try.func58, Try.ntmps58
  go_wp2_with fail
  refine (unhide C).mono ?_
  rintro e w1 ⟨rfl, hb⟩
  have HB := hide hb
  have HS := hide ((unhide H).later hb)
  have c0 : w1.cell? ⟨p, 0, none⟩ = some (.slice (some ⟨g, 0, none⟩) L.length cap) := (unhide HS).1.cell 0
  clear hb
  go_wp2_with fail
  go_region_with (go_at_call 94; refine (unhide D _ (tr2 (unhide HB) (below_draws w1 1))).mono ?_; rintro e w2 ⟨rfl, hown, hgr⟩; have kb : Blk w2 p #[.slice (some ⟨g, 0, none⟩) L.length cap] 94 := (hgr.block p (unhide HS).1.lt (by simpa using fun e => hgp e.symm)).trans (unhide HS).1; have d0 : w2.cell? ⟨p, 0, none⟩ = some (.slice (some ⟨g, 0, none⟩) L.length cap) := kb.cell 0; have f0 : w2.frozen? ⟨p, 0, none⟩ = false := kb.frozen 0; have HO := hide hown; have HG := hide hgr; have KB := hide kb; clear hown hgr kb)
  all_goals (
    go_wp2
    refine bodyPost_end (v := .tuple #[]) (results_none Try.results58 _ _ _) rfl ?_
    refine ⟨rfl, ?_⟩
    refine Upd.ahead (unhide HB) (Upd.ahead (below_draws w1 1) ⟨.slice (some ⟨g, 0, none⟩) i cap, ⟨(unhide KB).set 0 (by simp) _, ?_, by simpa [Value.ownBlock] using hgp⟩, (Tch.of_grown (unhide HG)).set _ _, fun k hk => Or.inl hk⟩)
    rw [unhide HI, unhide HF]
    exact ownsRow_away (unhide HO) (by simpa [Value.ownBlock] using hgp) _)
set_option maxHeartbeats 4000000 in
set_option maxRecDepth 100000 in
theorem clear_all (base p : Nat) (v : Value) (L : List AEnt) (w : World) (h : Stk base p v L w) (hi : 0 < L.length) (hat : lastE (fun x => x.mr) L = (-1)) :
    Calls Try.prog 58 #[ptr p] w fun e w' => e = .returned (.tuple #[]) ∧ Upd base p v (L.take 0) w w' := by
  have C := hide (last_mark base p v (fun x => x.mr) L w h (hide fun x W _ => isMark_any x W))
  rw [hat] at C
  obtain ⟨q, cap, rfl, hc, hm, hg⟩ := h.slice
  obtain ⟨g, rfl, hgl⟩ := hg (by omega)
  have hgp : g ≠ p := by have := h.2.2; simpa [Value.ownBlock] using this
  have D : Hid (∀ W, Below w.heap.size w W → Calls Try.prog 94 #[.slice (some ⟨g, 0, none⟩) L.length cap, .int .i64 0, .int .i64 (L.length : Int)] W fun e w' =>
      e = .returned (.slice (some ⟨g, 0, none⟩) 0 cap) ∧ w'.ownsRow base 58 4 (.slice (some ⟨g, 0, none⟩) 0 cap) 0 ((flatE L).take (0 * 4)) ∧ W.grownBy w' (some g)) := hide fun W hW => adel_tail base g L.length cap 0 (flatE L) W (h.later hW).2.1 hi
  have H := hide h
  have HI : Hid ((L.take 0).length = 0) := hide (by rw [List.length_take]; omega)
  have HF : Hid (flatE (L.take 0) = (flatE L).take (0 * 4)) := hide (flatE_take L 0 (by omega)).symm
  clear h hat hg
  unfold ptr at *
  go_enter Try.func58, Try.ntmps58
  go_wp2_with fail
  refine (unhide C).mono ?_
  rintro e w1 ⟨rfl, hb⟩
  have HB := hide hb
  have HS := hide ((unhide H).later hb)
  have c0 : w1.cell? ⟨p, 0, none⟩ = some (.slice (some ⟨g, 0, none⟩) L.length cap) := (unhide HS).1.cell 0
  clear hb
  go_wp2_with fail
  go_region_with (go_at_call 94; refine (unhide D _ (tr2 (unhide HB) (below_draws w1 1))).mono ?_; rintro e w2 ⟨rfl, hown, hgr⟩; have kb : Blk w2 p #[.slice (some ⟨g, 0, none⟩) L.length cap] 94 := (hgr.block p (unhide HS).1.lt (by simpa using fun e => hgp e.symm)).trans (unhide HS).1; have d0 : w2.cell? ⟨p, 0, none⟩ = some (.slice (some ⟨g, 0, none⟩) L.length cap) := kb.cell 0; have f0 : w2.frozen? ⟨p, 0, none⟩ = false := kb.frozen 0; have HO := hide hown; have HG := hide hgr; have KB := hide kb; clear hown hgr kb)
  all_goals (
    go_wp2
    refine bodyPost_end (v := .tuple #[]) (results_none Try.results58 _ _ _) rfl ?_
    refine ⟨rfl, ?_⟩
    refine Upd.ahead (unhide HB) (Upd.ahead (below_draws w1 1) ⟨.slice (some ⟨g, 0, none⟩) 0 cap, ⟨(unhide KB).set 0 (by simp) _, ?_, by simpa [Value.ownBlock] using hgp⟩, (Tch.of_grown (unhide HG)).set _ _, fun k hk => Or.inl hk⟩)
    rw [unhide HI, unhide HF]
    exact ownsRow_away (unhide HO) (by simpa [Value.ownBlock] using hgp) _)
set_option maxHeartbeats 4000000 in
theorem adel_none (q : Option Addr) (cap : Nat) (w : World) (hcap : cap ≤ 9223372036854775807) :
    Calls Try.prog 94 #[.slice q 0 cap, .int .i64 0, .int .i64 0] w fun e w' =>
      e = .returned (.slice q 0 cap) ∧ Below w.heap.size w w' := by
  go_enter Try.func94, Try.ntmps94
  go_wp2
  go_ret
  refine ⟨rfl, ?_⟩
  first | exact Below.refl _ _ | exact below_draws w 1
set_option maxHeartbeats 4000000 in
set_option maxRecDepth 100000 in
theorem clear_empty (base p : Nat) (v : Value) (w : World) (h : Stk base p v [] w) :
    Calls Try.prog 58 #[ptr p] w fun e w' => e = .returned (.tuple #[]) ∧ Upd base p v [] w w' := by
  have C := hide (last_mark base p v (fun x => x.mr) [] w h (hide fun x W _ => isMark_any x W))
  rw [lastE_nil] at C
  obtain ⟨q, cap, rfl, hc, hm, hg⟩ := h.slice
  rw [show ([] : List AEnt).length = 0 from rfl] at *
  have D := hide (fun W => adel_none q cap W hm)
  have H := hide h
  clear h hg
  unfold ptr at *
  go_enter Try.func58, Try.ntmps58
  go_wp2_with fail
  refine (unhide C).mono ?_
  rintro e w1 ⟨rfl, hb⟩
  have HB := hide hb
  have HS := hide ((unhide H).later hb)
  have c0 : w1.cell? ⟨p, 0, none⟩ = some (.slice q 0 cap) := (unhide HS).1.cell 0
  clear hb
  go_wp2_with fail
  go_region_with (go_at_call 94; refine (unhide D _).mono ?_; rintro e w2 ⟨rfl, hb2⟩; have S2 := hide (((unhide HS).later (below_draws w1 1)).later hb2); have d0 : w2.cell? ⟨p, 0, none⟩ = some (.slice q 0 cap) := (unhide S2).1.cell 0; have f0 : w2.frozen? ⟨p, 0, none⟩ = false := (unhide S2).1.frozen 0; have HB2 := hide (tr2 (unhide HB) (tr2 (below_draws w1 1) hb2)); clear hb2)
  all_goals (
    go_wp2
    refine bodyPost_end (v := .tuple #[]) (results_none Try.results58 _ _ _) rfl ?_
    refine ⟨rfl, ?_⟩
    obtain ⟨k1, k2, k3⟩ := unhide S2
    refine Upd.ahead (unhide HB2) ⟨.slice q 0 cap, ⟨k1.set 0 (by simp) _, ownsRow_away k2 k3 _, k3⟩, ?_, fun k hk => Or.inl hk⟩
    exact (Tch.of_below (Below.refl _ _)).set _ _)
def clearN (P : List PEnt) : Nat := (lastP (fun x => x.mr) P).toNat
theorem clear_p (base p : Nat) (v : Value) (P : List PEnt) (w : World) (h : LstP base p v P w) :
    Calls Try.prog 58 #[ptr p] w fun e w' => e = .returned (.tuple #[]) ∧ UpdP base p v (P.take (clearN P)) w w' := by
  obtain ⟨L, hs, hr⟩ := h
  have hl := hr.len
  have hlast : lastE (fun x => x.mr) L = lastP (fun x => x.mr) P := last_rel (fun a b hab => hab.1) hr
  have hlt := lastP_lt (fun x => x.mr) P
  have hc : Calls Try.prog 58 #[ptr p] w fun e w' => e = .returned (.tuple #[]) ∧ Upd base p v (L.take (clearN P)) w w' := by
    by_cases h0 : L.length = 0
    · obtain rfl := List.eq_nil_of_length_eq_zero h0
      rw [List.take_nil]
      exact clear_empty base p v w hs
    · by_cases hm : lastP (fun x => x.mr) P < 0
      · have e : lastP (fun x => x.mr) P = -1 := by omega
        have e2 : clearN P = 0 := by unfold clearN; rw [e]; rfl
        rw [e2]
        exact clear_all base p v L w hs (by omega) (hlast.trans e)
      · have e : lastP (fun x => x.mr) P = ((clearN P : Nat) : Int) := by unfold clearN; omega
        exact clear_mark base p (clearN P) v L w hs (by omega) (hlast.trans e)
  refine hc.mono ?_
  rintro e w' ⟨rfl, v', hs', ht, ho⟩
  exact ⟨rfl, v', ⟨_, hs', (hr.take _).mono fun a b hab => hab.tch ht ho⟩, ht, ho⟩
end Go.Proofs.Ytabajhbghjfhoaa
