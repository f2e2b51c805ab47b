/-
  What a list's All does, with any attributes.
-/
import Derived.Test.YtabajhbghjfhoaaALs
import Derived.Test.YtabajhbghjfhoaaACu
namespace Go.Proofs.Ytabajhbghjfhoaa
open Go.RowKit
set_option linter.unusedVariables false
set_option linter.unusedSimpArgs false

/-- An entry of a row of its own, from z on; u: the row. -/
def EntQ (z : Nat) (u : Value) (w : World) (e : AEnt) (x : PEnt) : Prop :=
  e.mr = x.mr ∧ e.id = x.id ∧ e.nm = x.nm ∧ OwnA z e.q e.n x.ats w ∧ (e.q = none → e.n = 0 ∧ e.c = 0) ∧ (∀ g, e.q = some ⟨g, 0, none⟩ → some g ≠ u.ownBlock)
theorem OwnA.blk {z n g : Nat} {q : Option Addr} {ats : List (ByteArray × ByteArray)} {w : World} (h : OwnA z q n ats w) (hg : q = some ⟨g, 0, none⟩) : z ≤ g ∧ g < w.heap.size := by
  rcases h.2 with hn | ⟨g', hg', hz, hl, _⟩
  · rw [hg] at hn; cases hn
  · rw [hg] at hg'
    injection hg' with hg'
    injection hg' with e1 _
    subst e1
    exact ⟨hz, hl⟩
theorem EntQ.below {z : Nat} {u : Value} {w w' : World} {e : AEnt} {x : PEnt} (h : EntQ z u w e x) (hb : Below w.heap.size w w') : EntQ z u w' e x := by
  obtain ⟨h1, h2, h3, h4, h5, h6⟩ := h
  exact ⟨h1, h2, h3, h4.below hb, h5, h6⟩
theorem EntQ.grown {z : Nat} {u u' : Value} {w w' : World} {e : AEnt} {x : PEnt} (h : EntQ z u w e x) (hg : w.grownBy w' u.ownBlock) (hu : u'.ownBlock = u.ownBlock ∨ u'.ownBlock = some w.heap.size) : EntQ z u' w' e x := by
  obtain ⟨h1, h2, h3, h4, h5, h6⟩ := h
  refine ⟨h1, h2, h3, h4.keep hg.size (fun g hq _ hl => hg.block g hl (h6 g hq)), h5, fun g hq e => ?_⟩
  have hl := (h4.blk hq).2
  rcases hu with h | h
  · rw [h] at e; exact h6 g hq e
  · rw [h] at e; injection e with e; omega
def AllAtA (P : List PEnt) (w : World) (u i : Value) (wr : World) : Prop :=
  ∃ (k : Nat) (L2 : List AEnt), k ≤ P.length ∧ i = .int .i64 k ∧ L2.length = k ∧ wr.ownsRow w.heap.size 58 4 u k (flatE L2) ∧ Rel2 (EntQ w.heap.size u wr) L2 (P.take k) ∧ Below w.heap.size w wr
theorem takeP_push (P : List PEnt) (k : Nat) (h : k < P.length) : P.take (k + 1) = P.take k ++ [P.getD k p0] := by
  rw [List.take_add_one, List.getElem?_eq_getElem h, List.getD, List.getElem?_eq_getElem h]; rfl
def AllSaid (P : List PEnt) (w : World) (e : Ending) (w' : World) : Prop :=
  ∃ u L2, e = .returned u ∧ w'.ownsRow w.heap.size 58 4 u P.length (flatE L2) ∧ Rel2 (EntQ w.heap.size u w') L2 P ∧ Below w.heap.size w w'
set_option maxHeartbeats 4000000 in
set_option maxRecDepth 100000 in
theorem all_pos (base p : Nat) (v : Value) (L : List AEnt) (P : List PEnt) (w : World) (h : Stk base p v L w) (hr : Rel2 (EntP base p v w) L P) (hN : L.length ≤ 1000) (hN0 : 0 < L.length) :
    Calls Try.prog 25 #[ptr p] w (AllSaid P w) := by
  obtain ⟨i0, hi0, hi1, hi2, hi3⟩ := infoA
  obtain ⟨q, cap, hv, hc, hm, hg⟩ := h.slice
  obtain ⟨g, rfl, _⟩ := hg (by omega)
  subst hv
  have C := hide (entries_at p _ w h.1 ⟨_, _, _, rfl⟩)
  have HC := hide h.cells
  have HR2 := hide hr
  obtain ⟨n, hn⟩ : ∃ n, L.length = n := ⟨_, rfl⟩
  have HN := hide hn
  have HNP : Hid (P.length = n) := hide (by rw [← hr.len]; exact hn)
  unfold AllSaid
  rw [hn] at hN hN0 C
  clear h hg hn hc hm hr
  unfold ptr at *
  have HAT : Hid (AllAtA P w (.slice none 0 0) (.int .i64 0) w) := hide ⟨0, [], Nat.zero_le _, rfl, rfl, World.ownsRow_nil _ _ _ _, trivial, Below.refl _ _⟩
  go_enter Try.func25, Try.ntmps25
  go_wp2_with fail
  refine (unhide C).mono ?_
  rintro e w1 ⟨rfl, hw1⟩
  obtain rfl : w = w1 := hw1.symm
  go_wp2
  go_loopw [3, 9] (fun u i wr => AllAtA P w u i wr) (fun _ i _ => n - (intOf i).toNat)
  case atStart => exact unhide HAT
  case round =>
    clear HAT
    obtain ⟨k, L2, hk, rfl, hL2, hrow, hrel2, hbw⟩ := hrel
    rw [unhide HNP] at hk
    have HR := hide hrow
    have HB := hide hbw
    have HL2 := hide hL2
    have HRL := hide hrel2
    obtain ⟨qu, nu, cu, rfl⟩ := slice_of hrow
    by_cases hlt : k < n
    · have hlti : (k : Int) < (n : Int) := by omega
      have hkL : k < L.length := by rw [unhide HN]; exact hlt
      obtain ⟨c1, c2, c3, c4⟩ := (unhide HC).below hbw k hkL
      have hx := (unhide HR2).get k hkL
      have HT := hide (takeP_push P k (by rw [unhide HNP]; exact hlt))
      rw [Nat.zero_add] at c1 c2 c3 c4
      obtain ⟨x1, x2, x3, x4, x5, _⟩ := hx
      have HX := hide (And.intro x1 (And.intro x2 x3))
      have OW := hide (fun W hW => own_any (L.getD k e0).mr (L.getD k e0).id (L.getD k e0).nm (L.getD k e0).q (L.getD k e0).n (L.getD k e0).c (P.getD k p0).ats W x5 ((x4.1.below hbw).below hW))
      generalize L.getD k e0 = x at *
      generalize P.getD k p0 = px at *
      obtain ⟨xm, xi, xn, xq, xl, xc⟩ := x
      dsimp only at *
      have hsz := hbw.size
      clear hrow hbw hkL x1 x2 x3 x4 x5 hrel2 hL2
      go_wp2_with fail
      refine (unhide OW _ ((Below.refl _ _).alloc (Nat.le_refl _) _)).mono ?_
      rintro e w2 ⟨q2, c2', rfl, hO, hnn, hb2⟩
      have b2 := hide (bel_of hb2)
      have HO := hide (hO.mono (show w.heap.size ≤ _ by simp; omega))
      have HO2 := hide hO
      have HNN := hide hnn
      have R2 := hide (ownsRow_below (unhide HR) (unhide b2))
      have B2 := hide (cellC (unhide HB) (unhide b2))
      have RL2 := hide ((unhide HRL).mono fun a b hab => hab.below (unhide b2))
      have hz2 := (unhide B2).size
      have HS : Hid (∀ j u, (entL ⟨xm, xi, xn, q2, xl, c2'⟩)[j]? = some u → (w2.alloc (Obj.cells #[.bool xm, .int .i64 xi, .string xn, .slice q2 xl c2'] 58)).cell? ((⟨w2.heap.size, 0, none⟩ : Addr).add j) = some u) := hide fun j u hj => by
        rw [Addr.add_lit, Nat.zero_add, (Blk.new w2 _ _).cell j]
        simpa [entL] using hj
      have HLT : Hid (∀ j, (Value.slice qu nu cu).ownBlock = some j → j < wr.heap.size) := hide fun j hj => ((unhide HR).lt j hj).2
      clear hb2 hO hnn
      go_wp2_with (at_builtin; refine wpList_append_own_at _ rfl _ _ 62 rfl w.heap.size 58 i0 (.agg #[.bool false, .int .i64 0, .string ⟨#[]⟩, .slice none 0 0]) 4 56 Try.underlying62 hi0 hi1 hi2 hi3 rfl (by decide) _ _ _ rfl ((unhide R2).alloc _) ⟨w2.heap.size, 0, none⟩ 1 1 (entL ⟨xm, xi, xn, q2, xl, c2'⟩) rfl rfl (unhide HS) ?c2 ?c3 ?c4 ?c5 ?_)
      case c2 => simp [entL, Value.oneCell']
      case c3 => simp only [maxLen]; omega
      case c4 => omega
      case c5 => simp; omega
      intro u' w3 hown hgr _ hat
      obtain ⟨q3, n3, c3', rfl⟩ := slice_of hown
      go_wp2
      go_roundw
      case rel =>
        refine ⟨k + 1, L2 ++ [⟨xm, xi, xn, q2, xl, c2'⟩], by rw [unhide HNP]; omega, by go_num, by simp [unhide HL2], ?_, ?_, ?_⟩
        · rw [flatE_app, flatE_one1]; exact hown
        · rw [unhide HT]
          refine (((unhide RL2).mono fun a b hab => (hab.below ((Below.refl _ _).alloc (Nat.le_refl _) (Obj.cells #[.bool xm, .int .i64 xi, .string xn, .slice q2 xl c2'] 58))).grown hgr (by simpa using hat))).app ⟨⟨(unhide HX).1, (unhide HX).2.1, (unhide HX).2.2, ?_, unhide HNN, ?_⟩, trivial⟩
          · refine ((unhide HO).below ((Below.refl _ _).alloc (Nat.le_refl _) (Obj.cells #[.bool xm, .int .i64 xi, .string xn, .slice q2 xl c2'] 58))).keep hgr.size (fun g hq _ hl => hgr.block g hl (fun e => ?_))
            have h1 := unhide HLT g e.symm
            have h2 := ((unhide HO2).blk hq).1
            simp at h2; omega
          · intro g hq e
            have h3 := (unhide HO2).blk hq
            have h2 := h3.1
            have h4 := h3.2
            rcases hat with h | h
            · rw [h] at e
              have h1 := unhide HLT g e.symm
              simp at h2; omega
            · rw [h] at e; injection e with e; (try simp at e); omega
        · exact ((unhide B2).alloc (unhide B2).size _).grown hgr (by simp; omega) (fun j hj => ((unhide R2).lt j hj).1)
      case measure => simp [intOf]; omega
    · have hkn : k = n := by omega
      have hlti : ¬ (k : Int) < (n : Int) := by omega
      have HRR : Hid (wr.ownsRow w.heap.size 58 4 (.slice qu nu cu) P.length (flatE L2)) := hide (by
        rw [hkn] at hrow
        rw [unhide HNP]
        exact hrow)
      have HRQ : Hid (Rel2 (EntQ w.heap.size (.slice qu nu cu) wr) L2 P) := hide (by
        rw [hkn, List.take_of_length_le (by rw [unhide HNP]; omega)] at hrel2
        exact hrel2)
      clear hkn hlt hrow hbw hrel2
      go_wp2
      go_ret
      exact ⟨_, rfl, L2, unhide HRR, unhide HRQ, unhide HB⟩
set_option maxHeartbeats 1000000 in
theorem all_none (q : Value) (z : Option Addr) (cap : Nat) (w : World) (hq : Hid (Calls Try.prog 67 #[q] w fun e w' => e = .returned (.slice z 0 cap) ∧ w' = w)) :
    Calls Try.prog 25 #[q] w fun e w' => e = .returned (.slice none 0 0) ∧ Below w.heap.size w w' := by
  go_enter Try.func25, Try.ntmps25
  go_wp2_with fail
  refine (unhide hq).mono ?_
  rintro e w1 ⟨rfl, hw1⟩
  obtain rfl : w = w1 := hw1.symm
  go_wp2
  refine wp_loop_rounds 1 ?_
  rw [rounds_succ]; go_wp2
  go_ret
  exact ⟨rfl, Below.refl _ _⟩
/-- All. -/
theorem all_p (base p : Nat) (v : Value) (P : List PEnt) (w : World) (h : LstP base p v P w) (hN : P.length ≤ 1000) : Calls Try.prog 25 #[ptr p] w (AllSaid P w) := by
  obtain ⟨L, hs, hr⟩ := h
  have hl := hr.len
  by_cases h0 : L.length = 0
  · obtain rfl := List.eq_nil_of_length_eq_zero h0
    obtain rfl : P = [] := List.eq_nil_of_length_eq_zero (by rw [← hl]; rfl)
    obtain ⟨q, cap, rfl, _⟩ := hs.slice
    refine (all_none (ptr p) q cap w (hide (entries_at p _ w hs.1 ⟨_, _, _, rfl⟩))).mono ?_
    rintro e w' ⟨rfl, hb⟩
    exact ⟨_, [], rfl, World.ownsRow_nil _ _ _ _, trivial, hb⟩
  · exact all_pos base p v L P w hs hr (by omega) (by omega)
end Go.Proofs.Ytabajhbghjfhoaa
