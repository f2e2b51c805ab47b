/-
  What the statement's small case, words, does: two words in a p.
-/
import Derived.Test.YtabajhbghjfhoabGBe
namespace Go.Proofs.Ytabajhbghjfhoab
open Go.RowKit
set_option linter.unusedVariables false
set_option linter.unusedSimpArgs false

theorem row_nil (base : Nat) (t : TypeId) (size : Nat) (w : World) : w.ownsRow base t size (sV s0) 0 [] := World.ownsRow_nil _ _ _ _
def pN (a : Sli) (pr : Int) (k : Sli) : NEnt := ⟨1, 0, ⟨#[112]⟩, a, s0, pr, k⟩
def rN (k : Sli) : NEnt := ⟨1, 0, ⟨#[]⟩, s0, s0, -1, k⟩
def tN (t : Sli) : NEnt := ⟨2, 0, ⟨#[]⟩, s0, t, 1, s0⟩
/-- A row of another type than what an arena's own calls write. -/
theorem row_chg {base p size n : Nat} {t : TypeId} {v : Value} {L : List NEnt} {u : Value} {xs : List Value} {w w' : World} (h : w.ownsRow base t size u n xs) (hA : Arn base p v L w) (h1 : t ≠ 68) (h2 : t ≠ 65) {S : Nat → Prop} (hc : Chg S w w') (hS : ∀ j, S j → j = p ∨ v.ownBlock = some j ∨ u.ownBlock ≠ some j) : w'.ownsRow base t size u n xs := by
  refine hc.row h (fun k hk hs => ?_)
  rcases hS k hs with e | e | e
  · exact own_ne h hA.blk h1 (e ▸ hk)
  · exact own_ne2 h hA.row h2 k hk e
  · exact e hk
/-- The arena behind the steps of words. -/
structure W5 (base p : Nat) (v : Value) (s a k t : Sli) (w : World) : Prop where
  arn : Arn base p v [rN s, pN a 0 k, tN t] w
  rs : w.ownsRow base 3 1 (sV s) 1 [.int .i64 1]
  ra : w.ownsRow base 59 2 (sV a) 0 []
  ran : a.n = 0
  rk : w.ownsRow base 3 1 (sV k) 1 [.int .i64 2]
  rt : TxtR base w t [97, 98]
theorem sV_n {base size n : Nat} {t : TypeId} {s : Sli} {xs : List Value} {w : World} (h : w.ownsRow base t size (sV s) n xs) : s.n = n := by
  rcases h.2 with ⟨h1, h2⟩ | ⟨g, cap, cur, h1, _⟩
  · unfold sV at h1; injection h1 with _ h1; omega
  · unfold sV at h1; injection h1 with _ h1
theorem W5.later {base p : Nat} {v : Value} {s a k t : Sli} {w w' : World} (h : W5 base p v s a k t w) (hb : Below w.heap.size w w') : W5 base p v s a k t w' :=
  ⟨h.arn.later hb, ownsRow_below h.rs hb, ownsRow_below h.ra hb, h.ran, ownsRow_below h.rk hb, h.rt.later hb⟩
/-- The tree behind them. -/
theorem w5_tree (base p : Nat) (v : Value) (s a k t : Sli) (w : World) (h : W5 base p v s a k t w) :
    Calls Try.prog 21 #[ptr p] w fun e w' => (∃ g c g2 c2, e = .returned (.slice (some ⟨g, 0, none⟩) 1 c) ∧ w'.cell? ⟨g, 5, none⟩ = some (.slice (some ⟨g2, 0, none⟩) 1 c2) ∧ w'.cell? ⟨g2, 4, none⟩ = some (.string ⟨#[97, 98]⟩)) ∧ Below w.heap.size w w' := by
  have hk := h.rk
  have hs := h.rs
  have hkn := sV_n hk
  have hsn := sV_n hs
  refine tree_by (ptr p) w _ (hide ?_)
  have c3 : ∀ W, Below w.heap.size w W → Calls Try.prog 42 #[ptr p, .int .i64 ((2 : Nat) : Int)] W fun e w' => (∃ q n c, e = .returned (.slice q n c) ∧ True) ∧ Below W.heap.size W w' := fun W hW => (below_end base p 2 v _ W (h.arn.later hW) (by simp) (row_nil _ _ _ _) rfl).mono (by
    rintro e w' ⟨rfl, hb⟩
    exact ⟨⟨_, _, _, rfl, trivial⟩, hb⟩)
  have c2 := fun W (hW : Below w.heap.size w W) => below_one base p 1 2 v _ [] [97, 98] (fun _ _ => True) W (h.arn.later hW) (by simp) (by simp) (by simp) (by show W.ownsRow base _ 1 (sV k) k.n _; rw [hkn]; exact ownsRow_below hk hW) (row_nil _ _ _ _) (by simp) (by show (0 : Nat) ≤ 100000; omega) (h.rt.later hW) (hide fun _ _ _ _ _ => trivial) (hide fun W' hW' => c3 W' (tr2 hW hW'))
  have c1 := below_one base p 0 1 v _ [] [] (fun u W => ∃ z, OneSaid z (tN t) [] [97, 98] (fun _ _ => True) u W) w h.arn (by simp) (by simp) (by simp) (by show w.ownsRow base _ 1 (sV s) s.n _; rw [hsn]; exact hs) (by show w.ownsRow base _ 2 (sV a) a.n _; rw [h.ran]; exact h.ra) (by simp) (by show a.n ≤ 100000; rw [h.ran]; omega) (TxtR.nil base w) (hide fun u W W' ⟨z, hu⟩ hb => ⟨z, hu.later (fun _ _ _ _ _ => trivial) hb⟩) (hide fun W hW => (c2 W hW).mono (by
    rintro e w' ⟨⟨q, n, c, rfl, h1⟩, hb⟩
    exact ⟨⟨q, n, c, rfl, W.heap.size, h1⟩, hb⟩))
  refine c1.mono ?_
  rintro e w' ⟨⟨q, n, c, rfl, h1⟩, hb⟩
  obtain ⟨g, cap, a', kv, hv, hd, _, _, ⟨z, g2, cap2, a2, kv2, hv2, hd2, _⟩, _⟩ := h1
  refine ⟨⟨_, _, _, rfl⟩, ⟨g, cap, g2, cap2, by rw [hv], ?_, ?_⟩, hb⟩
  · rw [hd.k, hv2]
  · exact hd2.t
set_option maxHeartbeats 8000000 in
set_option maxRecDepth 100000 in
theorem words_true (w : World) : Calls Try.prog 11 #[] w fun e w' => e = .returned (.bool true) ∧ Below w.heap.size w w' := by
  have CN := hide (anew_any w.heap.size w (Nat.le_refl _))
  unfold ptr at CN
  go_enter Try.func11, Try.ntmps11
  go_wp2_with fail
  refine (unhide CN).mono ?_
  rintro r w1 ⟨v0, rfl, hA1, hb1⟩
  have hz1 := hb1.size
  have CE := hide (element_mk w.heap.size (w.heap.size + 1) v0 [rootN] 0 ⟨#[112]⟩ none 0 0 [] w1 hA1 hz1 (by simp) (by simp) (hide ((cloneT_nil 0 0 w1).mono (by rintro e w' ⟨rfl, rfl⟩; exact ⟨_, rfl, World.ownsRow_nil _ _ _ _, Below.refl _ _⟩))))
  have HA1 := hide hA1
  have HB1 := hide hb1
  clear hA1 hb1
  unfold ptr at CE
  go_wp2_with fail
  refine (unhide CE).mono ?_
  rintro r w2 ⟨v1, a, rfl, hA2, ha2, han, hc2, hv1, hak⟩
  have hb2 : Below w.heap.size w w2 := (unhide HB1).trans (hc2.below hz1 (fun k hk => by
    rcases hk with e | e
    · omega
    · exact ((unhide HA1).row.lt k e).1))
  have hz2 := hb2.size
  have hA2' : Arn w.heap.size (w.heap.size + 1) v1 [rN s0, pN a (-1) s0] w2 := hA2
  have CP := hide (append_ok w.heap.size (w.heap.size + 1) 0 1 2 v1 [rN s0, pN a (-1) s0] [] w2 hA2' hz2 (by simp) (by simp) (by simp) (row_nil _ _ _ _) (by show (0 : Nat) ≤ 100000; omega) rfl (by omega) rfl rfl)
  have HA2 := hide hA2'
  have HAT2 := hide ha2
  have HB2 := hide hb2
  clear hA2 hA2' ha2 hc2 hb2 hak hv1 CE HA1 HB1 CN
  unfold ptr at CP
  rw [show ((0 : Nat) : Int) = 0 from rfl, show ((1 : Nat) : Int) = 1 from rfl] at CP
  go_wp2_with fail
  refine (unhide CP).mono ?_
  rintro r w3 ⟨rfl, s, _, hA3, hs3, hc3, hs4⟩
  have hb3 : Below w.heap.size w w3 := (unhide HB2).trans (hc3.below hz2 (fun k hk => by
    rcases hk with e | e
    · exact ((unhide HA2).row.lt k e).1
    · cases e))
  have hz3 := hb3.size
  have hA3' : Arn w.heap.size (w.heap.size + 1) v1 [rN s, pN a 0 s0] w3 := hA3
  have ha3 := row_chg (unhide HAT2) (unhide HA2) (by decide) (by decide) hc3 (fun j hj => by
    rcases hj with e | e
    · exact Or.inr (Or.inl e)
    · cases e)
  have CW := hide (words_by w.heap.size (w.heap.size + 1) 1 v1 [rN s, pN a 0 s0] ⟨#[97]⟩ w3 (WrSaid w.heap.size (w.heap.size + 1) 1 v1 [rN s, pN a 0 s0] [] ⟨#[97]⟩ w3) hA3' (by simp) rfl (by decide) (hide ((write_first w.heap.size (w.heap.size + 1) 1 v1 [rN s, pN a 0 s0] ⟨#[97]⟩ w3 hA3' hz3 (by simp) (by simp) (row_nil _ _ _ _) rfl (by decide)).mono (by
    intro e w' hh
    obtain ⟨v', t, k, he, rest⟩ := hh
    exact ⟨⟨0, he⟩, v', t, k, he, rest⟩))))
  have HA3 := hide hA3'
  have HAT3 := hide ha3
  have HS3 : Hid (w3.ownsRow w.heap.size 3 1 (sV s) 1 [.int .i64 1]) := hide hs3
  have HB3 := hide hb3
  clear hA3 hA3' ha3 hs3 hc3 hb3 hs4 CP HA2 HAT2 HB2
  unfold ptr at CW
  rw [show ((1 : Nat) : Int) = 1 from rfl] at CW
  go_wp2_with fail
  refine (unhide CW).mono ?_
  rintro r w4 ⟨v2, t, k, rfl, hA4, ht4, hk4, hc4, hv2, ht5, hk5⟩
  have hb4 : Below w.heap.size w w4 := (unhide HB3).trans (hc4.below hz3 (fun k hk => by
    rcases hk with e | e | e
    · omega
    · exact ((unhide HA3).row.lt k e).1
    · cases e))
  have hz4 := hb4.size
  have hA4' : Arn w.heap.size (w.heap.size + 1) v2 [rN s, pN a 0 k, tN t] w4 := hA4
  have hS4 : ∀ u : Value, ∀ j, (j = w.heap.size + 1 ∨ v1.ownBlock = some j ∨ (sV s0).ownBlock = some j) → j = w.heap.size + 1 ∨ v1.ownBlock = some j ∨ u.ownBlock ≠ some j := fun u j hj => by
    rcases hj with e | e | e
    · exact Or.inl e
    · exact Or.inr (Or.inl e)
    · cases e
  have ha4 := row_chg (unhide HAT3) (unhide HA3) (by decide) (by decide) hc4 (hS4 _)
  have hs4 := row_chg (unhide HS3) (unhide HA3) (by decide) (by decide) hc4 (hS4 _)
  have hk4' : w4.ownsRow w.heap.size 3 1 (sV k) 1 [.int .i64 2] := hk4
  have hkn : k.n = 1 := sV_n hk4'
  have CO := hide (words_by w.heap.size (w.heap.size + 1) 1 v2 [rN s, pN a 0 k, tN t] ⟨#[98]⟩ w4 (OldSaid w.heap.size (w.heap.size + 1) 2 v2 [rN s, pN a 0 k, tN t] [97] ⟨#[98]⟩ w4) hA4' (by simp) rfl (by decide) (hide ((write_old w.heap.size (w.heap.size + 1) 1 2 v2 [rN s, pN a 0 k, tN t] [] [97] ⟨#[98]⟩ w4 hA4' hz4 (by simp) (by simp) (by show w4.ownsRow _ _ 1 (sV k) k.n _; rw [hkn]; exact hk4') (by show k.n ≤ 100000; omega) rfl ht4 (by decide)).mono (by
    intro e w' hh
    obtain ⟨t', he, rest⟩ := hh
    exact ⟨⟨0, he⟩, t', he, rest⟩))))
  have HA4 := hide hA4'
  have HAT4 := hide ha4
  have HS4 := hide hs4
  have HK4 := hide hk4'
  have HT4 := hide ht4
  have HB4 := hide hb4
  clear hA4 hA4' ha4 hs4 hc4 hb4 hv2 ht5 hk5 hk4 hk4' ht4 hS4 CW HA3 HAT3 HB3 HS3
  unfold ptr at CO
  rw [show ((1 : Nat) : Int) = 1 from rfl] at CO
  go_wp2_with fail
  refine (unhide CO).mono ?_
  rintro r w5 ⟨t', rfl, hA5, ht6, hc5, ht7⟩
  have hS5 : ∀ {sz n : Nat} {ty : TypeId} {u : Value} {xs : List Value}, w4.ownsRow w.heap.size ty sz u n xs → ty ≠ 5 → ∀ j, (v2.ownBlock = some j ∨ (sV t).ownBlock = some j) → j = w.heap.size + 1 ∨ v2.ownBlock = some j ∨ u.ownBlock ≠ some j := fun {sz n ty u xs} hu hty j hj => by
    rcases hj with e | e
    · exact Or.inr (Or.inl e)
    · obtain ⟨vs, fz, hblk⟩ := (unhide HT4).ty e
      exact Or.inr (Or.inr (own_ne hu hblk hty))
  have hb5 : Below w.heap.size w w5 := (unhide HB4).trans (hc5.below hz4 (fun k hk => by
    rcases hk with e | e
    · exact ((unhide HA4).row.lt k e).1
    · rcases (unhide HT4).row with ⟨hq, _⟩ | ⟨b, hq, hat⟩
      · have e' : (sV t).ownBlock = some k := e
        unfold sV at e'; rw [hq] at e'; cases e'
      · have e' : (sV t).ownBlock = some k := e
        unfold sV at e'; rw [hq] at e'
        simp only [Value.ownBlock, Option.some.injEq] at e'
        have := hat.ge; omega))
  have H5 : Hid (W5 w.heap.size (w.heap.size + 1) v2 s a k t' w5) := hide ⟨hA5, row_chg (unhide HS4) (unhide HA4) (by decide) (by decide) hc5 (hS5 (unhide HS4) (by decide)), row_chg (unhide HAT4) (unhide HA4) (by decide) (by decide) hc5 (hS5 (unhide HAT4) (by decide)), han, row_chg (unhide HK4) (unhide HA4) (by decide) (by decide) hc5 (hS5 (unhide HK4) (by decide)), ht6⟩
  have HB5 := hide hb5
  have CT := hide (w5_tree w.heap.size (w.heap.size + 1) v2 s a k t' w5 (unhide H5))
  have CL := hide (fun W (hW : Below w5.heap.size w5 W) => len_any w.heap.size (w.heap.size + 1) v2 _ W ((unhide H5).arn.later hW))
  clear hA5 ht6 hc5 ht7 hS5 hb5 CO HA4 HAT4 HS4 HK4 HT4 HB4
  unfold ptr at CT CL
  simp only [List.length_cons, List.length_nil] at CL
  go_wp2_with fail
  refine (unhide CT).mono ?_
  rintro r w6 ⟨⟨g, c, g2, c2, rfl, d1, d2⟩, hb6⟩
  have HB6 := hide (tr2 (unhide HB5) hb6)
  have CL6 := hide (unhide CL w6 hb6)
  clear hb6 CT CL
  go_wp2_with fail
  refine (unhide CL6).mono ?_
  rintro r w7 ⟨rfl, hw⟩
  obtain rfl : w6 = w7 := hw.symm
  go_wp2
  go_ret
  exact ⟨rfl, unhide HB6⟩
end Go.Proofs.Ytabajhbghjfhoab
