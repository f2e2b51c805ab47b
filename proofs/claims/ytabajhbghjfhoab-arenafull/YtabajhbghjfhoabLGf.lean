/-
  The walk of ArenaFull.
-/
import Derived.Test.YtabajhbghjfhoabGWd
namespace Go.Proofs.Ytabajhbghjfhoab
open Go.RowKit
set_option linter.unusedVariables false
set_option linter.unusedSimpArgs false

def GFullAt (A n : Nat) (w : World) (i : Value) (wr : World) : Prop :=
  ∃ (k : Nat) (v : Value) (L : List NEnt), k ≤ n ∧ i = .int .i64 k ∧ Arn A (A + 1) v L wr ∧ L.length = min (k + 1) 600 ∧ L.getD 0 n0 = rootN ∧ Below A w wr
theorem gfull_neg (n : Int) (w : World) (h1 : n < 0) :
    Calls Try.prog 6 #[.int .i64 n] w fun e w' => e = .returned (.bool true) ∧ Below w.heap.size w w' := by
  have CN := hide (anew_any w.heap.size w (Nat.le_refl _))
  have CC := hide (fun w => words_true w)
  unfold ptr at *
  go_enter Try.func6, Try.ntmps6
  go_wp2_with fail
  refine (unhide CN).mono ?_
  rintro e w1 ⟨v0, rfl, _, hb1⟩
  have HB := hide hb1
  clear hb1
  go_wp2_with fail
  refine (unhide CC _).mono ?_
  rintro e w2 ⟨rfl, hb2⟩
  go_wp2
  go_ret
  exact ⟨rfl, tr2 (unhide HB) hb2⟩
theorem gfull_great (n : Int) (w : World) (h1 : 700 < n) :
    Calls Try.prog 6 #[.int .i64 n] w fun e w' => e = .returned (.bool true) ∧ Below w.heap.size w w' := by
  have CN := hide (anew_any w.heap.size w (Nat.le_refl _))
  have CC := hide (fun w => words_true w)
  unfold ptr at *
  have h2 : ¬ n < 0 := by omega
  have h3 : decide (n < 0) = false := decide_eq_false h2
  go_enter Try.func6, Try.ntmps6
  go_wp2_with fail
  refine (unhide CN).mono ?_
  rintro e w1 ⟨v0, rfl, _, hb1⟩
  have HB := hide hb1
  clear hb1
  go_wp2_with fail
  refine (unhide CC _).mono ?_
  rintro e w2 ⟨rfl, hb2⟩
  go_wp2
  go_ret
  exact ⟨rfl, tr2 (unhide HB) hb2⟩
set_option maxHeartbeats 8000000 in
set_option maxRecDepth 100000 in
theorem gfull_a (n : Nat) (w : World) (hn : n ≤ 700) (hq : n < 599) :
    Calls Try.prog 6 #[.int .i64 (n : Int)] w fun e w' => e = .returned (.bool true) ∧ Below w.heap.size w w' := by
  have CN := hide (anew_any w.heap.size w (Nat.le_refl _))
  have CC := hide (fun w => words_true w)
  unfold ptr at CN
  have hni : (n : Int) ≤ 700 := by omega
  have hn0 : ¬ (n : Int) < 0 := by omega
  have hn0' : decide ((n : Int) < 0) = false := decide_eq_false hn0
  have hn1 : ¬ 700 < (n : Int) := by omega
  have hq1 : (n : Int) < 599 := by omega
  have hq2 : decide ((n : Int) < 599) = true := decide_eq_true hq1
  go_enter Try.func6, Try.ntmps6
  go_wp2_with fail
  refine (unhide CN).mono ?_
  rintro r w1 ⟨v0, rfl, hs1, hb1⟩
  have HAT : Hid (GFullAt w.heap.size n w (.int .i64 0) w1) := hide ⟨0, v0, [rootN], Nat.zero_le _, rfl, hs1, by simp, rfl, hb1⟩
  clear hs1 hb1
  obtain ⟨A, hA⟩ : ∃ A, w.heap.size = A := ⟨_, rfl⟩
  have HA := hide hA
  rw [hA] at HAT
  rw [hA]
  clear hA
  go_wp2
  go_loopw [4] (fun i wr => GFullAt A n w i wr) (fun i _ => n - (intOf i).toNat)
  case atStart => exact unhide HAT
  case round =>
    clear HAT
    obtain ⟨k, v, L, hk, rfl, hs, hL, hG, hb⟩ := hrel
    have HS := hide hs
    have HB := hide hb
    have HG := hide hG
    have hsz : A ≤ wr.heap.size := by have := hb.size; rw [unhide HA] at this; exact this
    clear hs hb hG
    by_cases hlt : k < n
    · have hlti : (k : Int) < (n : Int) := by omega
      by_cases h2 : 599 ≤ k
      · omega
      · have hL' : L.length = k + 1 := by rw [hL]; omega
        clear hL
        have hL := hL'
        clear hL'
        have h2' : k < 599 := by omega
        clear h2
        have hk599 : (k : Int) < 599 := by omega
        have hkd : decide ((k : Int) < 599) = true := decide_eq_true hk599
        have CM := hide (comment_ok A (A + 1) v L ⟨#[99]⟩ wr (unhide HS) hsz (by omega) (by omega) (by decide))
        have HLL := hide hL
        clear hL
        unfold ptr at CM
        go_wp2_with fail
        refine (unhide CM).mono ?_
        rintro r w2 ⟨v', t, hr, hA2, _, hc2, _, _⟩
        have hr2 : r = .returned (.tuple #[.int .i64 ((k : Int) + 1), .int .i64 0]) := by
          rw [hr, unhide HLL]
          rfl
        subst hr2
        have B2 := hide ((unhide HB).trans (hc2.below hsz (fun j hj => by
          rcases hj with e | e
          · omega
          · exact ((unhide HS).row.lt j e).1)))
        have S2 := hide hA2
        have HG2 : Hid ((L ++ [(⟨3, 0, ⟨#[]⟩, s0, t, -1, s0⟩ : NEnt)]).getD 0 n0 = rootN) := hide (by rw [List.getD, List.getElem?_append_left (by have := unhide HLL; omega), ← List.getD]; exact unhide HG)
        have HL2 : Hid ((L ++ [(⟨3, 0, ⟨#[]⟩, s0, t, -1, s0⟩ : NEnt)]).length = min (k + 1 + 1) 600) := hide (by rw [List.length_append, List.length_singleton, unhide HLL]; omega)
        have e1 : ((k : Int) + 1 == (k : Int) + 1) = true := by simp
        have hwk : IntKind.i64.wrap ((k : Int) + 1) = (k : Int) + 1 := by rw [IntKind.wrap_i64]; omega
        clear hr hA2 hc2
        go_wp2
        go_roundw
        case rel => exact ⟨k + 1, v', _, by omega, by go_num, unhide S2, unhide HL2, unhide HG2, unhide B2⟩
        case measure => simp [intOf]; omega
    · have hkn : n = k := by omega
      subst hkn
      have hnl : ¬ (n : Int) < (n : Int) := by omega
      have hL' : L.length = n + 1 := by rw [hL]; omega
      have hwu : Below w.heap.size w wr := by rw [unhide HA]; exact unhide HB
      have CX := hide (words_by A (A + 1) 0 v L ⟨#[120]⟩ wr (WrSaid A (A + 1) 0 v L [] ⟨#[120]⟩ wr) (unhide HS) (by omega) (by rw [unhide HG]; rfl) (by decide) (hide ((by rw [unhide HG]; exact (by have := write_first A (A + 1) 0 v L ⟨#[120]⟩ wr (unhide HS) hsz (by omega) (by omega) (by rw [unhide HG]; exact row_nil _ _ _ _) (by rw [unhide HG]; rfl) (by decide); exact this) : Calls Try.prog 50 #[ptr (A + 1), .int .i64 ((0 : Nat) : Int), .int .i64 ((L.getD 0 n0).k.n : Int), .string ⟨#[120]⟩] wr (WrSaid A (A + 1) 0 v L [] ⟨#[120]⟩ wr)).mono (by
        intro e w' hh
        obtain ⟨v', t, k, he, rest⟩ := hh
        exact ⟨⟨0, he⟩, v', t, k, he, rest⟩))))
      clear hL hlt
      unfold ptr at CX
      rw [show ((0 : Nat) : Int) = 0 from rfl] at CX
      go_wp2_with fail
      refine (unhide CX).mono ?_
      rintro r w2 ⟨v', t, kk, rfl, hA2, _, _, hc2, _, _, _⟩
      have B3 : Hid (Below w.heap.size w w2) := hide (hwu.trans (by rw [unhide HA]; exact hc2.below hsz (fun j hj => by
          rcases hj with e | e | e
          · omega
          · exact ((unhide HS).row.lt j e).1
          · rw [unhide HG] at e; cases e)))
      obtain ⟨L2, hL2⟩ : ∃ L2, setAt (setAt (L ++ [(⟨2, 0, ⟨#[]⟩, s0, t, -1, s0⟩ : NEnt)]) 0 (kidsN kk)) L.length (prN ((0 : Nat) : Int)) = L2 := ⟨_, rfl⟩
      rw [hL2] at hA2
      have hl2 : L2.length = n + 2 := by rw [← hL2, setAt_len, setAt_len, List.length_append, List.length_singleton, hL']
      have hk2 : (L2.getD 0 n0).kd = 1 := by
        rw [← hL2, setAt_get _ _ _ _ (by rw [setAt_len, List.length_append, List.length_singleton]; omega), if_neg (by omega), setAt_get _ _ _ _ (by rw [List.length_append, List.length_singleton]; omega), if_pos rfl, List.getD, List.getElem?_append_left (by omega), ← List.getD, unhide HG]
        rfl
      have CE := hide (words_empty A (A + 1) 0 v' L2 w2 hA2 (by omega) hk2)
      have CL := hide (len_any A (A + 1) v' L2 w2 hA2)
      rw [hl2] at CL
      unfold ptr at CE CL
      rw [show ((0 : Nat) : Int) = 0 from rfl] at CE
      rw [show ((n + 2 : Nat) : Int) = (n : Int) + 2 by omega] at CL
      have hmn : min ((n : Int) + 2) 600 = (n : Int) + 2 := by omega
      have enn : ((n : Int) + 2 == (n : Int) + 2) = true := by simp
      have hwn : IntKind.i64.wrap ((n : Int) + 2) = (n : Int) + 2 := by rw [IntKind.wrap_i64]; omega
      clear hA2 hc2 hL2 hk2 CX
      go_wp2_with fail
      refine (unhide CE).mono ?_
      rintro r w6 ⟨rfl, hw⟩
      subst hw
      go_wp2_with fail
      refine (unhide CL).mono ?_
      rintro r w7 ⟨rfl, hw⟩
      subst hw
      go_wp2_with fail
      refine (unhide CC _).mono ?_
      rintro r w8 ⟨rfl, hb8⟩
      have B8 := hide (tr2 (unhide B3) hb8)
      clear hb8
      go_wp2
      go_ret
      exact ⟨rfl, unhide B8⟩
set_option maxHeartbeats 8000000 in
set_option maxRecDepth 100000 in
theorem gfull_b (n : Nat) (w : World) (hn : n ≤ 700) (hq : 599 ≤ n) :
    Calls Try.prog 6 #[.int .i64 (n : Int)] w fun e w' => e = .returned (.bool true) ∧ Below w.heap.size w w' := by
  have CN := hide (anew_any w.heap.size w (Nat.le_refl _))
  have CC := hide (fun w => words_true w)
  unfold ptr at CN
  have hni : (n : Int) ≤ 700 := by omega
  have hn0 : ¬ (n : Int) < 0 := by omega
  have hn0' : decide ((n : Int) < 0) = false := decide_eq_false hn0
  have hn1 : ¬ 700 < (n : Int) := by omega
  have hq1 : ¬ (n : Int) < 599 := by omega
  have hq2 : decide ((n : Int) < 599) = false := decide_eq_false hq1
  go_enter Try.func6, Try.ntmps6
  go_wp2_with fail
  refine (unhide CN).mono ?_
  rintro r w1 ⟨v0, rfl, hs1, hb1⟩
  have HAT : Hid (GFullAt w.heap.size n w (.int .i64 0) w1) := hide ⟨0, v0, [rootN], Nat.zero_le _, rfl, hs1, by simp, rfl, hb1⟩
  clear hs1 hb1
  obtain ⟨A, hA⟩ : ∃ A, w.heap.size = A := ⟨_, rfl⟩
  have HA := hide hA
  rw [hA] at HAT
  rw [hA]
  clear hA
  go_wp2
  go_loopw [4] (fun i wr => GFullAt A n w i wr) (fun i _ => n - (intOf i).toNat)
  case atStart => exact unhide HAT
  case round =>
    clear HAT
    obtain ⟨k, v, L, hk, rfl, hs, hL, hG, hb⟩ := hrel
    have HS := hide hs
    have HB := hide hb
    have HG := hide hG
    have hsz : A ≤ wr.heap.size := by have := hb.size; rw [unhide HA] at this; exact this
    clear hs hb hG
    by_cases hlt : k < n
    · have hlti : (k : Int) < (n : Int) := by omega
      by_cases h2 : 599 ≤ k
      · have hL' : L.length = 600 := by rw [hL]; omega
        have hk599 : ¬ (k : Int) < 599 := by omega
        have hkd : decide ((k : Int) < 599) = false := decide_eq_false hk599
        have CM := hide (comment_full A (A + 1) v L ⟨#[99]⟩ wr (unhide HS) hL' (by decide))
        have HL2 : Hid (L.length = min (k + 1 + 1) 600) := hide (by rw [hL']; omega)
        have hwk : IntKind.i64.wrap ((k : Int) + 1) = (k : Int) + 1 := by rw [IntKind.wrap_i64]; omega
        clear hL hL'
        unfold ptr at CM
        go_wp2_with fail
        refine (unhide CM).mono ?_
        rintro r w2 ⟨rfl, hb2⟩
        have B2 := hide ((unhide HB).trans (hb2.mono hsz))
        have S2 := hide ((unhide HS).later hb2)
        clear hb2
        go_wp2
        go_roundw
        case rel => exact ⟨k + 1, v, L, by omega, by go_num, unhide S2, unhide HL2, unhide HG, unhide B2⟩
        case measure => simp [intOf]; omega
      · have hL' : L.length = k + 1 := by rw [hL]; omega
        clear hL
        have hL := hL'
        clear hL'
        have h2' : k < 599 := by omega
        clear h2
        have hk599 : (k : Int) < 599 := by omega
        have hkd : decide ((k : Int) < 599) = true := decide_eq_true hk599
        have CM := hide (comment_ok A (A + 1) v L ⟨#[99]⟩ wr (unhide HS) hsz (by omega) (by omega) (by decide))
        have HLL := hide hL
        clear hL
        unfold ptr at CM
        go_wp2_with fail
        refine (unhide CM).mono ?_
        rintro r w2 ⟨v', t, hr, hA2, _, hc2, _, _⟩
        have hr2 : r = .returned (.tuple #[.int .i64 ((k : Int) + 1), .int .i64 0]) := by
          rw [hr, unhide HLL]
          rfl
        subst hr2
        have B2 := hide ((unhide HB).trans (hc2.below hsz (fun j hj => by
          rcases hj with e | e
          · omega
          · exact ((unhide HS).row.lt j e).1)))
        have S2 := hide hA2
        have HG2 : Hid ((L ++ [(⟨3, 0, ⟨#[]⟩, s0, t, -1, s0⟩ : NEnt)]).getD 0 n0 = rootN) := hide (by rw [List.getD, List.getElem?_append_left (by have := unhide HLL; omega), ← List.getD]; exact unhide HG)
        have HL2 : Hid ((L ++ [(⟨3, 0, ⟨#[]⟩, s0, t, -1, s0⟩ : NEnt)]).length = min (k + 1 + 1) 600) := hide (by rw [List.length_append, List.length_singleton, unhide HLL]; omega)
        have e1 : ((k : Int) + 1 == (k : Int) + 1) = true := by simp
        have hwk : IntKind.i64.wrap ((k : Int) + 1) = (k : Int) + 1 := by rw [IntKind.wrap_i64]; omega
        clear hr hA2 hc2
        go_wp2
        go_roundw
        case rel => exact ⟨k + 1, v', _, by omega, by go_num, unhide S2, unhide HL2, unhide HG2, unhide B2⟩
        case measure => simp [intOf]; omega
    · have hkn : n = k := by omega
      subst hkn
      have hnl : ¬ (n : Int) < (n : Int) := by omega
      have hL' : L.length = 600 := by rw [hL]; omega
      have hwu : Below w.heap.size w wr := by rw [unhide HA]; exact unhide HB
      have CX := hide (words_by A (A + 1) 0 v L ⟨#[120]⟩ wr (fun r w' => r = .returned (.int .i64 5) ∧ Below wr.heap.size wr w') (unhide HS) (by omega) (by rw [unhide HG]; rfl) (by decide) (hide ((by rw [unhide HG]; exact (write_full A (A + 1) 0 v L ⟨#[120]⟩ wr (unhide HS) hL' (by decide)) : Calls Try.prog 50 #[ptr (A + 1), .int .i64 ((0 : Nat) : Int), .int .i64 ((L.getD 0 n0).k.n : Int), .string ⟨#[120]⟩] wr (fun r w' => r = .returned (.int .i64 5) ∧ Below wr.heap.size wr w')).mono (by
        rintro e w' ⟨he, rest⟩
        exact ⟨⟨5, he⟩, he, rest⟩))))
      clear hL hlt
      unfold ptr at CX
      rw [show ((0 : Nat) : Int) = 0 from rfl] at CX
      go_wp2_with fail
      refine (unhide CX).mono ?_
      rintro r w2 ⟨rfl, hb2⟩
      have B3 : Hid (Below w.heap.size w w2) := hide (tr2 hwu hb2)
      have hA2 := (unhide HS).later hb2
      have CE := hide (words_empty A (A + 1) 0 v L w2 hA2 (by omega) (by rw [unhide HG]; rfl))
      have CL := hide (len_any A (A + 1) v L w2 hA2)
      rw [hL'] at CL
      unfold ptr at CE CL
      rw [show ((0 : Nat) : Int) = 0 from rfl] at CE
      rw [show ((600 : Nat) : Int) = 600 from rfl] at CL
      have hmn : min ((n : Int) + 2) 600 = 600 := by omega
      have hwn : IntKind.i64.wrap ((n : Int) + 2) = (n : Int) + 2 := by rw [IntKind.wrap_i64]; omega
      clear hA2 hb2 CX hL'
      go_wp2_with fail
      refine (unhide CE).mono ?_
      rintro r w6 ⟨rfl, hw⟩
      subst hw
      go_wp2_with fail
      refine (unhide CL).mono ?_
      rintro r w7 ⟨rfl, hw⟩
      subst hw
      go_wp2_with fail
      refine (unhide CC _).mono ?_
      rintro r w8 ⟨rfl, hb8⟩
      have B8 := hide (tr2 (unhide B3) hb8)
      clear hb8
      go_wp2
      go_ret
      exact ⟨rfl, unhide B8⟩
theorem arenaFull_walk (n : Int) (w : World) :
    Calls Try.prog 6 #[.int .i64 n] w fun e w' => e = .returned (.bool true) ∧ Below w.heap.size w w' := by
  by_cases h1 : n < 0
  · exact gfull_neg n w h1
  · by_cases h2 : 700 < n
    · exact gfull_great n w h2
    · obtain ⟨m, rfl⟩ : ∃ m : Nat, n = (m : Int) := ⟨n.toNat, by omega⟩
      by_cases h3 : m < 599
      · exact gfull_a m w (by omega) h3
      · exact gfull_b m w (by omega) (by omega)
end Go.Proofs.Ytabajhbghjfhoab
