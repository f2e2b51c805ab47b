/-
  The walk of ActiveFull.
-/
import Derived.Test.YtimkijmjbphhlabAIs
namespace Go.Proofs.Ytimkijmjbphhlab
open Go.RowKit
set_option linter.unusedVariables false
set_option linter.unusedSimpArgs false

def mks (k : Nat) : List AEnt := List.replicate (min k 100) eMk
theorem mks_len (k : Nat) : (mks k).length = min k 100 := by simp [mks]
theorem mks_succ (k : Nat) (h : k < 100) : mks (k + 1) = mks k ++ [eMk] := by
  unfold mks
  rw [show min (k + 1) 100 = k + 1 by omega, show min k 100 = k by omega, List.replicate_succ']
theorem mks_full (k : Nat) (h : 100 ≤ k) : mks (k + 1) = mks k := by
  unfold mks
  rw [show min (k + 1) 100 = min k 100 by omega]
theorem mks_last (k : Nat) : lastE isMk (mks k) + 1 = ((mks k).length : Int) := by
  unfold mks
  generalize min k 100 = m
  cases m with
  | zero => rfl
  | succ m =>
    rw [List.replicate_succ', lastE_app]
    simp [isMk, eMk]
def bZ : AEnt := mkE false 0 ⟨#[98]⟩
theorem addM (base p k : Nat) (v : Value) (W : World) (h : Stk base p v (mks k) W) (hb : base ≤ W.heap.size) (hk : k < 100) : Calls Try.prog 11 #[ptr p, entV bZ] W fun e w' => e = .returned (.int .i64 0) ∧ Upd base p v (mks k ++ [bZ]) W w' :=
  add_few base p v false 0 ⟨#[98]⟩ [] (mks k) W h hb (by rw [mks_len]; omega) (el_b 0 (by decide)) (hide fun W' hW => alikeTo_none base p v bZ (mks k) W' (h.later hW) (by rw [mks_len]; omega) (mks_last k)) (by decide)
theorem addMf (base p k : Nat) (v : Value) (W : World) (h : Stk base p v (mks k) W) (hk : 100 ≤ k) : Calls Try.prog 11 #[ptr p, entV bZ] W fun e w' => e = .returned (.int .i64 5) ∧ Below W.heap.size W w' :=
  add_room (ptr p) bZ 5 W (el_b 0 (by decide)) (by decide) (hide fun w1 hb => by
    have := room_any base p v (mks k) w1 (h.later hb)
    rw [if_pos (by rw [mks_len]; omega)] at this
    exact this)
theorem insM (base p : Nat) (v : Value) (L : List AEnt) (W : World) (h : Stk base p v L W) (hb : base ≤ W.heap.size) (hk : L.length < 100) : Calls Try.prog 16 #[ptr p, .int .i64 0, entV bZ] W fun e w' => e = .returned (.int .i64 0) ∧ Upd base p v (L.take 0 ++ [bZ] ++ L.drop 0) W w' :=
  insert_in base p 0 v false 0 ⟨#[98]⟩ L W h hb (Nat.zero_le _) hk (el_b 0 (by decide))
theorem insMf (base p : Nat) (v : Value) (L : List AEnt) (W : World) (h : Stk base p v L W) (hk : 100 ≤ L.length) (hk2 : L.length ≤ 1000) : Calls Try.prog 16 #[ptr p, .int .i64 0, entV bZ] W fun e w' => e = .returned (.int .i64 5) ∧ Below W.heap.size W w' := by
  obtain ⟨q, cap, hv, hc, hm, hg⟩ := h.slice
  exact insert_room (ptr p) bZ 5 0 L.length cap q W (el_b 0 (by decide)) (by decide) (Nat.zero_le _) hk2 (hide fun w1 hb => by
    have := room_any base p v L w1 (h.later hb)
    rw [if_pos hk] at this
    exact this) (hide fun w1 hb => by
    have h2 := h.later hb
    rw [hv] at h2
    exact entries_at p _ w1 h2.1 ⟨_, _, _, rfl⟩)
def FullAt (n : Nat) (w : World) (i : Value) (wr : World) : Prop :=
  ∃ (k : Nat) (v : Value), k ≤ n ∧ i = .int .i64 k ∧ Stk w.heap.size w.heap.size v (mks k) wr ∧ Below w.heap.size w wr

theorem afull_small (n : Int) (w : World) (h : n < 0 ∨ 120 < n) :
    Calls Try.prog 5 #[.int .i64 n] w fun e w' => e = .returned (.bool true) ∧ Below w.heap.size w w' := by
  have CN := hide (new_any w.heap.size w (Nat.le_refl _))
  have CC := hide (fun w => four_any w)
  unfold ptr at *
  by_cases h1 : n < 0
  · go_enter Try.func5, Try.ntmps5
    go_wp2_with fail
    refine (unhide CN).mono ?_
    rintro e w1 ⟨rfl, _, hb1⟩
    have HB := hide hb1
    clear hb1
    go_wp2_with fail
    refine (unhide CC _).mono ?_
    rintro e w2 ⟨rfl, hb2⟩
    go_wp2
    go_ret
    exact ⟨rfl, tr2 (unhide HB) hb2⟩
  · have h2 : 120 < n := by omega
    have h3 : decide (n < 0) = false := decide_eq_false h1
    clear h
    go_enter Try.func5, Try.ntmps5
    go_wp2_with fail
    refine (unhide CN).mono ?_
    rintro e w1 ⟨rfl, _, hb1⟩
    have HB := hide hb1
    clear hb1
    go_wp2_with fail
    refine (unhide CC _).mono ?_
    rintro e w2 ⟨rfl, hb2⟩
    go_wp2
    go_ret
    exact ⟨rfl, tr2 (unhide HB) hb2⟩

set_option maxHeartbeats 4000000 in
set_option maxRecDepth 100000 in
theorem afull_a (n : Nat) (w : World) (hn : n ≤ 120) (hq : n < 99) :
    Calls Try.prog 5 #[.int .i64 (n : Int)] w fun e w' => e = .returned (.bool true) ∧ Below w.heap.size w w' := by
  have CN := hide (new_any w.heap.size w (Nat.le_refl _))
  have CC := hide (fun w => four_any w)
  have hq1 : (n : Int) < 99 := by omega
  have hq2 : ¬ (99 : Int) ≤ (n : Int) := by omega
  have hq3 : ¬ (100 : Int) ≤ (n : Int) := by omega
  have hq4 : decide ((99 : Int) ≤ (n : Int)) = false := decide_eq_false hq2
  have hq5 : decide ((100 : Int) ≤ (n : Int)) = false := decide_eq_false hq3
  have CA := hide (fun v W h hb => addM w.heap.size w.heap.size n v W h hb (by omega))
  have CI := hide (fun v W h hb => insM w.heap.size w.heap.size v (mks n ++ [bZ]) W h hb (by simp [mks_len]; omega))
  unfold entV bZ mkE at CA CI
  dsimp only at CA CI
  unfold ptr at CN CA CI
  have hni : (n : Int) ≤ 120 := by omega
  have hn0 : ¬ (n : Int) < 0 := by omega
  have hn0' : decide ((n : Int) < 0) = false := decide_eq_false hn0
  have hn1 : ¬ 120 < (n : Int) := by omega
  go_enter Try.func5, Try.ntmps5
  go_wp2_with fail
  refine (unhide CN).mono ?_
  rintro e w1 ⟨rfl, hs1, hb1⟩
  have HAT : Hid (FullAt n w (.int .i64 0) w1) := hide ⟨0, _, Nat.zero_le _, rfl, hs1, hb1⟩
  clear hs1 hb1
  go_wp2
  go_loopw [4] (fun i wr => FullAt n w i wr) (fun i _ => n - (intOf i).toNat)
  case atStart => exact unhide HAT
  case round =>
    clear HAT
    obtain ⟨k, v, hk, rfl, hs, hb⟩ := hrel
    have HS := hide hs
    have HB := hide hb
    have hsz := hb.size
    clear hs hb
    by_cases hlt : k < n
    · have hlti : (k : Int) < (n : Int) := by omega
      by_cases h2 : 100 ≤ k
      · omega
      · have hk2 : (k : Int) < 100 := by omega
        have hk3 : decide ((k : Int) < 100) = true := decide_eq_true hk2
        have HE := hide (mks_succ k (by omega))
        have CM := hide (mark_any w.heap.size w.heap.size v (mks k) wr (unhide HS) hsz (by rw [mks_len]; omega))
        clear h2
        unfold ptr at CM
        go_wp2_with fail
        refine (unhide CM).mono ?_
        rintro e w2 ⟨rfl, v', hs2, ht2, ho2⟩
        have B2 := hide (cellB (unhide HB) (unhide HS) ht2)
        have S2 := hide hs2
        clear hs2 ht2 ho2
        go_wp2
        go_roundw
        case rel => exact ⟨k + 1, v', by omega, by go_num, by rw [unhide HE]; exact unhide S2, unhide B2⟩
        case measure => simp [intOf]; omega
    · have hkn : n = k := by omega
      subst hkn
      have hnl : ¬ (n : Int) < (n : Int) := by omega
      clear hlt
      go_wp2_with fail
      refine (unhide CA v _ (unhide HS) hsz).mono ?_
      rintro e w2 ⟨rfl, v2, hs2, ht2, ho2⟩
      have B2 := hide (cellB (unhide HB) (unhide HS) ht2)
      have S2 := hide hs2
      have hsz2 := (unhide B2).size
      clear hs2 ht2 ho2
      go_wp2_with fail
      refine (unhide CI v2 _ (unhide S2) hsz2).mono ?_
      rintro e w3 ⟨rfl, v3, hs3, ht3, ho3⟩
      have B3 := hide (cellB (unhide B2) (unhide S2) ht3)
      clear hs3 ht3 ho3
      go_wp2_with fail
      refine (unhide CC _).mono ?_
      rintro e w4 ⟨rfl, hb4⟩
      have B4 := hide (cellC (unhide B3) hb4)
      clear hb4
      go_wp2
      go_ret
      exact ⟨rfl, unhide B4⟩

set_option maxHeartbeats 4000000 in
set_option maxRecDepth 100000 in
theorem afull_b (n : Nat) (w : World) (hn : n ≤ 120) (hq : n = 99) :
    Calls Try.prog 5 #[.int .i64 (n : Int)] w fun e w' => e = .returned (.bool true) ∧ Below w.heap.size w w' := by
  have CN := hide (new_any w.heap.size w (Nat.le_refl _))
  have CC := hide (fun w => four_any w)
  have hq2 : (99 : Int) ≤ (n : Int) := by omega
  have hq3 : ¬ (100 : Int) ≤ (n : Int) := by omega
  have hq4 : decide ((99 : Int) ≤ (n : Int)) = true := decide_eq_true hq2
  have hq5 : decide ((100 : Int) ≤ (n : Int)) = false := decide_eq_false hq3
  have CA := hide (fun v W h hb => addM w.heap.size w.heap.size n v W h hb (by omega))
  have CI := hide (fun v W h => insMf w.heap.size w.heap.size v (mks n ++ [bZ]) W h (by simp [mks_len]; omega) (by simp [mks_len]; omega))
  have HQ := hide hq
  clear hq
  unfold entV bZ mkE at CA CI
  dsimp only at CA CI
  unfold ptr at CN CA CI
  have hni : (n : Int) ≤ 120 := by omega
  have hn0 : ¬ (n : Int) < 0 := by omega
  have hn0' : decide ((n : Int) < 0) = false := decide_eq_false hn0
  have hn1 : ¬ 120 < (n : Int) := by omega
  go_enter Try.func5, Try.ntmps5
  go_wp2_with fail
  refine (unhide CN).mono ?_
  rintro e w1 ⟨rfl, hs1, hb1⟩
  have HAT : Hid (FullAt n w (.int .i64 0) w1) := hide ⟨0, _, Nat.zero_le _, rfl, hs1, hb1⟩
  clear hs1 hb1
  go_wp2
  go_loopw [4] (fun i wr => FullAt n w i wr) (fun i _ => n - (intOf i).toNat)
  case atStart => exact unhide HAT
  case round =>
    clear HAT
    obtain ⟨k, v, hk, rfl, hs, hb⟩ := hrel
    have HS := hide hs
    have HB := hide hb
    have hsz := hb.size
    clear hs hb
    by_cases hlt : k < n
    · have hlti : (k : Int) < (n : Int) := by omega
      by_cases h2 : 100 ≤ k
      · have := unhide HQ; omega
      · have hk2 : (k : Int) < 100 := by omega
        have hk3 : decide ((k : Int) < 100) = true := decide_eq_true hk2
        have HE := hide (mks_succ k (by omega))
        have CM := hide (mark_any w.heap.size w.heap.size v (mks k) wr (unhide HS) hsz (by rw [mks_len]; omega))
        clear h2
        unfold ptr at CM
        go_wp2_with fail
        refine (unhide CM).mono ?_
        rintro e w2 ⟨rfl, v', hs2, ht2, ho2⟩
        have B2 := hide (cellB (unhide HB) (unhide HS) ht2)
        have S2 := hide hs2
        clear hs2 ht2 ho2
        go_wp2
        go_roundw
        case rel => exact ⟨k + 1, v', by omega, by go_num, by rw [unhide HE]; exact unhide S2, unhide B2⟩
        case measure => simp [intOf]; omega
    · have hkn : n = k := by omega
      subst hkn
      have hnl : ¬ (n : Int) < (n : Int) := by omega
      clear hlt
      go_wp2_with fail
      refine (unhide CA v _ (unhide HS) hsz).mono ?_
      rintro e w2 ⟨rfl, v2, hs2, ht2, ho2⟩
      have B2 := hide (cellB (unhide HB) (unhide HS) ht2)
      have S2 := hide hs2
      clear hs2 ht2 ho2
      go_wp2_with fail
      refine (unhide CI v2 _ (unhide S2)).mono ?_
      rintro e w3 ⟨rfl, hb3⟩
      have B3 := hide (cellC (unhide B2) hb3)
      clear hb3
      go_wp2_with fail
      refine (unhide CC _).mono ?_
      rintro e w4 ⟨rfl, hb4⟩
      have B4 := hide (cellC (unhide B3) hb4)
      clear hb4
      go_wp2
      go_ret
      exact ⟨rfl, unhide B4⟩

set_option maxHeartbeats 4000000 in
set_option maxRecDepth 100000 in
theorem afull_c (n : Nat) (w : World) (hn : n ≤ 120) (hq : 100 ≤ n) :
    Calls Try.prog 5 #[.int .i64 (n : Int)] w fun e w' => e = .returned (.bool true) ∧ Below w.heap.size w w' := by
  have CN := hide (new_any w.heap.size w (Nat.le_refl _))
  have CC := hide (fun w => four_any w)
  have hq2 : (99 : Int) ≤ (n : Int) := by omega
  have hq3 : (100 : Int) ≤ (n : Int) := by omega
  have hq4 : decide ((99 : Int) ≤ (n : Int)) = true := decide_eq_true hq2
  have hq5 : decide ((100 : Int) ≤ (n : Int)) = true := decide_eq_true hq3
  have CA := hide (fun v W h => addMf w.heap.size w.heap.size n v W h hq)
  have CI := hide (fun v W h => insMf w.heap.size w.heap.size v (mks n) W h (by rw [mks_len]; omega) (by rw [mks_len]; omega))
  unfold entV bZ mkE at CA CI
  dsimp only at CA CI
  unfold ptr at CN CA CI
  have hni : (n : Int) ≤ 120 := by omega
  have hn0 : ¬ (n : Int) < 0 := by omega
  have hn0' : decide ((n : Int) < 0) = false := decide_eq_false hn0
  have hn1 : ¬ 120 < (n : Int) := by omega
  go_enter Try.func5, Try.ntmps5
  go_wp2_with fail
  refine (unhide CN).mono ?_
  rintro e w1 ⟨rfl, hs1, hb1⟩
  have HAT : Hid (FullAt n w (.int .i64 0) w1) := hide ⟨0, _, Nat.zero_le _, rfl, hs1, hb1⟩
  clear hs1 hb1
  go_wp2
  go_loopw [4] (fun i wr => FullAt n w i wr) (fun i _ => n - (intOf i).toNat)
  case atStart => exact unhide HAT
  case round =>
    clear HAT
    obtain ⟨k, v, hk, rfl, hs, hb⟩ := hrel
    have HS := hide hs
    have HB := hide hb
    have hsz := hb.size
    clear hs hb
    by_cases hlt : k < n
    · have hlti : (k : Int) < (n : Int) := by omega
      by_cases h2 : 100 ≤ k
      · have hk3 : decide ((k : Int) < 100) = false := decide_eq_false (by omega)
        have hk2 : ¬ (k : Int) < 100 := by omega
        have HE := hide (mks_full k (by omega))
        have CM := hide (mark_full w.heap.size w.heap.size v (mks k) wr (unhide HS) (by rw [mks_len]; omega))
        clear h2
        unfold ptr at CM
        go_wp2_with fail
        refine (unhide CM).mono ?_
        rintro e w2 ⟨rfl, hw⟩
        obtain rfl : wr = w2 := hw.symm
        clear hw
        go_wp2
        go_roundw
        case rel => exact ⟨k + 1, v, by omega, by go_num, by rw [unhide HE]; exact unhide HS, unhide HB⟩
        case measure => simp [intOf]; omega
      · have hk2 : (k : Int) < 100 := by omega
        have hk3 : decide ((k : Int) < 100) = true := decide_eq_true hk2
        have HE := hide (mks_succ k (by omega))
        have CM := hide (mark_any w.heap.size w.heap.size v (mks k) wr (unhide HS) hsz (by rw [mks_len]; omega))
        clear h2
        unfold ptr at CM
        go_wp2_with fail
        refine (unhide CM).mono ?_
        rintro e w2 ⟨rfl, v', hs2, ht2, ho2⟩
        have B2 := hide (cellB (unhide HB) (unhide HS) ht2)
        have S2 := hide hs2
        clear hs2 ht2 ho2
        go_wp2
        go_roundw
        case rel => exact ⟨k + 1, v', by omega, by go_num, by rw [unhide HE]; exact unhide S2, unhide B2⟩
        case measure => simp [intOf]; omega
    · have hkn : n = k := by omega
      subst hkn
      have hnl : ¬ (n : Int) < (n : Int) := by omega
      clear hlt
      go_wp2_with fail
      refine (unhide CA v _ (unhide HS)).mono ?_
      rintro e w2 ⟨rfl, hb2⟩
      have B2 := hide (cellC (unhide HB) hb2)
      have S2 := hide ((unhide HS).later hb2)
      clear hb2
      go_wp2_with fail
      refine (unhide CI v _ (unhide S2)).mono ?_
      rintro e w3 ⟨rfl, hb3⟩
      have B3 := hide (cellC (unhide B2) hb3)
      clear hb3
      go_wp2_with fail
      refine (unhide CC _).mono ?_
      rintro e w4 ⟨rfl, hb4⟩
      have B4 := hide (cellC (unhide B3) hb4)
      clear hb4
      go_wp2
      go_ret
      exact ⟨rfl, unhide B4⟩

theorem activeFull_walk (n : Int) (w : World) :
    Calls Try.prog 5 #[.int .i64 n] w fun e w' => e = .returned (.bool true) ∧ Below w.heap.size w w' := by
  by_cases h : n < 0 ∨ 120 < n
  · exact afull_small n w h
  · obtain ⟨k, rfl⟩ : ∃ k : Nat, n = (k : Int) := ⟨n.toNat, by omega⟩
    by_cases h1 : k < 99
    · exact afull_a k w (by omega) h1
    by_cases h2 : k = 99
    · exact afull_b k w (by omega) h2
    · exact afull_c k w (by omega) (by omega)
end Go.Proofs.Ytimkijmjbphhlab
