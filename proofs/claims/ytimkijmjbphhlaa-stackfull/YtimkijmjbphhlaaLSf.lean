/-
  The walk of StackFull.
-/
import Derived.Test.YtimkijmjbphhlaaKCe
namespace Go.Proofs.Ytimkijmjbphhlaa
open Go.RowKit
set_option linter.unusedVariables false
set_option linter.unusedSimpArgs false

def iEnt (i : Nat) : Ent := ⟨i, 0, ⟨#[]⟩⟩
def fullL (k : Nat) : List Ent := (List.range (min k 200)).map iEnt
theorem fullL_len (k : Nat) : (fullL k).length = min k 200 := by simp [fullL]
theorem fullL_zero : fullL 0 = [] := rfl
theorem fullL_succ (k : Nat) : fullL (k + 1) = if 200 ≤ (fullL k).length then fullL k else fullL k ++ [iEnt k] := by
  rw [fullL_len]
  by_cases h : 200 ≤ min k 200
  · rw [if_pos h]; unfold fullL; rw [show min (k + 1) 200 = min k 200 by omega]
  · rw [if_neg h]; unfold fullL; rw [show min (k + 1) 200 = k + 1 by omega, show min k 200 = k by omega, List.range_succ]; simp

/-- The loop that pushes: what it keeps. -/
def FullAt (n : Nat) (w : World) (i : Value) (wr : World) : Prop :=
  ∃ (k : Nat) (v : Value), k ≤ n ∧ i = .int .i64 k ∧ Stk w.heap.size w.heap.size v (fullL k) wr ∧ Below w.heap.size w wr

theorem full_small (n at' : Int) (w : World) (h : n < 0 ∨ 250 < n) :
    Calls Try.prog 6 #[.int .i64 n, .int .i64 at'] w fun e w' => e = .returned (.bool true) ∧ Below w.heap.size w w' := by
  have CN := hide (new_any w.heap.size w (Nat.le_refl _))
  have CC := hide (fun w => cell_any w)
  unfold ptr at *
  by_cases h1 : n < 0
  · go_enter Try.func6, Try.ntmps6
    go_wp2_with fail
    refine (unhide CN).mono ?_
    rintro e w1 ⟨rfl, _, hb1⟩
    have HB := hide hb1
    clear hb1
    go_wp2_with fail
    refine (unhide CC _).mono ?_
    rintro e w2 ⟨rfl, hb2⟩
    go_wp2
    go_ret
    exact ⟨rfl, tr2 (unhide HB) hb2⟩
  · have h2 : 250 < n := by omega
    have h3 : decide (n < 0) = false := decide_eq_false h1
    clear h
    go_enter Try.func6, Try.ntmps6
    go_wp2_with fail
    refine (unhide CN).mono ?_
    rintro e w1 ⟨rfl, _, hb1⟩
    have HB := hide hb1
    clear hb1
    go_wp2_with fail
    refine (unhide CC _).mono ?_
    rintro e w2 ⟨rfl, hb2⟩
    go_wp2
    go_ret
    exact ⟨rfl, tr2 (unhide HB) hb2⟩
set_option maxHeartbeats 4000000 in
set_option maxRecDepth 100000 in
theorem full_argb (n : Nat) (at' : Int) (w : World) (hn : n ≤ 250) (hq : 200 < n) (h : at' < 0 ∨ ((200 : Nat) : Int) < at') :
    Calls Try.prog 6 #[.int .i64 (n : Int), .int .i64 at'] w fun e w' => e = .returned (.bool true) ∧ Below w.heap.size w w' := by
  have CN := hide (new_any w.heap.size w (Nat.le_refl _))
  have CC := hide (fun w => cell_any w)
  have CP := hide (fun v k W h hb => push_any w.heap.size w.heap.size v (iEnt k) (fullL k) W h hb)
  have CI := hide (fun v W h hb => insert_any w.heap.size w.heap.size v at' (iEnt 7) (fullL n) W h hb)
  unfold entV iEnt at CP CI
  dsimp only at CP CI
  simp only [fullL_len] at CI
  have hmn : min n 200 = 200 := by omega
  rw [hmn] at CI
  have hq1 : (200 : Int) < (n : Int) := by omega
  have hq2 : ¬ (n : Int) ≤ 200 := by omega
  have hE : insE at' 200 = 1 := by unfold insE; rw [if_pos h]
  simp only [hE] at CI
  have hd : decide (at' < 0) = true ∨ (decide (at' < 0) = false ∧ decide (200 < at') = true ∧ ¬ at' < 0 ∧ 200 < at') := by
    by_cases h0 : at' < 0
    · exact Or.inl (decide_eq_true h0)
    · exact Or.inr ⟨decide_eq_false h0, decide_eq_true (by omega), h0, by omega⟩
  clear hE h hmn
  unfold ptr at *
  have hni : (n : Int) ≤ 250 := by omega
  have hn0 : ¬ (n : Int) < 0 := by omega
  have hn0' : decide ((n : Int) < 0) = false := decide_eq_false hn0
  have hn1 : ¬ 250 < (n : Int) := by omega
  go_enter Try.func6, Try.ntmps6
  go_wp2_with fail
  refine (unhide CN).mono ?_
  rintro e w1 ⟨rfl, hs1, hb1⟩
  have HAT : Hid (FullAt n w (.int .i64 0) w1) := hide ⟨0, _, Nat.zero_le _, rfl, hs1, hb1⟩
  clear hs1 hb1
  go_wp2
  go_loopw [6] (fun i wr => FullAt n w i wr) (fun i _ => n - (intOf i).toNat)
  case atStart => exact unhide HAT
  case round =>
    clear HAT
    obtain ⟨k, v, hk, rfl, hs, hb⟩ := hrel
    have HS := hide hs
    have HB := hide hb
    have hsz := hb.size
    clear hs hb
    by_cases hlt : k < n
    · have hlti : (k : Int) < (n : Int) := by omega
      have hsucc := fullL_succ k
      have hkl := fullL_len k
      have CP1 := hide (fun W h hb => unhide CP v k W h hb)
      by_cases h2 : 200 ≤ (fullL k).length
      · rw [if_pos h2] at hsucc
        have hk2 : (200 : Int) ≤ (k : Int) := by omega
        have hk3 : decide ((k : Int) < 200) = false := decide_eq_false (by omega)
        simp only [if_pos h2] at CP1
        have HE := hide hsucc
        clear h2 hsucc hkl
        go_wp2_with fail
        refine (unhide CP1 _ (unhide HS) hsz).mono ?_
        rintro e w2 ⟨rfl, v', hs2, ht2, ho2⟩
        have B2 := hide (cellB (unhide HB) (unhide HS) ht2)
        have S2 := hide hs2
        clear hs2 ht2 ho2
        go_wp2
        go_roundw
        case rel => exact ⟨k + 1, v', by omega, by go_num, by rw [unhide HE]; exact unhide S2, unhide B2⟩
        case measure => simp [intOf]; omega
      · rw [if_neg h2] at hsucc
        have hk2 : (k : Int) < 200 := by omega
        have hk3 : decide ((k : Int) < 200) = true := decide_eq_true hk2
        simp only [if_neg h2] at CP1
        have HE := hide hsucc
        clear h2 hsucc hkl
        go_wp2_with fail
        refine (unhide CP1 _ (unhide HS) hsz).mono ?_
        rintro e w2 ⟨rfl, v', hs2, ht2, ho2⟩
        have B2 := hide (cellB (unhide HB) (unhide HS) ht2)
        have S2 := hide hs2
        clear hs2 ht2 ho2
        go_wp2
        go_roundw
        case rel => exact ⟨k + 1, v', by omega, by go_num, by rw [unhide HE]; exact unhide S2, unhide B2⟩
        case measure => simp [intOf]; omega
    · have hkn : n = k := by omega
      subst hkn
      have hnl : ¬ (n : Int) < (n : Int) := by omega
      clear hlt
      go_wp2_with fail
      refine (unhide CI v _ (unhide HS) hsz).mono ?_
      rintro e w2 ⟨rfl, v', hs2, ht2, ho2⟩
      have B2 := hide (cellB (unhide HB) (unhide HS) ht2)
      have S2 := hide hs2
      clear hs2 ht2 ho2
      have B3 := B2
      rcases hd with hd | ⟨hd, hd2, hd3, hd4⟩
      · go_wp2_with fail
        refine (unhide CC _).mono ?_
        rintro e w4 ⟨rfl, hb4⟩
        go_wp2
        go_ret
        exact ⟨rfl, cellB2 (unhide B3) hb4⟩
      · go_wp2_with fail
        refine (unhide CC _).mono ?_
        rintro e w4 ⟨rfl, hb4⟩
        go_wp2
        go_ret
        exact ⟨rfl, cellB2 (unhide B3) hb4⟩

set_option maxHeartbeats 4000000 in
set_option maxRecDepth 100000 in
theorem full_arge (n : Nat) (at' : Int) (w : World) (hn : n ≤ 250) (hq : n = 200) (h : at' < 0 ∨ ((200 : Nat) : Int) < at') :
    Calls Try.prog 6 #[.int .i64 (n : Int), .int .i64 at'] w fun e w' => e = .returned (.bool true) ∧ Below w.heap.size w w' := by
  have CN := hide (new_any w.heap.size w (Nat.le_refl _))
  have CC := hide (fun w => cell_any w)
  have CP := hide (fun v k W h hb => push_any w.heap.size w.heap.size v (iEnt k) (fullL k) W h hb)
  have CI := hide (fun v W h hb => insert_any w.heap.size w.heap.size v at' (iEnt 7) (fullL n) W h hb)
  unfold entV iEnt at CP CI
  dsimp only at CP CI
  simp only [fullL_len] at CI
  have hmn : min n 200 = 200 := by omega
  rw [hmn] at CI
  have hq1 : (n : Int) ≤ 200 := by omega
  have hq4 : ((n : Int) == 200) = true := by simp; omega
  have hqI : (n : Int) = 200 := by omega
  have hE : insE at' 200 = 1 := by unfold insE; rw [if_pos h]
  simp only [hE] at CI
  have hd : decide (at' < 0) = true ∨ (decide (at' < 0) = false ∧ decide ((n : Int) < at') = true ∧ ¬ at' < 0 ∧ (n : Int) < at') := by
    by_cases h0 : at' < 0
    · exact Or.inl (decide_eq_true h0)
    · exact Or.inr ⟨decide_eq_false h0, decide_eq_true (by omega), h0, by omega⟩
  clear hE h hmn hqI hq
  unfold ptr at *
  have hni : (n : Int) ≤ 250 := by omega
  have hn0 : ¬ (n : Int) < 0 := by omega
  have hn0' : decide ((n : Int) < 0) = false := decide_eq_false hn0
  have hn1 : ¬ 250 < (n : Int) := by omega
  go_enter Try.func6, Try.ntmps6
  go_wp2_with fail
  refine (unhide CN).mono ?_
  rintro e w1 ⟨rfl, hs1, hb1⟩
  have HAT : Hid (FullAt n w (.int .i64 0) w1) := hide ⟨0, _, Nat.zero_le _, rfl, hs1, hb1⟩
  clear hs1 hb1
  go_wp2
  go_loopw [6] (fun i wr => FullAt n w i wr) (fun i _ => n - (intOf i).toNat)
  case atStart => exact unhide HAT
  case round =>
    clear HAT
    obtain ⟨k, v, hk, rfl, hs, hb⟩ := hrel
    have HS := hide hs
    have HB := hide hb
    have hsz := hb.size
    clear hs hb
    by_cases hlt : k < n
    · have hlti : (k : Int) < (n : Int) := by omega
      have hsucc := fullL_succ k
      have hkl := fullL_len k
      have CP1 := hide (fun W h hb => unhide CP v k W h hb)
      by_cases h2 : 200 ≤ (fullL k).length
      · exact absurd h2 (by rw [hkl]; omega)
      · rw [if_neg h2] at hsucc
        have hk2 : (k : Int) < 200 := by omega
        have hk3 : decide ((k : Int) < 200) = true := decide_eq_true hk2
        simp only [if_neg h2] at CP1
        have HE := hide hsucc
        clear h2 hsucc hkl
        go_wp2_with fail
        refine (unhide CP1 _ (unhide HS) hsz).mono ?_
        rintro e w2 ⟨rfl, v', hs2, ht2, ho2⟩
        have B2 := hide (cellB (unhide HB) (unhide HS) ht2)
        have S2 := hide hs2
        clear hs2 ht2 ho2
        go_wp2
        go_roundw
        case rel => exact ⟨k + 1, v', by omega, by go_num, by rw [unhide HE]; exact unhide S2, unhide B2⟩
        case measure => simp [intOf]; omega
    · have hkn : n = k := by omega
      subst hkn
      have hnl : ¬ (n : Int) < (n : Int) := by omega
      clear hlt
      go_wp2_with fail
      refine (unhide CI v _ (unhide HS) hsz).mono ?_
      rintro e w2 ⟨rfl, v', hs2, ht2, ho2⟩
      have B2 := hide (cellB (unhide HB) (unhide HS) ht2)
      have S2 := hide hs2
      clear hs2 ht2 ho2
      have B3 := B2
      rcases hd with hd | ⟨hd, hd2, hd3, hd4⟩
      · go_wp2_with fail
        refine (unhide CC _).mono ?_
        rintro e w4 ⟨rfl, hb4⟩
        go_wp2
        go_ret
        exact ⟨rfl, cellB2 (unhide B3) hb4⟩
      · go_wp2_with fail
        refine (unhide CC _).mono ?_
        rintro e w4 ⟨rfl, hb4⟩
        go_wp2
        go_ret
        exact ⟨rfl, cellB2 (unhide B3) hb4⟩

set_option maxHeartbeats 4000000 in
set_option maxRecDepth 100000 in
theorem full_argn (n : Nat) (at' : Int) (w : World) (hn : n ≤ 250) (hq : n < 200) (h : at' < 0 ∨ ((n : Nat) : Int) < at') :
    Calls Try.prog 6 #[.int .i64 (n : Int), .int .i64 at'] w fun e w' => e = .returned (.bool true) ∧ Below w.heap.size w w' := by
  have CN := hide (new_any w.heap.size w (Nat.le_refl _))
  have CC := hide (fun w => cell_any w)
  have CP := hide (fun v k W h hb => push_any w.heap.size w.heap.size v (iEnt k) (fullL k) W h hb)
  have CI := hide (fun v W h hb => insert_any w.heap.size w.heap.size v at' (iEnt 7) (fullL n) W h hb)
  unfold entV iEnt at CP CI
  dsimp only at CP CI
  simp only [fullL_len] at CI
  have hmn : min n 200 = n := by omega
  rw [hmn] at CI
  have hq1 : ¬ (200 : Int) ≤ (n : Int) := by omega
  have hq2 : (n : Int) < 200 := by omega
  have hq3 : (n : Int) ≤ 200 := by omega
  have hq4 : ((n : Int) == 200) = false := beq_eq_false_iff_ne.2 (by omega)
  have hE : insE at' n = 1 := by unfold insE; rw [if_pos h]
  simp only [hE] at CI
  have hd : decide (at' < 0) = true ∨ (decide (at' < 0) = false ∧ decide ((n : Int) < at') = true ∧ ¬ at' < 0 ∧ (n : Int) < at') := by
    by_cases h0 : at' < 0
    · exact Or.inl (decide_eq_true h0)
    · exact Or.inr ⟨decide_eq_false h0, decide_eq_true (by omega), h0, by omega⟩
  clear hE h hmn
  unfold ptr at *
  have hni : (n : Int) ≤ 250 := by omega
  have hn0 : ¬ (n : Int) < 0 := by omega
  have hn0' : decide ((n : Int) < 0) = false := decide_eq_false hn0
  have hn1 : ¬ 250 < (n : Int) := by omega
  go_enter Try.func6, Try.ntmps6
  go_wp2_with fail
  refine (unhide CN).mono ?_
  rintro e w1 ⟨rfl, hs1, hb1⟩
  have HAT : Hid (FullAt n w (.int .i64 0) w1) := hide ⟨0, _, Nat.zero_le _, rfl, hs1, hb1⟩
  clear hs1 hb1
  go_wp2
  go_loopw [6] (fun i wr => FullAt n w i wr) (fun i _ => n - (intOf i).toNat)
  case atStart => exact unhide HAT
  case round =>
    clear HAT
    obtain ⟨k, v, hk, rfl, hs, hb⟩ := hrel
    have HS := hide hs
    have HB := hide hb
    have hsz := hb.size
    clear hs hb
    by_cases hlt : k < n
    · have hlti : (k : Int) < (n : Int) := by omega
      have hsucc := fullL_succ k
      have hkl := fullL_len k
      have CP1 := hide (fun W h hb => unhide CP v k W h hb)
      by_cases h2 : 200 ≤ (fullL k).length
      · exact absurd h2 (by rw [hkl]; omega)
      · rw [if_neg h2] at hsucc
        have hk2 : (k : Int) < 200 := by omega
        have hk3 : decide ((k : Int) < 200) = true := decide_eq_true hk2
        simp only [if_neg h2] at CP1
        have HE := hide hsucc
        clear h2 hsucc hkl
        go_wp2_with fail
        refine (unhide CP1 _ (unhide HS) hsz).mono ?_
        rintro e w2 ⟨rfl, v', hs2, ht2, ho2⟩
        have B2 := hide (cellB (unhide HB) (unhide HS) ht2)
        have S2 := hide hs2
        clear hs2 ht2 ho2
        go_wp2
        go_roundw
        case rel => exact ⟨k + 1, v', by omega, by go_num, by rw [unhide HE]; exact unhide S2, unhide B2⟩
        case measure => simp [intOf]; omega
    · have hkn : n = k := by omega
      subst hkn
      have hnl : ¬ (n : Int) < (n : Int) := by omega
      clear hlt
      go_wp2_with fail
      refine (unhide CI v _ (unhide HS) hsz).mono ?_
      rintro e w2 ⟨rfl, v', hs2, ht2, ho2⟩
      have B2 := hide (cellB (unhide HB) (unhide HS) ht2)
      have S2 := hide hs2
      clear hs2 ht2 ho2
      have B3 := B2
      rcases hd with hd | ⟨hd, hd2, hd3, hd4⟩
      · go_wp2_with fail
        refine (unhide CC _).mono ?_
        rintro e w4 ⟨rfl, hb4⟩
        go_wp2
        go_ret
        exact ⟨rfl, cellB2 (unhide B3) hb4⟩
      · go_wp2_with fail
        refine (unhide CC _).mono ?_
        rintro e w4 ⟨rfl, hb4⟩
        go_wp2
        go_ret
        exact ⟨rfl, cellB2 (unhide B3) hb4⟩

set_option maxHeartbeats 4000000 in
set_option maxRecDepth 100000 in
theorem full_b (n : Nat) (at' : Int) (w : World) (hn : n ≤ 250) (hq : 200 < n) (h : 0 ≤ at') (h2 : at' ≤ 200) :
    Calls Try.prog 6 #[.int .i64 (n : Int), .int .i64 at'] w fun e w' => e = .returned (.bool true) ∧ Below w.heap.size w w' := by
  have CN := hide (new_any w.heap.size w (Nat.le_refl _))
  have CC := hide (fun w => cell_any w)
  have CP := hide (fun v k W h hb => push_any w.heap.size w.heap.size v (iEnt k) (fullL k) W h hb)
  have CI := hide (fun v W h hb => insert_any w.heap.size w.heap.size v at' (iEnt 7) (fullL n) W h hb)
  unfold entV iEnt at CP CI
  dsimp only at CP CI
  simp only [fullL_len] at CI
  have hmn : min n 200 = 200 := by omega
  rw [hmn] at CI
  have hq1 : (200 : Int) < (n : Int) := by omega
  have hq2 : ¬ (n : Int) ≤ 200 := by omega
  have hE : insE at' 200 = 5 := by unfold insE; rw [if_neg (by omega)]; rfl
  simp only [hE] at CI
  have hd : decide (at' < 0) = false := decide_eq_false (by omega)
  have hd2 : ¬ (200 : Int) < at' := by omega
  clear hE h hmn
  unfold ptr at *
  have hni : (n : Int) ≤ 250 := by omega
  have hn0 : ¬ (n : Int) < 0 := by omega
  have hn0' : decide ((n : Int) < 0) = false := decide_eq_false hn0
  have hn1 : ¬ 250 < (n : Int) := by omega
  go_enter Try.func6, Try.ntmps6
  go_wp2_with fail
  refine (unhide CN).mono ?_
  rintro e w1 ⟨rfl, hs1, hb1⟩
  have HAT : Hid (FullAt n w (.int .i64 0) w1) := hide ⟨0, _, Nat.zero_le _, rfl, hs1, hb1⟩
  clear hs1 hb1
  go_wp2
  go_loopw [6] (fun i wr => FullAt n w i wr) (fun i _ => n - (intOf i).toNat)
  case atStart => exact unhide HAT
  case round =>
    clear HAT
    obtain ⟨k, v, hk, rfl, hs, hb⟩ := hrel
    have HS := hide hs
    have HB := hide hb
    have hsz := hb.size
    clear hs hb
    by_cases hlt : k < n
    · have hlti : (k : Int) < (n : Int) := by omega
      have hsucc := fullL_succ k
      have hkl := fullL_len k
      have CP1 := hide (fun W h hb => unhide CP v k W h hb)
      by_cases h2 : 200 ≤ (fullL k).length
      · rw [if_pos h2] at hsucc
        have hk2 : (200 : Int) ≤ (k : Int) := by omega
        have hk3 : decide ((k : Int) < 200) = false := decide_eq_false (by omega)
        simp only [if_pos h2] at CP1
        have HE := hide hsucc
        clear h2 hsucc hkl
        go_wp2_with fail
        refine (unhide CP1 _ (unhide HS) hsz).mono ?_
        rintro e w2 ⟨rfl, v', hs2, ht2, ho2⟩
        have B2 := hide (cellB (unhide HB) (unhide HS) ht2)
        have S2 := hide hs2
        clear hs2 ht2 ho2
        go_wp2
        go_roundw
        case rel => exact ⟨k + 1, v', by omega, by go_num, by rw [unhide HE]; exact unhide S2, unhide B2⟩
        case measure => simp [intOf]; omega
      · rw [if_neg h2] at hsucc
        have hk2 : (k : Int) < 200 := by omega
        have hk3 : decide ((k : Int) < 200) = true := decide_eq_true hk2
        simp only [if_neg h2] at CP1
        have HE := hide hsucc
        clear h2 hsucc hkl
        go_wp2_with fail
        refine (unhide CP1 _ (unhide HS) hsz).mono ?_
        rintro e w2 ⟨rfl, v', hs2, ht2, ho2⟩
        have B2 := hide (cellB (unhide HB) (unhide HS) ht2)
        have S2 := hide hs2
        clear hs2 ht2 ho2
        go_wp2
        go_roundw
        case rel => exact ⟨k + 1, v', by omega, by go_num, by rw [unhide HE]; exact unhide S2, unhide B2⟩
        case measure => simp [intOf]; omega
    · have hkn : n = k := by omega
      subst hkn
      have hnl : ¬ (n : Int) < (n : Int) := by omega
      clear hlt
      go_wp2_with fail
      refine (unhide CI v _ (unhide HS) hsz).mono ?_
      rintro e w2 ⟨rfl, v', hs2, ht2, ho2⟩
      have B2 := hide (cellB (unhide HB) (unhide HS) ht2)
      have S2 := hide hs2
      clear hs2 ht2 ho2
      have B3 := B2
      go_wp2_with fail
      refine (unhide CC _).mono ?_
      rintro e w4 ⟨rfl, hb4⟩
      go_wp2
      go_ret
      exact ⟨rfl, cellB2 (unhide B3) hb4⟩

set_option maxHeartbeats 4000000 in
set_option maxRecDepth 100000 in
theorem full_e (n : Nat) (at' : Int) (w : World) (hn : n ≤ 250) (hq : n = 200) (h : 0 ≤ at') (h2 : at' ≤ 200) :
    Calls Try.prog 6 #[.int .i64 (n : Int), .int .i64 at'] w fun e w' => e = .returned (.bool true) ∧ Below w.heap.size w w' := by
  have CN := hide (new_any w.heap.size w (Nat.le_refl _))
  have CC := hide (fun w => cell_any w)
  have CP := hide (fun v k W h hb => push_any w.heap.size w.heap.size v (iEnt k) (fullL k) W h hb)
  have CI := hide (fun v W h hb => insert_any w.heap.size w.heap.size v at' (iEnt 7) (fullL n) W h hb)
  unfold entV iEnt at CP CI
  dsimp only at CP CI
  simp only [fullL_len] at CI
  have hmn : min n 200 = 200 := by omega
  rw [hmn] at CI
  have hq1 : (n : Int) ≤ 200 := by omega
  have hq4 : ((n : Int) == 200) = true := by simp; omega
  have hqI : (n : Int) = 200 := by omega
  have hE : insE at' 200 = 5 := by unfold insE; rw [if_neg (by omega)]; rfl
  simp only [hE] at CI
  have hd : decide (at' < 0) = false := decide_eq_false (by omega)
  have hd2 : ¬ (200 : Int) < at' := by omega
  have hd3 : ¬ (n : Int) < at' := by omega
  clear hE h hmn hqI hq
  unfold ptr at *
  have hni : (n : Int) ≤ 250 := by omega
  have hn0 : ¬ (n : Int) < 0 := by omega
  have hn0' : decide ((n : Int) < 0) = false := decide_eq_false hn0
  have hn1 : ¬ 250 < (n : Int) := by omega
  go_enter Try.func6, Try.ntmps6
  go_wp2_with fail
  refine (unhide CN).mono ?_
  rintro e w1 ⟨rfl, hs1, hb1⟩
  have HAT : Hid (FullAt n w (.int .i64 0) w1) := hide ⟨0, _, Nat.zero_le _, rfl, hs1, hb1⟩
  clear hs1 hb1
  go_wp2
  go_loopw [6] (fun i wr => FullAt n w i wr) (fun i _ => n - (intOf i).toNat)
  case atStart => exact unhide HAT
  case round =>
    clear HAT
    obtain ⟨k, v, hk, rfl, hs, hb⟩ := hrel
    have HS := hide hs
    have HB := hide hb
    have hsz := hb.size
    clear hs hb
    by_cases hlt : k < n
    · have hlti : (k : Int) < (n : Int) := by omega
      have hsucc := fullL_succ k
      have hkl := fullL_len k
      have CP1 := hide (fun W h hb => unhide CP v k W h hb)
      by_cases h2 : 200 ≤ (fullL k).length
      · exact absurd h2 (by rw [hkl]; omega)
      · rw [if_neg h2] at hsucc
        have hk2 : (k : Int) < 200 := by omega
        have hk3 : decide ((k : Int) < 200) = true := decide_eq_true hk2
        simp only [if_neg h2] at CP1
        have HE := hide hsucc
        clear h2 hsucc hkl
        go_wp2_with fail
        refine (unhide CP1 _ (unhide HS) hsz).mono ?_
        rintro e w2 ⟨rfl, v', hs2, ht2, ho2⟩
        have B2 := hide (cellB (unhide HB) (unhide HS) ht2)
        have S2 := hide hs2
        clear hs2 ht2 ho2
        go_wp2
        go_roundw
        case rel => exact ⟨k + 1, v', by omega, by go_num, by rw [unhide HE]; exact unhide S2, unhide B2⟩
        case measure => simp [intOf]; omega
    · have hkn : n = k := by omega
      subst hkn
      have hnl : ¬ (n : Int) < (n : Int) := by omega
      clear hlt
      go_wp2_with fail
      refine (unhide CI v _ (unhide HS) hsz).mono ?_
      rintro e w2 ⟨rfl, v', hs2, ht2, ho2⟩
      have B2 := hide (cellB (unhide HB) (unhide HS) ht2)
      have S2 := hide hs2
      clear hs2 ht2 ho2
      have B3 := B2
      go_wp2_with fail
      refine (unhide CC _).mono ?_
      rintro e w4 ⟨rfl, hb4⟩
      go_wp2
      go_ret
      exact ⟨rfl, cellB2 (unhide B3) hb4⟩

set_option maxHeartbeats 4000000 in
set_option maxRecDepth 100000 in
theorem full_n (n : Nat) (at' : Int) (w : World) (hn : n ≤ 250) (hq : n < 200) (h : 0 ≤ at') (h2 : at' ≤ (n : Int)) :
    Calls Try.prog 6 #[.int .i64 (n : Int), .int .i64 at'] w fun e w' => e = .returned (.bool true) ∧ Below w.heap.size w w' := by
  have CN := hide (new_any w.heap.size w (Nat.le_refl _))
  have CC := hide (fun w => cell_any w)
  have CP := hide (fun v k W h hb => push_any w.heap.size w.heap.size v (iEnt k) (fullL k) W h hb)
  have CI := hide (fun v W h hb => insert_any w.heap.size w.heap.size v at' (iEnt 7) (fullL n) W h hb)
  unfold entV iEnt at CP CI
  dsimp only at CP CI
  simp only [fullL_len] at CI
  have hmn : min n 200 = n := by omega
  rw [hmn] at CI
  have hq1 : ¬ (200 : Int) ≤ (n : Int) := by omega
  have hq2 : (n : Int) < 200 := by omega
  have hq3 : (n : Int) ≤ 200 := by omega
  have hq4 : ((n : Int) == 200) = false := beq_eq_false_iff_ne.2 (by omega)
  have hE : insE at' n = 0 := by unfold insE; rw [if_neg (by omega), if_neg (by omega)]
  simp only [hE] at CI
  have hL : insL at' (iEnt 7) (fullL n) = (fullL n).take at'.toNat ++ [iEnt 7] ++ (fullL n).drop at'.toNat := by
    unfold insL; rw [fullL_len, hmn, if_neg (by omega), if_neg (by omega)]
  have hLl : (insL at' (iEnt 7) (fullL n)).length = n + 1 := by rw [hL]; simp [fullL_len]; omega
  have hLg : ((insL at' (iEnt 7) (fullL n)).getD at'.toNat e0).id = 7 := by
    rw [hL, List.append_assoc, List.getD, List.getElem?_append_right (by simp [fullL_len]; omega)]
    simp [fullL_len, hmn, show min at'.toNat n = at'.toNat by omega, iEnt]
  have CA := hide (fun v W h => all_any w.heap.size w.heap.size v (insL at' (iEnt 7) (fullL n)) W h (by rw [hLl]; omega))
  unfold iEnt at CA hLl hLg
  generalize hLL : insL at' ⟨((7 : Nat) : Int), 0, ⟨#[]⟩⟩ (fullL n) = LL at *
  have HLL := hide (And.intro hLl hLg)
  have hd : decide (at' < 0) = false := decide_eq_false (by omega)
  have hd2 : ¬ (n : Int) < at' := by omega
  clear hE hmn hL hLl hLg hLL
  unfold ptr at *
  have hni : (n : Int) ≤ 250 := by omega
  have hn0 : ¬ (n : Int) < 0 := by omega
  have hn0' : decide ((n : Int) < 0) = false := decide_eq_false hn0
  have hn1 : ¬ 250 < (n : Int) := by omega
  go_enter Try.func6, Try.ntmps6
  go_wp2_with fail
  refine (unhide CN).mono ?_
  rintro e w1 ⟨rfl, hs1, hb1⟩
  have HAT : Hid (FullAt n w (.int .i64 0) w1) := hide ⟨0, _, Nat.zero_le _, rfl, hs1, hb1⟩
  clear hs1 hb1
  go_wp2
  go_loopw [6] (fun i wr => FullAt n w i wr) (fun i _ => n - (intOf i).toNat)
  case atStart => exact unhide HAT
  case round =>
    clear HAT
    obtain ⟨k, v, hk, rfl, hs, hb⟩ := hrel
    have HS := hide hs
    have HB := hide hb
    have hsz := hb.size
    clear hs hb
    by_cases hlt : k < n
    · have hlti : (k : Int) < (n : Int) := by omega
      have hsucc := fullL_succ k
      have hkl := fullL_len k
      have CP1 := hide (fun W h hb => unhide CP v k W h hb)
      by_cases h2 : 200 ≤ (fullL k).length
      · exact absurd h2 (by rw [hkl]; omega)
      · rw [if_neg h2] at hsucc
        have hk2 : (k : Int) < 200 := by omega
        have hk3 : decide ((k : Int) < 200) = true := decide_eq_true hk2
        simp only [if_neg h2] at CP1
        have HE := hide hsucc
        clear h2 hsucc hkl
        go_wp2_with fail
        refine (unhide CP1 _ (unhide HS) hsz).mono ?_
        rintro e w2 ⟨rfl, v', hs2, ht2, ho2⟩
        have B2 := hide (cellB (unhide HB) (unhide HS) ht2)
        have S2 := hide hs2
        clear hs2 ht2 ho2
        go_wp2
        go_roundw
        case rel => exact ⟨k + 1, v', by omega, by go_num, by rw [unhide HE]; exact unhide S2, unhide B2⟩
        case measure => simp [intOf]; omega
    · have hkn : n = k := by omega
      subst hkn
      have hnl : ¬ (n : Int) < (n : Int) := by omega
      clear hlt
      go_wp2_with fail
      refine (unhide CI v _ (unhide HS) hsz).mono ?_
      rintro e w2 ⟨rfl, v', hs2, ht2, ho2⟩
      have B2 := hide (cellB (unhide HB) (unhide HS) ht2)
      have S2 := hide hs2
      clear hs2 ht2 ho2
      go_wp2_with fail
      refine (unhide CA v' _ (unhide S2)).mono ?_
      rintro e w3 ⟨u, rfl, hu, hb3⟩
      obtain ⟨hLl, hLg⟩ := unhide HLL
      have B3 := hide (cellB2 (unhide B2) hb3)
      have hsl : ∃ g cap, u = .slice (some ⟨g, 0, none⟩) LL.length cap := by
        rcases hu.2 with ⟨_, h0⟩ | ⟨g, cap, cur, h, _⟩
        · omega
        · exact ⟨g, cap, h⟩
      obtain ⟨g, cap, rfl⟩ := hsl
      obtain ⟨c1, _, _⟩ := cells3_of_row hu at'.toNat (by omega)
      rw [hLg, Nat.zero_add] at c1
      rw [hLl]
      have hat1 : at' < (n : Int) + 1 := by omega
      clear hu hb3 hLl hLg
      go_wp2_with fail
      refine (unhide CC _).mono ?_
      rintro e w4 ⟨rfl, hb4⟩
      go_wp2
      go_ret
      exact ⟨rfl, cellB2 (unhide B3) hb4⟩

theorem stackFull_walk (n at' : Int) (w : World) :
    Calls Try.prog 6 #[.int .i64 n, .int .i64 at'] w fun e w' => e = .returned (.bool true) ∧ Below w.heap.size w w' := by
  by_cases h : n < 0 ∨ 250 < n
  · exact full_small n at' w h
  · obtain ⟨k, rfl⟩ : ∃ k : Nat, n = (k : Int) := ⟨n.toNat, by omega⟩
    by_cases hq : 200 < k
    · by_cases ha : at' < 0 ∨ ((200 : Nat) : Int) < at'
      · exact full_argb k at' w (by omega) hq ha
      · exact full_b k at' w (by omega) hq (by omega) (by omega)
    by_cases hq2 : k = 200
    · by_cases ha : at' < 0 ∨ ((200 : Nat) : Int) < at'
      · exact full_arge k at' w (by omega) hq2 ha
      · exact full_e k at' w (by omega) hq2 (by omega) (by omega)
    · by_cases ha : at' < 0 ∨ (k : Int) < at'
      · exact full_argn k at' w (by omega) (by omega) ha
      · exact full_n k at' w (by omega) (by omega) (by omega) (by omega)
end Go.Proofs.Ytimkijmjbphhlaa
