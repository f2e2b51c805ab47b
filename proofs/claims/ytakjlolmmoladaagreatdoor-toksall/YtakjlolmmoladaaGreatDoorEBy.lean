/-
  What 'refs.bytesOf' and 'refs.nameAt' do: the longest reference by a name with which a text begins.
-/
import Derived.Test.YtakjlolmmoladaaGreatDoorESm
namespace Go.Proofs.YtakjlolmmoladaaGreatDoor
open Go.RowKit
set_option linter.unusedVariables false

def entry (k : Nat) : Value := .agg #[.string (bs (nmName k)), .int .i64 (nmChar k), .bool (nmBare k)]
theorem field_0 (a : ByteArray) (c : Int) (b : Bool) (w : World) : (Instr.field 108 (.agg #[.string a, .int .i64 c, .bool b]) 0).run Tryz.prog w = .ok (.string a) w := by kernel_rfl
theorem field_1 (a : ByteArray) (c : Int) (b : Bool) (w : World) : (Instr.field 108 (.agg #[.string a, .int .i64 c, .bool b]) 1).run Tryz.prog w = .ok (.int .i64 c) w := by kernel_rfl
theorem field_2 (a : ByteArray) (c : Int) (b : Bool) (w : World) : (Instr.field 108 (.agg #[.string a, .int .i64 c, .bool b]) 2).run Tryz.prog w = .ok (.bool b) w := by kernel_rfl

set_option maxHeartbeats 400000 in
theorem bytesOf_any (k : Nat) (s : ByteArray) (v : Bool) (w : World) (hk : k < 28) (hs : 1 ≤ s.size) (hs2 : s.size ≤ 9223372036854775807) :
    Calls Tryz.prog 91 #[entry k, .string s, .bool v] w fun e w' => e = .returned (.int .i64 (candN k (s.data.toList.drop 1) v : Int)) ∧ Below w.heap.size w w' := by
  have hi1 : (1 : Int) ≤ (s.size : Int) := by omega
  have hx := rest_of s 1
  have hm := fun h => cutPrefix_yes (bs (s.data.toList.drop 1)) (bs (nmName k)) (h := h)
  have hn := fun h => cutPrefix_no (bs (s.data.toList.drop 1)) (bs (nmName k)) (h := h)
  rw [bs_toList, bs_toList] at hm hn
  have hlen := (nm_facts k hk).2.1
  rw [← bs_size] at hlen
  have f0 := field_0
  have f1 := field_1
  have f2 := field_2
  unfold candN entry
  rw [← bs_size (nmName k)]
  rw [← bs_size (nmName k)] at hm
  cases hp : (nmName k).isPrefixOf (s.data.toList.drop 1) with
  | false =>
    have C := hide (hn hp)
    rw [if_neg (by decide)]
    rw [← hx] at C
    generalize bs (nmName k) = nm at *
    clear hm hn hp hx
    go_enter Tryz.func91, Tryz.ntmps91
    go_wp2
    go_quiet ((go_at_call 42; exact Calls.quiet_of_same (unhide C _)))
    go_wp2
    go_ret
    exact ⟨rfl, below_drewN ((Below.refl _ _).alloc (Nat.le_refl _) _) _⟩
  | true =>
    have C := hide (hm hp)
    rw [if_pos rfl]
    rw [← hx] at C
    have C2 := hide (semi_any (bs ((s.data.toList.drop 1).drop (bs (nmName k)).size)))
    have C3 := hide (goesOn_any (bs ((s.data.toList.drop 1).drop (bs (nmName k)).size)))
    rw [bs_toList] at C2 C3
    have hsm := semi_le ((s.data.toList.drop 1).drop (bs (nmName k)).size)
    generalize bs ((s.data.toList.drop 1).drop (bs (nmName k)).size) = r at *
    generalize semiN ((s.data.toList.drop 1).drop (bs (nmName k)).size) = sn at *
    generalize onB ((s.data.toList.drop 1).drop (bs (nmName k)).size) = on at *
    generalize bs (nmName k) = nm at *
    generalize nmBare k = br at *
    generalize nmChar k = ch at *
    clear hm hn hp hx
    by_cases h1 : sn = 1
    · subst h1
      rw [if_pos rfl]
      go_enter Tryz.func91, Tryz.ntmps91
      go_wp2
      go_quiet ((go_at_call 42; exact Calls.quiet_of_same (unhide C _)))
      go_wp2_with (go_at_call 90; refine (unhide C2 _).mono ?_; rintro e w1 ⟨rfl, rfl⟩)
      go_ret
      exact ⟨ret1 (congrArg (Value.int .i64) (by omega)), below_drewN ((Below.refl _ _).alloc (Nat.le_refl _) _) _⟩
    · obtain rfl : sn = 0 := by omega
      rw [if_neg (by decide)]
      clear h1 hsm
      cases br with
      | false =>
        rw [if_pos (.inl rfl)]
        go_enter Tryz.func91, Tryz.ntmps91
        go_wp2
        go_quiet ((go_at_call 42; exact Calls.quiet_of_same (unhide C _)))
        go_wp2_with (go_at_call 90; refine (unhide C2 _).mono ?_; rintro e w1 ⟨rfl, rfl⟩)
        go_ret
        exact ⟨rfl, below_drewN ((Below.refl _ _).alloc (Nat.le_refl _) _) _⟩
      | true =>
        cases v with
        | false =>
          rw [if_neg (by simp)]
          go_enter Tryz.func91, Tryz.ntmps91
          go_wp2
          go_quiet ((go_at_call 42; exact Calls.quiet_of_same (unhide C _)))
          go_wp2_with (go_at_call 90; refine (unhide C2 _).mono ?_; rintro e w1 ⟨rfl, rfl⟩)
          go_ret
          exact ⟨ret1 (congrArg (Value.int .i64) (by omega)), below_drewN ((Below.refl _ _).alloc (Nat.le_refl _) _) _⟩
        | true =>
          cases on with
          | true =>
            rw [if_pos (by simp)]
            go_enter Tryz.func91, Tryz.ntmps91
            go_wp2
            go_quiet ((go_at_call 42; exact Calls.quiet_of_same (unhide C _)))
            go_wp2_with (first
              | (go_at_call 90; refine (unhide C2 _).mono ?_; rintro e w1 ⟨rfl, rfl⟩)
              | (go_at_call 99; refine (unhide C3 _).mono ?_; rintro e w2 ⟨rfl, rfl⟩))
            go_ret
            exact ⟨rfl, below_drewN ((Below.refl _ _).alloc (Nat.le_refl _) _) _⟩
          | false =>
            rw [if_neg (by simp)]
            go_enter Tryz.func91, Tryz.ntmps91
            go_wp2
            go_quiet ((go_at_call 42; exact Calls.quiet_of_same (unhide C _)))
            go_wp2_with (first
              | (go_at_call 90; refine (unhide C2 _).mono ?_; rintro e w1 ⟨rfl, rfl⟩)
              | (go_at_call 99; refine (unhide C3 _).mono ?_; rintro e w2 ⟨rfl, rfl⟩))
            go_ret
            exact ⟨ret1 (congrArg (Value.int .i64) (by omega)), below_drewN ((Below.refl _ _).alloc (Nat.le_refl _) _) _⟩

/-- What the first k names give: the character and the bytes of the longest reference so far. -/
def Best (m : List UInt8) (v : Bool) (k : Nat) (c : Int) (n : Nat) : Prop :=
  (n = 0 ∧ c = 0 ∧ ∀ j, j < k → candN j m v = 0) ∨ (0 < n ∧ ∃ i, i < k ∧ candN i m v = n ∧ c = nmChar i ∧ ∀ j, j < k → candN j m v ≤ n)
theorem best_more {m : List UInt8} {v : Bool} {k : Nat} {c : Int} {n : Nat} (h : Best m v k c n) (hn : n < candN k m v) : Best m v (k + 1) (nmChar k) (candN k m v) := by
  refine .inr ⟨by omega, k, by omega, rfl, rfl, fun j hj => ?_⟩
  by_cases e : j = k
  · rw [e]; exact Nat.le_refl _
  · rcases h with ⟨_, _, h⟩ | ⟨_, i, _, _, _, h⟩
    · have := h j (by omega); omega
    · have := h j (by omega); omega
theorem best_same {m : List UInt8} {v : Bool} {k : Nat} {c : Int} {n : Nat} (h : Best m v k c n) (hn : ¬ n < candN k m v) : Best m v (k + 1) c n := by
  rcases h with ⟨h1, h2, h⟩ | ⟨h0, i, h1, h2, h3, h⟩
  · refine .inl ⟨h1, h2, fun j hj => ?_⟩
    by_cases e : j = k
    · rw [e]; omega
    · exact h j (by omega)
  · refine .inr ⟨h0, i, by omega, h2, h3, fun j hj => ?_⟩
    by_cases e : j = k
    · rw [e]; omega
    · exact h j (by omega)
theorem cand_le (k : Nat) (m : List UInt8) (v : Bool) (h : k < 28) : candN k m v ≤ 8 := by
  have := (nm_facts k h).2.1
  unfold candN
  repeat' split
  all_goals omega
theorem best_le {m : List UInt8} {v : Bool} {k : Nat} {c : Int} {n : Nat} (hk : k ≤ 28) (h : Best m v k c n) : n ≤ 8 := by
  rcases h with ⟨h1, _⟩ | ⟨_, i, h1, h2, _⟩
  · omega
  · have := cand_le i m v (by omega); omega

def bestF (m : List UInt8) (v : Bool) : Nat → Int × Nat
  | 0 => (0, 0)
  | k + 1 => if (bestF m v k).2 < candN k m v then (nmChar k, candN k m v) else bestF m v k
/-- The longest reference by the first k names, and that it is the longest. -/
def BF (m : List UInt8) (v : Bool) (k : Nat) (c : Int) (n : Nat) : Prop := Best m v k c n ∧ bestF m v k = (c, n)
theorem bf_more {m : List UInt8} {v : Bool} {k : Nat} {c : Int} {n : Nat} (h : BF m v k c n) (hn : n < candN k m v) : BF m v (k + 1) (nmChar k) (candN k m v) :=
  ⟨best_more h.1 hn, by rw [bestF, h.2, if_pos hn]⟩
theorem bf_same {m : List UInt8} {v : Bool} {k : Nat} {c : Int} {n : Nat} (h : BF m v k c n) (hn : ¬ n < candN k m v) : BF m v (k + 1) c n :=
  ⟨best_same h.1 hn, by rw [bestF, h.2, if_neg hn]⟩

set_option maxHeartbeats 1000000 in
theorem nameAt_any (s : ByteArray) (v : Bool) (w : World) (ht : NTab w) (hs : 1 ≤ s.size) (hs2 : s.size ≤ 9223372036854775807) :
    Calls Tryz.prog 72 #[.string s, .bool v] w fun e w' => (∃ c n, e = .returned (.tuple #[.int .i64 c, .int .i64 ((n : Nat) : Int)]) ∧ BF (s.data.toList.drop 1) v 28 c n) ∧ Below w.heap.size w w' := by
  have HT := hide ht
  have CB := hide (fun k w hk => bytesOf_any k s v w hk hs hs2)
  unfold entry at CB
  clear ht
  go_enter Tryz.func72, Tryz.ntmps72
  go_wp2
  go_loopw [6, 7, 10] (fun vc vn i wr => ∃ (k : Nat) (c : Int) (n : Nat), k ≤ 28 ∧ vc = .int .i64 c ∧ vn = .int .i64 (n : Int) ∧ i = .int .i64 k ∧ BF (s.data.toList.drop 1) v k c n ∧ Below w.heap.size w wr) (fun _ _ i _ => 28 - (intOf i).toNat)
  case atStart => exact ⟨0, 0, 0, Nat.zero_le _, rfl, rfl, rfl, ⟨.inl ⟨rfl, rfl, fun j hj => by omega⟩, rfl⟩, Below.refl _ _⟩
  case round =>
    obtain ⟨k, c, n, hk, rfl, rfl, rfl, hB, hbw⟩ := hrel
    have HB := hide hB
    have hn8 := best_le hk hB.1
    clear hB
    by_cases hp : k < 28
    · have hpi : (k : Int) < 28 := by omega
      obtain ⟨c1, c2, c3⟩ := unhide HT k hp
      have d1 := cell_later hbw c1
      have d2 := cell_later hbw c2
      have d3 := cell_later hbw c3
      have hc8 := cand_le k (s.data.toList.drop 1) v hp
      have m1 := bf_more (k := k) (unhide HB)
      have m2 := bf_same (k := k) (unhide HB)
      have C := hide (unhide CB k wr hp)
      generalize candN k (s.data.toList.drop 1) v = x at *
      clear c1 c2 c3
      by_cases hx : n < x
      · have hxi : (n : Int) < (x : Int) := by omega
        have M := hide (m1 hx)
        clear m1 m2
        go_wp2_with fail
        refine (unhide C).mono ?_
        rintro e w1 ⟨rfl, hb1⟩
        have d4 := cell_later hb1 d2
        go_wp2
        go_roundw
        case rel => exact ⟨k + 1, nmChar k, x, by omega, rfl, rfl, by go_num, unhide M, by first | exact hbw.trans (hb1.mono hbw.size) | exact below_drewN (hbw.trans (hb1.mono hbw.size)) _⟩
        case measure => simp [intOf]; omega
      · have hxi : ¬ (n : Int) < (x : Int) := by omega
        have M := hide (m2 hx)
        clear m1 m2
        go_wp2_with fail
        refine (unhide C).mono ?_
        rintro e w1 ⟨rfl, hb1⟩
        go_wp2
        go_roundw
        case rel => exact ⟨k + 1, c, n, by omega, rfl, rfl, by go_num, unhide M, by first | exact hbw.trans (hb1.mono hbw.size) | exact below_drewN (hbw.trans (hb1.mono hbw.size)) _⟩
        case measure => simp [intOf]; omega
    · have hpi : ¬ (k : Int) < 28 := by omega
      obtain rfl : k = 28 := by omega
      go_wp2
      go_ret2
      exact ⟨⟨c, n, rfl, by have h := unhide HB; rw [List.drop_one] at h; exact h⟩, hbw⟩
end Go.Proofs.YtakjlolmmoladaaGreatDoor
