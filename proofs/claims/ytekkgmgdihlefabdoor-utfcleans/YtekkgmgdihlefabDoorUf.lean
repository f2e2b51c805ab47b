/-
  What 'utf.First' does: of every text its first character and how many bytes it has, as the plain function says it.
-/
import Derived.Test.YtekkgmgdihlefabDoorUb
namespace Go.Proofs.YtekkgmgdihlefabDoor
open Go.RowKit
set_option linter.unusedVariables false

def tld (b : Nat) : Nat := if 240 ≤ b then 4 else if 224 ≤ b then 3 else if 192 ≤ b then 2 else 1

set_option maxRecDepth 100000 in
theorem told_any (b : Nat) (w : World) (hb : b < 256) (ht : Tabs w) :
    Calls Tryd.prog 23 #[.int .u8 b] w fun e w' => e = .returned (.int .i64 (tld b : Int)) ∧ w' = w := by
  obtain ⟨t1, t2, t3, t4, _⟩ := ht
  by_cases h4 : 240 ≤ b
  · rw [show tld b = 4 from if_pos h4]
    go_enter Tryd.func23, Tryd.ntmps23
    go_wp2
    refine wp_loop_rounds 1 ?_
    rw [rounds_succ]; go_wp2
    go_ret
    exact ⟨rfl, rfl⟩
  have g4 : b < 240 := by omega
  by_cases h3 : 224 ≤ b
  · rw [show tld b = 3 by rw [tld, if_neg (by omega), if_pos h3]]
    clear h4
    go_enter Tryd.func23, Tryd.ntmps23
    go_wp2
    refine wp_loop_rounds 2 ?_
    rw [rounds_succ]; go_wp2
    rw [rounds_succ]; go_wp2
    go_ret
    exact ⟨rfl, rfl⟩
  have g3 : b < 224 := by omega
  by_cases h2 : 192 ≤ b
  · rw [show tld b = 2 by rw [tld, if_neg (by omega), if_neg (by omega), if_pos h2]]
    clear h4 h3
    go_enter Tryd.func23, Tryd.ntmps23
    go_wp2
    refine wp_loop_rounds 3 ?_
    rw [rounds_succ]; go_wp2
    rw [rounds_succ]; go_wp2
    rw [rounds_succ]; go_wp2
    go_ret
    exact ⟨rfl, rfl⟩
  · have g2 : b < 192 := by omega
    rw [show tld b = 1 by rw [tld, if_neg (by omega), if_neg (by omega), if_neg (by omega)]]
    clear h4 h3 h2
    go_enter Tryd.func23, Tryd.ntmps23
    go_wp2
    refine wp_loop_rounds 4 ?_
    rw [rounds_succ]; go_wp2
    rw [rounds_succ]; go_wp2
    rw [rounds_succ]; go_wp2
    rw [rounds_succ]; go_wp2
    go_ret
    exact ⟨rfl, rfl⟩

def ToldIs (b n : Nat) : Prop := ∀ w, Tabs w → Calls Tryd.prog 23 #[.int .u8 b] w fun e w' => e = .returned (.int .i64 n) ∧ w' = w
def CharIs (c : Int) (t : Bool) : Prop := ∀ w, Calls Tryd.prog 21 #[.int .i64 c] w fun e w' => e = .returned (.bool t) ∧ w' = w
def SizeIs (c : Int) (k : Nat) : Prop := ∀ w, Tabs w → Calls Tryd.prog 22 #[.int .i64 c] w fun e w' => e = .returned (.int .i64 k) ∧ w' = w

theorem first_empty (s : ByteArray) (w : World) (h : s.size = 0) :
    Calls Tryd.prog 11 #[.string s] w fun e w' => e = .returned (.tuple #[.int .i64 0, .int .i64 0]) ∧ Below w.heap.size w w' := by
  have he := is_empty s h
  go_enter Tryd.func11, Tryd.ntmps11
  go_wp2
  go_ret2
  exact ⟨rfl, Below.refl _ _⟩

/-- The answer where no character begins. -/
def bad : Value := .tuple #[.int .i64 65533, .int .i64 1]

set_option maxHeartbeats 400000 in
set_option maxRecDepth 100000 in
theorem first_1_none (s : ByteArray) (b0 : Nat) (w : World) (ht : Tabs w) (hs : s.size ≤ 9223372036854775807) (hn : 1 ≤ s.size) (C : ToldIs b0 1)
    (e0 : (s[0]'(by omega)).toNat = b0) (u0 : b0 < 192)  (CC : CharIs (b0 : Int) false) :
    Calls Tryd.prog 11 #[.string s] w fun e w' => e = .returned bad ∧ Below w.heap.size w w' := by
  have he := not_empty s (by omega)
  have z0 : (0 : Int) < (s.size : Int) := by omega
  have zn : (1 : Int) ≤ (s.size : Int) := by omega
  have HT := hide ht
  obtain ⟨t1, t2, t3, t4, _⟩ := ht
  go_enter Tryd.func11, Tryd.ntmps11
  go_wp2_with fail
  refine (C _ (unhide HT)).mono ?_
  rintro e w1 ⟨rfl, rfl⟩
  go_wp2
  go_quiet (fail)
  go_wp2
  refine wp_loop_rounds 1 ?_
  rw [rounds_succ]; go_wp2_with fail
  refine (CC _).mono ?_
  rintro e w2 ⟨rfl, rfl⟩
  go_wp2
  go_ret2
  exact ⟨rfl, below_draws _ _⟩

set_option maxHeartbeats 400000 in
set_option maxRecDepth 100000 in
theorem first_1_other (s : ByteArray) (b0 : Nat) (w : World) (ht : Tabs w) (hs : s.size ≤ 9223372036854775807) (hn : 1 ≤ s.size) (C : ToldIs b0 1)
    (e0 : (s[0]'(by omega)).toNat = b0) (u0 : b0 < 192)  (CC : CharIs (b0 : Int) true) (k : Nat) (CS : SizeIs (b0 : Int) k) (hk : ((k : Int) != 1) = true) :
    Calls Tryd.prog 11 #[.string s] w fun e w' => e = .returned bad ∧ Below w.heap.size w w' := by
  have he := not_empty s (by omega)
  have z0 : (0 : Int) < (s.size : Int) := by omega
  have zn : (1 : Int) ≤ (s.size : Int) := by omega
  have HT := hide ht
  obtain ⟨t1, t2, t3, t4, _⟩ := ht
  go_enter Tryd.func11, Tryd.ntmps11
  go_wp2_with fail
  refine (C _ (unhide HT)).mono ?_
  rintro e w1 ⟨rfl, rfl⟩
  go_wp2
  go_quiet (fail)
  go_wp2
  refine wp_loop_rounds 1 ?_
  rw [rounds_succ]; go_wp2_with fail
  refine (CC _).mono ?_
  rintro e w2 ⟨rfl, rfl⟩
  go_wp2_with fail
  refine (CS _ ((unhide HT).below (below_draws _ _))).mono ?_
  rintro e w2 ⟨rfl, rfl⟩
  go_wp2
  go_ret2
  exact ⟨rfl, below_draws _ _⟩

set_option maxHeartbeats 400000 in
set_option maxRecDepth 100000 in
theorem first_1_ok (s : ByteArray) (b0 : Nat) (w : World) (ht : Tabs w) (hs : s.size ≤ 9223372036854775807) (hn : 1 ≤ s.size) (C : ToldIs b0 1)
    (e0 : (s[0]'(by omega)).toNat = b0) (u0 : b0 < 192)  (CC : CharIs (b0 : Int) true) (CS : SizeIs (b0 : Int) 1) :
    Calls Tryd.prog 11 #[.string s] w fun e w' => e = .returned (.tuple #[.int .i64 (b0 : Int), .int .i64 1]) ∧ Below w.heap.size w w' := by
  have he := not_empty s (by omega)
  have z0 : (0 : Int) < (s.size : Int) := by omega
  have zn : (1 : Int) ≤ (s.size : Int) := by omega
  have HT := hide ht
  obtain ⟨t1, t2, t3, t4, _⟩ := ht
  go_enter Tryd.func11, Tryd.ntmps11
  go_wp2_with fail
  refine (C _ (unhide HT)).mono ?_
  rintro e w1 ⟨rfl, rfl⟩
  go_wp2
  go_quiet (fail)
  go_wp2
  refine wp_loop_rounds 1 ?_
  rw [rounds_succ]; go_wp2_with fail
  refine (CC _).mono ?_
  rintro e w2 ⟨rfl, rfl⟩
  go_wp2_with fail
  refine (CS _ ((unhide HT).below (below_draws _ _))).mono ?_
  rintro e w2 ⟨rfl, rfl⟩
  go_wp2
  go_ret2
  exact ⟨rfl, below_draws _ _⟩

set_option maxHeartbeats 400000 in
set_option maxRecDepth 100000 in
theorem first_2_short (s : ByteArray) (b0 : Nat) (w : World) (ht : Tabs w) (hs : s.size ≤ 9223372036854775807) (hn : 1 ≤ s.size) (hx : s.size < 2) (C : ToldIs b0 2)
    (e0 : (s[0]'(by omega)).toNat = b0) (l0 : 192 ≤ b0) (u0 : b0 < 224)  :
    Calls Tryd.prog 11 #[.string s] w fun e w' => e = .returned bad ∧ Below w.heap.size w w' := by
  have he := not_empty s (by omega)
  have z0 : (0 : Int) < (s.size : Int) := by omega
  have zn : (s.size : Int) < 2 := by omega
  have HT := hide ht
  obtain ⟨t1, t2, t3, t4, _⟩ := ht
  go_enter Tryd.func11, Tryd.ntmps11
  go_wp2_with fail
  refine (C _ (unhide HT)).mono ?_
  rintro e w1 ⟨rfl, rfl⟩
  go_wp2
  go_ret2
  exact ⟨rfl, Below.refl _ _⟩

set_option maxHeartbeats 400000 in
set_option maxRecDepth 100000 in
theorem first_2_low1 (s : ByteArray) (b0 b1 : Nat) (w : World) (ht : Tabs w) (hs : s.size ≤ 9223372036854775807) (hn : 2 ≤ s.size) (C : ToldIs b0 2)
    (e0 : (s[0]'(by omega)).toNat = b0) (e1 : (s[1]'(by omega)).toNat = b1) (l0 : 192 ≤ b0) (u0 : b0 < 224)  (u1 : b1 < 128) :
    Calls Tryd.prog 11 #[.string s] w fun e w' => e = .returned bad ∧ Below w.heap.size w w' := by
  have he := not_empty s (by omega)
  have z0 : (0 : Int) < (s.size : Int) := by omega
  have z1 : (1 : Int) < (s.size : Int) := by omega
  have zn : (2 : Int) ≤ (s.size : Int) := by omega
  have HT := hide ht
  obtain ⟨t1, t2, t3, t4, _⟩ := ht
  go_enter Tryd.func11, Tryd.ntmps11
  go_wp2_with fail
  refine (C _ (unhide HT)).mono ?_
  rintro e w1 ⟨rfl, rfl⟩
  go_wp2
  go_quiet (fail)
  go_wp2
  refine wp_loop_rounds 2 ?_
  rw [rounds_succ]; go_wp2
  go_ret2
  exact ⟨rfl, below_draws _ _⟩

set_option maxHeartbeats 400000 in
set_option maxRecDepth 100000 in
theorem first_2_high1 (s : ByteArray) (b0 b1 : Nat) (w : World) (ht : Tabs w) (hs : s.size ≤ 9223372036854775807) (hn : 2 ≤ s.size) (C : ToldIs b0 2)
    (e0 : (s[0]'(by omega)).toNat = b0) (e1 : (s[1]'(by omega)).toNat = b1) (l0 : 192 ≤ b0) (u0 : b0 < 224)  (l1 : 192 ≤ b1) (u1 : b1 < 256) :
    Calls Tryd.prog 11 #[.string s] w fun e w' => e = .returned bad ∧ Below w.heap.size w w' := by
  have he := not_empty s (by omega)
  have z0 : (0 : Int) < (s.size : Int) := by omega
  have z1 : (1 : Int) < (s.size : Int) := by omega
  have zn : (2 : Int) ≤ (s.size : Int) := by omega
  have HT := hide ht
  obtain ⟨t1, t2, t3, t4, _⟩ := ht
  go_enter Tryd.func11, Tryd.ntmps11
  go_wp2_with fail
  refine (C _ (unhide HT)).mono ?_
  rintro e w1 ⟨rfl, rfl⟩
  go_wp2
  go_quiet (fail)
  go_wp2
  refine wp_loop_rounds 2 ?_
  rw [rounds_succ]; go_wp2
  go_ret2
  exact ⟨rfl, below_draws _ _⟩

set_option maxHeartbeats 400000 in
set_option maxRecDepth 100000 in
theorem first_2_none (s : ByteArray) (b0 b1 : Nat) (w : World) (ht : Tabs w) (hs : s.size ≤ 9223372036854775807) (hn : 2 ≤ s.size) (C : ToldIs b0 2)
    (e0 : (s[0]'(by omega)).toNat = b0) (e1 : (s[1]'(by omega)).toNat = b1) (l0 : 192 ≤ b0) (u0 : b0 < 224) (l1 : 128 ≤ b1) (u1 : b1 < 192) (CC : CharIs (((b0 : Int) - 192) * 64 + ((b1 : Int) - 128)) false) :
    Calls Tryd.prog 11 #[.string s] w fun e w' => e = .returned bad ∧ Below w.heap.size w w' := by
  have he := not_empty s (by omega)
  have z0 : (0 : Int) < (s.size : Int) := by omega
  have z1 : (1 : Int) < (s.size : Int) := by omega
  have zn : (2 : Int) ≤ (s.size : Int) := by omega
  have HT := hide ht
  obtain ⟨t1, t2, t3, t4, _⟩ := ht
  go_enter Tryd.func11, Tryd.ntmps11
  go_wp2_with fail
  refine (C _ (unhide HT)).mono ?_
  rintro e w1 ⟨rfl, rfl⟩
  go_wp2
  go_quiet (fail)
  go_wp2
  refine wp_loop_rounds 2 ?_
  rw [rounds_succ]; go_wp2
  rw [rounds_succ]; go_wp2_with fail
  refine (CC _).mono ?_
  rintro e w2 ⟨rfl, rfl⟩
  go_wp2
  go_ret2
  exact ⟨rfl, below_draws _ _⟩

set_option maxHeartbeats 400000 in
set_option maxRecDepth 100000 in
theorem first_2_other (s : ByteArray) (b0 b1 : Nat) (w : World) (ht : Tabs w) (hs : s.size ≤ 9223372036854775807) (hn : 2 ≤ s.size) (C : ToldIs b0 2)
    (e0 : (s[0]'(by omega)).toNat = b0) (e1 : (s[1]'(by omega)).toNat = b1) (l0 : 192 ≤ b0) (u0 : b0 < 224) (l1 : 128 ≤ b1) (u1 : b1 < 192) (CC : CharIs (((b0 : Int) - 192) * 64 + ((b1 : Int) - 128)) true) (k : Nat) (CS : SizeIs (((b0 : Int) - 192) * 64 + ((b1 : Int) - 128)) k) (hk : ((k : Int) != 2) = true) :
    Calls Tryd.prog 11 #[.string s] w fun e w' => e = .returned bad ∧ Below w.heap.size w w' := by
  have he := not_empty s (by omega)
  have z0 : (0 : Int) < (s.size : Int) := by omega
  have z1 : (1 : Int) < (s.size : Int) := by omega
  have zn : (2 : Int) ≤ (s.size : Int) := by omega
  have HT := hide ht
  obtain ⟨t1, t2, t3, t4, _⟩ := ht
  go_enter Tryd.func11, Tryd.ntmps11
  go_wp2_with fail
  refine (C _ (unhide HT)).mono ?_
  rintro e w1 ⟨rfl, rfl⟩
  go_wp2
  go_quiet (fail)
  go_wp2
  refine wp_loop_rounds 2 ?_
  rw [rounds_succ]; go_wp2
  rw [rounds_succ]; go_wp2_with fail
  refine (CC _).mono ?_
  rintro e w2 ⟨rfl, rfl⟩
  go_wp2_with fail
  refine (CS _ ((unhide HT).below (below_draws _ _))).mono ?_
  rintro e w2 ⟨rfl, rfl⟩
  go_wp2
  go_ret2
  exact ⟨rfl, below_draws _ _⟩

set_option maxHeartbeats 400000 in
set_option maxRecDepth 100000 in
theorem first_2_ok (s : ByteArray) (b0 b1 : Nat) (w : World) (ht : Tabs w) (hs : s.size ≤ 9223372036854775807) (hn : 2 ≤ s.size) (C : ToldIs b0 2)
    (e0 : (s[0]'(by omega)).toNat = b0) (e1 : (s[1]'(by omega)).toNat = b1) (l0 : 192 ≤ b0) (u0 : b0 < 224) (l1 : 128 ≤ b1) (u1 : b1 < 192) (CC : CharIs (((b0 : Int) - 192) * 64 + ((b1 : Int) - 128)) true) (CS : SizeIs (((b0 : Int) - 192) * 64 + ((b1 : Int) - 128)) 2) :
    Calls Tryd.prog 11 #[.string s] w fun e w' => e = .returned (.tuple #[.int .i64 (((b0 : Int) - 192) * 64 + ((b1 : Int) - 128)), .int .i64 2]) ∧ Below w.heap.size w w' := by
  have he := not_empty s (by omega)
  have z0 : (0 : Int) < (s.size : Int) := by omega
  have z1 : (1 : Int) < (s.size : Int) := by omega
  have zn : (2 : Int) ≤ (s.size : Int) := by omega
  have HT := hide ht
  obtain ⟨t1, t2, t3, t4, _⟩ := ht
  go_enter Tryd.func11, Tryd.ntmps11
  go_wp2_with fail
  refine (C _ (unhide HT)).mono ?_
  rintro e w1 ⟨rfl, rfl⟩
  go_wp2
  go_quiet (fail)
  go_wp2
  refine wp_loop_rounds 2 ?_
  rw [rounds_succ]; go_wp2
  rw [rounds_succ]; go_wp2_with fail
  refine (CC _).mono ?_
  rintro e w2 ⟨rfl, rfl⟩
  go_wp2_with fail
  refine (CS _ ((unhide HT).below (below_draws _ _))).mono ?_
  rintro e w2 ⟨rfl, rfl⟩
  go_wp2
  go_ret2
  exact ⟨rfl, below_draws _ _⟩

set_option maxHeartbeats 400000 in
set_option maxRecDepth 100000 in
theorem first_3_short (s : ByteArray) (b0 : Nat) (w : World) (ht : Tabs w) (hs : s.size ≤ 9223372036854775807) (hn : 1 ≤ s.size) (hx : s.size < 3) (C : ToldIs b0 3)
    (e0 : (s[0]'(by omega)).toNat = b0) (l0 : 224 ≤ b0) (u0 : b0 < 240)  :
    Calls Tryd.prog 11 #[.string s] w fun e w' => e = .returned bad ∧ Below w.heap.size w w' := by
  have he := not_empty s (by omega)
  have z0 : (0 : Int) < (s.size : Int) := by omega
  have zn : (s.size : Int) < 3 := by omega
  have HT := hide ht
  obtain ⟨t1, t2, t3, t4, _⟩ := ht
  go_enter Tryd.func11, Tryd.ntmps11
  go_wp2_with fail
  refine (C _ (unhide HT)).mono ?_
  rintro e w1 ⟨rfl, rfl⟩
  go_wp2
  go_ret2
  exact ⟨rfl, Below.refl _ _⟩

set_option maxHeartbeats 400000 in
set_option maxRecDepth 100000 in
theorem first_3_low1 (s : ByteArray) (b0 b1 : Nat) (w : World) (ht : Tabs w) (hs : s.size ≤ 9223372036854775807) (hn : 3 ≤ s.size) (C : ToldIs b0 3)
    (e0 : (s[0]'(by omega)).toNat = b0) (e1 : (s[1]'(by omega)).toNat = b1) (l0 : 224 ≤ b0) (u0 : b0 < 240)  (u1 : b1 < 128) :
    Calls Tryd.prog 11 #[.string s] w fun e w' => e = .returned bad ∧ Below w.heap.size w w' := by
  have he := not_empty s (by omega)
  have z0 : (0 : Int) < (s.size : Int) := by omega
  have z1 : (1 : Int) < (s.size : Int) := by omega
  have zn : (3 : Int) ≤ (s.size : Int) := by omega
  have HT := hide ht
  obtain ⟨t1, t2, t3, t4, _⟩ := ht
  go_enter Tryd.func11, Tryd.ntmps11
  go_wp2_with fail
  refine (C _ (unhide HT)).mono ?_
  rintro e w1 ⟨rfl, rfl⟩
  go_wp2
  go_quiet (fail)
  go_wp2
  refine wp_loop_rounds 3 ?_
  rw [rounds_succ]; go_wp2
  go_ret2
  exact ⟨rfl, below_draws _ _⟩

set_option maxHeartbeats 400000 in
set_option maxRecDepth 100000 in
theorem first_3_high1 (s : ByteArray) (b0 b1 : Nat) (w : World) (ht : Tabs w) (hs : s.size ≤ 9223372036854775807) (hn : 3 ≤ s.size) (C : ToldIs b0 3)
    (e0 : (s[0]'(by omega)).toNat = b0) (e1 : (s[1]'(by omega)).toNat = b1) (l0 : 224 ≤ b0) (u0 : b0 < 240)  (l1 : 192 ≤ b1) (u1 : b1 < 256) :
    Calls Tryd.prog 11 #[.string s] w fun e w' => e = .returned bad ∧ Below w.heap.size w w' := by
  have he := not_empty s (by omega)
  have z0 : (0 : Int) < (s.size : Int) := by omega
  have z1 : (1 : Int) < (s.size : Int) := by omega
  have zn : (3 : Int) ≤ (s.size : Int) := by omega
  have HT := hide ht
  obtain ⟨t1, t2, t3, t4, _⟩ := ht
  go_enter Tryd.func11, Tryd.ntmps11
  go_wp2_with fail
  refine (C _ (unhide HT)).mono ?_
  rintro e w1 ⟨rfl, rfl⟩
  go_wp2
  go_quiet (fail)
  go_wp2
  refine wp_loop_rounds 3 ?_
  rw [rounds_succ]; go_wp2
  go_ret2
  exact ⟨rfl, below_draws _ _⟩

set_option maxHeartbeats 400000 in
set_option maxRecDepth 100000 in
theorem first_3_low2 (s : ByteArray) (b0 b1 b2 : Nat) (w : World) (ht : Tabs w) (hs : s.size ≤ 9223372036854775807) (hn : 3 ≤ s.size) (C : ToldIs b0 3)
    (e0 : (s[0]'(by omega)).toNat = b0) (e1 : (s[1]'(by omega)).toNat = b1) (e2 : (s[2]'(by omega)).toNat = b2) (l0 : 224 ≤ b0) (u0 : b0 < 240) (l1 : 128 ≤ b1) (u1 : b1 < 192) (u2 : b2 < 128) :
    Calls Tryd.prog 11 #[.string s] w fun e w' => e = .returned bad ∧ Below w.heap.size w w' := by
  have he := not_empty s (by omega)
  have z0 : (0 : Int) < (s.size : Int) := by omega
  have z1 : (1 : Int) < (s.size : Int) := by omega
  have z2 : (2 : Int) < (s.size : Int) := by omega
  have zn : (3 : Int) ≤ (s.size : Int) := by omega
  have HT := hide ht
  obtain ⟨t1, t2, t3, t4, _⟩ := ht
  go_enter Tryd.func11, Tryd.ntmps11
  go_wp2_with fail
  refine (C _ (unhide HT)).mono ?_
  rintro e w1 ⟨rfl, rfl⟩
  go_wp2
  go_quiet (fail)
  go_wp2
  refine wp_loop_rounds 3 ?_
  rw [rounds_succ]; go_wp2
  rw [rounds_succ]; go_wp2
  go_ret2
  exact ⟨rfl, below_draws _ _⟩

set_option maxHeartbeats 400000 in
set_option maxRecDepth 100000 in
theorem first_3_high2 (s : ByteArray) (b0 b1 b2 : Nat) (w : World) (ht : Tabs w) (hs : s.size ≤ 9223372036854775807) (hn : 3 ≤ s.size) (C : ToldIs b0 3)
    (e0 : (s[0]'(by omega)).toNat = b0) (e1 : (s[1]'(by omega)).toNat = b1) (e2 : (s[2]'(by omega)).toNat = b2) (l0 : 224 ≤ b0) (u0 : b0 < 240) (l1 : 128 ≤ b1) (u1 : b1 < 192) (l2 : 192 ≤ b2) (u2 : b2 < 256) :
    Calls Tryd.prog 11 #[.string s] w fun e w' => e = .returned bad ∧ Below w.heap.size w w' := by
  have he := not_empty s (by omega)
  have z0 : (0 : Int) < (s.size : Int) := by omega
  have z1 : (1 : Int) < (s.size : Int) := by omega
  have z2 : (2 : Int) < (s.size : Int) := by omega
  have zn : (3 : Int) ≤ (s.size : Int) := by omega
  have HT := hide ht
  obtain ⟨t1, t2, t3, t4, _⟩ := ht
  go_enter Tryd.func11, Tryd.ntmps11
  go_wp2_with fail
  refine (C _ (unhide HT)).mono ?_
  rintro e w1 ⟨rfl, rfl⟩
  go_wp2
  go_quiet (fail)
  go_wp2
  refine wp_loop_rounds 3 ?_
  rw [rounds_succ]; go_wp2
  rw [rounds_succ]; go_wp2
  go_ret2
  exact ⟨rfl, below_draws _ _⟩

set_option maxHeartbeats 400000 in
set_option maxRecDepth 100000 in
theorem first_3_none (s : ByteArray) (b0 b1 b2 : Nat) (w : World) (ht : Tabs w) (hs : s.size ≤ 9223372036854775807) (hn : 3 ≤ s.size) (C : ToldIs b0 3)
    (e0 : (s[0]'(by omega)).toNat = b0) (e1 : (s[1]'(by omega)).toNat = b1) (e2 : (s[2]'(by omega)).toNat = b2) (l0 : 224 ≤ b0) (u0 : b0 < 240) (l1 : 128 ≤ b1) (u1 : b1 < 192) (l2 : 128 ≤ b2) (u2 : b2 < 192) (CC : CharIs ((((b0 : Int) - 224) * 64 + ((b1 : Int) - 128)) * 64 + ((b2 : Int) - 128)) false) :
    Calls Tryd.prog 11 #[.string s] w fun e w' => e = .returned bad ∧ Below w.heap.size w w' := by
  have he := not_empty s (by omega)
  have z0 : (0 : Int) < (s.size : Int) := by omega
  have z1 : (1 : Int) < (s.size : Int) := by omega
  have z2 : (2 : Int) < (s.size : Int) := by omega
  have zn : (3 : Int) ≤ (s.size : Int) := by omega
  have HT := hide ht
  obtain ⟨t1, t2, t3, t4, _⟩ := ht
  go_enter Tryd.func11, Tryd.ntmps11
  go_wp2_with fail
  refine (C _ (unhide HT)).mono ?_
  rintro e w1 ⟨rfl, rfl⟩
  go_wp2
  go_quiet (fail)
  go_wp2
  refine wp_loop_rounds 3 ?_
  rw [rounds_succ]; go_wp2
  rw [rounds_succ]; go_wp2
  rw [rounds_succ]; go_wp2_with fail
  refine (CC _).mono ?_
  rintro e w2 ⟨rfl, rfl⟩
  go_wp2
  go_ret2
  exact ⟨rfl, below_draws _ _⟩

set_option maxHeartbeats 400000 in
set_option maxRecDepth 100000 in
theorem first_3_other (s : ByteArray) (b0 b1 b2 : Nat) (w : World) (ht : Tabs w) (hs : s.size ≤ 9223372036854775807) (hn : 3 ≤ s.size) (C : ToldIs b0 3)
    (e0 : (s[0]'(by omega)).toNat = b0) (e1 : (s[1]'(by omega)).toNat = b1) (e2 : (s[2]'(by omega)).toNat = b2) (l0 : 224 ≤ b0) (u0 : b0 < 240) (l1 : 128 ≤ b1) (u1 : b1 < 192) (l2 : 128 ≤ b2) (u2 : b2 < 192) (CC : CharIs ((((b0 : Int) - 224) * 64 + ((b1 : Int) - 128)) * 64 + ((b2 : Int) - 128)) true) (k : Nat) (CS : SizeIs ((((b0 : Int) - 224) * 64 + ((b1 : Int) - 128)) * 64 + ((b2 : Int) - 128)) k) (hk : ((k : Int) != 3) = true) :
    Calls Tryd.prog 11 #[.string s] w fun e w' => e = .returned bad ∧ Below w.heap.size w w' := by
  have he := not_empty s (by omega)
  have z0 : (0 : Int) < (s.size : Int) := by omega
  have z1 : (1 : Int) < (s.size : Int) := by omega
  have z2 : (2 : Int) < (s.size : Int) := by omega
  have zn : (3 : Int) ≤ (s.size : Int) := by omega
  have HT := hide ht
  obtain ⟨t1, t2, t3, t4, _⟩ := ht
  go_enter Tryd.func11, Tryd.ntmps11
  go_wp2_with fail
  refine (C _ (unhide HT)).mono ?_
  rintro e w1 ⟨rfl, rfl⟩
  go_wp2
  go_quiet (fail)
  go_wp2
  refine wp_loop_rounds 3 ?_
  rw [rounds_succ]; go_wp2
  rw [rounds_succ]; go_wp2
  rw [rounds_succ]; go_wp2_with fail
  refine (CC _).mono ?_
  rintro e w2 ⟨rfl, rfl⟩
  go_wp2_with fail
  refine (CS _ ((unhide HT).below (below_draws _ _))).mono ?_
  rintro e w2 ⟨rfl, rfl⟩
  go_wp2
  go_ret2
  exact ⟨rfl, below_draws _ _⟩

set_option maxHeartbeats 400000 in
set_option maxRecDepth 100000 in
theorem first_3_ok (s : ByteArray) (b0 b1 b2 : Nat) (w : World) (ht : Tabs w) (hs : s.size ≤ 9223372036854775807) (hn : 3 ≤ s.size) (C : ToldIs b0 3)
    (e0 : (s[0]'(by omega)).toNat = b0) (e1 : (s[1]'(by omega)).toNat = b1) (e2 : (s[2]'(by omega)).toNat = b2) (l0 : 224 ≤ b0) (u0 : b0 < 240) (l1 : 128 ≤ b1) (u1 : b1 < 192) (l2 : 128 ≤ b2) (u2 : b2 < 192) (CC : CharIs ((((b0 : Int) - 224) * 64 + ((b1 : Int) - 128)) * 64 + ((b2 : Int) - 128)) true) (CS : SizeIs ((((b0 : Int) - 224) * 64 + ((b1 : Int) - 128)) * 64 + ((b2 : Int) - 128)) 3) :
    Calls Tryd.prog 11 #[.string s] w fun e w' => e = .returned (.tuple #[.int .i64 ((((b0 : Int) - 224) * 64 + ((b1 : Int) - 128)) * 64 + ((b2 : Int) - 128)), .int .i64 3]) ∧ Below w.heap.size w w' := by
  have he := not_empty s (by omega)
  have z0 : (0 : Int) < (s.size : Int) := by omega
  have z1 : (1 : Int) < (s.size : Int) := by omega
  have z2 : (2 : Int) < (s.size : Int) := by omega
  have zn : (3 : Int) ≤ (s.size : Int) := by omega
  have HT := hide ht
  obtain ⟨t1, t2, t3, t4, _⟩ := ht
  go_enter Tryd.func11, Tryd.ntmps11
  go_wp2_with fail
  refine (C _ (unhide HT)).mono ?_
  rintro e w1 ⟨rfl, rfl⟩
  go_wp2
  go_quiet (fail)
  go_wp2
  refine wp_loop_rounds 3 ?_
  rw [rounds_succ]; go_wp2
  rw [rounds_succ]; go_wp2
  rw [rounds_succ]; go_wp2_with fail
  refine (CC _).mono ?_
  rintro e w2 ⟨rfl, rfl⟩
  go_wp2_with fail
  refine (CS _ ((unhide HT).below (below_draws _ _))).mono ?_
  rintro e w2 ⟨rfl, rfl⟩
  go_wp2
  go_ret2
  exact ⟨rfl, below_draws _ _⟩

set_option maxHeartbeats 400000 in
set_option maxRecDepth 100000 in
theorem first_4_short (s : ByteArray) (b0 : Nat) (w : World) (ht : Tabs w) (hs : s.size ≤ 9223372036854775807) (hn : 1 ≤ s.size) (hx : s.size < 4) (C : ToldIs b0 4)
    (e0 : (s[0]'(by omega)).toNat = b0) (l0 : 240 ≤ b0) (u0 : b0 < 256)  :
    Calls Tryd.prog 11 #[.string s] w fun e w' => e = .returned bad ∧ Below w.heap.size w w' := by
  have he := not_empty s (by omega)
  have z0 : (0 : Int) < (s.size : Int) := by omega
  have zn : (s.size : Int) < 4 := by omega
  have HT := hide ht
  obtain ⟨t1, t2, t3, t4, _⟩ := ht
  go_enter Tryd.func11, Tryd.ntmps11
  go_wp2_with fail
  refine (C _ (unhide HT)).mono ?_
  rintro e w1 ⟨rfl, rfl⟩
  go_wp2
  go_ret2
  exact ⟨rfl, Below.refl _ _⟩

set_option maxHeartbeats 400000 in
set_option maxRecDepth 100000 in
theorem first_4_low1 (s : ByteArray) (b0 b1 : Nat) (w : World) (ht : Tabs w) (hs : s.size ≤ 9223372036854775807) (hn : 4 ≤ s.size) (C : ToldIs b0 4)
    (e0 : (s[0]'(by omega)).toNat = b0) (e1 : (s[1]'(by omega)).toNat = b1) (l0 : 240 ≤ b0) (u0 : b0 < 256)  (u1 : b1 < 128) :
    Calls Tryd.prog 11 #[.string s] w fun e w' => e = .returned bad ∧ Below w.heap.size w w' := by
  have he := not_empty s (by omega)
  have z0 : (0 : Int) < (s.size : Int) := by omega
  have z1 : (1 : Int) < (s.size : Int) := by omega
  have zn : (4 : Int) ≤ (s.size : Int) := by omega
  have HT := hide ht
  obtain ⟨t1, t2, t3, t4, _⟩ := ht
  go_enter Tryd.func11, Tryd.ntmps11
  go_wp2_with fail
  refine (C _ (unhide HT)).mono ?_
  rintro e w1 ⟨rfl, rfl⟩
  go_wp2
  go_quiet (fail)
  go_wp2
  refine wp_loop_rounds 4 ?_
  rw [rounds_succ]; go_wp2
  go_ret2
  exact ⟨rfl, below_draws _ _⟩

set_option maxHeartbeats 400000 in
set_option maxRecDepth 100000 in
theorem first_4_high1 (s : ByteArray) (b0 b1 : Nat) (w : World) (ht : Tabs w) (hs : s.size ≤ 9223372036854775807) (hn : 4 ≤ s.size) (C : ToldIs b0 4)
    (e0 : (s[0]'(by omega)).toNat = b0) (e1 : (s[1]'(by omega)).toNat = b1) (l0 : 240 ≤ b0) (u0 : b0 < 256)  (l1 : 192 ≤ b1) (u1 : b1 < 256) :
    Calls Tryd.prog 11 #[.string s] w fun e w' => e = .returned bad ∧ Below w.heap.size w w' := by
  have he := not_empty s (by omega)
  have z0 : (0 : Int) < (s.size : Int) := by omega
  have z1 : (1 : Int) < (s.size : Int) := by omega
  have zn : (4 : Int) ≤ (s.size : Int) := by omega
  have HT := hide ht
  obtain ⟨t1, t2, t3, t4, _⟩ := ht
  go_enter Tryd.func11, Tryd.ntmps11
  go_wp2_with fail
  refine (C _ (unhide HT)).mono ?_
  rintro e w1 ⟨rfl, rfl⟩
  go_wp2
  go_quiet (fail)
  go_wp2
  refine wp_loop_rounds 4 ?_
  rw [rounds_succ]; go_wp2
  go_ret2
  exact ⟨rfl, below_draws _ _⟩

set_option maxHeartbeats 400000 in
set_option maxRecDepth 100000 in
theorem first_4_low2 (s : ByteArray) (b0 b1 b2 : Nat) (w : World) (ht : Tabs w) (hs : s.size ≤ 9223372036854775807) (hn : 4 ≤ s.size) (C : ToldIs b0 4)
    (e0 : (s[0]'(by omega)).toNat = b0) (e1 : (s[1]'(by omega)).toNat = b1) (e2 : (s[2]'(by omega)).toNat = b2) (l0 : 240 ≤ b0) (u0 : b0 < 256) (l1 : 128 ≤ b1) (u1 : b1 < 192) (u2 : b2 < 128) :
    Calls Tryd.prog 11 #[.string s] w fun e w' => e = .returned bad ∧ Below w.heap.size w w' := by
  have he := not_empty s (by omega)
  have z0 : (0 : Int) < (s.size : Int) := by omega
  have z1 : (1 : Int) < (s.size : Int) := by omega
  have z2 : (2 : Int) < (s.size : Int) := by omega
  have zn : (4 : Int) ≤ (s.size : Int) := by omega
  have HT := hide ht
  obtain ⟨t1, t2, t3, t4, _⟩ := ht
  go_enter Tryd.func11, Tryd.ntmps11
  go_wp2_with fail
  refine (C _ (unhide HT)).mono ?_
  rintro e w1 ⟨rfl, rfl⟩
  go_wp2
  go_quiet (fail)
  go_wp2
  refine wp_loop_rounds 4 ?_
  rw [rounds_succ]; go_wp2
  rw [rounds_succ]; go_wp2
  go_ret2
  exact ⟨rfl, below_draws _ _⟩

set_option maxHeartbeats 400000 in
set_option maxRecDepth 100000 in
theorem first_4_high2 (s : ByteArray) (b0 b1 b2 : Nat) (w : World) (ht : Tabs w) (hs : s.size ≤ 9223372036854775807) (hn : 4 ≤ s.size) (C : ToldIs b0 4)
    (e0 : (s[0]'(by omega)).toNat = b0) (e1 : (s[1]'(by omega)).toNat = b1) (e2 : (s[2]'(by omega)).toNat = b2) (l0 : 240 ≤ b0) (u0 : b0 < 256) (l1 : 128 ≤ b1) (u1 : b1 < 192) (l2 : 192 ≤ b2) (u2 : b2 < 256) :
    Calls Tryd.prog 11 #[.string s] w fun e w' => e = .returned bad ∧ Below w.heap.size w w' := by
  have he := not_empty s (by omega)
  have z0 : (0 : Int) < (s.size : Int) := by omega
  have z1 : (1 : Int) < (s.size : Int) := by omega
  have z2 : (2 : Int) < (s.size : Int) := by omega
  have zn : (4 : Int) ≤ (s.size : Int) := by omega
  have HT := hide ht
  obtain ⟨t1, t2, t3, t4, _⟩ := ht
  go_enter Tryd.func11, Tryd.ntmps11
  go_wp2_with fail
  refine (C _ (unhide HT)).mono ?_
  rintro e w1 ⟨rfl, rfl⟩
  go_wp2
  go_quiet (fail)
  go_wp2
  refine wp_loop_rounds 4 ?_
  rw [rounds_succ]; go_wp2
  rw [rounds_succ]; go_wp2
  go_ret2
  exact ⟨rfl, below_draws _ _⟩

set_option maxHeartbeats 400000 in
set_option maxRecDepth 100000 in
theorem first_4_low3 (s : ByteArray) (b0 b1 b2 b3 : Nat) (w : World) (ht : Tabs w) (hs : s.size ≤ 9223372036854775807) (hn : 4 ≤ s.size) (C : ToldIs b0 4)
    (e0 : (s[0]'(by omega)).toNat = b0) (e1 : (s[1]'(by omega)).toNat = b1) (e2 : (s[2]'(by omega)).toNat = b2) (e3 : (s[3]'(by omega)).toNat = b3) (l0 : 240 ≤ b0) (u0 : b0 < 256) (l1 : 128 ≤ b1) (u1 : b1 < 192) (l2 : 128 ≤ b2) (u2 : b2 < 192) (u3 : b3 < 128) :
    Calls Tryd.prog 11 #[.string s] w fun e w' => e = .returned bad ∧ Below w.heap.size w w' := by
  have he := not_empty s (by omega)
  have z0 : (0 : Int) < (s.size : Int) := by omega
  have z1 : (1 : Int) < (s.size : Int) := by omega
  have z2 : (2 : Int) < (s.size : Int) := by omega
  have z3 : (3 : Int) < (s.size : Int) := by omega
  have zn : (4 : Int) ≤ (s.size : Int) := by omega
  have HT := hide ht
  obtain ⟨t1, t2, t3, t4, _⟩ := ht
  go_enter Tryd.func11, Tryd.ntmps11
  go_wp2_with fail
  refine (C _ (unhide HT)).mono ?_
  rintro e w1 ⟨rfl, rfl⟩
  go_wp2
  go_quiet (fail)
  go_wp2
  refine wp_loop_rounds 4 ?_
  rw [rounds_succ]; go_wp2
  rw [rounds_succ]; go_wp2
  rw [rounds_succ]; go_wp2
  go_ret2
  exact ⟨rfl, below_draws _ _⟩

set_option maxHeartbeats 400000 in
set_option maxRecDepth 100000 in
theorem first_4_high3 (s : ByteArray) (b0 b1 b2 b3 : Nat) (w : World) (ht : Tabs w) (hs : s.size ≤ 9223372036854775807) (hn : 4 ≤ s.size) (C : ToldIs b0 4)
    (e0 : (s[0]'(by omega)).toNat = b0) (e1 : (s[1]'(by omega)).toNat = b1) (e2 : (s[2]'(by omega)).toNat = b2) (e3 : (s[3]'(by omega)).toNat = b3) (l0 : 240 ≤ b0) (u0 : b0 < 256) (l1 : 128 ≤ b1) (u1 : b1 < 192) (l2 : 128 ≤ b2) (u2 : b2 < 192) (l3 : 192 ≤ b3) (u3 : b3 < 256) :
    Calls Tryd.prog 11 #[.string s] w fun e w' => e = .returned bad ∧ Below w.heap.size w w' := by
  have he := not_empty s (by omega)
  have z0 : (0 : Int) < (s.size : Int) := by omega
  have z1 : (1 : Int) < (s.size : Int) := by omega
  have z2 : (2 : Int) < (s.size : Int) := by omega
  have z3 : (3 : Int) < (s.size : Int) := by omega
  have zn : (4 : Int) ≤ (s.size : Int) := by omega
  have HT := hide ht
  obtain ⟨t1, t2, t3, t4, _⟩ := ht
  go_enter Tryd.func11, Tryd.ntmps11
  go_wp2_with fail
  refine (C _ (unhide HT)).mono ?_
  rintro e w1 ⟨rfl, rfl⟩
  go_wp2
  go_quiet (fail)
  go_wp2
  refine wp_loop_rounds 4 ?_
  rw [rounds_succ]; go_wp2
  rw [rounds_succ]; go_wp2
  rw [rounds_succ]; go_wp2
  go_ret2
  exact ⟨rfl, below_draws _ _⟩

set_option maxHeartbeats 400000 in
set_option maxRecDepth 100000 in
theorem first_4_none (s : ByteArray) (b0 b1 b2 b3 : Nat) (w : World) (ht : Tabs w) (hs : s.size ≤ 9223372036854775807) (hn : 4 ≤ s.size) (C : ToldIs b0 4)
    (e0 : (s[0]'(by omega)).toNat = b0) (e1 : (s[1]'(by omega)).toNat = b1) (e2 : (s[2]'(by omega)).toNat = b2) (e3 : (s[3]'(by omega)).toNat = b3) (l0 : 240 ≤ b0) (u0 : b0 < 256) (l1 : 128 ≤ b1) (u1 : b1 < 192) (l2 : 128 ≤ b2) (u2 : b2 < 192) (l3 : 128 ≤ b3) (u3 : b3 < 192) (CC : CharIs (((((b0 : Int) - 240) * 64 + ((b1 : Int) - 128)) * 64 + ((b2 : Int) - 128)) * 64 + ((b3 : Int) - 128)) false) :
    Calls Tryd.prog 11 #[.string s] w fun e w' => e = .returned bad ∧ Below w.heap.size w w' := by
  have he := not_empty s (by omega)
  have z0 : (0 : Int) < (s.size : Int) := by omega
  have z1 : (1 : Int) < (s.size : Int) := by omega
  have z2 : (2 : Int) < (s.size : Int) := by omega
  have z3 : (3 : Int) < (s.size : Int) := by omega
  have zn : (4 : Int) ≤ (s.size : Int) := by omega
  have HT := hide ht
  obtain ⟨t1, t2, t3, t4, _⟩ := ht
  go_enter Tryd.func11, Tryd.ntmps11
  go_wp2_with fail
  refine (C _ (unhide HT)).mono ?_
  rintro e w1 ⟨rfl, rfl⟩
  go_wp2
  go_quiet (fail)
  go_wp2
  refine wp_loop_rounds 4 ?_
  rw [rounds_succ]; go_wp2
  rw [rounds_succ]; go_wp2
  rw [rounds_succ]; go_wp2
  rw [rounds_succ]; go_wp2_with fail
  refine (CC _).mono ?_
  rintro e w2 ⟨rfl, rfl⟩
  go_wp2
  go_ret2
  exact ⟨rfl, below_draws _ _⟩

set_option maxHeartbeats 400000 in
set_option maxRecDepth 100000 in
theorem first_4_other (s : ByteArray) (b0 b1 b2 b3 : Nat) (w : World) (ht : Tabs w) (hs : s.size ≤ 9223372036854775807) (hn : 4 ≤ s.size) (C : ToldIs b0 4)
    (e0 : (s[0]'(by omega)).toNat = b0) (e1 : (s[1]'(by omega)).toNat = b1) (e2 : (s[2]'(by omega)).toNat = b2) (e3 : (s[3]'(by omega)).toNat = b3) (l0 : 240 ≤ b0) (u0 : b0 < 256) (l1 : 128 ≤ b1) (u1 : b1 < 192) (l2 : 128 ≤ b2) (u2 : b2 < 192) (l3 : 128 ≤ b3) (u3 : b3 < 192) (CC : CharIs (((((b0 : Int) - 240) * 64 + ((b1 : Int) - 128)) * 64 + ((b2 : Int) - 128)) * 64 + ((b3 : Int) - 128)) true) (k : Nat) (CS : SizeIs (((((b0 : Int) - 240) * 64 + ((b1 : Int) - 128)) * 64 + ((b2 : Int) - 128)) * 64 + ((b3 : Int) - 128)) k) (hk : ((k : Int) != 4) = true) :
    Calls Tryd.prog 11 #[.string s] w fun e w' => e = .returned bad ∧ Below w.heap.size w w' := by
  have he := not_empty s (by omega)
  have z0 : (0 : Int) < (s.size : Int) := by omega
  have z1 : (1 : Int) < (s.size : Int) := by omega
  have z2 : (2 : Int) < (s.size : Int) := by omega
  have z3 : (3 : Int) < (s.size : Int) := by omega
  have zn : (4 : Int) ≤ (s.size : Int) := by omega
  have HT := hide ht
  obtain ⟨t1, t2, t3, t4, _⟩ := ht
  go_enter Tryd.func11, Tryd.ntmps11
  go_wp2_with fail
  refine (C _ (unhide HT)).mono ?_
  rintro e w1 ⟨rfl, rfl⟩
  go_wp2
  go_quiet (fail)
  go_wp2
  refine wp_loop_rounds 4 ?_
  rw [rounds_succ]; go_wp2
  rw [rounds_succ]; go_wp2
  rw [rounds_succ]; go_wp2
  rw [rounds_succ]; go_wp2_with fail
  refine (CC _).mono ?_
  rintro e w2 ⟨rfl, rfl⟩
  go_wp2_with fail
  refine (CS _ ((unhide HT).below (below_draws _ _))).mono ?_
  rintro e w2 ⟨rfl, rfl⟩
  go_wp2
  go_ret2
  exact ⟨rfl, below_draws _ _⟩

set_option maxHeartbeats 400000 in
set_option maxRecDepth 100000 in
theorem first_4_ok (s : ByteArray) (b0 b1 b2 b3 : Nat) (w : World) (ht : Tabs w) (hs : s.size ≤ 9223372036854775807) (hn : 4 ≤ s.size) (C : ToldIs b0 4)
    (e0 : (s[0]'(by omega)).toNat = b0) (e1 : (s[1]'(by omega)).toNat = b1) (e2 : (s[2]'(by omega)).toNat = b2) (e3 : (s[3]'(by omega)).toNat = b3) (l0 : 240 ≤ b0) (u0 : b0 < 256) (l1 : 128 ≤ b1) (u1 : b1 < 192) (l2 : 128 ≤ b2) (u2 : b2 < 192) (l3 : 128 ≤ b3) (u3 : b3 < 192) (CC : CharIs (((((b0 : Int) - 240) * 64 + ((b1 : Int) - 128)) * 64 + ((b2 : Int) - 128)) * 64 + ((b3 : Int) - 128)) true) (CS : SizeIs (((((b0 : Int) - 240) * 64 + ((b1 : Int) - 128)) * 64 + ((b2 : Int) - 128)) * 64 + ((b3 : Int) - 128)) 4) :
    Calls Tryd.prog 11 #[.string s] w fun e w' => e = .returned (.tuple #[.int .i64 (((((b0 : Int) - 240) * 64 + ((b1 : Int) - 128)) * 64 + ((b2 : Int) - 128)) * 64 + ((b3 : Int) - 128)), .int .i64 4]) ∧ Below w.heap.size w w' := by
  have he := not_empty s (by omega)
  have z0 : (0 : Int) < (s.size : Int) := by omega
  have z1 : (1 : Int) < (s.size : Int) := by omega
  have z2 : (2 : Int) < (s.size : Int) := by omega
  have z3 : (3 : Int) < (s.size : Int) := by omega
  have zn : (4 : Int) ≤ (s.size : Int) := by omega
  have HT := hide ht
  obtain ⟨t1, t2, t3, t4, _⟩ := ht
  go_enter Tryd.func11, Tryd.ntmps11
  go_wp2_with fail
  refine (C _ (unhide HT)).mono ?_
  rintro e w1 ⟨rfl, rfl⟩
  go_wp2
  go_quiet (fail)
  go_wp2
  refine wp_loop_rounds 4 ?_
  rw [rounds_succ]; go_wp2
  rw [rounds_succ]; go_wp2
  rw [rounds_succ]; go_wp2
  rw [rounds_succ]; go_wp2_with fail
  refine (CC _).mono ?_
  rintro e w2 ⟨rfl, rfl⟩
  go_wp2_with fail
  refine (CS _ ((unhide HT).below (below_draws _ _))).mono ?_
  rintro e w2 ⟨rfl, rfl⟩
  go_wp2
  go_ret2
  exact ⟨rfl, below_draws _ _⟩
end Go.Proofs.YtekkgmgdihlefabDoor
