/-
  What 'utf.First' does: of every text its first character and how many bytes it has, as the plain function says it.
-/
import Derived.Test.YtpfnjgkfombmpaaDoorUChr
namespace Go.Proofs.YtpfnjgkfombmpaaDoor
open Go.RowKit
set_option linter.unusedVariables false

def tld (b : Nat) : Nat := if 240 ≤ b then 4 else if 224 ≤ b then 3 else if 192 ≤ b then 2 else 1

set_option maxRecDepth 100000 in
theorem told_any (b : Nat) (w : World) (hb : b < 256) (ht : Tabs w) :
    Calls Tryd.prog 143 #[.int .u8 b] w fun e w' => e = .returned (.int .i64 (tld b : Int)) ∧ w' = w := by
  obtain ⟨t1, t2, t3, t4, _⟩ := ht
  by_cases h4 : 240 ≤ b
  · rw [show tld b = 4 from if_pos h4]
    go_enter Tryd.func143, Tryd.ntmps143
    go_wp2
    refine wp_loop_rounds 1 ?_
    rw [rounds_succ]; go_wp2
    go_ret
    exact ⟨rfl, rfl⟩
  have g4 : b < 240 := by omega
  by_cases h3 : 224 ≤ b
  · rw [show tld b = 3 by rw [tld, if_neg (by omega), if_pos h3]]
    clear h4
    go_enter Tryd.func143, Tryd.ntmps143
    go_wp2
    refine wp_loop_rounds 2 ?_
    rw [rounds_succ]; go_wp2
    rw [rounds_succ]; go_wp2
    go_ret
    exact ⟨rfl, rfl⟩
  have g3 : b < 224 := by omega
  by_cases h2 : 192 ≤ b
  · rw [show tld b = 2 by rw [tld, if_neg (by omega), if_neg (by omega), if_pos h2]]
    clear h4 h3
    go_enter Tryd.func143, Tryd.ntmps143
    go_wp2
    refine wp_loop_rounds 3 ?_
    rw [rounds_succ]; go_wp2
    rw [rounds_succ]; go_wp2
    rw [rounds_succ]; go_wp2
    go_ret
    exact ⟨rfl, rfl⟩
  · have g2 : b < 192 := by omega
    rw [show tld b = 1 by rw [tld, if_neg (by omega), if_neg (by omega), if_neg (by omega)]]
    clear h4 h3 h2
    go_enter Tryd.func143, Tryd.ntmps143
    go_wp2
    refine wp_loop_rounds 4 ?_
    rw [rounds_succ]; go_wp2
    rw [rounds_succ]; go_wp2
    rw [rounds_succ]; go_wp2
    rw [rounds_succ]; go_wp2
    go_ret
    exact ⟨rfl, rfl⟩

def ToldIs (b n : Nat) : Prop := ∀ w, Tabs w → Calls Tryd.prog 143 #[.int .u8 b] w fun e w' => e = .returned (.int .i64 n) ∧ w' = w
def CharIs (c : Int) (t : Bool) : Prop := ∀ w, Calls Tryd.prog 93 #[.int .i64 c] w fun e w' => e = .returned (.bool t) ∧ w' = w
def SizeIs (c : Int) (k : Nat) : Prop := ∀ w, Tabs w → Calls Tryd.prog 94 #[.int .i64 c] w fun e w' => e = .returned (.int .i64 k) ∧ w' = w

theorem first_empty (s : ByteArray) (w : World) (h : s.size = 0) :
    Calls Tryd.prog 139 #[.string s] w fun e w' => e = .returned (.tuple #[.int .i64 0, .int .i64 0]) ∧ Below w.heap.size w w' := by
  have he := is_empty s h
  go_enter Tryd.func139, Tryd.ntmps139
  go_wp2
  go_ret2
  exact ⟨rfl, Below.refl _ _⟩

/-- The answer where no character begins. -/
def bad : Value := .tuple #[.int .i64 65533, .int .i64 1]

set_option maxHeartbeats 400000 in
set_option maxRecDepth 100000 in
theorem first_1_none (s : ByteArray) (b0 : Nat) (w : World) (ht : Tabs w) (hs : s.size ≤ 9223372036854775807) (hn : 1 ≤ s.size) (C : ToldIs b0 1)
    (e0 : (s[0]'(by omega)).toNat = b0) (u0 : b0 < 192)  (CC : CharIs (b0 : Int) false) :
    Calls Tryd.prog 139 #[.string s] w fun e w' => e = .returned bad ∧ Below w.heap.size w w' := by
  have he := not_empty s (by omega)
  have z0 : (0 : Int) < (s.size : Int) := by omega
  have zn : (1 : Int) ≤ (s.size : Int) := by omega
  have HT := hide ht
  obtain ⟨t1, t2, t3, t4, _⟩ := ht
  go_enter Tryd.func139, Tryd.ntmps139
  go_wp2_with fail
  refine (C _ (unhide HT)).mono ?_
  rintro e w1 ⟨rfl, rfl⟩
  go_wp2
  go_quiet (fail)
  go_wp2
  refine wp_loop_rounds 1 ?_
  rw [rounds_succ]; go_wp2_with fail
  refine (CC _).mono ?_
  rintro e w2 ⟨rfl, rfl⟩
  go_wp2
  go_ret2
  exact ⟨rfl, below_draws _ _⟩

set_option maxHeartbeats 400000 in
set_option maxRecDepth 100000 in
theorem first_1_other (s : ByteArray) (b0 : Nat) (w : World) (ht : Tabs w) (hs : s.size ≤ 9223372036854775807) (hn : 1 ≤ s.size) (C : ToldIs b0 1)
    (e0 : (s[0]'(by omega)).toNat = b0) (u0 : b0 < 192)  (CC : CharIs (b0 : Int) true) (k : Nat) (CS : SizeIs (b0 : Int) k) (hk : ((k : Int) != 1) = true) :
    Calls Tryd.prog 139 #[.string s] w fun e w' => e = .returned bad ∧ Below w.heap.size w w' := by
  have he := not_empty s (by omega)
  have z0 : (0 : Int) < (s.size : Int) := by omega
  have zn : (1 : Int) ≤ (s.size : Int) := by omega
  have HT := hide ht
  obtain ⟨t1, t2, t3, t4, _⟩ := ht
  go_enter Tryd.func139, Tryd.ntmps139
  go_wp2_with fail
  refine (C _ (unhide HT)).mono ?_
  rintro e w1 ⟨rfl, rfl⟩
  go_wp2
  go_quiet (fail)
  go_wp2
  refine wp_loop_rounds 1 ?_
  rw [rounds_succ]; go_wp2_with fail
  refine (CC _).mono ?_
  rintro e w2 ⟨rfl, rfl⟩
  go_wp2_with fail
  refine (CS _ ((unhide HT).below (below_draws _ _))).mono ?_
  rintro e w2 ⟨rfl, rfl⟩
  go_wp2
  go_ret2
  exact ⟨rfl, below_draws _ _⟩

set_option maxHeartbeats 400000 in
set_option maxRecDepth 100000 in
theorem first_1_ok (s : ByteArray) (b0 : Nat) (w : World) (ht : Tabs w) (hs : s.size ≤ 9223372036854775807) (hn : 1 ≤ s.size) (C : ToldIs b0 1)
    (e0 : (s[0]'(by omega)).toNat = b0) (u0 : b0 < 192)  (CC : CharIs (b0 : Int) true) (CS : SizeIs (b0 : Int) 1) :
    Calls Tryd.prog 139 #[.string s] w fun e w' => e = .returned (.tuple #[.int .i64 (b0 : Int), .int .i64 1]) ∧ Below w.heap.size w w' := by
  have he := not_empty s (by omega)
  have z0 : (0 : Int) < (s.size : Int) := by omega
  have zn : (1 : Int) ≤ (s.size : Int) := by omega
  have HT := hide ht
  obtain ⟨t1, t2, t3, t4, _⟩ := ht
  go_enter Tryd.func139, Tryd.ntmps139
  go_wp2_with fail
  refine (C _ (unhide HT)).mono ?_
  rintro e w1 ⟨rfl, rfl⟩
  go_wp2
  go_quiet (fail)
  go_wp2
  refine wp_loop_rounds 1 ?_
  rw [rounds_succ]; go_wp2_with fail
  refine (CC _).mono ?_
  rintro e w2 ⟨rfl, rfl⟩
  go_wp2_with fail
  refine (CS _ ((unhide HT).below (below_draws _ _))).mono ?_
  rintro e w2 ⟨rfl, rfl⟩
  go_wp2
  go_ret2
  exact ⟨rfl, below_draws _ _⟩

set_option maxHeartbeats 400000 in
set_option maxRecDepth 100000 in
theorem first_2_short (s : ByteArray) (b0 : Nat) (w : World) (ht : Tabs w) (hs : s.size ≤ 9223372036854775807) (hn : 1 ≤ s.size) (hx : s.size < 2) (C : ToldIs b0 2)
    (e0 : (s[0]'(by omega)).toNat = b0) (l0 : 192 ≤ b0) (u0 : b0 < 224)  :
    Calls Tryd.prog 139 #[.string s] w fun e w' => e = .returned bad ∧ Below w.heap.size w w' := by
  have he := not_empty s (by omega)
  have z0 : (0 : Int) < (s.size : Int) := by omega
  have zn : (s.size : Int) < 2 := by omega
  have HT := hide ht
  obtain ⟨t1, t2, t3, t4, _⟩ := ht
  go_enter Tryd.func139, Tryd.ntmps139
  go_wp2_with fail
  refine (C _ (unhide HT)).mono ?_
  rintro e w1 ⟨rfl, rfl⟩
  go_wp2
  go_ret2
  exact ⟨rfl, Below.refl _ _⟩

set_option maxHeartbeats 400000 in
set_option maxRecDepth 100000 in
theorem first_2_low1 (s : ByteArray) (b0 b1 : Nat) (w : World) (ht : Tabs w) (hs : s.size ≤ 9223372036854775807) (hn : 2 ≤ s.size) (C : ToldIs b0 2)
    (e0 : (s[0]'(by omega)).toNat = b0) (e1 : (s[1]'(by omega)).toNat = b1) (l0 : 192 ≤ b0) (u0 : b0 < 224)  (u1 : b1 < 128) :
    Calls Tryd.prog 139 #[.string s] w fun e w' => e = .returned bad ∧ Below w.heap.size w w' := by
  have he := not_empty s (by omega)
  have z0 : (0 : Int) < (s.size : Int) := by omega
  have z1 : (1 : Int) < (s.size : Int) := by omega
  have zn : (2 : Int) ≤ (s.size : Int) := by omega
  have HT := hide ht
  obtain ⟨t1, t2, t3, t4, _⟩ := ht
  go_enter Tryd.func139, Tryd.ntmps139
  go_wp2_with fail
  refine (C _ (unhide HT)).mono ?_
  rintro e w1 ⟨rfl, rfl⟩
  go_wp2
  go_quiet (fail)
  go_wp2
  refine wp_loop_rounds 2 ?_
  rw [rounds_succ]; go_wp2
  go_ret2
  exact ⟨rfl, below_draws _ _⟩

set_option maxHeartbeats 400000 in
set_option maxRecDepth 100000 in
theorem first_2_high1 (s : ByteArray) (b0 b1 : Nat) (w : World) (ht : Tabs w) (hs : s.size ≤ 9223372036854775807) (hn : 2 ≤ s.size) (C : ToldIs b0 2)
    (e0 : (s[0]'(by omega)).toNat = b0) (e1 : (s[1]'(by omega)).toNat = b1) (l0 : 192 ≤ b0) (u0 : b0 < 224)  (l1 : 192 ≤ b1) (u1 : b1 < 256) :
    Calls Tryd.prog 139 #[.string s] w fun e w' => e = .returned bad ∧ Below w.heap.size w w' := by
  have he := not_empty s (by omega)
  have z0 : (0 : Int) < (s.size : Int) := by omega
  have z1 : (1 : Int) < (s.size : Int) := by omega
  have zn : (2 : Int) ≤ (s.size : Int) := by omega
  have HT := hide ht
  obtain ⟨t1, t2, t3, t4, _⟩ := ht
  go_enter Tryd.func139, Tryd.ntmps139
  go_wp2_with fail
  refine (C _ (unhide HT)).mono ?_
  rintro e w1 ⟨rfl, rfl⟩
  go_wp2
  go_quiet (fail)
  go_wp2
  refine wp_loop_rounds 2 ?_
  rw [rounds_succ]; go_wp2
  go_ret2
  exact ⟨rfl, below_draws _ _⟩

set_option maxHeartbeats 400000 in
set_option maxRecDepth 100000 in
theorem first_2_none (s : ByteArray) (b0 b1 : Nat) (w : World) (ht : Tabs w) (hs : s.size ≤ 9223372036854775807) (hn : 2 ≤ s.size) (C : ToldIs b0 2)
    (e0 : (s[0]'(by omega)).toNat = b0) (e1 : (s[1]'(by omega)).toNat = b1) (l0 : 192 ≤ b0) (u0 : b0 < 224) (l1 : 128 ≤ b1) (u1 : b1 < 192) (CC : CharIs (((b0 : Int) - 192) * 64 + ((b1 : Int) - 128)) false) :
    Calls Tryd.prog 139 #[.string s] w fun e w' => e = .returned bad ∧ Below w.heap.size w w' := by
  have he := not_empty s (by omega)
  have z0 : (0 : Int) < (s.size : Int) := by omega
  have z1 : (1 : Int) < (s.size : Int) := by omega
  have zn : (2 : Int) ≤ (s.size : Int) := by omega
  have HT := hide ht
  obtain ⟨t1, t2, t3, t4, _⟩ := ht
  go_enter Tryd.func139, Tryd.ntmps139
  go_wp2_with fail
  refine (C _ (unhide HT)).mono ?_
  rintro e w1 ⟨rfl, rfl⟩
  go_wp2
  go_quiet (fail)
  go_wp2
  refine wp_loop_rounds 2 ?_
  rw [rounds_succ]; go_wp2
  rw [rounds_succ]; go_wp2_with fail
  refine (CC _).mono ?_
  rintro e w2 ⟨rfl, rfl⟩
  go_wp2
  go_ret2
  exact ⟨rfl, below_draws _ _⟩

set_option maxHeartbeats 400000 in
set_option maxRecDepth 100000 in
theorem first_2_other (s : ByteArray) (b0 b1 : Nat) (w : World) (ht : Tabs w) (hs : s.size ≤ 9223372036854775807) (hn : 2 ≤ s.size) (C : ToldIs b0 2)
    (e0 : (s[0]'(by omega)).toNat = b0) (e1 : (s[1]'(by omega)).toNat = b1) (l0 : 192 ≤ b0) (u0 : b0 < 224) (l1 : 128 ≤ b1) (u1 : b1 < 192) (CC : CharIs (((b0 : Int) - 192) * 64 + ((b1 : Int) - 128)) true) (k : Nat) (CS : SizeIs (((b0 : Int) - 192) * 64 + ((b1 : Int) - 128)) k) (hk : ((k : Int) != 2) = true) :
    Calls Tryd.prog 139 #[.string s] w fun e w' => e = .returned bad ∧ Below w.heap.size w w' := by
  have he := not_empty s (by omega)
  have z0 : (0 : Int) < (s.size : Int) := by omega
  have z1 : (1 : Int) < (s.size : Int) := by omega
  have zn : (2 : Int) ≤ (s.size : Int) := by omega
  have HT := hide ht
  obtain ⟨t1, t2, t3, t4, _⟩ := ht
  go_enter Tryd.func139, Tryd.ntmps139
  go_wp2_with fail
  refine (C _ (unhide HT)).mono ?_
  rintro e w1 ⟨rfl, rfl⟩
  go_wp2
  go_quiet (fail)
  go_wp2
  refine wp_loop_rounds 2 ?_
  rw [rounds_succ]; go_wp2
  rw [rounds_succ]; go_wp2_with fail
  refine (CC _).mono ?_
  rintro e w2 ⟨rfl, rfl⟩
  go_wp2_with fail
  refine (CS _ ((unhide HT).below (below_draws _ _))).mono ?_
  rintro e w2 ⟨rfl, rfl⟩
  go_wp2
  go_ret2
  exact ⟨rfl, below_draws _ _⟩

set_option maxHeartbeats 400000 in
set_option maxRecDepth 100000 in
theorem first_2_ok (s : ByteArray) (b0 b1 : Nat) (w : World) (ht : Tabs w) (hs : s.size ≤ 9223372036854775807) (hn : 2 ≤ s.size) (C : ToldIs b0 2)
    (e0 : (s[0]'(by omega)).toNat = b0) (e1 : (s[1]'(by omega)).toNat = b1) (l0 : 192 ≤ b0) (u0 : b0 < 224) (l1 : 128 ≤ b1) (u1 : b1 < 192) (CC : CharIs (((b0 : Int) - 192) * 64 + ((b1 : Int) - 128)) true) (CS : SizeIs (((b0 : Int) - 192) * 64 + ((b1 : Int) - 128)) 2) :
    Calls Tryd.prog 139 #[.string s] w fun e w' => e = .returned (.tuple #[.int .i64 (((b0 : Int) - 192) * 64 + ((b1 : Int) - 128)), .int .i64 2]) ∧ Below w.heap.size w w' := by
  have he := not_empty s (by omega)
  have z0 : (0 : Int) < (s.size : Int) := by omega
  have z1 : (1 : Int) < (s.size : Int) := by omega
  have zn : (2 : Int) ≤ (s.size : Int) := by omega
  have HT := hide ht
  obtain ⟨t1, t2, t3, t4, _⟩ := ht
  go_enter Tryd.func139, Tryd.ntmps139
  go_wp2_with fail
  refine (C _ (unhide HT)).mono ?_
  rintro e w1 ⟨rfl, rfl⟩
  go_wp2
  go_quiet (fail)
  go_wp2
  refine wp_loop_rounds 2 ?_
  rw [rounds_succ]; go_wp2
  rw [rounds_succ]; go_wp2_with fail
  refine (CC _).mono ?_
  rintro e w2 ⟨rfl, rfl⟩
  go_wp2_with fail
  refine (CS _ ((unhide HT).below (below_draws _ _))).mono ?_
  rintro e w2 ⟨rfl, rfl⟩
  go_wp2
  go_ret2
  exact ⟨rfl, below_draws _ _⟩

set_option maxHeartbeats 400000 in
set_option maxRecDepth 100000 in
theorem first_3_short (s : ByteArray) (b0 : Nat) (w : World) (ht : Tabs w) (hs : s.size ≤ 9223372036854775807) (hn : 1 ≤ s.size) (hx : s.size < 3) (C : ToldIs b0 3)
    (e0 : (s[0]'(by omega)).toNat = b0) (l0 : 224 ≤ b0) (u0 : b0 < 240)  :
    Calls Tryd.prog 139 #[.string s] w fun e w' => e = .returned bad ∧ Below w.heap.size w w' := by
  have he := not_empty s (by omega)
  have z0 : (0 : Int) < (s.size : Int) := by omega
  have zn : (s.size : Int) < 3 := by omega
  have HT := hide ht
  obtain ⟨t1, t2, t3, t4, _⟩ := ht
  go_enter Tryd.func139, Tryd.ntmps139
  go_wp2_with fail
  refine (C _ (unhide HT)).mono ?_
  rintro e w1 ⟨rfl, rfl⟩
  go_wp2
  go_ret2
  exact ⟨rfl, Below.refl _ _⟩

set_option maxHeartbeats 400000 in
set_option maxRecDepth 100000 in
theorem first_3_low1 (s : ByteArray) (b0 b1 : Nat) (w : World) (ht : Tabs w) (hs : s.size ≤ 9223372036854775807) (hn : 3 ≤ s.size) (C : ToldIs b0 3)
    (e0 : (s[0]'(by omega)).toNat = b0) (e1 : (s[1]'(by omega)).toNat = b1) (l0 : 224 ≤ b0) (u0 : b0 < 240)  (u1 : b1 < 128) :
    Calls Tryd.prog 139 #[.string s] w fun e w' => e = .returned bad ∧ Below w.heap.size w w' := by
  have he := not_empty s (by omega)
  have z0 : (0 : Int) < (s.size : Int) := by omega
  have z1 : (1 : Int) < (s.size : Int) := by omega
  have zn : (3 : Int) ≤ (s.size : Int) := by omega
  have HT := hide ht
  obtain ⟨t1, t2, t3, t4, _⟩ := ht
  go_enter Tryd.func139, Tryd.ntmps139
  go_wp2_with fail
  refine (C _ (unhide HT)).mono ?_
  rintro e w1 ⟨rfl, rfl⟩
  go_wp2
  go_quiet (fail)
  go_wp2
  refine wp_loop_rounds 3 ?_
  rw [rounds_succ]; go_wp2
  go_ret2
  exact ⟨rfl, below_draws _ _⟩

set_option maxHeartbeats 400000 in
set_option maxRecDepth 100000 in
theorem first_3_high1 (s : ByteArray) (b0 b1 : Nat) (w : World) (ht : Tabs w) (hs : s.size ≤ 9223372036854775807) (hn : 3 ≤ s.size) (C : ToldIs b0 3)
    (e0 : (s[0]'(by omega)).toNat = b0) (e1 : (s[1]'(by omega)).toNat = b1) (l0 : 224 ≤ b0) (u0 : b0 < 240)  (l1 : 192 ≤ b1) (u1 : b1 < 256) :
    Calls Tryd.prog 139 #[.string s] w fun e w' => e = .returned bad ∧ Below w.heap.size w w' := by
  have he := not_empty s (by omega)
  have z0 : (0 : Int) < (s.size : Int) := by omega
  have z1 : (1 : Int) < (s.size : Int) := by omega
  have zn : (3 : Int) ≤ (s.size : Int) := by omega
  have HT := hide ht
  obtain ⟨t1, t2, t3, t4, _⟩ := ht
  go_enter Tryd.func139, Tryd.ntmps139
  go_wp2_with fail
  refine (C _ (unhide HT)).mono ?_
  rintro e w1 ⟨rfl, rfl⟩
  go_wp2
  go_quiet (fail)
  go_wp2
  refine wp_loop_rounds 3 ?_
  rw [rounds_succ]; go_wp2
  go_ret2
  exact ⟨rfl, below_draws _ _⟩

set_option maxHeartbeats 400000 in
set_option maxRecDepth 100000 in
theorem first_3_low2 (s : ByteArray) (b0 b1 b2 : Nat) (w : World) (ht : Tabs w) (hs : s.size ≤ 9223372036854775807) (hn : 3 ≤ s.size) (C : ToldIs b0 3)
    (e0 : (s[0]'(by omega)).toNat = b0) (e1 : (s[1]'(by omega)).toNat = b1) (e2 : (s[2]'(by omega)).toNat = b2) (l0 : 224 ≤ b0) (u0 : b0 < 240) (l1 : 128 ≤ b1) (u1 : b1 < 192) (u2 : b2 < 128) :
    Calls Tryd.prog 139 #[.string s] w fun e w' => e = .returned bad ∧ Below w.heap.size w w' := by
  have he := not_empty s (by omega)
  have z0 : (0 : Int) < (s.size : Int) := by omega
  have z1 : (1 : Int) < (s.size : Int) := by omega
  have z2 : (2 : Int) < (s.size : Int) := by omega
  have zn : (3 : Int) ≤ (s.size : Int) := by omega
  have HT := hide ht
  obtain ⟨t1, t2, t3, t4, _⟩ := ht
  go_enter Tryd.func139, Tryd.ntmps139
  go_wp2_with fail
  refine (C _ (unhide HT)).mono ?_
  rintro e w1 ⟨rfl, rfl⟩
  go_wp2
  go_quiet (fail)
  go_wp2
  refine wp_loop_rounds 3 ?_
  rw [rounds_succ]; go_wp2
  rw [rounds_succ]; go_wp2
  go_ret2
  exact ⟨rfl, below_draws _ _⟩

set_option maxHeartbeats 400000 in
set_option maxRecDepth 100000 in
theorem first_3_high2 (s : ByteArray) (b0 b1 b2 : Nat) (w : World) (ht : Tabs w) (hs : s.size ≤ 9223372036854775807) (hn : 3 ≤ s.size) (C : ToldIs b0 3)
    (e0 : (s[0]'(by omega)).toNat = b0) (e1 : (s[1]'(by omega)).toNat = b1) (e2 : (s[2]'(by omega)).toNat = b2) (l0 : 224 ≤ b0) (u0 : b0 < 240) (l1 : 128 ≤ b1) (u1 : b1 < 192) (l2 : 192 ≤ b2) (u2 : b2 < 256) :
    Calls Tryd.prog 139 #[.string s] w fun e w' => e = .returned bad ∧ Below w.heap.size w w' := by
  have he := not_empty s (by omega)
  have z0 : (0 : Int) < (s.size : Int) := by omega
  have z1 : (1 : Int) < (s.size : Int) := by omega
  have z2 : (2 : Int) < (s.size : Int) := by omega
  have zn : (3 : Int) ≤ (s.size : Int) := by omega
  have HT := hide ht
  obtain ⟨t1, t2, t3, t4, _⟩ := ht
  go_enter Tryd.func139, Tryd.ntmps139
  go_wp2_with fail
  refine (C _ (unhide HT)).mono ?_
  rintro e w1 ⟨rfl, rfl⟩
  go_wp2
  go_quiet (fail)
  go_wp2
  refine wp_loop_rounds 3 ?_
  rw [rounds_succ]; go_wp2
  rw [rounds_succ]; go_wp2
  go_ret2
  exact ⟨rfl, below_draws _ _⟩

set_option maxHeartbeats 400000 in
set_option maxRecDepth 100000 in
theorem first_3_none (s : ByteArray) (b0 b1 b2 : Nat) (w : World) (ht : Tabs w) (hs : s.size ≤ 9223372036854775807) (hn : 3 ≤ s.size) (C : ToldIs b0 3)
    (e0 : (s[0]'(by omega)).toNat = b0) (e1 : (s[1]'(by omega)).toNat = b1) (e2 : (s[2]'(by omega)).toNat = b2) (l0 : 224 ≤ b0) (u0 : b0 < 240) (l1 : 128 ≤ b1) (u1 : b1 < 192) (l2 : 128 ≤ b2) (u2 : b2 < 192) (CC : CharIs ((((b0 : Int) - 224) * 64 + ((b1 : Int) - 128)) * 64 + ((b2 : Int) - 128)) false) :
    Calls Tryd.prog 139 #[.string s] w fun e w' => e = .returned bad ∧ Below w.heap.size w w' := by
  have he := not_empty s (by omega)
  have z0 : (0 : Int) < (s.size : Int) := by omega
  have z1 : (1 : Int) < (s.size : Int) := by omega
  have z2 : (2 : Int) < (s.size : Int) := by omega
  have zn : (3 : Int) ≤ (s.size : Int) := by omega
  have HT := hide ht
  obtain ⟨t1, t2, t3, t4, _⟩ := ht
  go_enter Tryd.func139, Tryd.ntmps139
  go_wp2_with fail
  refine (C _ (unhide HT)).mono ?_
  rintro e w1 ⟨rfl, rfl⟩
  go_wp2
  go_quiet (fail)
  go_wp2
  refine wp_loop_rounds 3 ?_
  rw [rounds_succ]; go_wp2
  rw [rounds_succ]; go_wp2
  rw [rounds_succ]; go_wp2_with fail
  refine (CC _).mono ?_
  rintro e w2 ⟨rfl, rfl⟩
  go_wp2
  go_ret2
  exact ⟨rfl, below_draws _ _⟩

set_option maxHeartbeats 400000 in
set_option maxRecDepth 100000 in
theorem first_3_other (s : ByteArray) (b0 b1 b2 : Nat) (w : World) (ht : Tabs w) (hs : s.size ≤ 9223372036854775807) (hn : 3 ≤ s.size) (C : ToldIs b0 3)
    (e0 : (s[0]'(by omega)).toNat = b0) (e1 : (s[1]'(by omega)).toNat = b1) (e2 : (s[2]'(by omega)).toNat = b2) (l0 : 224 ≤ b0) (u0 : b0 < 240) (l1 : 128 ≤ b1) (u1 : b1 < 192) (l2 : 128 ≤ b2) (u2 : b2 < 192) (CC : CharIs ((((b0 : Int) - 224) * 64 + ((b1 : Int) - 128)) * 64 + ((b2 : Int) - 128)) true) (k : Nat) (CS : SizeIs ((((b0 : Int) - 224) * 64 + ((b1 : Int) - 128)) * 64 + ((b2 : Int) - 128)) k) (hk : ((k : Int) != 3) = true) :
    Calls Tryd.prog 139 #[.string s] w fun e w' => e = .returned bad ∧ Below w.heap.size w w' := by
  have he := not_empty s (by omega)
  have z0 : (0 : Int) < (s.size : Int) := by omega
  have z1 : (1 : Int) < (s.size : Int) := by omega
  have z2 : (2 : Int) < (s.size : Int) := by omega
  have zn : (3 : Int) ≤ (s.size : Int) := by omega
  have HT := hide ht
  obtain ⟨t1, t2, t3, t4, _⟩ := ht
  go_enter Tryd.func139, Tryd.ntmps139
  go_wp2_with fail
  refine (C _ (unhide HT)).mono ?_
  rintro e w1 ⟨rfl, rfl⟩
  go_wp2
  go_quiet (fail)
  go_wp2
  refine wp_loop_rounds 3 ?_
  rw [rounds_succ]; go_wp2
  rw [rounds_succ]; go_wp2
  rw [rounds_succ]; go_wp2_with fail
  refine (CC _).mono ?_
  rintro e w2 ⟨rfl, rfl⟩
  go_wp2_with fail
  refine (CS _ ((unhide HT).below (below_draws _ _))).mono ?_
  rintro e w2 ⟨rfl, rfl⟩
  go_wp2
  go_ret2
  exact ⟨rfl, below_draws _ _⟩

set_option maxHeartbeats 400000 in
set_option maxRecDepth 100000 in
theorem first_3_ok (s : ByteArray) (b0 b1 b2 : Nat) (w : World) (ht : Tabs w) (hs : s.size ≤ 9223372036854775807) (hn : 3 ≤ s.size) (C : ToldIs b0 3)
    (e0 : (s[0]'(by omega)).toNat = b0) (e1 : (s[1]'(by omega)).toNat = b1) (e2 : (s[2]'(by omega)).toNat = b2) (l0 : 224 ≤ b0) (u0 : b0 < 240) (l1 : 128 ≤ b1) (u1 : b1 < 192) (l2 : 128 ≤ b2) (u2 : b2 < 192) (CC : CharIs ((((b0 : Int) - 224) * 64 + ((b1 : Int) - 128)) * 64 + ((b2 : Int) - 128)) true) (CS : SizeIs ((((b0 : Int) - 224) * 64 + ((b1 : Int) - 128)) * 64 + ((b2 : Int) - 128)) 3) :
    Calls Tryd.prog 139 #[.string s] w fun e w' => e = .returned (.tuple #[.int .i64 ((((b0 : Int) - 224) * 64 + ((b1 : Int) - 128)) * 64 + ((b2 : Int) - 128)), .int .i64 3]) ∧ Below w.heap.size w w' := by
  have he := not_empty s (by omega)
  have z0 : (0 : Int) < (s.size : Int) := by omega
  have z1 : (1 : Int) < (s.size : Int) := by omega
  have z2 : (2 : Int) < (s.size : Int) := by omega
  have zn : (3 : Int) ≤ (s.size : Int) := by omega
  have HT := hide ht
  obtain ⟨t1, t2, t3, t4, _⟩ := ht
  go_enter Tryd.func139, Tryd.ntmps139
  go_wp2_with fail
  refine (C _ (unhide HT)).mono ?_
  rintro e w1 ⟨rfl, rfl⟩
  go_wp2
  go_quiet (fail)
  go_wp2
  refine wp_loop_rounds 3 ?_
  rw [rounds_succ]; go_wp2
  rw [rounds_succ]; go_wp2
  rw [rounds_succ]; go_wp2_with fail
  refine (CC _).mono ?_
  rintro e w2 ⟨rfl, rfl⟩
  go_wp2_with fail
  refine (CS _ ((unhide HT).below (below_draws _ _))).mono ?_
  rintro e w2 ⟨rfl, rfl⟩
  go_wp2
  go_ret2
  exact ⟨rfl, below_draws _ _⟩

set_option maxHeartbeats 400000 in
set_option maxRecDepth 100000 in
theorem first_4_short (s : ByteArray) (b0 : Nat) (w : World) (ht : Tabs w) (hs : s.size ≤ 9223372036854775807) (hn : 1 ≤ s.size) (hx : s.size < 4) (C : ToldIs b0 4)
    (e0 : (s[0]'(by omega)).toNat = b0) (l0 : 240 ≤ b0) (u0 : b0 < 256)  :
    Calls Tryd.prog 139 #[.string s] w fun e w' => e = .returned bad ∧ Below w.heap.size w w' := by
  have he := not_empty s (by omega)
  have z0 : (0 : Int) < (s.size : Int) := by omega
  have zn : (s.size : Int) < 4 := by omega
  have HT := hide ht
  obtain ⟨t1, t2, t3, t4, _⟩ := ht
  go_enter Tryd.func139, Tryd.ntmps139
  go_wp2_with fail
  refine (C _ (unhide HT)).mono ?_
  rintro e w1 ⟨rfl, rfl⟩
  go_wp2
  go_ret2
  exact ⟨rfl, Below.refl _ _⟩

set_option maxHeartbeats 400000 in
set_option maxRecDepth 100000 in
theorem first_4_low1 (s : ByteArray) (b0 b1 : Nat) (w : World) (ht : Tabs w) (hs : s.size ≤ 9223372036854775807) (hn : 4 ≤ s.size) (C : ToldIs b0 4)
    (e0 : (s[0]'(by omega)).toNat = b0) (e1 : (s[1]'(by omega)).toNat = b1) (l0 : 240 ≤ b0) (u0 : b0 < 256)  (u1 : b1 < 128) :
    Calls Tryd.prog 139 #[.string s] w fun e w' => e = .returned bad ∧ Below w.heap.size w w' := by
  have he := not_empty s (by omega)
  have z0 : (0 : Int) < (s.size : Int) := by omega
  have z1 : (1 : Int) < (s.size : Int) := by omega
  have zn : (4 : Int) ≤ (s.size : Int) := by omega
  have HT := hide ht
  obtain ⟨t1, t2, t3, t4, _⟩ := ht
  go_enter Tryd.func139, Tryd.ntmps139
  go_wp2_with fail
  refine (C _ (unhide HT)).mono ?_
  rintro e w1 ⟨rfl, rfl⟩
  go_wp2
  go_quiet (fail)
  go_wp2
  refine wp_loop_rounds 4 ?_
  rw [rounds_succ]; go_wp2
  go_ret2
  exact ⟨rfl, below_draws _ _⟩

set_option maxHeartbeats 400000 in
set_option maxRecDepth 100000 in
theorem first_4_high1 (s : ByteArray) (b0 b1 : Nat) (w : World) (ht : Tabs w) (hs : s.size ≤ 9223372036854775807) (hn : 4 ≤ s.size) (C : ToldIs b0 4)
    (e0 : (s[0]'(by omega)).toNat = b0) (e1 : (s[1]'(by omega)).toNat = b1) (l0 : 240 ≤ b0) (u0 : b0 < 256)  (l1 : 192 ≤ b1) (u1 : b1 < 256) :
    Calls Tryd.prog 139 #[.string s] w fun e w' => e = .returned bad ∧ Below w.heap.size w w' := by
  have he := not_empty s (by omega)
  have z0 : (0 : Int) < (s.size : Int) := by omega
  have z1 : (1 : Int) < (s.size : Int) := by omega
  have zn : (4 : Int) ≤ (s.size : Int) := by omega
  have HT := hide ht
  obtain ⟨t1, t2, t3, t4, _⟩ := ht
  go_enter Tryd.func139, Tryd.ntmps139
  go_wp2_with fail
  refine (C _ (unhide HT)).mono ?_
  rintro e w1 ⟨rfl, rfl⟩
  go_wp2
  go_quiet (fail)
  go_wp2
  refine wp_loop_rounds 4 ?_
  rw [rounds_succ]; go_wp2
  go_ret2
  exact ⟨rfl, below_draws _ _⟩

set_option maxHeartbeats 400000 in
set_option maxRecDepth 100000 in
theorem first_4_low2 (s : ByteArray) (b0 b1 b2 : Nat) (w : World) (ht : Tabs w) (hs : s.size ≤ 9223372036854775807) (hn : 4 ≤ s.size) (C : ToldIs b0 4)
    (e0 : (s[0]'(by omega)).toNat = b0) (e1 : (s[1]'(by omega)).toNat = b1) (e2 : (s[2]'(by omega)).toNat = b2) (l0 : 240 ≤ b0) (u0 : b0 < 256) (l1 : 128 ≤ b1) (u1 : b1 < 192) (u2 : b2 < 128) :
    Calls Tryd.prog 139 #[.string s] w fun e w' => e = .returned bad ∧ Below w.heap.size w w' := by
  have he := not_empty s (by omega)
  have z0 : (0 : Int) < (s.size : Int) := by omega
  have z1 : (1 : Int) < (s.size : Int) := by omega
  have z2 : (2 : Int) < (s.size : Int) := by omega
  have zn : (4 : Int) ≤ (s.size : Int) := by omega
  have HT := hide ht
  obtain ⟨t1, t2, t3, t4, _⟩ := ht
  go_enter Tryd.func139, Tryd.ntmps139
  go_wp2_with fail
  refine (C _ (unhide HT)).mono ?_
  rintro e w1 ⟨rfl, rfl⟩
  go_wp2
  go_quiet (fail)
  go_wp2
  refine wp_loop_rounds 4 ?_
  rw [rounds_succ]; go_wp2
  rw [rounds_succ]; go_wp2
  go_ret2
  exact ⟨rfl, below_draws _ _⟩

set_option maxHeartbeats 400000 in
set_option maxRecDepth 100000 in
theorem first_4_high2 (s : ByteArray) (b0 b1 b2 : Nat) (w : World) (ht : Tabs w) (hs : s.size ≤ 9223372036854775807) (hn : 4 ≤ s.size) (C : ToldIs b0 4)
    (e0 : (s[0]'(by omega)).toNat = b0) (e1 : (s[1]'(by omega)).toNat = b1) (e2 : (s[2]'(by omega)).toNat = b2) (l0 : 240 ≤ b0) (u0 : b0 < 256) (l1 : 128 ≤ b1) (u1 : b1 < 192) (l2 : 192 ≤ b2) (u2 : b2 < 256) :
    Calls Tryd.prog 139 #[.string s] w fun e w' => e = .returned bad ∧ Below w.heap.size w w' := by
  have he := not_empty s (by omega)
  have z0 : (0 : Int) < (s.size : Int) := by omega
  have z1 : (1 : Int) < (s.size : Int) := by omega
  have z2 : (2 : Int) < (s.size : Int) := by omega
  have zn : (4 : Int) ≤ (s.size : Int) := by omega
  have HT := hide ht
  obtain ⟨t1, t2, t3, t4, _⟩ := ht
  go_enter Tryd.func139, Tryd.ntmps139
  go_wp2_with fail
  refine (C _ (unhide HT)).mono ?_
  rintro e w1 ⟨rfl, rfl⟩
  go_wp2
  go_quiet (fail)
  go_wp2
  refine wp_loop_rounds 4 ?_
  rw [rounds_succ]; go_wp2
  rw [rounds_succ]; go_wp2
  go_ret2
  exact ⟨rfl, below_draws _ _⟩

set_option maxHeartbeats 400000 in
set_option maxRecDepth 100000 in
theorem first_4_low3 (s : ByteArray) (b0 b1 b2 b3 : Nat) (w : World) (ht : Tabs w) (hs : s.size ≤ 9223372036854775807) (hn : 4 ≤ s.size) (C : ToldIs b0 4)
    (e0 : (s[0]'(by omega)).toNat = b0) (e1 : (s[1]'(by omega)).toNat = b1) (e2 : (s[2]'(by omega)).toNat = b2) (e3 : (s[3]'(by omega)).toNat = b3) (l0 : 240 ≤ b0) (u0 : b0 < 256) (l1 : 128 ≤ b1) (u1 : b1 < 192) (l2 : 128 ≤ b2) (u2 : b2 < 192) (u3 : b3 < 128) :
    Calls Tryd.prog 139 #[.string s] w fun e w' => e = .returned bad ∧ Below w.heap.size w w' := by
  have he := not_empty s (by omega)
  have z0 : (0 : Int) < (s.size : Int) := by omega
  have z1 : (1 : Int) < (s.size : Int) := by omega
  have z2 : (2 : Int) < (s.size : Int) := by omega
  have z3 : (3 : Int) < (s.size : Int) := by omega
  have zn : (4 : Int) ≤ (s.size : Int) := by omega
  have HT := hide ht
  obtain ⟨t1, t2, t3, t4, _⟩ := ht
  go_enter Tryd.func139, Tryd.ntmps139
  go_wp2_with fail
  refine (C _ (unhide HT)).mono ?_
  rintro e w1 ⟨rfl, rfl⟩
  go_wp2
  go_quiet (fail)
  go_wp2
  refine wp_loop_rounds 4 ?_
  rw [rounds_succ]; go_wp2
  rw [rounds_succ]; go_wp2
  rw [rounds_succ]; go_wp2
  go_ret2
  exact ⟨rfl, below_draws _ _⟩

set_option maxHeartbeats 400000 in
set_option maxRecDepth 100000 in
theorem first_4_high3 (s : ByteArray) (b0 b1 b2 b3 : Nat) (w : World) (ht : Tabs w) (hs : s.size ≤ 9223372036854775807) (hn : 4 ≤ s.size) (C : ToldIs b0 4)
    (e0 : (s[0]'(by omega)).toNat = b0) (e1 : (s[1]'(by omega)).toNat = b1) (e2 : (s[2]'(by omega)).toNat = b2) (e3 : (s[3]'(by omega)).toNat = b3) (l0 : 240 ≤ b0) (u0 : b0 < 256) (l1 : 128 ≤ b1) (u1 : b1 < 192) (l2 : 128 ≤ b2) (u2 : b2 < 192) (l3 : 192 ≤ b3) (u3 : b3 < 256) :
    Calls Tryd.prog 139 #[.string s] w fun e w' => e = .returned bad ∧ Below w.heap.size w w' := by
  have he := not_empty s (by omega)
  have z0 : (0 : Int) < (s.size : Int) := by omega
  have z1 : (1 : Int) < (s.size : Int) := by omega
  have z2 : (2 : Int) < (s.size : Int) := by omega
  have z3 : (3 : Int) < (s.size : Int) := by omega
  have zn : (4 : Int) ≤ (s.size : Int) := by omega
  have HT := hide ht
  obtain ⟨t1, t2, t3, t4, _⟩ := ht
  go_enter Tryd.func139, Tryd.ntmps139
  go_wp2_with fail
  refine (C _ (unhide HT)).mono ?_
  rintro e w1 ⟨rfl, rfl⟩
  go_wp2
  go_quiet (fail)
  go_wp2
  refine wp_loop_rounds 4 ?_
  rw [rounds_succ]; go_wp2
  rw [rounds_succ]; go_wp2
  rw [rounds_succ]; go_wp2
  go_ret2
  exact ⟨rfl, below_draws _ _⟩

set_option maxHeartbeats 400000 in
set_option maxRecDepth 100000 in
theorem first_4_none (s : ByteArray) (b0 b1 b2 b3 : Nat) (w : World) (ht : Tabs w) (hs : s.size ≤ 9223372036854775807) (hn : 4 ≤ s.size) (C : ToldIs b0 4)
    (e0 : (s[0]'(by omega)).toNat = b0) (e1 : (s[1]'(by omega)).toNat = b1) (e2 : (s[2]'(by omega)).toNat = b2) (e3 : (s[3]'(by omega)).toNat = b3) (l0 : 240 ≤ b0) (u0 : b0 < 256) (l1 : 128 ≤ b1) (u1 : b1 < 192) (l2 : 128 ≤ b2) (u2 : b2 < 192) (l3 : 128 ≤ b3) (u3 : b3 < 192) (CC : CharIs (((((b0 : Int) - 240) * 64 + ((b1 : Int) - 128)) * 64 + ((b2 : Int) - 128)) * 64 + ((b3 : Int) - 128)) false) :
    Calls Tryd.prog 139 #[.string s] w fun e w' => e = .returned bad ∧ Below w.heap.size w w' := by
  have he := not_empty s (by omega)
  have z0 : (0 : Int) < (s.size : Int) := by omega
  have z1 : (1 : Int) < (s.size : Int) := by omega
  have z2 : (2 : Int) < (s.size : Int) := by omega
  have z3 : (3 : Int) < (s.size : Int) := by omega
  have zn : (4 : Int) ≤ (s.size : Int) := by omega
  have HT := hide ht
  obtain ⟨t1, t2, t3, t4, _⟩ := ht
  go_enter Tryd.func139, Tryd.ntmps139
  go_wp2_with fail
  refine (C _ (unhide HT)).mono ?_
  rintro e w1 ⟨rfl, rfl⟩
  go_wp2
  go_quiet (fail)
  go_wp2
  refine wp_loop_rounds 4 ?_
  rw [rounds_succ]; go_wp2
  rw [rounds_succ]; go_wp2
  rw [rounds_succ]; go_wp2
  rw [rounds_succ]; go_wp2_with fail
  refine (CC _).mono ?_
  rintro e w2 ⟨rfl, rfl⟩
  go_wp2
  go_ret2
  exact ⟨rfl, below_draws _ _⟩

set_option maxHeartbeats 400000 in
set_option maxRecDepth 100000 in
theorem first_4_other (s : ByteArray) (b0 b1 b2 b3 : Nat) (w : World) (ht : Tabs w) (hs : s.size ≤ 9223372036854775807) (hn : 4 ≤ s.size) (C : ToldIs b0 4)
    (e0 : (s[0]'(by omega)).toNat = b0) (e1 : (s[1]'(by omega)).toNat = b1) (e2 : (s[2]'(by omega)).toNat = b2) (e3 : (s[3]'(by omega)).toNat = b3) (l0 : 240 ≤ b0) (u0 : b0 < 256) (l1 : 128 ≤ b1) (u1 : b1 < 192) (l2 : 128 ≤ b2) (u2 : b2 < 192) (l3 : 128 ≤ b3) (u3 : b3 < 192) (CC : CharIs (((((b0 : Int) - 240) * 64 + ((b1 : Int) - 128)) * 64 + ((b2 : Int) - 128)) * 64 + ((b3 : Int) - 128)) true) (k : Nat) (CS : SizeIs (((((b0 : Int) - 240) * 64 + ((b1 : Int) - 128)) * 64 + ((b2 : Int) - 128)) * 64 + ((b3 : Int) - 128)) k) (hk : ((k : Int) != 4) = true) :
    Calls Tryd.prog 139 #[.string s] w fun e w' => e = .returned bad ∧ Below w.heap.size w w' := by
  have he := not_empty s (by omega)
  have z0 : (0 : Int) < (s.size : Int) := by omega
  have z1 : (1 : Int) < (s.size : Int) := by omega
  have z2 : (2 : Int) < (s.size : Int) := by omega
  have z3 : (3 : Int) < (s.size : Int) := by omega
  have zn : (4 : Int) ≤ (s.size : Int) := by omega
  have HT := hide ht
  obtain ⟨t1, t2, t3, t4, _⟩ := ht
  go_enter Tryd.func139, Tryd.ntmps139
  go_wp2_with fail
  refine (C _ (unhide HT)).mono ?_
  rintro e w1 ⟨rfl, rfl⟩
  go_wp2
  go_quiet (fail)
  go_wp2
  refine wp_loop_rounds 4 ?_
  rw [rounds_succ]; go_wp2
  rw [rounds_succ]; go_wp2
  rw [rounds_succ]; go_wp2
  rw [rounds_succ]; go_wp2_with fail
  refine (CC _).mono ?_
  rintro e w2 ⟨rfl, rfl⟩
  go_wp2_with fail
  refine (CS _ ((unhide HT).below (below_draws _ _))).mono ?_
  rintro e w2 ⟨rfl, rfl⟩
  go_wp2
  go_ret2
  exact ⟨rfl, below_draws _ _⟩

set_option maxHeartbeats 400000 in
set_option maxRecDepth 100000 in
theorem first_4_ok (s : ByteArray) (b0 b1 b2 b3 : Nat) (w : World) (ht : Tabs w) (hs : s.size ≤ 9223372036854775807) (hn : 4 ≤ s.size) (C : ToldIs b0 4)
    (e0 : (s[0]'(by omega)).toNat = b0) (e1 : (s[1]'(by omega)).toNat = b1) (e2 : (s[2]'(by omega)).toNat = b2) (e3 : (s[3]'(by omega)).toNat = b3) (l0 : 240 ≤ b0) (u0 : b0 < 256) (l1 : 128 ≤ b1) (u1 : b1 < 192) (l2 : 128 ≤ b2) (u2 : b2 < 192) (l3 : 128 ≤ b3) (u3 : b3 < 192) (CC : CharIs (((((b0 : Int) - 240) * 64 + ((b1 : Int) - 128)) * 64 + ((b2 : Int) - 128)) * 64 + ((b3 : Int) - 128)) true) (CS : SizeIs (((((b0 : Int) - 240) * 64 + ((b1 : Int) - 128)) * 64 + ((b2 : Int) - 128)) * 64 + ((b3 : Int) - 128)) 4) :
    Calls Tryd.prog 139 #[.string s] w fun e w' => e = .returned (.tuple #[.int .i64 (((((b0 : Int) - 240) * 64 + ((b1 : Int) - 128)) * 64 + ((b2 : Int) - 128)) * 64 + ((b3 : Int) - 128)), .int .i64 4]) ∧ Below w.heap.size w w' := by
  have he := not_empty s (by omega)
  have z0 : (0 : Int) < (s.size : Int) := by omega
  have z1 : (1 : Int) < (s.size : Int) := by omega
  have z2 : (2 : Int) < (s.size : Int) := by omega
  have z3 : (3 : Int) < (s.size : Int) := by omega
  have zn : (4 : Int) ≤ (s.size : Int) := by omega
  have HT := hide ht
  obtain ⟨t1, t2, t3, t4, _⟩ := ht
  go_enter Tryd.func139, Tryd.ntmps139
  go_wp2_with fail
  refine (C _ (unhide HT)).mono ?_
  rintro e w1 ⟨rfl, rfl⟩
  go_wp2
  go_quiet (fail)
  go_wp2
  refine wp_loop_rounds 4 ?_
  rw [rounds_succ]; go_wp2
  rw [rounds_succ]; go_wp2
  rw [rounds_succ]; go_wp2
  rw [rounds_succ]; go_wp2_with fail
  refine (CC _).mono ?_
  rintro e w2 ⟨rfl, rfl⟩
  go_wp2_with fail
  refine (CS _ ((unhide HT).below (below_draws _ _))).mono ?_
  rintro e w2 ⟨rfl, rfl⟩
  go_wp2
  go_ret2
  exact ⟨rfl, below_draws _ _⟩

def firstV (l : List UInt8) : Value := .tuple #[.int .i64 (step l).1, .int .i64 ((step l).2.1 : Int)]
theorem firstV_none {l : List UInt8} (h : dec l = none) : firstV l = bad := by simp only [firstV, step, h]; rfl
theorem firstV_some {l : List UInt8} {c : Int} {n : Nat} (h : dec l = some (c, n)) : firstV l = .tuple #[.int .i64 c, .int .i64 (n : Int)] := by simp only [firstV, step, h]

theorem charIs (c : Int) (t : Bool) (h : isC c = t) : CharIs c t := by
  intro w; have := isChar_any c w; rw [h] at this; exact this
theorem sizeIs (c : Int) (k : Nat) (h : isC c = true) (hk : sz c = k) : SizeIs c k := by
  intro w ht
  have hr := isC_true h
  have := size_any c w (by omega) (by omega) ht
  rw [hk] at this; exact this
theorem toldIs (b n : Nat) (hb : b < 256) (h : tld b = n) : ToldIs b n := by
  intro w ht; have := told_any b w hb ht; rw [h] at this; exact this

theorem first_any (s : ByteArray) (w : World) (ht : Tabs w) (hs : s.size ≤ 9223372036854775807) (h0 : 0 < s.size) :
    Calls Tryd.prog 139 #[.string s] w fun e w' => e = .returned (firstV s.data.toList) ∧ Below w.heap.size w w' := by
  have hl := data_len s
  have e := dgt_at s
  have b0 := dgt_lt s.data.toList 0
  have b1 := dgt_lt s.data.toList 1
  have b2 := dgt_lt s.data.toList 2
  have b3 := dgt_lt s.data.toList 3
  have tn : ∀ i, ¬ (i < s.size ∧ 128 ≤ dgt s.data.toList i ∧ dgt s.data.toList i ≤ 191) → ¬ tl s.data.toList i = true := by
    intro i h h2; exact h (by rw [← hl]; exact (tl_iff _ _).1 h2)
  have ty : ∀ i, i < s.size → 128 ≤ dgt s.data.toList i → dgt s.data.toList i ≤ 191 → tl s.data.toList i = true := by
    intro i h1 h2 h3; exact (tl_iff _ _).2 ⟨by rw [hl]; exact h1, h2, h3⟩
  by_cases g4 : 240 ≤ dgt s.data.toList 0
  · have T := toldIs _ 4 b0 (if_pos g4)
    have none4 : ∀ i, (i = 1 ∨ i = 2 ∨ i = 3) → ¬ tl s.data.toList i = true → dec s.data.toList = none := by
      intro i hi h
      by_cases g5 : dgt s.data.toList 0 < 248
      · refine dec_none ?_
        rw [cand_4 g4 g5, if_neg]
        rintro ⟨h1, h2, h3⟩
        rcases hi with rfl | rfl | rfl
        · exact h h1
        · exact h h2
        · exact h h3
      · exact dec_none (cand_5 (by omega))
    by_cases z : s.size < 4
    · rw [firstV_none (none4 3 (by omega) (tn 3 (by omega)))]
      exact first_4_short s _ w ht hs h0 z T (e 0 h0) g4 b0
    by_cases x1 : dgt s.data.toList 1 < 128
    · rw [firstV_none (none4 1 (by omega) (tn 1 (by omega)))]
      exact first_4_low1 s _ _ w ht hs (by omega) T (e 0 _) (e 1 _) g4 b0 x1
    by_cases y1 : 192 ≤ dgt s.data.toList 1
    · rw [firstV_none (none4 1 (by omega) (tn 1 (by omega)))]
      exact first_4_high1 s _ _ w ht hs (by omega) T (e 0 _) (e 1 _) g4 b0 y1 b1
    by_cases x2 : dgt s.data.toList 2 < 128
    · rw [firstV_none (none4 2 (by omega) (tn 2 (by omega)))]
      exact first_4_low2 s _ _ _ w ht hs (by omega) T (e 0 _) (e 1 _) (e 2 _) g4 b0 (by omega) (by omega) x2
    by_cases y2 : 192 ≤ dgt s.data.toList 2
    · rw [firstV_none (none4 2 (by omega) (tn 2 (by omega)))]
      exact first_4_high2 s _ _ _ w ht hs (by omega) T (e 0 _) (e 1 _) (e 2 _) g4 b0 (by omega) (by omega) y2 b2
    by_cases x3 : dgt s.data.toList 3 < 128
    · rw [firstV_none (none4 3 (by omega) (tn 3 (by omega)))]
      exact first_4_low3 s _ _ _ _ w ht hs (by omega) T (e 0 _) (e 1 _) (e 2 _) (e 3 _) g4 b0 (by omega) (by omega) (by omega) (by omega) x3
    by_cases y3 : 192 ≤ dgt s.data.toList 3
    · rw [firstV_none (none4 3 (by omega) (tn 3 (by omega)))]
      exact first_4_high3 s _ _ _ _ w ht hs (by omega) T (e 0 _) (e 1 _) (e 2 _) (e 3 _) g4 b0 (by omega) (by omega) (by omega) (by omega) y3 b3
    by_cases g5 : dgt s.data.toList 0 < 248
    · have hc := cand_4 g4 g5
      rw [if_pos ⟨ty 1 (by omega) (by omega) (by omega), ty 2 (by omega) (by omega) (by omega), ty 3 (by omega) (by omega) (by omega)⟩] at hc
      have ee : 262144 * ((dgt s.data.toList 0 : Int) - 240) + 4096 * lo s.data.toList 1 + 64 * lo s.data.toList 2 + lo s.data.toList 3 = (((((dgt s.data.toList 0 : Int) - 240) * 64 + ((dgt s.data.toList 1 : Int) - 128)) * 64 + ((dgt s.data.toList 2 : Int) - 128)) * 64 + ((dgt s.data.toList 3 : Int) - 128)) := by
        simp only [lo]; omega
      rw [ee] at hc
      cases hi : isC (((((dgt s.data.toList 0 : Int) - 240) * 64 + ((dgt s.data.toList 1 : Int) - 128)) * 64 + ((dgt s.data.toList 2 : Int) - 128)) * 64 + ((dgt s.data.toList 3 : Int) - 128)) with
      | false =>
        rw [firstV_none (dec_not hc hi)]
        exact first_4_none s _ _ _ _ w ht hs (by omega) T (e 0 _) (e 1 _) (e 2 _) (e 3 _) g4 b0 (by omega) (by omega) (by omega) (by omega) (by omega) (by omega) (charIs _ _ hi)
      | true =>
        by_cases hz : sz (((((dgt s.data.toList 0 : Int) - 240) * 64 + ((dgt s.data.toList 1 : Int) - 128)) * 64 + ((dgt s.data.toList 2 : Int) - 128)) * 64 + ((dgt s.data.toList 3 : Int) - 128)) = 4
        · rw [firstV_some (dec_yes hc hi hz)]
          exact first_4_ok s _ _ _ _ w ht hs (by omega) T (e 0 _) (e 1 _) (e 2 _) (e 3 _) g4 b0 (by omega) (by omega) (by omega) (by omega) (by omega) (by omega) (charIs _ _ hi) (sizeIs _ _ hi hz)
        · rw [firstV_none (dec_other hc hz)]
          exact first_4_other s _ _ _ _ w ht hs (by omega) T (e 0 _) (e 1 _) (e 2 _) (e 3 _) g4 b0 (by omega) (by omega) (by omega) (by omega) (by omega) (by omega) (charIs _ _ hi) _ (sizeIs _ _ hi rfl) (by rw [bne_iff_ne]; omega)
    · rw [firstV_none (dec_none (cand_5 (by omega)))]
      exact first_4_none s _ _ _ _ w ht hs (by omega) T (e 0 _) (e 1 _) (e 2 _) (e 3 _) g4 b0 (by omega) (by omega) (by omega) (by omega) (by omega) (by omega) (charIs _ _ (isC_no (by omega)))
  by_cases g3 : 224 ≤ dgt s.data.toList 0
  · have T := toldIs _ 3 b0 (by rw [tld, if_neg g4, if_pos g3])
    have u0 : dgt s.data.toList 0 < 240 := by omega
    have none3 : ∀ i, (i = 1 ∨ i = 2) → ¬ tl s.data.toList i = true → dec s.data.toList = none := by
      intro i hi h
      refine dec_none ?_
      rw [cand_3 g3 u0, if_neg]
      rintro ⟨h1, h2⟩
      rcases hi with rfl | rfl
      · exact h h1
      · exact h h2
    by_cases z : s.size < 3
    · rw [firstV_none (none3 2 (by omega) (tn 2 (by omega)))]
      exact first_3_short s _ w ht hs h0 z T (e 0 h0) g3 u0
    by_cases x1 : dgt s.data.toList 1 < 128
    · rw [firstV_none (none3 1 (by omega) (tn 1 (by omega)))]
      exact first_3_low1 s _ _ w ht hs (by omega) T (e 0 _) (e 1 _) g3 u0 x1
    by_cases y1 : 192 ≤ dgt s.data.toList 1
    · rw [firstV_none (none3 1 (by omega) (tn 1 (by omega)))]
      exact first_3_high1 s _ _ w ht hs (by omega) T (e 0 _) (e 1 _) g3 u0 y1 b1
    by_cases x2 : dgt s.data.toList 2 < 128
    · rw [firstV_none (none3 2 (by omega) (tn 2 (by omega)))]
      exact first_3_low2 s _ _ _ w ht hs (by omega) T (e 0 _) (e 1 _) (e 2 _) g3 u0 (by omega) (by omega) x2
    by_cases y2 : 192 ≤ dgt s.data.toList 2
    · rw [firstV_none (none3 2 (by omega) (tn 2 (by omega)))]
      exact first_3_high2 s _ _ _ w ht hs (by omega) T (e 0 _) (e 1 _) (e 2 _) g3 u0 (by omega) (by omega) y2 b2
    have hc := cand_3 g3 u0
    rw [if_pos ⟨ty 1 (by omega) (by omega) (by omega), ty 2 (by omega) (by omega) (by omega)⟩] at hc
    have ee : 4096 * ((dgt s.data.toList 0 : Int) - 224) + 64 * lo s.data.toList 1 + lo s.data.toList 2 = ((((dgt s.data.toList 0 : Int) - 224) * 64 + ((dgt s.data.toList 1 : Int) - 128)) * 64 + ((dgt s.data.toList 2 : Int) - 128)) := by
      simp only [lo]; omega
    rw [ee] at hc
    cases hi : isC ((((dgt s.data.toList 0 : Int) - 224) * 64 + ((dgt s.data.toList 1 : Int) - 128)) * 64 + ((dgt s.data.toList 2 : Int) - 128)) with
    | false =>
      rw [firstV_none (dec_not hc hi)]
      exact first_3_none s _ _ _ w ht hs (by omega) T (e 0 _) (e 1 _) (e 2 _) g3 u0 (by omega) (by omega) (by omega) (by omega) (charIs _ _ hi)
    | true =>
      by_cases hz : sz ((((dgt s.data.toList 0 : Int) - 224) * 64 + ((dgt s.data.toList 1 : Int) - 128)) * 64 + ((dgt s.data.toList 2 : Int) - 128)) = 3
      · rw [firstV_some (dec_yes hc hi hz)]
        exact first_3_ok s _ _ _ w ht hs (by omega) T (e 0 _) (e 1 _) (e 2 _) g3 u0 (by omega) (by omega) (by omega) (by omega) (charIs _ _ hi) (sizeIs _ _ hi hz)
      · rw [firstV_none (dec_other hc hz)]
        exact first_3_other s _ _ _ w ht hs (by omega) T (e 0 _) (e 1 _) (e 2 _) g3 u0 (by omega) (by omega) (by omega) (by omega) (charIs _ _ hi) _ (sizeIs _ _ hi rfl) (by rw [bne_iff_ne]; omega)
  by_cases g2 : 192 ≤ dgt s.data.toList 0
  · have T := toldIs _ 2 b0 (by rw [tld, if_neg g4, if_neg g3, if_pos g2])
    have u0 : dgt s.data.toList 0 < 224 := by omega
    have none2 : ¬ tl s.data.toList 1 = true → dec s.data.toList = none := by
      intro h
      exact dec_none (by rw [cand_2 g2 u0, if_neg h])
    by_cases z : s.size < 2
    · rw [firstV_none (none2 (tn 1 (by omega)))]
      exact first_2_short s _ w ht hs h0 z T (e 0 h0) g2 u0
    by_cases x1 : dgt s.data.toList 1 < 128
    · rw [firstV_none (none2 (tn 1 (by omega)))]
      exact first_2_low1 s _ _ w ht hs (by omega) T (e 0 _) (e 1 _) g2 u0 x1
    by_cases y1 : 192 ≤ dgt s.data.toList 1
    · rw [firstV_none (none2 (tn 1 (by omega)))]
      exact first_2_high1 s _ _ w ht hs (by omega) T (e 0 _) (e 1 _) g2 u0 y1 b1
    have hc := cand_2 g2 u0
    rw [if_pos (ty 1 (by omega) (by omega) (by omega))] at hc
    have ee : 64 * ((dgt s.data.toList 0 : Int) - 192) + lo s.data.toList 1 = (((dgt s.data.toList 0 : Int) - 192) * 64 + ((dgt s.data.toList 1 : Int) - 128)) := by
      simp only [lo]; omega
    rw [ee] at hc
    cases hi : isC (((dgt s.data.toList 0 : Int) - 192) * 64 + ((dgt s.data.toList 1 : Int) - 128)) with
    | false =>
      rw [firstV_none (dec_not hc hi)]
      exact first_2_none s _ _ w ht hs (by omega) T (e 0 _) (e 1 _) g2 u0 (by omega) (by omega) (charIs _ _ hi)
    | true =>
      by_cases hz : sz (((dgt s.data.toList 0 : Int) - 192) * 64 + ((dgt s.data.toList 1 : Int) - 128)) = 2
      · rw [firstV_some (dec_yes hc hi hz)]
        exact first_2_ok s _ _ w ht hs (by omega) T (e 0 _) (e 1 _) g2 u0 (by omega) (by omega) (charIs _ _ hi) (sizeIs _ _ hi hz)
      · rw [firstV_none (dec_other hc hz)]
        exact first_2_other s _ _ w ht hs (by omega) T (e 0 _) (e 1 _) g2 u0 (by omega) (by omega) (charIs _ _ hi) _ (sizeIs _ _ hi rfl) (by rw [bne_iff_ne]; omega)
  · have T := toldIs _ 1 b0 (by rw [tld, if_neg g4, if_neg g3, if_neg g2])
    have u0 : dgt s.data.toList 0 < 192 := by omega
    have hi : isC (dgt s.data.toList 0 : Int) = true := isC_mk (by omega)
    by_cases g1 : dgt s.data.toList 0 < 128
    · have hz : sz (dgt s.data.toList 0 : Int) = 1 := sz_1 (by omega)
      rw [firstV_some (dec_yes (cand_1 g1) hi hz)]
      exact first_1_ok s _ w ht hs h0 T (e 0 _) u0 (charIs _ _ hi) (sizeIs _ _ hi hz)
    · rw [firstV_none (dec_none (cand_0 (by omega) u0))]
      have hz : sz (dgt s.data.toList 0 : Int) = 2 := sz_2 (by omega) (by omega)
      exact first_1_other s _ w ht hs h0 T (e 0 _) u0 (charIs _ _ hi) _ (sizeIs _ _ hi hz) (by decide)

def FirstIs (s : ByteArray) (c : Int) (n : Nat) : Prop := ∀ w, Tabs w → Calls Tryd.prog 139 #[.string s] w fun e w' => e = .returned (.tuple #[.int .i64 c, .int .i64 n]) ∧ Below w.heap.size w w'
theorem firstIs (s : ByteArray) (hs : s.size ≤ 9223372036854775807) (h0 : 0 < s.size) : FirstIs s (step s.data.toList).1 (step s.data.toList).2.1 := fun w ht => first_any s w ht hs h0
end Go.Proofs.YtpfnjgkfombmpaaDoor
