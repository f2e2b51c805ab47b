/-
  Several texts in one: what the functions of the program and of the document's answer do.
-/
import Derived.Test.YtpfnjgkfombmpaaDoorMgD

/-
  What 'quill.TakeNum' does: of every text the number with which it begins and what is behind, or the error.
-/
namespace Go.Proofs.YtpfnjgkfombmpaaDoor
open Go.RowKit
set_option linter.unusedVariables false

def numErr : Value := .tuple #[.int .i64 0, .string ⟨#[]⟩, .int .i64 4]
def takeNV (l : List UInt8) : Value :=
  match takeN l with
  | none => numErr
  | some (v, k) => .tuple #[.int .i64 v, .string (bs (l.drop k)), .int .i64 0]

set_option maxHeartbeats 400000 in
theorem takeNum_empty (s : ByteArray) (w : World) (h : s.size = 0) :
    Calls Tryd.prog 108 #[.string s] w fun e w' => e = .returned numErr ∧ Below w.heap.size w w' := by
  have he : s.toList.isEmpty = true := by
    have : s.data.toList = [] := List.eq_nil_of_length_eq_zero (by simpa using h)
    simp [Lib.toList_data, this]
  go_enter Tryd.func108, Tryd.ntmps108
  go_wp2
  go_ret3
  exact ⟨rfl, Below.refl _ _⟩

set_option maxHeartbeats 400000 in
theorem takeNum_big (s : ByteArray) (w : World) (c : Nat) (hs : s.size ≤ 9223372036854775807) (h : 0 < s.size) (hc : (s[0]).toNat = c) (h1 : c < 256) (h2 : 6 < c) :
    Calls Tryd.prog 108 #[.string s] w fun e w' => e = .returned numErr ∧ Below w.heap.size w w' := by
  have he := not_empty s h
  have hg : (6 : Int) < (c : Int) := by omega
  go_enter Tryd.func108, Tryd.ntmps108
  go_wp2
  go_quiet (fail)
  go_wp2
  go_ret3
  exact ⟨rfl, below_draws _ _⟩

set_option maxHeartbeats 400000 in
theorem takeNum_short (s : ByteArray) (w : World) (c : Nat) (hs : s.size ≤ 9223372036854775807) (h : 0 < s.size) (hc : (s[0]).toNat = c) (h1 : c ≤ 6) (h2 : s.size - 1 < c) :
    Calls Tryd.prog 108 #[.string s] w fun e w' => e = .returned numErr ∧ Below w.heap.size w w' := by
  have he := not_empty s h
  have hg : (c : Int) ≤ 6 := by omega
  have hg2 : ((s.size - 1 : Nat) : Int) < (c : Int) := by omega
  go_enter Tryd.func108, Tryd.ntmps108
  go_wp2
  go_quiet (fail)
  go_wp2
  go_ret3
  exact ⟨rfl, below_draws _ _⟩

set_option maxHeartbeats 400000 in
theorem takeNum_nought (s : ByteArray) (w : World) (c : Nat) (hs : s.size ≤ 9223372036854775807) (h : 0 < s.size) (hc : (s[0]).toNat = c) (h1 : c ≤ 6) (h2 : c ≤ s.size - 1) (h3 : 0 < c)
    (hd : ∀ k (hk : k < (s.extract 1 s.size).size), ((s.extract 1 s.size)[k]).toNat = dgt s.data.toList (1 + k)) (h4 : dgt s.data.toList 1 = 0) :
    Calls Tryd.prog 108 #[.string s] w fun e w' => e = .returned numErr ∧ Below w.heap.size w w' := by
  have he := not_empty s h
  have hg : (c : Int) ≤ 6 := by omega
  have hg2 : (c : Int) ≤ ((s.size - 1 : Nat) : Int) := by omega
  have hg3 : (0 : Int) < (c : Int) := by omega
  go_enter Tryd.func108, Tryd.ntmps108
  go_wp2
  go_quiet (fail)
  go_wp2
  go_ret3
  exact ⟨rfl, below_draws _ _⟩

theorem rest_eq (s : ByteArray) (c : Nat) (n : Nat) (hn : n = s.size - 1) : (s.extract 1 s.size).extract c n = bs (s.data.toList.drop (1 + c)) := by
  have e : (s.extract 1 s.size).size = s.size - 1 := by simp
  rw [hn, ← e, Lib.Pa.extract_from, Lib.extract_to_end, List.drop_drop]
  rfl

set_option maxHeartbeats 400000 in
theorem takeNum_zero (s : ByteArray) (w : World) (hs : s.size ≤ 9223372036854775807) (h : 0 < s.size) (hc : (s[0]).toNat = 0) :
    Calls Tryd.prog 108 #[.string s] w fun e w' => e = .returned (.tuple #[.int .i64 0, .string (bs (s.data.toList.drop 1)), .int .i64 0]) ∧ Below w.heap.size w w' := by
  have he := not_empty s h
  have HR := hide (rest_eq s 0 (s.size - 1) rfl)
  go_enter Tryd.func108, Tryd.ntmps108
  go_wp2
  go_quiet (fail)
  go_wp2
  refine wp_loop_rounds 1 ?_
  rw [rounds_succ]; go_wp2
  go_quiet (fail)
  go_wp2
  go_ret3
  exact ⟨ret3 rfl (congrArg Value.string (unhide HR)) rfl, _root_.Go.below_drewN (below_draws _ _) _⟩

set_option maxHeartbeats 400000 in
theorem takeNum_loop (s : ByteArray) (w : World) (c : Nat) (d : List UInt8) (r : Value) (hs : s.size ≤ 9223372036854775807) (h : 0 < s.size) (hc : (s[0]).toNat = c) (h1 : c ≤ 6) (h2 : c ≤ s.size - 1) (h3 : 0 < c)
    (hlen : Hid (d.length = s.size - 1)) (hd : ∀ k (hk : k < (s.extract 1 s.size).size), ((s.extract 1 s.size)[k]).toNat = dgt d k) (h4 : 0 < dgt d 0)
    (hr1 : Hid (1099511627776 < vl (d.take c) → r = numErr)) (hr2 : Hid (vl (d.take c) ≤ 1099511627776 → r = .tuple #[.int .i64 (vl (d.take c)), .string (bs (s.data.toList.drop (1 + c))), .int .i64 0])) :
    Calls Tryd.prog 108 #[.string s] w fun e w' => e = .returned r ∧ Below w.heap.size w w' := by
  have he := not_empty s h
  have hg : (c : Int) ≤ 6 := by omega
  have hg2 : (c : Int) ≤ ((s.size - 1 : Nat) : Int) := by omega
  have hg3 : (0 : Int) < (c : Int) := by omega
  have hg4 : ((dgt d 0 : Int) == 0) = false := by simp; omega
  have HR := hide (rest_eq s c (s.size - 1) rfl)
  go_enter Tryd.func108, Tryd.ntmps108
  go_wp2
  go_quiet (fail)
  go_wp2
  go_loop [7, 32] (fun n i => ∃ k : Nat, k ≤ c ∧ i = .int .i64 k ∧ n = .int .i64 (vl (d.take k))) (fun _ i => c - (intOf i).toNat)
  case atStart => exact ⟨0, Nat.zero_le _, rfl, rfl⟩
  case round =>
    obtain ⟨k, hk, rfl, rfl⟩ := hrel
    have hp := vl_pos (d.take k)
    by_cases hlt : k < c
    · have hb := vl_bd5 d k (by rw [unhide hlen]; omega) (by omega)
      have HS := hide (vl_take d k (by rw [unhide hlen]; omega))
      have hdk := dgt_lt d k
      have hkk : (k : Int) < ((s.size - 1 : Nat) : Int) := by omega
      go_wp2
      go_round
      case rel => exact ⟨k + 1, by omega, by go_num, by rw [unhide HS]⟩
      case measure => simp [intOf]; omega
    · have hkc : k = c := by omega
      subst hkc
      have hb := vl_bd6 d k (by rw [unhide hlen]; omega) (by omega)
      by_cases hv : 1099511627776 < vl (d.take k)
      · go_wp2
        go_ret3
        exact ⟨by rw [unhide hr1 hv]; rfl, below_draws _ _⟩
      · go_wp2
        go_quiet (fail)
        go_wp2
        go_ret3
        exact ⟨by rw [unhide hr2 (by omega)]; exact ret3 rfl (congrArg Value.string (unhide HR)) rfl, _root_.Go.below_drewN (below_draws _ _) _⟩

theorem takeNum_any (s : ByteArray) (w : World) (hs : s.size ≤ 9223372036854775807) :
    Calls Tryd.prog 108 #[.string s] w fun e w' => e = .returned (takeNV s.data.toList) ∧ Below w.heap.size w w' := by
  have hl : s.data.toList.length = s.size := by simp
  by_cases h0 : s.size = 0
  · have : takeNV s.data.toList = numErr := by simp [takeNV, takeN, hl, h0]
    rw [this]; exact takeNum_empty s w h0
  have hp : 0 < s.size := by omega
  have hc := dgt_at s 0 hp
  have hlt := dgt_lt s.data.toList 0
  by_cases h1 : 6 < dgt s.data.toList 0
  · have : takeNV s.data.toList = numErr := by simp [takeNV, takeN, hl, h0, h1]
    rw [this]; exact takeNum_big s w _ hs hp hc hlt h1
  by_cases h2 : s.size - 1 < dgt s.data.toList 0
  · have : takeNV s.data.toList = numErr := by simp [takeNV, takeN, hl, h0, h1, h2]
    rw [this]; exact takeNum_short s w _ hs hp hc (by omega) h2
  by_cases h3 : dgt s.data.toList 0 = 0
  · have : takeNV s.data.toList = .tuple #[.int .i64 0, .string (bs (s.data.toList.drop 1)), .int .i64 0] := by
      simp [takeNV, takeN, hl, h0, h3, vl]
    rw [this]; exact takeNum_zero s w hs hp (by omega)
  have hd := dgt_from s 1
  by_cases h4 : dgt s.data.toList 1 = 0
  · have hq : 0 < dgt s.data.toList 0 := by omega
    have : takeNV s.data.toList = numErr := by simp [takeNV, takeN, hl, h0, h1, h2, hq, h4]
    rw [this]; exact takeNum_nought s w _ hs hp hc (by omega) (by omega) (by omega) hd h4
  have e1 : ∀ k, dgt (s.data.toList.drop 1) k = dgt s.data.toList (1 + k) := by
    intro k; simp [dgt, List.getD, Nat.add_comm]
  refine takeNum_loop s w (dgt s.data.toList 0) (s.data.toList.drop 1) _ hs hp hc (by omega) (by omega) (by omega) (by show (s.data.toList.drop 1).length = _; simp) (fun k hk => by rw [hd k hk, e1]) (by rw [e1]; show 0 < dgt s.data.toList 1; omega) ?_ ?_
  · intro hv
    simp only [takeNV, takeN, hl, h0, h1, h2, h4, hv, if_false, if_true, and_false]
  · intro hv
    have hv' : ¬ 1099511627776 < vl ((s.data.toList.drop 1).take (dgt s.data.toList 0)) := by omega
    simp only [takeNV, takeN, hl, h0, h1, h2, h4, hv', if_false, and_false]
end Go.Proofs.YtpfnjgkfombmpaaDoor

/-
  What 'quill.TakeText' does.
-/
namespace Go.Proofs.YtpfnjgkfombmpaaDoor
open Go.RowKit
set_option linter.unusedVariables false

def textErr : Value := .tuple #[.string ⟨#[]⟩, .string ⟨#[]⟩, .int .i64 4]
def takeTV (l : List UInt8) : Value :=
  match takeT l with
  | none => textErr
  | some (k, n) => .tuple #[.string (bs ((l.drop k).take n)), .string (bs ((l.drop k).drop n)), .int .i64 0]

theorem takeText_none (s : ByteArray) (w : World)
    (hcall : Hid (∀ w, Calls Tryd.prog 108 #[.string s] w fun e w' => e = .returned (.tuple #[.int .i64 0, .string ⟨#[]⟩, .int .i64 4]) ∧ Below w.heap.size w w')) :
    Calls Tryd.prog 121 #[.string s] w fun e w' => e = .returned textErr ∧ Below w.heap.size w w' := by
  go_enter Tryd.func121, Tryd.ntmps121
  go_wp2_with (go_at_call 108; refine (unhide hcall _).mono ?_; rintro e w' ⟨rfl, hb⟩)
  go_ret3
  exact ⟨rfl, hb⟩

theorem takeText_long (s r : ByteArray) (v : Int) (w : World) (hr : r.size ≤ 9223372036854775807)
    (hcall : Hid (∀ w, Calls Tryd.prog 108 #[.string s] w fun e w' => e = .returned (.tuple #[.int .i64 v, .string r, .int .i64 0]) ∧ Below w.heap.size w w')) (h : 65536 < v) :
    Calls Tryd.prog 121 #[.string s] w fun e w' => e = .returned textErr ∧ Below w.heap.size w w' := by
  go_enter Tryd.func121, Tryd.ntmps121
  go_wp2_with (go_at_call 108; refine (unhide hcall _).mono ?_; rintro e w' ⟨rfl, hb⟩)
  go_ret3
  exact ⟨rfl, hb⟩

theorem takeText_short (s r : ByteArray) (v : Int) (w : World) (hr : r.size ≤ 9223372036854775807)
    (hcall : Hid (∀ w, Calls Tryd.prog 108 #[.string s] w fun e w' => e = .returned (.tuple #[.int .i64 v, .string r, .int .i64 0]) ∧ Below w.heap.size w w')) (h : v ≤ 65536) (h2 : (r.size : Int) < v) :
    Calls Tryd.prog 121 #[.string s] w fun e w' => e = .returned textErr ∧ Below w.heap.size w w' := by
  go_enter Tryd.func121, Tryd.ntmps121
  go_wp2_with (go_at_call 108; refine (unhide hcall _).mono ?_; rintro e w' ⟨rfl, hb⟩)
  go_ret3
  exact ⟨rfl, hb⟩

theorem takeText_some (s r : ByteArray) (v : Nat) (w : World) (hr : r.size ≤ 9223372036854775807)
    (hcall : Hid (∀ w, Calls Tryd.prog 108 #[.string s] w fun e w' => e = .returned (.tuple #[.int .i64 v, .string r, .int .i64 0]) ∧ Below w.heap.size w w')) (h : v ≤ 65536) (h2 : v ≤ r.size) :
    Calls Tryd.prog 121 #[.string s] w fun e w' => e = .returned (.tuple #[.string (r.extract 0 v), .string (r.extract v r.size), .int .i64 0]) ∧ Below w.heap.size w w' := by
  have h3 : (v : Int) ≤ 65536 := by omega
  have h4 : (v : Int) ≤ (r.size : Int) := by omega
  go_enter Tryd.func121, Tryd.ntmps121
  go_wp2_with (go_at_call 108; refine (unhide hcall _).mono ?_; rintro e w' ⟨rfl, hb⟩)
  go_quiet (fail)
  go_wp2
  go_ret3
  exact ⟨rfl, _root_.Go.below_drewN hb _⟩

theorem takeText_any (s : ByteArray) (w : World) (hs : s.size ≤ 9223372036854775807) :
    Calls Tryd.prog 121 #[.string s] w fun e w' => e = .returned (takeTV s.data.toList) ∧ Below w.heap.size w w' := by
  have hc := fun w => takeNum_any s w hs
  have hl : s.data.toList.length = s.size := by simp
  cases ht : takeN s.data.toList with
  | none =>
    have e1 : takeTV s.data.toList = textErr := by simp only [takeTV, takeT, ht]
    rw [e1]
    refine takeText_none s w (hide ?_)
    simpa only [takeNV, ht, numErr] using hc
  | some x =>
    obtain ⟨v, k⟩ := x
    have hb := takeN_some ht
    obtain ⟨n, rfl⟩ := Int.eq_ofNat_of_zero_le hb.1
    have hc2 : ∀ w, Calls Tryd.prog 108 #[.string s] w fun e w' => e = .returned (.tuple #[.int .i64 n, .string (bs (s.data.toList.drop k)), .int .i64 0]) ∧ Below w.heap.size w w' := by
      simpa only [takeNV, ht] using hc
    have hz : (bs (s.data.toList.drop k)).size = s.size - k := by rw [bs_size, List.length_drop, hl]
    by_cases h1 : (65536 : Int) < (n : Int)
    · have e1 : takeTV s.data.toList = textErr := by simp only [takeTV, takeT, ht, h1, true_or, if_true]
      rw [e1]
      exact takeText_long s _ _ w (by rw [hz]; omega) (hide hc2) h1
    by_cases h2 : ((s.size - k : Nat) : Int) < (n : Int)
    · have e1 : takeTV s.data.toList = textErr := by simp only [takeTV, takeT, ht, hl, h2, or_true, if_true]
      rw [e1]
      exact takeText_short s _ _ w (by rw [hz]; omega) (hide hc2) (by omega) (by rw [hz]; exact h2)
    · have e1 : takeTV s.data.toList = .tuple #[.string (bs ((s.data.toList.drop k).take n)), .string (bs ((s.data.toList.drop k).drop n)), .int .i64 0] := by
        simp only [takeTV, takeT, ht, hl, h1, h2, or_self, if_false, Int.toNat_natCast]
      rw [e1]
      have := takeText_some s _ n w (by rw [hz]; omega) (hide hc2) (by omega) (by rw [hz]; omega)
      rw [Lib.Pa.extract_upto, Lib.Pa.extract_from, bs_toList] at this
      exact this
end Go.Proofs.YtpfnjgkfombmpaaDoor
