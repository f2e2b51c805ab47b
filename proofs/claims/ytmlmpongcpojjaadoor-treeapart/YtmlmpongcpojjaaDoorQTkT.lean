/-
  What 'quill.TakeText' does.
-/
import Derived.Test.YtmlmpongcpojjaaDoorQTkN
namespace Go.Proofs.YtmlmpongcpojjaaDoor
open Go.RowKit
set_option linter.unusedVariables false

def textErr : Value := .tuple #[.string ⟨#[]⟩, .string ⟨#[]⟩, .int .i64 4]
def takeTV (l : List UInt8) : Value :=
  match takeT l with
  | none => textErr
  | some (k, n) => .tuple #[.string (bs ((l.drop k).take n)), .string (bs ((l.drop k).drop n)), .int .i64 0]

theorem takeText_none (s : ByteArray) (w : World)
    (hcall : Hid (∀ w, Calls Tryd.prog 84 #[.string s] w fun e w' => e = .returned (.tuple #[.int .i64 0, .string ⟨#[]⟩, .int .i64 4]) ∧ Below w.heap.size w w')) :
    Calls Tryd.prog 99 #[.string s] w fun e w' => e = .returned textErr ∧ Below w.heap.size w w' := by
  go_enter Tryd.func99, Tryd.ntmps99
  go_wp2_with (go_at_call 84; refine (unhide hcall _).mono ?_; rintro e w' ⟨rfl, hb⟩)
  go_ret3
  exact ⟨rfl, hb⟩

theorem takeText_long (s r : ByteArray) (v : Int) (w : World) (hr : r.size ≤ 9223372036854775807)
    (hcall : Hid (∀ w, Calls Tryd.prog 84 #[.string s] w fun e w' => e = .returned (.tuple #[.int .i64 v, .string r, .int .i64 0]) ∧ Below w.heap.size w w')) (h : 65536 < v) :
    Calls Tryd.prog 99 #[.string s] w fun e w' => e = .returned textErr ∧ Below w.heap.size w w' := by
  go_enter Tryd.func99, Tryd.ntmps99
  go_wp2_with (go_at_call 84; refine (unhide hcall _).mono ?_; rintro e w' ⟨rfl, hb⟩)
  go_ret3
  exact ⟨rfl, hb⟩

theorem takeText_short (s r : ByteArray) (v : Int) (w : World) (hr : r.size ≤ 9223372036854775807)
    (hcall : Hid (∀ w, Calls Tryd.prog 84 #[.string s] w fun e w' => e = .returned (.tuple #[.int .i64 v, .string r, .int .i64 0]) ∧ Below w.heap.size w w')) (h : v ≤ 65536) (h2 : (r.size : Int) < v) :
    Calls Tryd.prog 99 #[.string s] w fun e w' => e = .returned textErr ∧ Below w.heap.size w w' := by
  go_enter Tryd.func99, Tryd.ntmps99
  go_wp2_with (go_at_call 84; refine (unhide hcall _).mono ?_; rintro e w' ⟨rfl, hb⟩)
  go_ret3
  exact ⟨rfl, hb⟩

theorem takeText_some (s r : ByteArray) (v : Nat) (w : World) (hr : r.size ≤ 9223372036854775807)
    (hcall : Hid (∀ w, Calls Tryd.prog 84 #[.string s] w fun e w' => e = .returned (.tuple #[.int .i64 v, .string r, .int .i64 0]) ∧ Below w.heap.size w w')) (h : v ≤ 65536) (h2 : v ≤ r.size) :
    Calls Tryd.prog 99 #[.string s] w fun e w' => e = .returned (.tuple #[.string (r.extract 0 v), .string (r.extract v r.size), .int .i64 0]) ∧ Below w.heap.size w w' := by
  have h3 : (v : Int) ≤ 65536 := by omega
  have h4 : (v : Int) ≤ (r.size : Int) := by omega
  go_enter Tryd.func99, Tryd.ntmps99
  go_wp2_with (go_at_call 84; refine (unhide hcall _).mono ?_; rintro e w' ⟨rfl, hb⟩)
  go_quiet (fail)
  go_wp2
  go_ret3
  exact ⟨rfl, below_drewN hb _⟩

theorem takeText_any (s : ByteArray) (w : World) (hs : s.size ≤ 9223372036854775807) :
    Calls Tryd.prog 99 #[.string s] w fun e w' => e = .returned (takeTV s.data.toList) ∧ Below w.heap.size w w' := by
  have hc := fun w => takeNum_any s w hs
  have hl : s.data.toList.length = s.size := by simp
  cases ht : takeN s.data.toList with
  | none =>
    have e1 : takeTV s.data.toList = textErr := by simp only [takeTV, takeT, ht]
    rw [e1]
    refine takeText_none s w (hide ?_)
    simpa only [takeNV, ht, numErr] using hc
  | some x =>
    obtain ⟨v, k⟩ := x
    have hb := takeN_some ht
    obtain ⟨n, rfl⟩ := Int.eq_ofNat_of_zero_le hb.1
    have hc2 : ∀ w, Calls Tryd.prog 84 #[.string s] w fun e w' => e = .returned (.tuple #[.int .i64 n, .string (bs (s.data.toList.drop k)), .int .i64 0]) ∧ Below w.heap.size w w' := by
      simpa only [takeNV, ht] using hc
    have hz : (bs (s.data.toList.drop k)).size = s.size - k := by rw [bs_size, List.length_drop, hl]
    by_cases h1 : (65536 : Int) < (n : Int)
    · have e1 : takeTV s.data.toList = textErr := by simp only [takeTV, takeT, ht, h1, true_or, if_true]
      rw [e1]
      exact takeText_long s _ _ w (by rw [hz]; omega) (hide hc2) h1
    by_cases h2 : ((s.size - k : Nat) : Int) < (n : Int)
    · have e1 : takeTV s.data.toList = textErr := by simp only [takeTV, takeT, ht, hl, h2, or_true, if_true]
      rw [e1]
      exact takeText_short s _ _ w (by rw [hz]; omega) (hide hc2) (by omega) (by rw [hz]; exact h2)
    · have e1 : takeTV s.data.toList = .tuple #[.string (bs ((s.data.toList.drop k).take n)), .string (bs ((s.data.toList.drop k).drop n)), .int .i64 0] := by
        simp only [takeTV, takeT, ht, hl, h1, h2, or_self, if_false, Int.toNat_natCast]
      rw [e1]
      have := takeText_some s _ n w (by rw [hz]; omega) (hide hc2) (by omega) (by rw [hz]; omega)
      rw [Lib.Pa.extract_upto, Lib.Pa.extract_from, bs_toList] at this
      exact this
end Go.Proofs.YtmlmpongcpojjaaDoor
