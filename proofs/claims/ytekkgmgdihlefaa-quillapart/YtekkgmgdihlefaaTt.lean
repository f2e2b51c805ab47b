/-
  What 'quill.TakeText', 'quill.Num', 'quill.Text' and 'quill.textBytes' do: of every text, and every number, the answer that the plain functions give, in new memory alone.
-/
import Derived.Test.YtekkgmgdihlefaaNb
import Derived.Test.YtekkgmgdihlefaaTn
import Derived.WalkKit
import Derived.WalkSpells
import Derived.WalkLawsBesides
import Derived.Deep.QuietTactic
import Derived.BigQuiet
namespace Go.Proofs.Ytekkgmgdihlefaa
open Go.RowKit
set_option linter.unusedVariables false

theorem bel_of {w w1 : World} {X : Obj} (hb1 : Below (w.alloc X).heap.size (w.alloc X) w1) : Below w.heap.size w w1 :=
  ((Below.refl _ _).alloc (Nat.le_refl _) _).trans (hb1.mono (by simp))

def textErr : Value := .tuple #[.string ⟨#[]⟩, .string ⟨#[]⟩, .int .i64 4]
def takeTV (l : List UInt8) : Value :=
  match takeT l with
  | none => textErr
  | some (k, n) => .tuple #[.string (bs ((l.drop k).take n)), .string (bs ((l.drop k).drop n)), .int .i64 0]

theorem takeText_none (s : ByteArray) (w : World)
    (hcall : Hid (∀ w, Calls Try.prog 17 #[.string s] w fun e w' => e = .returned (.tuple #[.int .i64 0, .string ⟨#[]⟩, .int .i64 4]) ∧ Below w.heap.size w w')) :
    Calls Try.prog 19 #[.string s] w fun e w' => e = .returned textErr ∧ Below w.heap.size w w' := by
  go_enter Try.func19, Try.ntmps19
  go_wp2_with (go_at_call 17; refine (unhide hcall _).mono ?_; rintro e w' ⟨rfl, hb⟩)
  go_ret3
  exact ⟨rfl, hb⟩

theorem takeText_long (s r : ByteArray) (v : Int) (w : World) (hr : r.size ≤ 9223372036854775807)
    (hcall : Hid (∀ w, Calls Try.prog 17 #[.string s] w fun e w' => e = .returned (.tuple #[.int .i64 v, .string r, .int .i64 0]) ∧ Below w.heap.size w w')) (h : 65536 < v) :
    Calls Try.prog 19 #[.string s] w fun e w' => e = .returned textErr ∧ Below w.heap.size w w' := by
  go_enter Try.func19, Try.ntmps19
  go_wp2_with (go_at_call 17; refine (unhide hcall _).mono ?_; rintro e w' ⟨rfl, hb⟩)
  go_ret3
  exact ⟨rfl, hb⟩

theorem takeText_short (s r : ByteArray) (v : Int) (w : World) (hr : r.size ≤ 9223372036854775807)
    (hcall : Hid (∀ w, Calls Try.prog 17 #[.string s] w fun e w' => e = .returned (.tuple #[.int .i64 v, .string r, .int .i64 0]) ∧ Below w.heap.size w w')) (h : v ≤ 65536) (h2 : (r.size : Int) < v) :
    Calls Try.prog 19 #[.string s] w fun e w' => e = .returned textErr ∧ Below w.heap.size w w' := by
  go_enter Try.func19, Try.ntmps19
  go_wp2_with (go_at_call 17; refine (unhide hcall _).mono ?_; rintro e w' ⟨rfl, hb⟩)
  go_ret3
  exact ⟨rfl, hb⟩

theorem takeText_some (s r : ByteArray) (v : Nat) (w : World) (hr : r.size ≤ 9223372036854775807)
    (hcall : Hid (∀ w, Calls Try.prog 17 #[.string s] w fun e w' => e = .returned (.tuple #[.int .i64 v, .string r, .int .i64 0]) ∧ Below w.heap.size w w')) (h : v ≤ 65536) (h2 : v ≤ r.size) :
    Calls Try.prog 19 #[.string s] w fun e w' => e = .returned (.tuple #[.string (r.extract 0 v), .string (r.extract v r.size), .int .i64 0]) ∧ Below w.heap.size w w' := by
  have h3 : (v : Int) ≤ 65536 := by omega
  have h4 : (v : Int) ≤ (r.size : Int) := by omega
  go_enter Try.func19, Try.ntmps19
  go_wp2_with (go_at_call 17; refine (unhide hcall _).mono ?_; rintro e w' ⟨rfl, hb⟩)
  go_quiet (fail)
  go_wp2
  go_ret3
  exact ⟨rfl, below_drewN hb _⟩

theorem takeText_any (s : ByteArray) (w : World) (hs : s.size ≤ 9223372036854775807) :
    Calls Try.prog 19 #[.string s] w fun e w' => e = .returned (takeTV s.data.toList) ∧ Below w.heap.size w w' := by
  have hc := fun w => takeNum_any s w hs
  have hl : s.data.toList.length = s.size := by simp
  cases ht : takeN s.data.toList with
  | none =>
    have e1 : takeTV s.data.toList = textErr := by simp only [takeTV, takeT, ht]
    rw [e1]
    refine takeText_none s w (hide ?_)
    simpa only [takeNV, ht, numErr] using hc
  | some x =>
    obtain ⟨v, k⟩ := x
    have hb := takeN_some ht
    obtain ⟨n, rfl⟩ := Int.eq_ofNat_of_zero_le hb.1
    have hc2 : ∀ w, Calls Try.prog 17 #[.string s] w fun e w' => e = .returned (.tuple #[.int .i64 n, .string (bs (s.data.toList.drop k)), .int .i64 0]) ∧ Below w.heap.size w w' := by
      simpa only [takeNV, ht] using hc
    have hz : (bs (s.data.toList.drop k)).size = s.size - k := by rw [bs_size, List.length_drop, hl]
    by_cases h1 : (65536 : Int) < (n : Int)
    · have e1 : takeTV s.data.toList = textErr := by simp only [takeTV, takeT, ht, h1, true_or, if_true]
      rw [e1]
      exact takeText_long s _ _ w (by rw [hz]; omega) (hide hc2) h1
    by_cases h2 : ((s.size - k : Nat) : Int) < (n : Int)
    · have e1 : takeTV s.data.toList = textErr := by simp only [takeTV, takeT, ht, hl, h2, or_true, if_true]
      rw [e1]
      exact takeText_short s _ _ w (by rw [hz]; omega) (hide hc2) (by omega) (by rw [hz]; exact h2)
    · have e1 : takeTV s.data.toList = .tuple #[.string (bs ((s.data.toList.drop k).take n)), .string (bs ((s.data.toList.drop k).drop n)), .int .i64 0] := by
        simp only [takeTV, takeT, ht, hl, h1, h2, or_self, if_false, Int.toNat_natCast]
      rw [e1]
      have := takeText_some s _ n w (by rw [hz]; omega) (hide hc2) (by omega) (by rw [hz]; omega)
      rw [Lib.Pa.extract_upto, Lib.Pa.extract_from, bs_toList] at this
      exact this

theorem num_ok (n : Int) (w : World) (h0 : 0 ≤ n) (h1 : n ≤ 1099511627776) :
    Calls Try.prog 11 #[.int .i64 n] w fun e w' => e = .returned (.tuple #[.string (bs (nb n)), .int .i64 0]) ∧ Below w.heap.size w w' := by
  go_enter Try.func11, Try.ntmps11
  go_wp2_with (go_at_call 26; refine (numBytes_any _ _ (by omega) (by omega)).mono ?_; rintro e w' ⟨rfl, hb⟩)
  go_ret2
  exact ⟨rfl, hb⟩

theorem num_no (n : Int) (w : World) (h : n < 0 ∨ 1099511627776 < n) :
    Calls Try.prog 11 #[.int .i64 n] w fun e w' => e = .returned (.tuple #[.string ⟨#[]⟩, .int .i64 1]) ∧ Below w.heap.size w w' := by
  by_cases h0 : n < 0
  · go_enter Try.func11, Try.ntmps11
    go_wp2
    go_ret2
    exact ⟨rfl, Below.refl _ _⟩
  · have h2 : 1099511627776 < n := by omega
    have h3 : 0 ≤ n := by omega
    clear h h0
    go_enter Try.func11, Try.ntmps11
    go_wp2
    go_ret2
    exact ⟨rfl, Below.refl _ _⟩

theorem textBytes_any (s : ByteArray) (w : World) (h : s.size ≤ 1099511627776) :
    Calls Try.prog 28 #[.string s] w fun e w' => e = .returned (.string (bs (nb s.size ++ s.data.toList))) ∧ Below w.heap.size w w' := by
  have hz := nb_size s.size
  go_enter Try.func28, Try.ntmps28
  go_wp2_with (go_at_call 26; refine (numBytes_any _ _ (by omega) (by omega)).mono ?_; rintro e w' ⟨rfl, hb⟩)
  go_ret
  exact ⟨congrArg (fun x => Ending.returned (Value.string x)) (bs_add _ _), hb⟩

theorem text_ok (s : ByteArray) (w : World) (h : s.size ≤ 65536) :
    Calls Try.prog 13 #[.string s] w fun e w' => e = .returned (.tuple #[.string (bs (nb s.size ++ s.data.toList)), .int .i64 0]) ∧ Below w.heap.size w w' := by
  go_enter Try.func13, Try.ntmps13
  go_wp2_with (go_at_call 28; refine (textBytes_any _ _ (by omega)).mono ?_; rintro e w' ⟨rfl, hb⟩)
  go_ret2
  exact ⟨rfl, hb⟩

theorem text_no (s : ByteArray) (w : World) (h1 : s.size ≤ 9223372036854775807) (h : 65536 < s.size) :
    Calls Try.prog 13 #[.string s] w fun e w' => e = .returned (.tuple #[.string ⟨#[]⟩, .int .i64 2]) ∧ Below w.heap.size w w' := by
  go_enter Try.func13, Try.ntmps13
  go_wp2
  go_ret2
  exact ⟨rfl, Below.refl _ _⟩

theorem ab_calls : ∀ w, Calls Try.prog 10 #[] w fun e w' => e = .returned (.bool true) ∧ Below w.heap.size w w' := by
  intro w
  have c1 : ∀ w, Calls Try.prog 13 #[.string ⟨#[97, 98]⟩] w fun e w' => e = .returned (.tuple #[.string ⟨#[1, 2, 97, 98]⟩, .int .i64 0]) ∧ Below w.heap.size w w' := fun w => text_ok ⟨#[97, 98]⟩ w (by decide)
  have c2 : ∀ w, Calls Try.prog 19 #[.string ((⟨#[1, 2, 97, 98]⟩ : ByteArray) ++ ⟨#[99]⟩)] w fun e w' => e = .returned (.tuple #[.string ⟨#[97, 98]⟩, .string ⟨#[99]⟩, .int .i64 0]) ∧ Below w.heap.size w w' := fun w => takeText_any ⟨#[1, 2, 97, 98, 99]⟩ w (by decide)
  have c3 : ∀ w, Calls Try.prog 11 #[.int .i64 256] w fun e w' => e = .returned (.tuple #[.string ⟨#[2, 1, 0]⟩, .int .i64 0]) ∧ Below w.heap.size w w' := fun w => num_ok 256 w (by decide) (by decide)
  have C1 := hide c1
  have C2 := hide c2
  have C3 := hide c3
  clear c1 c2 c3
  go_enter Try.func10, Try.ntmps10
  go_wp2_with (go_at_call 13; refine (unhide C1 _).mono ?_; rintro e w1 ⟨rfl, hb1⟩)
  refine (unhide C2 _).mono ?_
  rintro e w2 ⟨rfl, hb2⟩
  go_wp2_with (go_at_call 11; refine (unhide C3 _).mono ?_; rintro e w3 ⟨rfl, hb3⟩)
  go_ret
  exact ⟨rfl, hb1.trans ((hb2.trans (hb3.mono hb2.size)).mono hb1.size)⟩
end Go.Proofs.Ytekkgmgdihlefaa
