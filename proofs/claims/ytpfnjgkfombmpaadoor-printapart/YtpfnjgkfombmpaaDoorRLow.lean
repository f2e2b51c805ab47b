/-
  What 'rectoref02.low' does.
-/
import Derived.Test.YtpfnjgkfombmpaaDoorRChr
namespace Go.Proofs.YtpfnjgkfombmpaaDoor
open Go.RowKit
set_option linter.unusedVariables false

def lowI (l : List UInt8) (i : Nat) : Int := if tl l i = true then lo l i else -1
theorem lowI_yes {l : List UInt8} {i : Nat} (h : tl l i = true) : lowI l i = lo l i := if_pos h
theorem lowI_no {l : List UInt8} {i : Nat} (h : ¬ tl l i = true) : lowI l i = -1 := if_neg h
theorem lo_bd {l : List UInt8} {i : Nat} (h : tl l i = true) : 0 ≤ lo l i ∧ lo l i ≤ 63 := by
  have := (tl_iff _ _).1 h
  unfold lo; omega

theorem low_any (s : ByteArray) (k : Nat) (w : World) (hs : s.size ≤ 9223372036854775807) (hk : k ≤ 9223372036854775807) :
    Calls Tryd.prog 126 #[.string s, .int .i64 (k : Int)] w fun e w' => e = .returned (.int .i64 (lowI s.data.toList k)) ∧ w' = w := by
  have hl := data_len s
  by_cases h0 : s.size ≤ k
  · rw [lowI_no (by intro h; have := (tl_iff _ _).1 h; omega)]
    have hi : (s.size : Int) ≤ (k : Int) := by omega
    go_enter Tryd.func126, Tryd.ntmps126
    go_wp2
    go_ret
    exact ⟨rfl, rfl⟩
  have hlt : k < s.size := by omega
  have hi : (k : Int) < (s.size : Int) := by omega
  have hd : decide ((s.size : Int) ≤ (k : Int)) = false := by simp; omega
  have e := dgt_at s k hlt
  have hb := dgt_lt s.data.toList k
  have htl := tl_iff s.data.toList k
  rw [hl] at htl
  have hlo : lo s.data.toList k = (dgt s.data.toList k : Int) - 128 := rfl
  generalize dgt s.data.toList k = b at *
  clear hl h0
  by_cases h1 : b < 128
  · rw [lowI_no (by rw [htl]; omega)]
    clear htl hlo
    have h1i : (b : Int) < 128 := by omega
    go_enter Tryd.func126, Tryd.ntmps126
    go_wp2
    go_ret
    exact ⟨rfl, rfl⟩
  have h1i : (128 : Int) ≤ (b : Int) := by omega
  by_cases h2 : 191 < b
  · rw [lowI_no (by rw [htl]; omega)]
    clear htl hlo h1
    have h2i : (191 : Int) < (b : Int) := by omega
    go_enter Tryd.func126, Tryd.ntmps126
    go_wp2
    go_ret
    exact ⟨rfl, rfl⟩
  · rw [lowI_yes (htl.2 (by omega)), hlo]
    clear htl hlo h1
    have h2i : (b : Int) ≤ 191 := by omega
    clear h2
    go_enter Tryd.func126, Tryd.ntmps126
    go_wp2
    go_ret
    exact ⟨rfl, rfl⟩

def LowIs (s : ByteArray) (k : Int) (x : Int) : Prop := ∀ w, Calls Tryd.prog 126 #[.string s, .int .i64 k] w fun e w' => e = .returned (.int .i64 x) ∧ w' = w
def RIsIs (c : Int) (t : Bool) : Prop := ∀ w, Calls Tryd.prog 127 #[.int .i64 c] w fun e w' => e = .returned (.bool t) ∧ w' = w
def RBytesIs (c : Int) (x : ByteArray) : Prop := ∀ w, Calls Tryd.prog 128 #[.int .i64 c] w fun e w' => e = .returned (.string x) ∧ Below w.heap.size w w'
def got (c n : Int) (b : Bool) : Value := .agg #[.int .i64 c, .int .i64 n, .bool b]
end Go.Proofs.YtpfnjgkfombmpaaDoor
