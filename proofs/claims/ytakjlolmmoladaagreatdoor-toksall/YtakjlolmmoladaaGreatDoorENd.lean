/-
  What 'refs.numberAt' does: the number of the reference with which a text begins, and how many bytes that has.
-/
import Derived.Test.YtakjlolmmoladaaGreatDoorESm
namespace Go.Proofs.YtakjlolmmoladaaGreatDoor
open Go.RowKit
set_option linter.unusedVariables false

def digOk (base : Nat) (b : Nat) : Bool := decide (0 ≤ digV b ∧ digV b < (base : Int))
def numG (base : Nat) : Nat → List UInt8 → Nat × Nat
  | n, [] => (n, 0)
  | n, c :: l => if digOk base c.toNat = true then ((numG base (min (n * base + (digV c.toNat).toNat) 1114112) l).1, (numG base (min (n * base + (digV c.toNat).toNat) 1114112) l).2 + 1) else (n, 0)
theorem numG_yes {base n k : Nat} {l : List UInt8} (hk : k < l.length) (h : digOk base (dgt l k) = true) : numG base n (l.drop k) = ((numG base (min (n * base + (digV (dgt l k)).toNat) 1114112) (l.drop (k + 1))).1, (numG base (min (n * base + (digV (dgt l k)).toNat) 1114112) (l.drop (k + 1))).2 + 1) := by
  obtain ⟨c, hc, hn⟩ := drop_at l k hk
  rw [hc, numG, hn, if_pos h]
theorem numG_no {base n k : Nat} {l : List UInt8} (hk : k < l.length) (h : digOk base (dgt l k) = false) : numG base n (l.drop k) = (n, 0) := by
  obtain ⟨c, hc, hn⟩ := drop_at l k hk
  rw [hc, numG, hn, if_neg (by rw [h]; decide)]
theorem numG_end {base n k : Nat} {l : List UInt8} (hk : l.length ≤ k) : numG base n (l.drop k) = (n, 0) := by
  rw [List.drop_eq_nil_of_le hk, numG]

/-- What numberAt answers, of the base and the place of the first digit. -/
def numEnd (l : List UInt8) (fr : Nat) (r : Nat × Nat) : Int × Int := if r.2 = 0 then (0, 0) else ((r.1 : Int), ((fr + r.2 + semiN (l.drop (fr + r.2)) : Nat) : Int))
def isHex (l : List UInt8) : Bool := decide (2 < l.length ∧ (dgt l 2 = 120 ∨ dgt l 2 = 88))
def numAt (l : List UInt8) : Int × Int :=
  if [38, 35].isPrefixOf l = true then (if isHex l = true then numEnd l 3 (numG 16 0 (l.drop 3)) else numEnd l 2 (numG 10 0 (l.drop 2))) else (0, 0)
def numV (l : List UInt8) : Value := .tuple #[.int .i64 (numAt l).1, .int .i64 (numAt l).2]
theorem numEnd_0 (l : List UInt8) (fr n : Nat) : numEnd l fr (n, 0) = (0, 0) := by simp [numEnd]
theorem numEnd_1 (l : List UInt8) (fr n k : Nat) (h : 0 < k) : numEnd l fr (n, k) = ((n : Int), ((fr + k + semiN (l.drop (fr + k)) : Nat) : Int)) := by
  unfold numEnd; rw [if_neg (by simp; omega)]

theorem pre2 (s : ByteArray) (w : World) : Calls Tryz.prog 46 #[.string s, .string ⟨#[38, 35]⟩] w fun e w' => e = .returned (.bool ([38, 35].isPrefixOf s.data.toList)) ∧ w' = w := hasPrefix_any s ⟨#[38, 35]⟩ w
theorem pre2_len {l : List UInt8} (h : [38, 35].isPrefixOf l = true) : 2 ≤ l.length := by
  have := (List.isPrefixOf_iff_prefix.1 h).length_le
  simpa using this

theorem num_short (s : ByteArray) (w : World) (hpre : [38, 35].isPrefixOf s.data.toList = true) (h2 : s.size = 2) :
    Calls Tryz.prog 70 #[.string s] w fun e w' => e = .returned (.tuple #[.int .i64 (numEnd s.data.toList 2 (numG 10 0 (s.data.toList.drop 2))).1, .int .i64 (numEnd s.data.toList 2 (numG 10 0 (s.data.toList.drop 2))).2]) ∧ w' = w := by
  have C := hide (pre2 s)
  rw [hpre] at C
  rw [numG_end (by rw [data_len]; omega), numEnd_0]
  have hi : ¬ (2 : Int) < (s.size : Int) := by omega
  clear hpre h2
  go_enter Tryz.func70, Tryz.ntmps70
  go_wp2_with fail
  refine (unhide C _).mono ?_
  rintro e w1 ⟨rfl, rfl⟩
  go_wp2
  refine wp_loop_rounds 1 ?_
  rw [rounds_succ]; go_wp2
  go_ret2
  exact ⟨rfl, rfl⟩

end Go.Proofs.YtakjlolmmoladaaGreatDoor
