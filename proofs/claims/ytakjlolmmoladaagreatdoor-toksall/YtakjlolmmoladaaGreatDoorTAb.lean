/-
  What 'toks.value' does on the whole, and where the parts of an attribute lie.
-/
import Derived.Test.YtakjlolmmoladaaGreatDoorTVa
namespace Go.Proofs.YtakjlolmmoladaaGreatDoor
open Go.RowKit
set_option linter.unusedVariables false

/-- What a value is written as at a place, and the place behind it. -/
def valS (s : ByteArray) (i : Nat) : ByteArray := if [34].isPrefixOf (s.data.toList.drop i) = true then bs (cutL s (i + 1) [34]) else if [39].isPrefixOf (s.data.toList.drop i) = true then bs (cutL s (i + 1) [39]) else s.extract i (seekN (uvP s) s.size i)
def valE (s : ByteArray) (i : Nat) : Nat := if [34].isPrefixOf (s.data.toList.drop i) = true then cutE s (i + 1) [34] else if [39].isPrefixOf (s.data.toList.drop i) = true then cutE s (i + 1) [39] else seekN (uvP s) s.size i
theorem value_any (s : ByteArray) (i : Nat) (w : World) (hm : Mx w) (hi : i ≤ s.size) (hs : s.size ≤ 100000) :
    Calls Tryz.prog 67 #[.string s, .int .i64 (i : Int)] w fun e w' => e = .returned (.tuple #[.string (valS s i), .int .i64 (valE s i : Int)]) ∧ Below w.heap.size w w' := by
  cases h1 : [34].isPrefixOf (s.data.toList.drop i) with
  | true =>
    have e1 : valS s i = bs (cutL s (i + 1) [34]) := by unfold valS; rw [if_pos h1]
    have e2 : valE s i = cutE s (i + 1) [34] := by unfold valE; rw [if_pos h1]
    rw [e1, e2]; exact value_dq s i w hm hi hs h1
  | false =>
    have n1 : ¬ [34].isPrefixOf (s.data.toList.drop i) = true := by rw [h1]; decide
    cases h2 : [39].isPrefixOf (s.data.toList.drop i) with
    | true =>
      have e1 : valS s i = bs (cutL s (i + 1) [39]) := by unfold valS; rw [if_neg n1, if_pos h2]
      have e2 : valE s i = cutE s (i + 1) [39] := by unfold valE; rw [if_neg n1, if_pos h2]
      rw [e1, e2]; exact value_sq s i w hm hi hs h1 h2
    | false =>
      have n2 : ¬ [39].isPrefixOf (s.data.toList.drop i) = true := by rw [h2]; decide
      have e1 : valS s i = s.extract i (seekN (uvP s) s.size i) := by unfold valS; rw [if_neg n1, if_neg n2]
      have e2 : valE s i = seekN (uvP s) s.size i := by unfold valE; rw [if_neg n1, if_neg n2]
      rw [e1, e2]; exact value_un s i w hi hs h1 h2
theorem cutL_len (s : ByteArray) (i : Nat) (p : List UInt8) : (cutL s i p).length ≤ s.size := by
  have := cut_len (s.data.toList.drop i) p
  rw [List.length_drop, data_len] at this
  unfold cutL; omega
theorem valS_size (s : ByteArray) (i : Nat) : (valS s i).size ≤ s.size := by
  unfold valS; split
  · rw [bs_size]; exact cutL_len _ _ _
  · split
    · rw [bs_size]; exact cutL_len _ _ _
    · rw [ByteArray.size_extract]; omega

/-- Where an attribute's name ends, where what is behind it begins, and where its value does. -/
def naE (s : ByteArray) (i : Nat) : Nat := seekN (eaP s) s.size (i + 1)
def naB (s : ByteArray) (i : Nat) : Nat := seekN (nsP s) s.size (naE s i)
def naV (s : ByteArray) (i : Nat) : Nat := seekN (nsP s) s.size (naB s i + 1)
def naN (s : ByteArray) (i : Nat) : ByteArray := bs (lowL ((s.data.toList.drop i).take (naE s i - i)))
theorem na_le (s : ByteArray) (i : Nat) (hi : i + 1 ≤ s.size) : naE s i ≤ s.size ∧ i + 1 ≤ naE s i := seekN_le (eaP s) (n := s.size) (k := i + 1) (by omega)
theorem nb_le (s : ByteArray) (i : Nat) (hi : i + 1 ≤ s.size) : naB s i ≤ s.size ∧ naE s i ≤ naB s i := seekN_le (nsP s) (n := s.size) (k := naE s i) (na_le s i hi).1
end Go.Proofs.YtakjlolmmoladaaGreatDoor
