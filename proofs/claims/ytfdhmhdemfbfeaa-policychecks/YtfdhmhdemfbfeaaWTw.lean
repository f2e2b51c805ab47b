/-
  Whether a name stands twice in a list: 'policy.hasTwice', 'hasRulesOnce'; and slices.Concat of two lists.
-/
import Derived.Test.YtfdhmhdemfbfeaaWPl
import Derived.Test.YtfdhmhdemfbfeaaKSt
import Derived.Maps.AppendAt
import Derived.Laws.AppendOwnNone
import Derived.Lib.AppendZerosOnto
namespace Go.Proofs.Ytfdhmhdemfbfeaa
open Go.RowKit
set_option linter.unusedVariables false

/-- A slice of texts that may be cut. -/
def TxV (w : World) (v : Value) (zs : List ByteArray) : Prop := zs.length ≤ 9223372036854775807 ∧ ∃ a cap, v = .slice a zs.length cap ∧ zs.length ≤ cap ∧ (0 < zs.length → ∃ b off, a = some ⟨b, off, none⟩ ∧ ∀ i, i < zs.length → w.cell? ⟨b, off + i, none⟩ = some (.string (zs.getD i ByteArray.empty)))
theorem TxV.view {w : World} {v : Value} {zs : List ByteArray} (h : TxV w v zs) : View w v zs := by
  obtain ⟨h1, a, cap, h2, _, h3⟩ := h
  exact ⟨h1, a, cap, h2, h3⟩
theorem tx_of_owns {w : World} {base : Nat} {v : Value} {ts : List ByteArray} (h : w.ownsRow base 9 1 v ts.length (ts.map Value.string)) : TxV w v ts := by
  obtain ⟨h1, a, cap, h2, h3⟩ := view_of_owns h
  refine ⟨h1, a, cap, h2, ?_, h3⟩
  obtain ⟨_, h⟩ := h
  rcases h with ⟨rfl, h0⟩ | ⟨g, cap', cur, rfl, g1, g2, g3, g4, g5, g6⟩
  · rw [h0]; omega
  · cases h2; exact g3

/-- Does a text stand ahead of its place already? -/
def twK (zs : List ByteArray) (k : Nat) : Prop := ∀ i, i < k → isIn (zs.getD i ByteArray.empty) (zs.take i) = false
def twB (zs : List ByteArray) : Bool := (List.range zs.length).any fun i => isIn (zs.getD i ByteArray.empty) (zs.take i)
theorem tw_no {zs : List ByteArray} (h : twK zs zs.length) : twB zs = false := by
  rw [twB, List.any_eq_false]
  intro i hi
  rw [h i (List.mem_range.1 hi)]; decide
theorem tw_yes {zs : List ByteArray} {k : Nat} (hk : k < zs.length) (h : isIn (zs.getD k ByteArray.empty) (zs.take k) = true) : twB zs = true := by
  rw [twB, List.any_eq_true]
  exact ⟨k, List.mem_range.2 hk, h⟩

set_option maxHeartbeats 1000000 in
theorem twice_any (v : Value) (zs : List ByteArray) (w : World) (hv : TxV w v zs) :
    Calls Try.prog 57 #[v] w fun e w' => e = .returned (.bool (twB zs)) ∧ w' = w := by
  obtain ⟨hl, a, cap, rfl, hcap, hc⟩ := hv
  have HC := hide hc
  have HN := hide (@tw_no zs)
  have HY := hide (fun k hk h => @tw_yes zs k hk h)
  have HCC := hide (fun v x k h => contains_any v (zs.take k) x w h)
  clear hc
  go_enter Try.func57, Try.ntmps57
  go_wp2
  go_loopw [7] (fun i wr => ∃ k : Nat, k ≤ zs.length ∧ i = .int .i64 k ∧ twK zs k ∧ wr = w) (fun i _ => zs.length - (intOf i).toNat)
  case atStart => exact ⟨0, Nat.zero_le _, rfl, fun j hj => absurd hj (Nat.not_lt_zero _), rfl⟩
  case round =>
    obtain ⟨k, hk, rfl, hr, hw⟩ := hrel
    have hw' := hw.symm
    subst hw'
    have HR := hide hr
    clear hr hw
    by_cases hp : k < zs.length
    · have hpi : (k : Int) < (zs.length : Int) := by omega
      have hkc : (k : Int) ≤ (cap : Int) := by omega
      obtain ⟨b, off, rfl, hcell⟩ := unhide HC (by omega)
      have hck := hcell k hp
      have hvk : View w (.slice (some ⟨b, off, none⟩) k cap) (zs.take k) := by
        have hlk : (zs.take k).length = k := by rw [List.length_take]; omega
        refine ⟨by omega, some ⟨b, off, none⟩, cap, by rw [hlk], fun _ => ⟨b, off, rfl, fun i hi => ?_⟩⟩
        rw [hlk] at hi
        rw [hcell i (by omega), List.getD, List.getD, List.getElem?_take_of_lt hi]
      have hyk := unhide HY k hp
      have C := hide (unhide HCC _ (zs.getD k ByteArray.empty) k hvk)
      have HR2 : Hid (isIn (zs.getD k ByteArray.empty) (zs.take k) = false → twK zs (k + 1)) := hide (fun hx j hj => by
        by_cases ej : j = k
        · rw [ej]; exact hx
        · exact unhide HR j (by omega))
      clear hcell hvk
      cases hx : isIn (zs.getD k ByteArray.empty) (zs.take k) with
      | true =>
        rw [hx] at C
        have H := hide (hyk hx)
        clear hyk hx HR2
        generalize zs.getD k ByteArray.empty = y at *
        go_wp2_with fail
        refine (unhide C).mono ?_
        rintro e1 w1 ⟨rfl, hw1⟩
        obtain rfl : w = w1 := hw1.symm
        go_wp2
        go_ret
        exact ⟨by rw [unhide H]; rfl, rfl⟩
      | false =>
        rw [hx] at C
        have H := hide (unhide HR2 hx)
        clear hyk hx HR2
        generalize zs.getD k ByteArray.empty = y at *
        go_wp2_with fail
        refine (unhide C).mono ?_
        rintro e1 w1 ⟨rfl, hw1⟩
        obtain rfl : w = w1 := hw1.symm
        go_wp2
        go_roundw
        case rel => exact ⟨k + 1, by omega, by go_num, unhide H, by first | rfl | trivial⟩
        case measure => simp [intOf]; omega
    · have hkn : k = zs.length := by omega
      have hn := unhide HN (by rw [← hkn]; exact unhide HR)
      have H := hide hn
      clear hn
      go_wp2
      go_ret
      exact ⟨by rw [unhide H]; rfl, rfl⟩
end Go.Proofs.Ytfdhmhdemfbfeaa
