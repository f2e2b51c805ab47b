/-
  What 'urls.Safe' does, and the reference's; and the small case 'java'.
-/
import Derived.Test.YtfdhmhdemfbfeaaVSq
import Derived.Test.YtfdhmhdemfbfeaaMgQ
namespace Go.Proofs.Ytfdhmhdemfbfeaa
open Go.RowKit
set_option linter.unusedVariables false

/-- Whether a text is one of some. -/
def isIn (x : ByteArray) (zs : List ByteArray) : Bool := Lib.containsS zs x

theorem contains_any (v : Value) (zs : List ByteArray) (x : ByteArray) (w : World) (hv : View w v zs) :
    Calls Try.prog 50 #[v, .string x] w fun e w' => e = .returned (.bool (isIn x zs)) ∧ w' = w := by
  obtain ⟨hl, a, cap, rfl, hc⟩ := hv
  by_cases h0 : zs.length = 0
  · have hz : zs = [] := List.eq_nil_of_length_eq_zero h0
    subst hz
    exact Try.slices_Contains_string_empty a cap x w
  · obtain ⟨b, off, rfl, hcell⟩ := hc (by omega)
    have := Try.slices_Contains_string b off zs.length cap zs x w (Nat.le_refl _) hl hcell
    rw [List.take_length] at this
    exact this

/-- Whether one of the first k texts is such. -/
def inK (zs : List ByteArray) (x : ByteArray) (k : Nat) : Prop := ∀ j, j < k → ¬ zs.getD j ByteArray.empty = x
theorem in_yes {zs : List ByteArray} {x : ByteArray} {k : Nat} (hk : k < zs.length) (h : zs.getD k ByteArray.empty = x) : isIn x zs = true := by
  apply (Lib.containsS_iff zs x).2
  rw [List.getD, List.getElem?_eq_getElem hk] at h
  rw [← h]
  exact List.getElem_mem hk
theorem in_no {zs : List ByteArray} {x : ByteArray} (h : inK zs x zs.length) : isIn x zs = false := by
  cases hcs : isIn x zs with
  | false => rfl
  | true =>
  exfalso
  have hm := (Lib.containsS_iff zs x).1 hcs
  obtain ⟨j, hj, e⟩ := List.getElem_of_mem hm
  refine h j hj ?_
  rw [List.getD, List.getElem?_eq_getElem hj]
  exact e
set_option maxHeartbeats 1000000 in
theorem vin_any (v : Value) (zs : List ByteArray) (x : ByteArray) (w : World) (hv : View w v zs) :
    Calls Try.prog 31 #[.string x, v] w fun e w' => e = .returned (.bool (isIn x zs)) ∧ w' = w := by
  obtain ⟨hl, a, cap, rfl, hc⟩ := hv
  have HC := hide hc
  have HN := hide (@in_no zs x)
  have HY := hide (fun k hk h => @in_yes zs x k hk h)
  clear hc
  go_enter Try.func31, Try.ntmps31
  go_wp2
  go_loopw [9] (fun i wr => ∃ k : Nat, k ≤ zs.length ∧ i = .int .i64 k ∧ inK zs x k ∧ wr = w) (fun i _ => zs.length - (intOf i).toNat)
  case atStart => exact ⟨0, Nat.zero_le _, rfl, fun j hj => absurd hj (Nat.not_lt_zero _), rfl⟩
  case round =>
    obtain ⟨k, hk, rfl, hr, hw⟩ := hrel
    have hw' := hw.symm
    subst hw'
    have HR := hide hr
    clear hr hw
    by_cases hp : k < zs.length
    · have hpi : (k : Int) < (zs.length : Int) := by omega
      obtain ⟨b, off, rfl, hcell⟩ := unhide HC (by omega)
      have hck := hcell k hp
      clear hcell
      have hyk := unhide HY k hp
      by_cases he : zs.getD k ByteArray.empty = x
      · have hy := hyk he
        have hb := beq_yes he
        have H := hide hy
        clear hy hyk he
        generalize zs.getD k ByteArray.empty = y at *
        go_wp2
        go_ret
        exact ⟨by rw [unhide H]; rfl, rfl⟩
      · have hb := beq_no he
        have HR2 : Hid (inK zs x (k + 1)) := hide (fun j hj => by
          by_cases ej : j = k
          · rw [ej]; exact he
          · exact unhide HR j (by omega))
        clear hyk he
        generalize zs.getD k ByteArray.empty = y at *
        go_wp2
        go_roundw
        case rel => exact ⟨k + 1, by omega, by go_num, unhide HR2, by first | rfl | trivial⟩
        case measure => simp [intOf]; omega
    · have hkn : k = zs.length := by omega
      have hn := unhide HN (by rw [← hkn]; exact unhide HR)
      have H := hide hn
      clear hn
      go_wp2
      go_ret
      exact ⟨by rw [unhide H]; rfl, rfl⟩

def safeB (x : List UInt8) (zs : List ByteArray) : Bool := !decide (0 < schN x) || isIn (bs (sSc x)) zs

set_option maxHeartbeats 1000000 in
theorem safe_any (s : ByteArray) (v : Value) (zs : List ByteArray) (w : World) (hs : s.size ≤ 100000) (hv : View w v zs) :
    Calls Try.prog 51 #[.string s, v] w fun e w' => e = .returned (.bool (safeB (plL s.data.toList) zs)) ∧ Below w.heap.size w w' := by
  have C := hide (fun w => schm_any s w hs)
  unfold safeB
  have HV := hide (fun w1 hb => @view_below w w1 v zs hv hb)
  generalize plL s.data.toList = x at *
  have CC := hide (fun w h => contains_any v zs (bs (sSc x)) w h)
  generalize bs (sSc x) = Y at *
  generalize isIn Y zs = D at *
  obtain ⟨hl, a, cap, rfl, hc⟩ := hv
  clear hc
  cases hD : decide (0 < schN x) with
  | false =>
    rw [hD] at C
    clear hD
    go_enter Try.func51, Try.ntmps51
    go_wp2_with fail
    refine (unhide C _).mono ?_
    rintro e1 w1 ⟨rfl, hb⟩
    go_wp2
    go_ret
    exact ⟨by simp, hb⟩
  | true =>
    rw [hD] at C
    clear hD
    go_enter Try.func51, Try.ntmps51
    go_wp2_with fail
    refine (unhide C _).mono ?_
    rintro e1 w1 ⟨rfl, hb⟩
    go_wp2_with fail
    refine (unhide CC _ (unhide HV _ hb)).mono ?_
    rintro e1 w2 ⟨rfl, hw2⟩
    obtain rfl : w1 = w2 := hw2.symm
    go_wp2
    go_ret
    exact ⟨by simp, hb⟩

theorem view_nil (w : World) : View w (.slice none 0 0) [] := ⟨by decide, none, 0, rfl, fun h => absurd h (by decide)⟩

def jvS : ByteArray := ⟨#[32, 74, 97, 118, 97, 10, 83, 99, 114, 105, 112, 116, 58, 120]⟩
def hpS : ByteArray := ⟨#[47, 47, 104, 47, 112, 63, 113, 35, 109]⟩
theorem jv_is : bs (sSc (plL jvS.data.toList)) = ⟨#[106, 97, 118, 97, 115, 99, 114, 105, 112, 116]⟩ ∧ decide (0 < schN (plL jvS.data.toList)) = true := by
  constructor <;> decide
theorem hp_is : spC (plL hpS.data.toList) = ptC noS ⟨#[104]⟩ ⟨#[47, 112]⟩ ⟨#[113]⟩ ⟨#[109]⟩ false true true true := by
  kernel_rfl
theorem sf1 : safeB (plL (⟨#[47, 120, 58, 121]⟩ : ByteArray).data.toList) [] = true := by decide
theorem sf2 : safeB (plL (⟨#[120, 58, 121]⟩ : ByteArray).data.toList) [] = false := by decide

end Go.Proofs.Ytfdhmhdemfbfeaa
