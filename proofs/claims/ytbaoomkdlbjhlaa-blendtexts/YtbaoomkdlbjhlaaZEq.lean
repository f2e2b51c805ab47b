/-
  What 'blend.one', 'blend.same' of texts and 'slices.EqualFunc' under it do.
-/
import Derived.Test.YtbaoomkdlbjhlaaPTx
import Derived.Test.YtbaoomkdlbjhlaaZPl
import Derived.Test.YtbaoomkdlbjhlaaMRl
namespace Go.Proofs.Ytbaoomkdlbjhlaa
open Go.RowKit
set_option linter.unusedVariables false
set_option linter.unusedSimpArgs false

theorem one_any (x : Int) (w : World) (h0 : 0 ≤ x) (h1 : x < 1000000000) :
    Calls Try.prog 33 #[.int .i64 x] w fun e w' => e = .returned (.agg #[.int .i64 x, .int .i64 (x + 1)]) ∧ Below w.heap.size w w' := by
  have hw : (x : Int) + 1 < 9223372036854775808 := by omega
  go_enter Try.func33, Try.ntmps33
  go_wp2
  refine bodyPost_ret (v := .agg #[.int .i64 x, .int .i64 (x + 1)]) (by simp [results, Try.results33, go_sem]) rfl ?_
  exact ⟨rfl, (Below.refl _ _).alloc (Nat.le_refl _) _⟩
theorem eqs_any (a b : ByteArray) (w : World) :
    Calls Try.prog 17 #[.string a, .string b] w fun e w' => e = .returned (.bool (decide (a = b))) ∧ Below w.heap.size w w' := by
  have he : (a.toList == b.toList) = decide (a = b) := by
    by_cases h : a = b
    · rw [beq_yes h, decide_eq_true h]
    · rw [beq_no h, decide_eq_false h]
  go_enter Try.func17, Try.ntmps17
  go_wp2
  go_ret
  exact ⟨rfl, Below.refl _ _⟩
def eqK (ta tb : List ByteArray) (k : Nat) : Prop := ∀ j, j < k → ta.getD j ByteArray.empty = tb.getD j ByteArray.empty
def fEq : Value := .func (Fn.func 17) #[] #[]
set_option maxHeartbeats 1000000 in
theorem eqf_any (va vb : Value) (ta tb : List ByteArray) (w : World) (ha : View w va ta) (hb : View w vb tb) :
    Calls Try.prog 38 #[va, vb, .func (Fn.func 17) #[] #[]] w fun e w' => e = .returned (.bool (sameT ta tb)) ∧ Below w.heap.size w w' := by
  have HA := hide ha
  have HB := hide hb
  obtain ⟨hl1, a1, c1, rfl, _⟩ := ha
  obtain ⟨hl2, a2, c2, rfl, _⟩ := hb
  have hneq : ¬ ta.length = tb.length → sameT ta tb = false := fun h => sameT_false (fun e => h (by rw [e]))
  by_cases hl : ta.length = tb.length
  · have CC := hide (fun (k : Nat) w => eqs_any (ta.getD k ByteArray.empty) (tb.getD k ByteArray.empty) w)
    have hli : (ta.length : Int) = (tb.length : Int) := by omega
    have HF : Hid (eqK ta tb ta.length → sameT ta tb = true) := hide (fun h => sameT_true (same_of _ _ hl h))
    have HL := hide hl
    have HG : Hid (∀ k, ¬ ta.getD k ByteArray.empty = tb.getD k ByteArray.empty → sameT ta tb = false) := hide (fun k h => sameT_false (fun e => h (by rw [e])))
    generalize hst : sameT ta tb = st at *
    rw [← hl]
    clear hl hli hneq
    go_enter Try.func38, Try.ntmps38
    go_wp2
    go_loopw [17] (fun i wr => ∃ k : Nat, k ≤ ta.length ∧ i = .int .i64 k ∧ eqK ta tb k ∧ Below w.heap.size w wr) (fun i _ => ta.length - (intOf i).toNat)
    case atStart => exact ⟨0, Nat.zero_le _, rfl, fun j hj => absurd hj (Nat.not_lt_zero _), Below.refl _ _⟩
    case round =>
      obtain ⟨k, hk, rfl, hr, hbw⟩ := hrel
      have HR := hide hr
      clear hr
      by_cases hp : k < ta.length
      · have hpi : (k : Int) < (ta.length : Int) := by omega
        obtain ⟨_, a9, c9, e9, hc⟩ := view_below (unhide HA) hbw
        cases e9
        obtain ⟨b, off, rfl, hcell⟩ := hc (by omega)
        obtain ⟨_, a8, c8, e8, hc'⟩ := view_below (unhide HB) hbw
        cases e8
        obtain ⟨b', off', rfl, hcell'⟩ := hc' (by have := unhide HL; omega)
        have hck := hcell k hp
        have hck' := hcell' k (by have := unhide HL; omega)
        have C := hide (unhide CC k)
        have HR2 : Hid (ta.getD k ByteArray.empty = tb.getD k ByteArray.empty → eqK ta tb (k + 1)) := hide (fun hx j hj => by
          by_cases ej : j = k
          · rw [ej]; exact hx
          · exact unhide HR j (by omega))
        have HG2 := hide (unhide HG k)
        clear hcell hc hcell' hc'
        generalize ta.getD k ByteArray.empty = x at *
        generalize tb.getD k ByteArray.empty = y at *
        by_cases hx : x = y
        · rw [decide_eq_true hx] at C
          have H := hide (unhide HR2 hx)
          clear HR2 hx HG2
          go_wp2_with fail
          refine (unhide C _).mono ?_
          rintro e1 w1 ⟨rfl, hb1⟩
          go_wp2
          go_roundw
          case rel => exact ⟨k + 1, by omega, by go_num, unhide H, tr2 hbw hb1⟩
          case measure => simp [intOf]; omega
        · rw [decide_eq_false hx] at C
          have H := hide (unhide HG2 hx)
          clear HR2 hx HG2
          go_wp2_with fail
          refine (unhide C _).mono ?_
          rintro e1 w1 ⟨rfl, hb1⟩
          go_wp2
          go_ret
          exact ⟨by rw [unhide H]; rfl, tr2 hbw hb1⟩
      · have hkn : k = ta.length := by omega
        have H := hide (unhide HF (by rw [← hkn]; exact unhide HR))
        have hpi : ¬ (k : Int) < (ta.length : Int) := by omega
        go_wp2
        go_ret
        exact ⟨by rw [unhide H]; rfl, hbw⟩
  · rw [hneq hl]
    have hli : ¬ (ta.length : Int) = (tb.length : Int) := by omega
    have hlb : ((ta.length : Int) == (tb.length : Int)) = false := beq_eq_false_iff_ne.2 hli
    go_enter Try.func38, Try.ntmps38
    go_wp2
    go_ret
    exact ⟨rfl, Below.refl _ _⟩
theorem bsame_any (va vb : Value) (ta tb : List ByteArray) (w : World) (ha : View w va ta) (hb : View w vb tb) :
    Calls Try.prog 34 #[va, vb, .func (Fn.func 17) #[] #[]] w fun e w' => e = .returned (.bool (sameT ta tb)) ∧ Below w.heap.size w w' := by
  have C := hide (eqf_any va vb ta tb w ha hb)
  obtain ⟨hl1, a1, c1, rfl, _⟩ := ha
  obtain ⟨hl2, a2, c2, rfl, _⟩ := hb
  generalize sameT ta tb = st at *
  go_enter Try.func34, Try.ntmps34
  go_wp2_with fail
  refine (unhide C).mono ?_
  rintro e1 w1 ⟨rfl, hb1⟩
  go_wp2
  go_ret
  exact ⟨rfl, hb1⟩
end Go.Proofs.Ytbaoomkdlbjhlaa
