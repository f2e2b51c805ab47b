/-
  What 'refs.All' does: all of a text.
-/
import Derived.Test.YtakjlolmmoladaaGreatDoorEAt
import Derived.Test.YtakjlolmmoladaaGreatDoorBd
namespace Go.Proofs.YtakjlolmmoladaaGreatDoor
open Go.RowKit
set_option linter.unusedVariables false

set_option maxHeartbeats 400000 in
theorem all_empty (s : ByteArray) (v : Bool) (w : World) (h0 : s.size = 0) :
    Calls Tryz.prog 25 #[.string s, .bool v] w fun e w' => e = .returned (.string (bs [])) ∧ Below w.heap.size w w' := by
  go_enter Tryz.func25, Tryz.ntmps25
  go_wp2
  refine wp_loop_rounds 1 ?_
  rw [rounds_succ]; go_wp2_with fail
  refine (string_nil w.heap.size (.pointer none) _ (heap_alloc_new _ _)).mono ?_
  rintro e w2 ⟨rfl, hb2⟩
  go_wp2
  go_ret
  exact ⟨rfl, bel_of hb2⟩

set_option maxHeartbeats 1000000 in
theorem all_some (s : ByteArray) (v : Bool) (w : World) (ht : Tab4 w) (hs : s.size ≤ 100000) (hp0 : 0 < s.size) :
    Calls Tryz.prog 25 #[.string s, .bool v] w fun e w' => e = .returned (.string (bs (allL v s.data.toList))) ∧ Below w.heap.size w w' := by
  have HT := hide ht
  clear ht
  go_enter Tryz.func25, Tryz.ntmps25
  go_wp2
  go_loopw [6] (fun i wr => ∃ (k : Nat) (acc : List UInt8), k ≤ s.size ∧ i = .int .i64 (k : Int) ∧ acc.length ≤ 4 * k ∧ (0 < k → acc ≠ []) ∧ allL v s.data.toList = acc ++ allL v (s.data.toList.drop k) ∧ Bld w.heap.size w.heap.size acc wr ∧ Below w.heap.size w wr) (fun i _ => s.size - (intOf i).toNat)
  case atStart => exact ⟨0, [], Nat.zero_le _, rfl, by simp, fun h => by omega, rfl, bld_new w, (Below.refl _ _).alloc (Nat.le_refl _) _⟩
  case round =>
    obtain ⟨k, acc, hk, rfl, hal, hne, hr, hB, hbw⟩ := hrel
    have HR := hide hr
    have HN := hide hne
    have hzw := hbw.size
    clear hr hne
    by_cases hp : k < s.size
    · have hpi : (k : Int) < (s.size : Int) := by omega
      have hl : s.data.toList.drop k ≠ [] := by
        intro e
        have := congrArg List.length e
        rw [List.length_drop, data_len] at this; simp at this; omega
      have hbd := at_bd v hl
      have hcn := allL_cons v hl
      have hn2 := at_ne v hl
      rw [List.length_drop, data_len] at hbd
      have CA := hide (fun w h => at_at s k v w h (by omega) hp)
      rw [List.drop_drop] at hcn
      generalize atL (s.data.toList.drop k) v = p at *
      obtain ⟨x, m⟩ := p
      simp only at hbd hcn hn2 CA
      obtain ⟨j, hj⟩ : ∃ j : Nat, m = (j : Int) := ⟨m.toNat, by omega⟩
      subst hj
      rw [Int.toNat_natCast] at hcn
      have hj1 : 1 ≤ j := by omega
      have hj2 : k + j ≤ s.size := by omega
      have hxl : (bs x).size ≤ 4 := by rw [bs_size]; omega
      have hxl2 : x.length ≤ 4 := hbd.2.2
      have HCN := hide hcn
      have HN2 := hide hn2
      clear hbd hcn hn2 hl
      go_wp2_with fail
      refine (unhide CA _ ((unhide HT).below hbw)).mono ?_
      rintro e w2 ⟨rfl, hb2⟩
      have B2 := bld_below hB hb2
      have hz2 := hb2.size
      go_wp2_with fail
      refine (writeString_any _ _ _ _ _ B2 (by omega) (by omega)).mono ?_
      rintro e w3 ⟨rfl, B3, hb3⟩
      rw [bs_toList] at B3
      go_wp2
      go_roundw
      case rel => exact ⟨k + j, acc ++ x, by omega, by first | rfl | go_num, by rw [List.length_append]; omega, fun _ h => unhide HN2 (List.append_eq_nil_iff.1 h).2, by rw [unhide HR, unhide HCN, List.append_assoc], B3, (hbw.trans (hb2.mono hzw)).trans hb3⟩
      case measure => simp [intOf]; omega
    · have hf : allL v s.data.toList = acc := by rw [unhide HR, List.drop_eq_nil_of_le (by rw [data_len]; omega), allL_nil, List.append_nil]
      have hne := unhide HN (by omega)
      have HF := hide hf
      clear hf
      go_wp2_with fail
      refine (string_any _ _ _ _ hB hne).mono ?_
      rintro e w2 ⟨rfl, hb2⟩
      go_wp2
      go_ret
      exact ⟨by rw [unhide HF]; rfl, hbw.trans hb2⟩

theorem all_any (s : ByteArray) (v : Bool) (w : World) (ht : Tab4 w) (hs : s.size ≤ 100000) :
    Calls Tryz.prog 25 #[.string s, .bool v] w fun e w' => e = .returned (.string (bs (allL v s.data.toList))) ∧ Below w.heap.size w w' := by
  by_cases h0 : s.size = 0
  · have : s.data.toList = [] := List.eq_nil_of_length_eq_zero (by rw [data_len]; exact h0)
    rw [this]
    exact all_empty s v w h0
  · exact all_some s v w ht hs (by omega)

end Go.Proofs.YtakjlolmmoladaaGreatDoor
