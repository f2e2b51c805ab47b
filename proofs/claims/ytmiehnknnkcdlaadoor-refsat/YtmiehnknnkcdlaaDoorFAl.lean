/-
  What the reference's 'At' and 'All' of layer 4 do, told by the plain functions.
-/
import Derived.Test.YtmiehnknnkcdlaaDoorFAu
import Derived.Test.YtmiehnknnkcdlaaDoorFAm
namespace Go.Proofs.YtmiehnknnkcdlaaDoor
open Go.RowKit
set_option linter.unusedVariables false

theorem calls_as {f : Nat} {args : Array Value} {w : World} {x y : Value} (h : Calls Tryd.prog f args w fun e w' => e = .returned x ∧ Below w.heap.size w w') (he : x = y) : Calls Tryd.prog f args w fun e w' => e = .returned y ∧ Below w.heap.size w w' := by
  subst he; exact h
theorem rnumV_0 {l : List UInt8} {i : Nat} {r : Nat × Nat} (h : r.2 = 0) : rnumV l i r = gotR [] (-1) := by
  unfold rnumV rnumL; rw [if_pos h]
theorem rnumV_1 {l : List UInt8} {i : Nat} {r : Nat × Nat} (h : r.2 ≠ 0) : rnumV l i r = gotR (ub (numC (r.1 : Int))) ((i + r.2 + semiN (l.drop (i + r.2)) : Nat) : Int) := by
  unfold rnumV rnumL; rw [if_neg h]

theorem rat4_any (s : ByteArray) (i : Nat) (v : Bool) (w : World) (hs : s.size ≤ 100000) (hi : i < s.size) :
    Calls Tryd.prog 11 #[.string s, .int .i64 (i : Int), .bool v] w fun e w' => e = .returned (rAtV s i v) ∧ Below w.heap.size w w' := by
  by_cases h38 : dgt s.data.toList i = 38
  · have A1 : Hid (∀ w, Calls Tryd.prog 28 #[.string s, .int .i64 ((i : Int) + 1)] w fun e w' => e = .returned (.int .u8 (atB s.data.toList (i + 1) : Int)) ∧ w' = w) := fun w => by
      have := rat_at s (i + 1) w (by omega) (by omega); rw [Int.natCast_add] at this; exact this
    have A2 : Hid (∀ w, Calls Tryd.prog 28 #[.string s, .int .i64 ((i : Int) + 2)] w fun e w' => e = .returned (.int .u8 (atB s.data.toList (i + 2) : Int)) ∧ w' = w) := fun w => by
      have := rat_at s (i + 2) w (by omega) (by omega); rw [Int.natCast_add] at this; exact this
    have d0 : dgt (s.data.toList.drop i) 0 = 38 := by rw [dgt_drop, Nat.add_zero]; exact h38
    have e1 : atB s.data.toList (i + 1) = dgt (s.data.toList.drop i) 1 := atB_drop _ _ _
    have e2 : atB s.data.toList (i + 2) = dgt (s.data.toList.drop i) 2 := atB_drop _ _ _
    by_cases h35 : atB s.data.toList (i + 1) = 35
    · have d1 : dgt (s.data.toList.drop i) 1 = 35 := by rw [← e1]; exact h35
      by_cases hx : dgt (s.data.toList.drop i) 2 = 120 ∨ dgt (s.data.toList.drop i) 2 = 88
      · have hah := at_hash (v := v) d0 d1 (numAt_hex d0 d1 hx) (by omega) (by omega)
        rw [List.drop_drop] at hah
        have C : ∀ w, Calls Tryd.prog 30 #[.string s, .int .i64 ((i : Int) + 3), .int .i64 16] w fun e w' => e = .returned (rnumV s.data.toList (i + 3) (numR 16 0 (s.data.toList.drop (i + 3)))) ∧ Below w.heap.size w w' := fun w => by
          have := rnum_any s (i + 3) 16 w hs (by omega) (by omega) (by omega); rw [Int.natCast_add] at this; exact this
        by_cases hz : (numR 16 0 (s.data.toList.drop (i + 3))).2 = 0
        · rw [rnumV_0 hz] at C
          have hV : gotR [38] ((i : Int) + 1) = rAtV s i v := by unfold rAtV; rw [hah.1 hz]
          rcases hx with hx | hx
          · exact calls_as (ramp_hex_no s i _ _ v _ _ w hs hi h38 A1 A2 (hide C) h35 (by rw [e2]; exact hx) (by omega)) hV
          · exact calls_as (ramp_heX_no s i _ _ v _ _ w hs hi h38 A1 A2 (hide C) h35 (by rw [e2]; exact hx) (by omega)) hV
        · rw [rnumV_1 hz] at C
          have hV : gotR (ub (numC ((numR 16 0 (s.data.toList.drop (i + 3))).1 : Int))) ((i + 3 + (numR 16 0 (s.data.toList.drop (i + 3))).2 + semiN (s.data.toList.drop (i + 3 + (numR 16 0 (s.data.toList.drop (i + 3))).2)) : Nat) : Int) = rAtV s i v := by
            unfold rAtV; rw [hah.2 hz, List.drop_drop]
            simp only []
            rw [show i + (3 + (numR 16 0 (s.data.toList.drop (i + 3))).2) = i + 3 + (numR 16 0 (s.data.toList.drop (i + 3))).2 by omega]
            congr 1; omega
          rcases hx with hx | hx
          · exact calls_as (ramp_hex_yes s i _ _ v _ _ w hs hi h38 A1 A2 (hide C) h35 (by rw [e2]; exact hx) (by omega)) hV
          · exact calls_as (ramp_heX_yes s i _ _ v _ _ w hs hi h38 A1 A2 (hide C) h35 (by rw [e2]; exact hx) (by omega)) hV
      · have hah := at_hash (v := v) d0 d1 (numAt_ten d0 d1 hx) (by omega) (by omega)
        rw [List.drop_drop] at hah
        have C : ∀ w, Calls Tryd.prog 30 #[.string s, .int .i64 ((i : Int) + 2), .int .i64 10] w fun e w' => e = .returned (rnumV s.data.toList (i + 2) (numR 10 0 (s.data.toList.drop (i + 2)))) ∧ Below w.heap.size w w' := fun w => by
          have := rnum_any s (i + 2) 10 w hs (by omega) (by omega) (by omega); rw [Int.natCast_add] at this; exact this
        have n2 : ((atB s.data.toList (i + 2) : Int) == 120) = false := bneI (by omega)
        have n3 : ((atB s.data.toList (i + 2) : Int) == 88) = false := bneI (by omega)
        by_cases hz : (numR 10 0 (s.data.toList.drop (i + 2))).2 = 0
        · rw [rnumV_0 hz] at C
          have hV : gotR [38] ((i : Int) + 1) = rAtV s i v := by unfold rAtV; rw [hah.1 hz]
          exact calls_as (ramp_ten_no s i _ _ v _ _ w hs hi h38 A1 A2 (hide C) h35 n2 n3 (by omega)) hV
        · rw [rnumV_1 hz] at C
          have hV : gotR (ub (numC ((numR 10 0 (s.data.toList.drop (i + 2))).1 : Int))) ((i + 2 + (numR 10 0 (s.data.toList.drop (i + 2))).2 + semiN (s.data.toList.drop (i + 2 + (numR 10 0 (s.data.toList.drop (i + 2))).2)) : Nat) : Int) = rAtV s i v := by
            unfold rAtV; rw [hah.2 hz, List.drop_drop]
            simp only []
            rw [show i + (2 + (numR 10 0 (s.data.toList.drop (i + 2))).2) = i + 2 + (numR 10 0 (s.data.toList.drop (i + 2))).2 by omega]
            congr 1; omega
          exact calls_as (ramp_ten_yes s i _ _ v _ _ w hs hi h38 A1 A2 (hide C) h35 n2 n3 (by omega)) hV
    · have hna := at_named (v := v) d0 (by rw [← e1]; exact h35)
      rw [List.drop_drop] at hna
      have C : ∀ w, Calls Tryd.prog 29 #[.string s, .int .i64 ((i : Int) + 1), .bool v] w fun e w' => e = .returned (refV (i + 1) (refL (s.data.toList.drop (i + 1)) v)) ∧ Below w.heap.size w w' := fun w => by
        have := named_any s (i + 1) v w hs (by omega); rw [Int.natCast_add] at this; exact this
      have n1 : ((atB s.data.toList (i + 1) : Int) == 35) = false := bneI (by omega)
      cases hr : refL (s.data.toList.drop (i + 1)) v with
      | none =>
        rw [hr] at C hna
        have hV : gotR [38] ((i : Int) + 1) = rAtV s i v := by unfold rAtV; rw [hna]
        exact calls_as (ramp_nam_no s i _ _ v [] (-1) w hs hi h38 A1 A2 (hide C) n1 (by omega)) hV
      | some p =>
        obtain ⟨c, n⟩ := p
        rw [hr] at C hna
        have hV : gotR (ub c) (((i + 1 : Nat) : Int) + (n : Int)) = rAtV s i v := by
          unfold rAtV; rw [hna]
          simp only []
          congr 1; omega
        exact calls_as (ramp_nam_yes s i _ _ v (ub c) (((i + 1 : Nat) : Int) + (n : Int)) w hs hi h38 A1 A2 (hide C) n1 (by omega)) hV
  · exact rat_other s i v w hs hi h38

set_option maxHeartbeats 2000000 in
theorem rall_any (s : ByteArray) (v : Bool) (w : World) (hs : s.size ≤ 100000) :
    Calls Tryd.prog 13 #[.string s, .bool v] w fun e w' => e = .returned (.string (bs (allL v s.data.toList))) ∧ Below w.heap.size w w' := by
  go_enter Tryd.func13, Tryd.ntmps13
  go_wp2
  go_loopw [5, 6] (fun o i wr => ∃ (k : Nat) (acc : List UInt8), k ≤ s.size ∧ i = .int .i64 (k : Int) ∧ o = .string (bs acc) ∧ acc.length ≤ 4 * k ∧ allL v s.data.toList = acc ++ allL v (s.data.toList.drop k) ∧ Below w.heap.size w wr) (fun _ i _ => s.size - (intOf i).toNat)
  case atStart => exact ⟨0, [], Nat.zero_le _, rfl, rfl, by simp, rfl, Below.refl _ _⟩
  case round =>
    obtain ⟨k, acc, hk, rfl, rfl, hal, hr, hbw⟩ := hrel
    have HR := hide hr
    have HAL := hide hal
    have hzw := hbw.size
    clear hr
    rw [← bs_size] at hal
    by_cases hp : k < s.size
    · have hpi : (k : Int) < (s.size : Int) := by omega
      have hl : s.data.toList.drop k ≠ [] := by
        intro e
        have := congrArg List.length e
        rw [List.length_drop, data_len] at this; simp at this; omega
      have hbd := at_bd v hl
      have hcn := allL_cons v hl
      rw [List.length_drop, data_len] at hbd
      have CA := hide (fun w => rat4_any s k v w hs hp)
      unfold rAtV gotR at CA
      rw [List.drop_drop] at hcn
      generalize atL (s.data.toList.drop k) v = p at *
      obtain ⟨x, m⟩ := p
      simp only at hbd hcn CA
      obtain ⟨j, hj⟩ : ∃ j : Nat, m = (j : Int) := ⟨m.toNat, by omega⟩
      subst hj
      rw [Int.toNat_natCast] at hcn
      have hj1 : 1 ≤ j := by omega
      have hj2 : k + j ≤ s.size := by omega
      have hxl : (bs x).size ≤ 4 := by rw [bs_size]; omega
      have hxl2 : x.length ≤ 4 := hbd.2.2
      have HCN := hide hcn
      clear hbd hcn hl
      generalize hX : bs acc = X at *
      generalize hY : bs x = Y at *
      have HX := hide hX
      have HY := hide hY
      clear hX hY
      go_wp2_with fail
      refine (unhide CA _).mono ?_
      rintro e w2 ⟨rfl, hb2⟩
      have hb02 := hbw.trans (hb2.mono hzw)
      have hz2 := hb02.size
      go_wp2
      go_roundw
      case rel => exact ⟨k + j, acc ++ x, by omega, by first | rfl | go_num, by rw [← bs_bs, unhide HX, unhide HY], by have := unhide HAL; rw [List.length_append]; omega, by rw [unhide HR, unhide HCN, List.append_assoc], hb02.alloc hz2 _⟩
      case measure => simp [intOf]; omega
    · have hf : allL v s.data.toList = acc := by rw [unhide HR, List.drop_eq_nil_of_le (by rw [data_len]; omega), allL_nil, List.append_nil]
      have HF := hide hf
      clear hf
      go_wp2
      go_ret
      exact ⟨by rw [unhide HF]; rfl, hbw⟩
end Go.Proofs.YtmiehnknnkcdlaaDoor
