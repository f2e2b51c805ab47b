/-
  What 'pen.Raw' does, and the reference's.
-/
import Derived.Test.YtmiehnknnkcdlacDoorQPRw
namespace Go.Proofs.YtmiehnknnkcdlacDoor
open Go.RowKit
set_option linter.unusedVariables false

def rawB (l n : List UInt8) : Bool := goodB l && (nameB n && !endB (sepL n) (lowL l))

set_option maxHeartbeats 2000000 in
theorem praw_any (s n : ByteArray) (w : World) (ht : Tabs w) (hm : Mx w) (hs : s.size ≤ 50000) (hz : n.size ≤ 50000) :
    Calls Tryd.prog 20 #[.string s, .string n] w fun e w' => e = .returned (toldV (rawB s.data.toList n.data.toList) s) ∧ Below w.heap.size w w' := by
  have HT := hide ht
  have HM := hide hm
  have CG := hide (fun w h => pgood_any s w h (by omega))
  have CN := hide (fun w => pname_any n w (by omega))
  have CE := hide (fun w h hn => hasEnd_any s n w h hs hz hn)
  have HN := hide (@name_no60 n.data.toList)
  unfold toldV rawB
  generalize goodB s.data.toList = gb at *
  generalize endB (sepL n.data.toList) (lowL s.data.toList) = eb at *
  clear ht hm
  cases gb with
  | false =>
    rw [Bool.false_and, if_neg (by decide), if_neg (by decide)]
    go_enter Tryd.func20, Tryd.ntmps20
    go_wp2_with fail
    refine (unhide CG _ (unhide HT)).mono ?_
    rintro e w1 ⟨rfl, hb1⟩
    go_wp2
    go_ret2
    exact ⟨rfl, hb1⟩
  | true =>
    rw [Bool.true_and]
    cases hnb : nameB n.data.toList with
    | false =>
      rw [hnb] at CN
      rw [Bool.false_and, if_neg (by decide), if_neg (by decide)]
      clear hnb
      go_enter Tryd.func20, Tryd.ntmps20
      go_wp2_with fail
      refine (unhide CG _ (unhide HT)).mono ?_
      rintro e w1 ⟨rfl, hb1⟩
      go_wp2_with fail
      refine (unhide CN _).mono ?_
      rintro e w2 ⟨rfl, hb2⟩
      go_wp2
      go_ret2
      exact ⟨rfl, tr2 hb1 hb2⟩
    | true =>
      rw [hnb] at CN
      have hno := unhide HN hnb
      have CE2 := hide (fun w h => unhide CE w h hno)
      rw [Bool.true_and]
      clear hnb hno
      cases eb with
      | true =>
        rw [if_neg (by decide), if_neg (by decide)]
        go_enter Tryd.func20, Tryd.ntmps20
        go_wp2_with fail
        refine (unhide CG _ (unhide HT)).mono ?_
        rintro e w1 ⟨rfl, hb1⟩
        go_wp2_with fail
        refine (unhide CN _).mono ?_
        rintro e w2 ⟨rfl, hb2⟩
        have hb12 := tr2 hb1 hb2
        go_wp2_with fail
        refine (unhide CE2 _ ((unhide HM).below hb12)).mono ?_
        rintro e w3 ⟨rfl, hb3⟩
        go_wp2
        go_ret2
        exact ⟨rfl, tr2 hb12 hb3⟩
      | false =>
        rw [if_pos (by decide), if_pos (by decide)]
        go_enter Tryd.func20, Tryd.ntmps20
        go_wp2_with fail
        refine (unhide CG _ (unhide HT)).mono ?_
        rintro e w1 ⟨rfl, hb1⟩
        go_wp2_with fail
        refine (unhide CN _).mono ?_
        rintro e w2 ⟨rfl, hb2⟩
        have hb12 := tr2 hb1 hb2
        go_wp2_with fail
        refine (unhide CE2 _ ((unhide HM).below hb12)).mono ?_
        rintro e w3 ⟨rfl, hb3⟩
        go_wp2
        go_ret2
        exact ⟨rfl, tr2 hb12 hb3⟩

theorem rawB_ref (l n : List UInt8) : rawB l n = (nameB n && (goodB l && !endB (sepL n) (lowL l))) := by
  unfold rawB
  cases goodB l <;> cases nameB n <;> rfl

theorem toldV_no (x : ByteArray) : toldV false x = .tuple #[.string ⟨#[]⟩, .int .i64 4] := rfl
set_option maxHeartbeats 4000000 in
theorem rraw6_any (s n : ByteArray) (w : World) (hs : s.size ≤ 50000) (hz : n.size ≤ 50000) :
    Calls Tryd.prog 21 #[.string s, .string n] w fun e w' => e = .returned (toldV (rawB s.data.toList n.data.toList) s) ∧ Below w.heap.size w w' := by
  have CG := hide (fun w => rgood6_any s w (by omega))
  have CN := hide (fun w => rname6_any n w (by omega))
  have CL := hide (fun w => rlower_any s w (by omega))
  rw [rawB_ref]
  generalize nameB n.data.toList = nb at *
  generalize goodB s.data.toList = gb at *
  cases nb with
  | false =>
    rw [Bool.false_and, toldV_no]
    go_enter Tryd.func21, Tryd.ntmps21
    go_wp2_with fail
    refine (unhide CN _).mono ?_
    rintro e w1 ⟨rfl, rfl⟩
    go_wp2
    go_ret2
    exact ⟨rfl, Below.refl _ _⟩
  | true =>
    rw [Bool.true_and]
    cases gb with
    | false =>
      rw [Bool.false_and, toldV_no]
      go_enter Tryd.func21, Tryd.ntmps21
      go_wp2_with fail
      refine (unhide CN _).mono ?_
      rintro e w1 ⟨rfl, rfl⟩
      go_wp2_with fail
      refine (unhide CG _).mono ?_
      rintro e w2 ⟨rfl, hb2⟩
      go_wp2
      go_ret2
      exact ⟨rfl, hb2⟩
    | true =>
      rw [Bool.true_and]
      have hxz : (bs (lowL s.data.toList)).size = s.size := by rw [bs_size, lowL_len, data_len]
      have hxd : (bs (lowL s.data.toList)).data.toList = lowL s.data.toList := bs_toList _
      have hxl : (lowL s.data.toList).length = s.size := by rw [lowL_len, data_len]
      have hsep := sep_bs n
      have hsl : (sepL n.data.toList).length = n.size + 2 := by unfold sepL; rw [List.length_cons, List.length_cons, data_len]
      have hsz : (bs (sepL n.data.toList)).size = n.size + 2 := by rw [bs_size, hsl]
      have hsd : (bs (sepL n.data.toList)).data.toList = sepL n.data.toList := bs_toList _
      have hv0 : endB (sepL n.data.toList) (lowL s.data.toList) = true → toldV (!endB (sepL n.data.toList) (lowL s.data.toList)) s = .tuple #[.string ⟨#[]⟩, .int .i64 4] := fun h => by rw [h]; rfl
      have hv1 : endB (sepL n.data.toList) (lowL s.data.toList) = false → toldV (!endB (sepL n.data.toList) (lowL s.data.toList)) s = .tuple #[.string s, .int .i64 0] := fun h => by rw [h]; rfl
      have V0 := hide hv0
      have V1 := hide hv1
      clear hv0 hv1
      generalize hX : bs (lowL s.data.toList) = X at *
      generalize hS : bs (sepL n.data.toList) = S at *
      generalize lowL s.data.toList = x at *
      generalize sepL n.data.toList = sp at *
      clear hX hS
      go_enter Tryd.func21, Tryd.ntmps21
      go_wp2_with fail
      refine (unhide CN _).mono ?_
      rintro e w1 ⟨rfl, rfl⟩
      go_wp2_with fail
      refine (unhide CG _).mono ?_
      rintro e w2 ⟨rfl, hb2⟩
      go_wp2_with fail
      refine (unhide CL _).mono ?_
      rintro e w3 ⟨rfl, hb3⟩
      have hb13 := tr2 hb2 hb3
      have HB := hide hb13
      clear hb2 hb3 hb13
      go_wp2
      go_loopw [7] (fun i wr => ∃ k : Nat, k ≤ s.size ∧ i = .int .i64 k ∧ endB sp x = endB sp (x.drop k) ∧ wr = w3) (fun i _ => s.size - (intOf i).toNat)
      case atStart => exact ⟨0, Nat.zero_le _, rfl, rfl, rfl⟩
      case round =>
        obtain ⟨k, hk, rfl, hr, rfl⟩ := hrel
        have HR := hide hr
        clear hr
        by_cases hp : k < s.size
        · have hpi : (k : Int) < (s.size : Int) := by omega
          have hst := endB_step sp (l := x) (k := k) (by omega)
          have CA := hide (fun w => at6_any X S (k : Int) w (by omega) (by omega) (by omega) (by omega))
          rw [hxd, hsd] at CA
          have hpre : sp.isPrefixOf (x.drop k) = at6 x sp (k : Int) := by
            by_cases hr : (sp.length : Int) ≤ (x.length : Int) - (k : Int)
            · rw [at6_long ⟨by omega, hr⟩, Int.toNat_natCast]
            · rw [at6_short (fun h => hr h.2)]
              cases e : sp.isPrefixOf (x.drop k) with
              | false => rfl
              | true => have := (List.isPrefixOf_iff_prefix.1 e).length_le; rw [List.length_drop] at this; omega
          rw [hpre] at hst
          clear hpre
          cases ha : at6 x sp (k : Int) with
          | false =>
            rw [ha] at CA hst
            rw [Bool.false_and, Bool.false_or] at hst
            have HST := hide hst
            clear hst ha
            go_wp2_with fail
            refine (unhide CA _).mono ?_
            rintro e w4 ⟨rfl, rfl⟩
            go_wp2
            go_roundw
            case rel => exact ⟨k + 1, by omega, by go_num, by rw [unhide HR, unhide HST], by first | exact rfl | trivial⟩
            case measure => simp [intOf]; omega
          | true =>
            rw [ha] at CA hst
            rw [Bool.true_and] at hst
            clear ha
            by_cases he : k + 2 + n.size < s.size
            · have hei : (k : Int) + 2 + (n.size : Int) < (s.size : Int) := by omega
              have hsh : stopHd (x.drop (k + sp.length)) = stopN (dgt x (k + 2 + n.size)) := by
                rw [stopHd_at (by rw [List.length_drop]; omega), dgt_drop, hsl, show k + (n.size + 2) + 0 = k + 2 + n.size by omega]
              rw [hsh] at hst
              have e0 := dgt_at X (k + 2 + n.size) (by omega)
              rw [hxd] at e0
              have CS := hide (rspace_any (dgt x (k + 2 + n.size)))
              unfold stopN at hst
              clear hsh
              generalize dgt x (k + 2 + n.size) = b at *
              cases hsp : spN b with
              | true =>
                rw [hsp] at CS hst
                rw [Bool.true_or, Bool.true_or] at hst
                have HV := hide (unhide V0 (by rw [unhide HR, hst]))
                clear hst hsp
                go_wp2_with fail
                refine (unhide CA _).mono ?_
                rintro e w4 ⟨rfl, rfl⟩
                go_wp2_with fail
                refine (unhide CS _).mono ?_
                rintro e w4 ⟨rfl, rfl⟩
                go_wp2
                go_ret2
                exact ⟨by rw [unhide HV]; rfl, unhide HB⟩
              | false =>
                rw [hsp] at CS hst
                rw [Bool.false_or] at hst
                clear hsp
                by_cases h47 : b = 47
                · subst h47
                  rw [decide_eq_true rfl, Bool.true_or, Bool.true_or] at hst
                  have HV := hide (unhide V0 (by rw [unhide HR, hst]))
                  clear hst
                  go_wp2_with fail
                  refine (unhide CA _).mono ?_
                  rintro e w4 ⟨rfl, rfl⟩
                  go_wp2_with fail
                  refine (unhide CS _).mono ?_
                  rintro e w4 ⟨rfl, rfl⟩
                  go_wp2
                  go_ret2
                  exact ⟨by rw [unhide HV]; rfl, unhide HB⟩
                have n47 : ((b : Int) == 47) = false := bneI (by omega)
                rw [decide_eq_false h47, Bool.false_or] at hst
                by_cases h62 : b = 62
                · subst h62
                  rw [decide_eq_true rfl, Bool.true_or] at hst
                  have HV := hide (unhide V0 (by rw [unhide HR, hst]))
                  clear hst
                  go_wp2_with fail
                  refine (unhide CA _).mono ?_
                  rintro e w4 ⟨rfl, rfl⟩
                  go_wp2_with fail
                  refine (unhide CS _).mono ?_
                  rintro e w4 ⟨rfl, rfl⟩
                  go_wp2
                  go_ret2
                  exact ⟨by rw [unhide HV]; rfl, unhide HB⟩
                have n62 : ((b : Int) == 62) = false := bneI (by omega)
                rw [decide_eq_false h62, Bool.false_or] at hst
                have HST := hide hst
                clear hst h47 h62
                go_wp2_with fail
                refine (unhide CA _).mono ?_
                rintro e w4 ⟨rfl, rfl⟩
                go_wp2_with fail
                refine (unhide CS _).mono ?_
                rintro e w4 ⟨rfl, rfl⟩
                go_wp2
                go_roundw
                case rel => exact ⟨k + 1, by omega, by go_num, by rw [unhide HR, unhide HST], by first | exact rfl | trivial⟩
                case measure => simp [intOf]; omega
            · have hei : decide ((k : Int) + 2 + (n.size : Int) < (s.size : Int)) = false := decide_eq_false (by omega)
              have hsh : stopHd (x.drop (k + sp.length)) = false := by rw [List.drop_eq_nil_of_le (by omega)]; rfl
              rw [hsh, Bool.false_or] at hst
              have HST := hide hst
              clear hst hsh he
              go_wp2_with fail
              refine (unhide CA _).mono ?_
              rintro e w4 ⟨rfl, rfl⟩
              go_wp2
              go_roundw
              case rel => exact ⟨k + 1, by omega, by go_num, by rw [unhide HR, unhide HST], by first | exact rfl | trivial⟩
              case measure => simp [intOf]; omega
        · have hen : endB sp x = false := by rw [unhide HR, List.drop_eq_nil_of_le (by omega)]; rfl
          have HV := hide (unhide V1 hen)
          clear hen
          go_wp2
          go_ret2
          exact ⟨by rw [unhide HV]; rfl, unhide HB⟩
end Go.Proofs.YtmiehnknnkcdlacDoor
