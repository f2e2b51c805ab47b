/-
  The reference's Split of layer 15: of every address, the parts that the program tells.
-/
import Derived.Test.YtfdhmhdemfbfeaaGreatDoorVRs0
import Derived.Test.YtfdhmhdemfbfeaaGreatDoorVRs1
import Derived.Test.YtfdhmhdemfbfeaaGreatDoorVRs2
import Derived.Test.YtfdhmhdemfbfeaaGreatDoorVRs3
import Derived.Test.YtfdhmhdemfbfeaaGreatDoorMgAJ
namespace Go.Proofs.YtfdhmhdemfbfeaaGreatDoor
open Go.RowKit
set_option linter.unusedVariables false

theorem ex_drop (l : List UInt8) (k : Nat) : (bs l).extract k (bs l).size = bs (l.drop k) := by
  rw [← bs_self ((bs l).extract k (bs l).size), Lib.extract_to_end, bs_toList]
theorem ex_take (l : List UInt8) (k : Nat) : (bs l).extract 0 k = bs (l.take k) := by
  rw [← bs_self ((bs l).extract 0 k), Lib.Pa.extract_upto_list, bs_toList]
theorem ex_mid (l : List UInt8) (a k : Nat) : (bs l).extract a (a + k) = bs ((l.drop a).take k) := by
  rw [extract_take, bs_toList]
theorem hst_iff (l : List UInt8) : hstB l = true ↔ 2 ≤ l.length ∧ l.take 2 = [47, 47] := by
  unfold hstB
  rw [List.isPrefixOf_iff_prefix, List.prefix_iff_eq_take]
  constructor
  · intro h
    have h2 := congrArg List.length h
    simp at h2
    exact ⟨by omega, by simpa using h.symm⟩
  · rintro ⟨h1, h2⟩
    simpa using h2.symm

theorem rsplit_any (s : ByteArray) (w : World) (hs : s.size ≤ 100000) :
    Calls Tryz.prog 60 #[.string s] w fun e w' => e = .returned (.agg (spC (plL s.data.toList))) ∧ Below w.heap.size w w' := by
  have C0 := fun w => vrplain_any s w hs
  have hpl : (plL s.data.toList).length ≤ 100000 := by have := plL_len s.data.toList; rw [data_len] at this; omega
  generalize plL s.data.toList = x at *
  have z1l : (s1 x).length ≤ 100000 := s1_sz hpl
  have z2l : (s2 x).length ≤ 100000 := take_sz z1l
  have z3l : (s3 x).length ≤ 100000 := take_sz z2l
  have z0 : (bs x).size ≤ 100000 := by rw [bs_size]; exact hpl
  have z1 : (bs (s1 x)).size ≤ 100000 := by rw [bs_size]; exact z1l
  have z2 : (bs (s2 x)).size ≤ 100000 := by rw [bs_size]; exact z2l
  have z3 : (bs (s3 x)).size ≤ 100000 := by rw [bs_size]; exact z3l
  have C1 := fun w => rscheme_any (bs x) w (by omega)
  rw [bs_toList] at C1
  have C3 : ∀ w, Calls Tryz.prog 78 #[.string (bs (s1 x)), .int .u8 35, .int .u8 35] w fun e w' => e = .returned (.int .i64 (sM x : Int)) ∧ w' = w := by
    intro w
    have := vfirst_any (bs (s1 x)) 35 35 w (by omega)
    rw [bs_toList] at this
    exact this
  have C4 : ∀ w, Calls Tryz.prog 78 #[.string (bs (s2 x)), .int .u8 63, .int .u8 63] w fun e w' => e = .returned (.int .i64 (sQ x : Int)) ∧ w' = w := by
    intro w
    have := vfirst_any (bs (s2 x)) 63 63 w (by omega)
    rw [bs_toList] at this
    exact this
  have hm := tkN_le (nfN 35 35) (s1 x)
  have hq := tkN_le (nfN 63 63) (s2 x)
  have C5 := fun w => vfirst_any (bs ((s3 x).drop 2)) 47 92 w (by rw [bs_size, List.length_drop]; omega)
  rw [bs_toList] at C5
  have hh := tkN_le (nfN 47 92) ((s3 x).drop 2)
  rw [List.length_drop] at hh
  by_cases hA : 0 < schN x
  · obtain ⟨p1, p2, p3⟩ := schN_parts hA
    have a1 : (0 : Int) < (schN x : Int) := by omega
    have a2 : (schN x : Int) + 1 ≤ ((bs x).size : Int) := by rw [bs_size]; omega
    have a4 : (bs x).extract (schN x + 1) (bs x).size = bs (s1 x) := by rw [ex_drop, s1, if_pos hA]
    have C2 : ∀ w, Calls Tryz.prog 22 #[.string (bs (x.take (schN x)))] w fun e w' => e = .returned (.string (bs (sSc x))) ∧ Below w.heap.size w w' := by
      intro w
      have := rlower_any (bs (x.take (schN x))) w (by rw [bs_size, List.length_take]; omega)
      rw [bs_toList] at this
      rw [sSc, if_pos hA]
      exact this
    have eA : decide (0 < schN x) = true := decide_eq_true hA
    have eS : True := trivial
    have e1 : s1 x = s1 x := rfl
    by_cases hB : sM x < (s1 x).length
    · have b1 : (sM x : Int) + 1 ≤ ((bs (s1 x)).size : Int) := by rw [bs_size]; omega
      have b3 : (bs (s1 x)).extract 0 (sM x) = bs (s2 x) := by rw [ex_take, s2]
      have b2 : (bs (s1 x)).extract (sM x + 1) (bs (s1 x)).size = bs (sMa x) := by rw [ex_drop, sMa]
      have eB : decide (sM x < (s1 x).length) = true := by rw [e1]; exact decide_eq_true hB
      have eM : True := trivial
      have e2 : s2 x = s2 x := rfl
      by_cases hC : sQ x < (s2 x).length
      · have c1 : (sQ x : Int) + 1 ≤ ((bs (s2 x)).size : Int) := by rw [bs_size]; omega
        have c3 : (bs (s2 x)).extract 0 (sQ x) = bs (s3 x) := by rw [ex_take, s3, e2]
        have c2 : (bs (s2 x)).extract (sQ x + 1) (bs (s2 x)).size = bs (sQu x) := by rw [ex_drop, sQu, e2]
        have eC : decide (sQ x < (s2 x).length) = true := by rw [e2]; exact decide_eq_true hC
        have eQ : True := trivial
        have e3 : s3 x = s3 x := rfl
        cases hD : hstB (s3 x) with
        | true =>
          obtain ⟨t1, t2⟩ := (hst_iff _).1 hD
          have d1 : (1 : Int) < ((bs (s3 x)).size : Int) := by rw [bs_size]; omega
          have d3 : ((bs ((s3 x).take 2)).toList == [47, 47]) = true := by rw [t2, Lib.toList_data, bs_toList]; rfl
          have d5 : (2 : Int) + (tkN (nfN 47 92) ((s3 x).drop 2) : Int) ≤ ((bs (s3 x)).size : Int) := by rw [bs_size]; omega
          have d6 : (bs (s3 x)).extract 2 (2 + tkN (nfN 47 92) ((s3 x).drop 2)) = bs (hoL (s3 x)) := by rw [ex_mid, hoL, e3, if_pos hD]
          have d7 : (bs (s3 x)).extract (2 + tkN (nfN 47 92) ((s3 x).drop 2)) (bs (s3 x)).size = bs (paL (s3 x)) := by rw [ex_drop, paL, e3, if_pos hD, List.drop_drop]
          have eD : hstB (s3 x) = true := by rw [e3]; exact hD
          have fin := rsp_1112 s (bs x) (bs (s1 x)) (bs (s2 x)) (bs (s3 x)) (bs (x.take (schN x))) (bs (sSc x)) (bs (sMa x)) (bs (sQu x)) (bs (hoL (s3 x))) (bs (paL (s3 x))) (bs ((s3 x).take 2)) (bs ((s3 x).drop 2)) (schN x) (sM x) (sQ x) (tkN (nfN 47 92) ((s3 x).drop 2)) w z0 z1 z2 z3 C0 C1 a1 a2 (ex_take x (schN x)) a4 C2 C3 b1 b2 b3 C4 c1 c2 c3 d1 (ex_take (s3 x) 2) d3 (ex_drop (s3 x) 2) C5 d5 d6 d7
          unfold spC ptC
          rw [eA, eB, eC, eD]
          first | exact fin | (simp only [] ; exact fin)
        | false =>
          have eD : hstB (s3 x) = false := by rw [e3]; exact hD
          have eH : bs (hoL (s3 x)) = noS := by rw [hoL, eD]; rfl
          have eP : paL (s3 x) = s3 x := by rw [paL, eD, if_neg (by decide), e3]
          by_cases hsz : 1 < (s3 x).length
          · have d1 : (1 : Int) < ((bs (s3 x)).size : Int) := by rw [bs_size]; omega
            have d3 : ((bs ((s3 x).take 2)).toList == [47, 47]) = false := by
              apply beq_eq_false_iff_ne.2
              intro h9
              rw [Lib.toList_data, bs_toList] at h9
              rw [(hst_iff _).2 ⟨by omega, h9⟩] at hD
              cases hD
            have fin := rsp_1111 s (bs x) (bs (s1 x)) (bs (s2 x)) (bs (s3 x)) (bs (x.take (schN x))) (bs (sSc x)) (bs (sMa x)) (bs (sQu x)) (bs (hoL (s3 x))) (bs (paL (s3 x))) (bs ((s3 x).take 2)) (bs ((s3 x).drop 2)) (schN x) (sM x) (sQ x) (tkN (nfN 47 92) ((s3 x).drop 2)) w z0 z1 z2 z3 C0 C1 a1 a2 (ex_take x (schN x)) a4 C2 C3 b1 b2 b3 C4 c1 c2 c3 d1 (ex_take (s3 x) 2) d3
            unfold spC ptC
            rw [eA, eB, eC, eD, eH, eP]
            first | exact fin | (simp only [] ; exact fin)
          · have d1 : ¬ 1 < (bs (s3 x)).size := by rw [bs_size]; omega
            have fin := rsp_1110 s (bs x) (bs (s1 x)) (bs (s2 x)) (bs (s3 x)) (bs (x.take (schN x))) (bs (sSc x)) (bs (sMa x)) (bs (sQu x)) (bs (hoL (s3 x))) (bs (paL (s3 x))) (bs ((s3 x).take 2)) (bs ((s3 x).drop 2)) (schN x) (sM x) (sQ x) (tkN (nfN 47 92) ((s3 x).drop 2)) w z0 z1 z2 z3 C0 C1 a1 a2 (ex_take x (schN x)) a4 C2 C3 b1 b2 b3 C4 c1 c2 c3 d1
            unfold spC ptC
            rw [eA, eB, eC, eD, eH, eP]
            first | exact fin | (simp only [] ; exact fin)
      · have hqq : sQ x = (s2 x).length := by have h9 : sQ x ≤ (s2 x).length := hq; rw [e2] at h9; omega
        have c1 : ¬ sQ x < (bs (s2 x)).size := by rw [bs_size]; omega
        have e3 : s3 x = s2 x := by rw [s3, e2]; exact List.take_of_length_le (by omega)
        have eC : decide (sQ x < (s2 x).length) = false := by rw [e2]; exact decide_eq_false hC
        have eQ : bs (sQu x) = noS := by rw [sQu, e2, List.drop_eq_nil_of_le (by omega)]; rfl
        rw [e3] at C5 hh
        cases hD : hstB (s2 x) with
        | true =>
          obtain ⟨t1, t2⟩ := (hst_iff _).1 hD
          have d1 : (1 : Int) < ((bs (s2 x)).size : Int) := by rw [bs_size]; omega
          have d3 : ((bs ((s2 x).take 2)).toList == [47, 47]) = true := by rw [t2, Lib.toList_data, bs_toList]; rfl
          have d5 : (2 : Int) + (tkN (nfN 47 92) ((s2 x).drop 2) : Int) ≤ ((bs (s2 x)).size : Int) := by rw [bs_size]; omega
          have d6 : (bs (s2 x)).extract 2 (2 + tkN (nfN 47 92) ((s2 x).drop 2)) = bs (hoL (s3 x)) := by rw [ex_mid, hoL, e3, if_pos hD]
          have d7 : (bs (s2 x)).extract (2 + tkN (nfN 47 92) ((s2 x).drop 2)) (bs (s2 x)).size = bs (paL (s3 x)) := by rw [ex_drop, paL, e3, if_pos hD, List.drop_drop]
          have eD : hstB (s3 x) = true := by rw [e3]; exact hD
          have fin := rsp_1102 s (bs x) (bs (s1 x)) (bs (s2 x)) (bs (s2 x)) (bs (x.take (schN x))) (bs (sSc x)) (bs (sMa x)) (bs (sQu x)) (bs (hoL (s3 x))) (bs (paL (s3 x))) (bs ((s2 x).take 2)) (bs ((s2 x).drop 2)) (schN x) (sM x) (sQ x) (tkN (nfN 47 92) ((s2 x).drop 2)) w z0 z1 z2 C0 C1 a1 a2 (ex_take x (schN x)) a4 C2 C3 b1 b2 b3 C4 c1 d1 (ex_take (s2 x) 2) d3 (ex_drop (s2 x) 2) C5 d5 d6 d7
          unfold spC ptC
          rw [eA, eB, eC, eD]
          first | exact fin | (simp only [eQ] ; exact fin)
        | false =>
          have eD : hstB (s3 x) = false := by rw [e3]; exact hD
          have eH : bs (hoL (s3 x)) = noS := by rw [hoL, eD]; rfl
          have eP : paL (s3 x) = s2 x := by rw [paL, eD, if_neg (by decide), e3]
          by_cases hsz : 1 < (s2 x).length
          · have d1 : (1 : Int) < ((bs (s2 x)).size : Int) := by rw [bs_size]; omega
            have d3 : ((bs ((s2 x).take 2)).toList == [47, 47]) = false := by
              apply beq_eq_false_iff_ne.2
              intro h9
              rw [Lib.toList_data, bs_toList] at h9
              rw [(hst_iff _).2 ⟨by omega, h9⟩] at hD
              cases hD
            have fin := rsp_1101 s (bs x) (bs (s1 x)) (bs (s2 x)) (bs (s2 x)) (bs (x.take (schN x))) (bs (sSc x)) (bs (sMa x)) (bs (sQu x)) (bs (hoL (s3 x))) (bs (paL (s3 x))) (bs ((s2 x).take 2)) (bs ((s2 x).drop 2)) (schN x) (sM x) (sQ x) (tkN (nfN 47 92) ((s2 x).drop 2)) w z0 z1 z2 C0 C1 a1 a2 (ex_take x (schN x)) a4 C2 C3 b1 b2 b3 C4 c1 d1 (ex_take (s2 x) 2) d3
            unfold spC ptC
            rw [eA, eB, eC, eD, eH, eP]
            first | exact fin | (simp only [eQ] ; exact fin)
          · have d1 : ¬ 1 < (bs (s2 x)).size := by rw [bs_size]; omega
            have fin := rsp_1100 s (bs x) (bs (s1 x)) (bs (s2 x)) (bs (s2 x)) (bs (x.take (schN x))) (bs (sSc x)) (bs (sMa x)) (bs (sQu x)) (bs (hoL (s3 x))) (bs (paL (s3 x))) (bs ((s2 x).take 2)) (bs ((s2 x).drop 2)) (schN x) (sM x) (sQ x) (tkN (nfN 47 92) ((s2 x).drop 2)) w z0 z1 z2 C0 C1 a1 a2 (ex_take x (schN x)) a4 C2 C3 b1 b2 b3 C4 c1 d1
            unfold spC ptC
            rw [eA, eB, eC, eD, eH, eP]
            first | exact fin | (simp only [eQ] ; exact fin)
    · have hmm : sM x = (s1 x).length := by have h9 : sM x ≤ (s1 x).length := hm; rw [e1] at h9; omega
      have b1 : ¬ sM x < (bs (s1 x)).size := by rw [bs_size]; omega
      have e2 : s2 x = s1 x := by rw [s2, e1]; exact List.take_of_length_le (by omega)
      have eB : decide (sM x < (s1 x).length) = false := by rw [e1]; exact decide_eq_false hB
      have eM : bs (sMa x) = noS := by rw [sMa, e1, List.drop_eq_nil_of_le (by omega)]; rfl
      rw [e2] at C4
      by_cases hC : sQ x < (s1 x).length
      · have c1 : (sQ x : Int) + 1 ≤ ((bs (s1 x)).size : Int) := by rw [bs_size]; omega
        have c3 : (bs (s1 x)).extract 0 (sQ x) = bs (s3 x) := by rw [ex_take, s3, e2]
        have c2 : (bs (s1 x)).extract (sQ x + 1) (bs (s1 x)).size = bs (sQu x) := by rw [ex_drop, sQu, e2]
        have eC : decide (sQ x < (s2 x).length) = true := by rw [e2]; exact decide_eq_true hC
        have eQ : True := trivial
        have e3 : s3 x = s3 x := rfl
        cases hD : hstB (s3 x) with
        | true =>
          obtain ⟨t1, t2⟩ := (hst_iff _).1 hD
          have d1 : (1 : Int) < ((bs (s3 x)).size : Int) := by rw [bs_size]; omega
          have d3 : ((bs ((s3 x).take 2)).toList == [47, 47]) = true := by rw [t2, Lib.toList_data, bs_toList]; rfl
          have d5 : (2 : Int) + (tkN (nfN 47 92) ((s3 x).drop 2) : Int) ≤ ((bs (s3 x)).size : Int) := by rw [bs_size]; omega
          have d6 : (bs (s3 x)).extract 2 (2 + tkN (nfN 47 92) ((s3 x).drop 2)) = bs (hoL (s3 x)) := by rw [ex_mid, hoL, e3, if_pos hD]
          have d7 : (bs (s3 x)).extract (2 + tkN (nfN 47 92) ((s3 x).drop 2)) (bs (s3 x)).size = bs (paL (s3 x)) := by rw [ex_drop, paL, e3, if_pos hD, List.drop_drop]
          have eD : hstB (s3 x) = true := by rw [e3]; exact hD
          have fin := rsp_1012 s (bs x) (bs (s1 x)) (bs (s1 x)) (bs (s3 x)) (bs (x.take (schN x))) (bs (sSc x)) (bs (sMa x)) (bs (sQu x)) (bs (hoL (s3 x))) (bs (paL (s3 x))) (bs ((s3 x).take 2)) (bs ((s3 x).drop 2)) (schN x) (sM x) (sQ x) (tkN (nfN 47 92) ((s3 x).drop 2)) w z0 z1 z3 C0 C1 a1 a2 (ex_take x (schN x)) a4 C2 C3 b1 C4 c1 c2 c3 d1 (ex_take (s3 x) 2) d3 (ex_drop (s3 x) 2) C5 d5 d6 d7
          unfold spC ptC
          rw [eA, eB, eC, eD]
          first | exact fin | (simp only [eM] ; exact fin)
        | false =>
          have eD : hstB (s3 x) = false := by rw [e3]; exact hD
          have eH : bs (hoL (s3 x)) = noS := by rw [hoL, eD]; rfl
          have eP : paL (s3 x) = s3 x := by rw [paL, eD, if_neg (by decide), e3]
          by_cases hsz : 1 < (s3 x).length
          · have d1 : (1 : Int) < ((bs (s3 x)).size : Int) := by rw [bs_size]; omega
            have d3 : ((bs ((s3 x).take 2)).toList == [47, 47]) = false := by
              apply beq_eq_false_iff_ne.2
              intro h9
              rw [Lib.toList_data, bs_toList] at h9
              rw [(hst_iff _).2 ⟨by omega, h9⟩] at hD
              cases hD
            have fin := rsp_1011 s (bs x) (bs (s1 x)) (bs (s1 x)) (bs (s3 x)) (bs (x.take (schN x))) (bs (sSc x)) (bs (sMa x)) (bs (sQu x)) (bs (hoL (s3 x))) (bs (paL (s3 x))) (bs ((s3 x).take 2)) (bs ((s3 x).drop 2)) (schN x) (sM x) (sQ x) (tkN (nfN 47 92) ((s3 x).drop 2)) w z0 z1 z3 C0 C1 a1 a2 (ex_take x (schN x)) a4 C2 C3 b1 C4 c1 c2 c3 d1 (ex_take (s3 x) 2) d3
            unfold spC ptC
            rw [eA, eB, eC, eD, eH, eP]
            first | exact fin | (simp only [eM] ; exact fin)
          · have d1 : ¬ 1 < (bs (s3 x)).size := by rw [bs_size]; omega
            have fin := rsp_1010 s (bs x) (bs (s1 x)) (bs (s1 x)) (bs (s3 x)) (bs (x.take (schN x))) (bs (sSc x)) (bs (sMa x)) (bs (sQu x)) (bs (hoL (s3 x))) (bs (paL (s3 x))) (bs ((s3 x).take 2)) (bs ((s3 x).drop 2)) (schN x) (sM x) (sQ x) (tkN (nfN 47 92) ((s3 x).drop 2)) w z0 z1 z3 C0 C1 a1 a2 (ex_take x (schN x)) a4 C2 C3 b1 C4 c1 c2 c3 d1
            unfold spC ptC
            rw [eA, eB, eC, eD, eH, eP]
            first | exact fin | (simp only [eM] ; exact fin)
      · have hqq : sQ x = (s1 x).length := by have h9 : sQ x ≤ (s2 x).length := hq; rw [e2] at h9; omega
        have c1 : ¬ sQ x < (bs (s1 x)).size := by rw [bs_size]; omega
        have e3 : s3 x = s1 x := by rw [s3, e2]; exact List.take_of_length_le (by omega)
        have eC : decide (sQ x < (s2 x).length) = false := by rw [e2]; exact decide_eq_false hC
        have eQ : bs (sQu x) = noS := by rw [sQu, e2, List.drop_eq_nil_of_le (by omega)]; rfl
        rw [e3] at C5 hh
        cases hD : hstB (s1 x) with
        | true =>
          obtain ⟨t1, t2⟩ := (hst_iff _).1 hD
          have d1 : (1 : Int) < ((bs (s1 x)).size : Int) := by rw [bs_size]; omega
          have d3 : ((bs ((s1 x).take 2)).toList == [47, 47]) = true := by rw [t2, Lib.toList_data, bs_toList]; rfl
          have d5 : (2 : Int) + (tkN (nfN 47 92) ((s1 x).drop 2) : Int) ≤ ((bs (s1 x)).size : Int) := by rw [bs_size]; omega
          have d6 : (bs (s1 x)).extract 2 (2 + tkN (nfN 47 92) ((s1 x).drop 2)) = bs (hoL (s3 x)) := by rw [ex_mid, hoL, e3, if_pos hD]
          have d7 : (bs (s1 x)).extract (2 + tkN (nfN 47 92) ((s1 x).drop 2)) (bs (s1 x)).size = bs (paL (s3 x)) := by rw [ex_drop, paL, e3, if_pos hD, List.drop_drop]
          have eD : hstB (s3 x) = true := by rw [e3]; exact hD
          have fin := rsp_1002 s (bs x) (bs (s1 x)) (bs (s1 x)) (bs (s1 x)) (bs (x.take (schN x))) (bs (sSc x)) (bs (sMa x)) (bs (sQu x)) (bs (hoL (s3 x))) (bs (paL (s3 x))) (bs ((s1 x).take 2)) (bs ((s1 x).drop 2)) (schN x) (sM x) (sQ x) (tkN (nfN 47 92) ((s1 x).drop 2)) w z0 z1 C0 C1 a1 a2 (ex_take x (schN x)) a4 C2 C3 b1 C4 c1 d1 (ex_take (s1 x) 2) d3 (ex_drop (s1 x) 2) C5 d5 d6 d7
          unfold spC ptC
          rw [eA, eB, eC, eD]
          first | exact fin | (simp only [eM, eQ] ; exact fin)
        | false =>
          have eD : hstB (s3 x) = false := by rw [e3]; exact hD
          have eH : bs (hoL (s3 x)) = noS := by rw [hoL, eD]; rfl
          have eP : paL (s3 x) = s1 x := by rw [paL, eD, if_neg (by decide), e3]
          by_cases hsz : 1 < (s1 x).length
          · have d1 : (1 : Int) < ((bs (s1 x)).size : Int) := by rw [bs_size]; omega
            have d3 : ((bs ((s1 x).take 2)).toList == [47, 47]) = false := by
              apply beq_eq_false_iff_ne.2
              intro h9
              rw [Lib.toList_data, bs_toList] at h9
              rw [(hst_iff _).2 ⟨by omega, h9⟩] at hD
              cases hD
            have fin := rsp_1001 s (bs x) (bs (s1 x)) (bs (s1 x)) (bs (s1 x)) (bs (x.take (schN x))) (bs (sSc x)) (bs (sMa x)) (bs (sQu x)) (bs (hoL (s3 x))) (bs (paL (s3 x))) (bs ((s1 x).take 2)) (bs ((s1 x).drop 2)) (schN x) (sM x) (sQ x) (tkN (nfN 47 92) ((s1 x).drop 2)) w z0 z1 C0 C1 a1 a2 (ex_take x (schN x)) a4 C2 C3 b1 C4 c1 d1 (ex_take (s1 x) 2) d3
            unfold spC ptC
            rw [eA, eB, eC, eD, eH, eP]
            first | exact fin | (simp only [eM, eQ] ; exact fin)
          · have d1 : ¬ 1 < (bs (s1 x)).size := by rw [bs_size]; omega
            have fin := rsp_1000 s (bs x) (bs (s1 x)) (bs (s1 x)) (bs (s1 x)) (bs (x.take (schN x))) (bs (sSc x)) (bs (sMa x)) (bs (sQu x)) (bs (hoL (s3 x))) (bs (paL (s3 x))) (bs ((s1 x).take 2)) (bs ((s1 x).drop 2)) (schN x) (sM x) (sQ x) (tkN (nfN 47 92) ((s1 x).drop 2)) w z0 z1 C0 C1 a1 a2 (ex_take x (schN x)) a4 C2 C3 b1 C4 c1 d1
            unfold spC ptC
            rw [eA, eB, eC, eD, eH, eP]
            first | exact fin | (simp only [eM, eQ] ; exact fin)
  · have e1 : s1 x = x := by rw [s1, if_neg hA]
    have n0 : schN x = 0 := by omega
    have eA : decide (0 < schN x) = false := decide_eq_false hA
    have eS : bs (sSc x) = noS := by rw [sSc, if_neg hA]; rfl
    rw [n0] at C1
    rw [e1] at C3
    by_cases hB : sM x < (x).length
    · have b1 : (sM x : Int) + 1 ≤ ((bs (x)).size : Int) := by rw [bs_size]; omega
      have b3 : (bs (x)).extract 0 (sM x) = bs (s2 x) := by rw [ex_take, s2, e1]
      have b2 : (bs x).extract (sM x + 1) (bs x).size = bs (sMa x) := by rw [ex_drop, sMa, e1]
      have eB : decide (sM x < (s1 x).length) = true := by rw [e1]; exact decide_eq_true hB
      have eM : True := trivial
      have e2 : s2 x = s2 x := rfl
      by_cases hC : sQ x < (s2 x).length
      · have c1 : (sQ x : Int) + 1 ≤ ((bs (s2 x)).size : Int) := by rw [bs_size]; omega
        have c3 : (bs (s2 x)).extract 0 (sQ x) = bs (s3 x) := by rw [ex_take, s3, e2]
        have c2 : (bs (s2 x)).extract (sQ x + 1) (bs (s2 x)).size = bs (sQu x) := by rw [ex_drop, sQu, e2]
        have eC : decide (sQ x < (s2 x).length) = true := by rw [e2]; exact decide_eq_true hC
        have eQ : True := trivial
        have e3 : s3 x = s3 x := rfl
        cases hD : hstB (s3 x) with
        | true =>
          obtain ⟨t1, t2⟩ := (hst_iff _).1 hD
          have d1 : (1 : Int) < ((bs (s3 x)).size : Int) := by rw [bs_size]; omega
          have d3 : ((bs ((s3 x).take 2)).toList == [47, 47]) = true := by rw [t2, Lib.toList_data, bs_toList]; rfl
          have d5 : (2 : Int) + (tkN (nfN 47 92) ((s3 x).drop 2) : Int) ≤ ((bs (s3 x)).size : Int) := by rw [bs_size]; omega
          have d6 : (bs (s3 x)).extract 2 (2 + tkN (nfN 47 92) ((s3 x).drop 2)) = bs (hoL (s3 x)) := by rw [ex_mid, hoL, e3, if_pos hD]
          have d7 : (bs (s3 x)).extract (2 + tkN (nfN 47 92) ((s3 x).drop 2)) (bs (s3 x)).size = bs (paL (s3 x)) := by rw [ex_drop, paL, e3, if_pos hD, List.drop_drop]
          have eD : hstB (s3 x) = true := by rw [e3]; exact hD
          have fin := rsp_0112 s (bs x) (bs x) (bs (s2 x)) (bs (s3 x)) (bs (x.take (schN x))) (bs (sSc x)) (bs (sMa x)) (bs (sQu x)) (bs (hoL (s3 x))) (bs (paL (s3 x))) (bs ((s3 x).take 2)) (bs ((s3 x).drop 2)) (schN x) (sM x) (sQ x) (tkN (nfN 47 92) ((s3 x).drop 2)) w z0 z2 z3 C0 C1 C3 b1 b2 b3 C4 c1 c2 c3 d1 (ex_take (s3 x) 2) d3 (ex_drop (s3 x) 2) C5 d5 d6 d7
          unfold spC ptC
          rw [eA, eB, eC, eD]
          first | exact fin | (simp only [eS] ; exact fin)
        | false =>
          have eD : hstB (s3 x) = false := by rw [e3]; exact hD
          have eH : bs (hoL (s3 x)) = noS := by rw [hoL, eD]; rfl
          have eP : paL (s3 x) = s3 x := by rw [paL, eD, if_neg (by decide), e3]
          by_cases hsz : 1 < (s3 x).length
          · have d1 : (1 : Int) < ((bs (s3 x)).size : Int) := by rw [bs_size]; omega
            have d3 : ((bs ((s3 x).take 2)).toList == [47, 47]) = false := by
              apply beq_eq_false_iff_ne.2
              intro h9
              rw [Lib.toList_data, bs_toList] at h9
              rw [(hst_iff _).2 ⟨by omega, h9⟩] at hD
              cases hD
            have fin := rsp_0111 s (bs x) (bs x) (bs (s2 x)) (bs (s3 x)) (bs (x.take (schN x))) (bs (sSc x)) (bs (sMa x)) (bs (sQu x)) (bs (hoL (s3 x))) (bs (paL (s3 x))) (bs ((s3 x).take 2)) (bs ((s3 x).drop 2)) (schN x) (sM x) (sQ x) (tkN (nfN 47 92) ((s3 x).drop 2)) w z0 z2 z3 C0 C1 C3 b1 b2 b3 C4 c1 c2 c3 d1 (ex_take (s3 x) 2) d3
            unfold spC ptC
            rw [eA, eB, eC, eD, eH, eP]
            first | exact fin | (simp only [eS] ; exact fin)
          · have d1 : ¬ 1 < (bs (s3 x)).size := by rw [bs_size]; omega
            have fin := rsp_0110 s (bs x) (bs x) (bs (s2 x)) (bs (s3 x)) (bs (x.take (schN x))) (bs (sSc x)) (bs (sMa x)) (bs (sQu x)) (bs (hoL (s3 x))) (bs (paL (s3 x))) (bs ((s3 x).take 2)) (bs ((s3 x).drop 2)) (schN x) (sM x) (sQ x) (tkN (nfN 47 92) ((s3 x).drop 2)) w z0 z2 z3 C0 C1 C3 b1 b2 b3 C4 c1 c2 c3 d1
            unfold spC ptC
            rw [eA, eB, eC, eD, eH, eP]
            first | exact fin | (simp only [eS] ; exact fin)
      · have hqq : sQ x = (s2 x).length := by have h9 : sQ x ≤ (s2 x).length := hq; rw [e2] at h9; omega
        have c1 : ¬ sQ x < (bs (s2 x)).size := by rw [bs_size]; omega
        have e3 : s3 x = s2 x := by rw [s3, e2]; exact List.take_of_length_le (by omega)
        have eC : decide (sQ x < (s2 x).length) = false := by rw [e2]; exact decide_eq_false hC
        have eQ : bs (sQu x) = noS := by rw [sQu, e2, List.drop_eq_nil_of_le (by omega)]; rfl
        rw [e3] at C5 hh
        cases hD : hstB (s2 x) with
        | true =>
          obtain ⟨t1, t2⟩ := (hst_iff _).1 hD
          have d1 : (1 : Int) < ((bs (s2 x)).size : Int) := by rw [bs_size]; omega
          have d3 : ((bs ((s2 x).take 2)).toList == [47, 47]) = true := by rw [t2, Lib.toList_data, bs_toList]; rfl
          have d5 : (2 : Int) + (tkN (nfN 47 92) ((s2 x).drop 2) : Int) ≤ ((bs (s2 x)).size : Int) := by rw [bs_size]; omega
          have d6 : (bs (s2 x)).extract 2 (2 + tkN (nfN 47 92) ((s2 x).drop 2)) = bs (hoL (s3 x)) := by rw [ex_mid, hoL, e3, if_pos hD]
          have d7 : (bs (s2 x)).extract (2 + tkN (nfN 47 92) ((s2 x).drop 2)) (bs (s2 x)).size = bs (paL (s3 x)) := by rw [ex_drop, paL, e3, if_pos hD, List.drop_drop]
          have eD : hstB (s3 x) = true := by rw [e3]; exact hD
          have fin := rsp_0102 s (bs x) (bs x) (bs (s2 x)) (bs (s2 x)) (bs (x.take (schN x))) (bs (sSc x)) (bs (sMa x)) (bs (sQu x)) (bs (hoL (s3 x))) (bs (paL (s3 x))) (bs ((s2 x).take 2)) (bs ((s2 x).drop 2)) (schN x) (sM x) (sQ x) (tkN (nfN 47 92) ((s2 x).drop 2)) w z0 z2 C0 C1 C3 b1 b2 b3 C4 c1 d1 (ex_take (s2 x) 2) d3 (ex_drop (s2 x) 2) C5 d5 d6 d7
          unfold spC ptC
          rw [eA, eB, eC, eD]
          first | exact fin | (simp only [eS, eQ] ; exact fin)
        | false =>
          have eD : hstB (s3 x) = false := by rw [e3]; exact hD
          have eH : bs (hoL (s3 x)) = noS := by rw [hoL, eD]; rfl
          have eP : paL (s3 x) = s2 x := by rw [paL, eD, if_neg (by decide), e3]
          by_cases hsz : 1 < (s2 x).length
          · have d1 : (1 : Int) < ((bs (s2 x)).size : Int) := by rw [bs_size]; omega
            have d3 : ((bs ((s2 x).take 2)).toList == [47, 47]) = false := by
              apply beq_eq_false_iff_ne.2
              intro h9
              rw [Lib.toList_data, bs_toList] at h9
              rw [(hst_iff _).2 ⟨by omega, h9⟩] at hD
              cases hD
            have fin := rsp_0101 s (bs x) (bs x) (bs (s2 x)) (bs (s2 x)) (bs (x.take (schN x))) (bs (sSc x)) (bs (sMa x)) (bs (sQu x)) (bs (hoL (s3 x))) (bs (paL (s3 x))) (bs ((s2 x).take 2)) (bs ((s2 x).drop 2)) (schN x) (sM x) (sQ x) (tkN (nfN 47 92) ((s2 x).drop 2)) w z0 z2 C0 C1 C3 b1 b2 b3 C4 c1 d1 (ex_take (s2 x) 2) d3
            unfold spC ptC
            rw [eA, eB, eC, eD, eH, eP]
            first | exact fin | (simp only [eS, eQ] ; exact fin)
          · have d1 : ¬ 1 < (bs (s2 x)).size := by rw [bs_size]; omega
            have fin := rsp_0100 s (bs x) (bs x) (bs (s2 x)) (bs (s2 x)) (bs (x.take (schN x))) (bs (sSc x)) (bs (sMa x)) (bs (sQu x)) (bs (hoL (s3 x))) (bs (paL (s3 x))) (bs ((s2 x).take 2)) (bs ((s2 x).drop 2)) (schN x) (sM x) (sQ x) (tkN (nfN 47 92) ((s2 x).drop 2)) w z0 z2 C0 C1 C3 b1 b2 b3 C4 c1 d1
            unfold spC ptC
            rw [eA, eB, eC, eD, eH, eP]
            first | exact fin | (simp only [eS, eQ] ; exact fin)
    · have hmm : sM x = (x).length := by have h9 : sM x ≤ (s1 x).length := hm; rw [e1] at h9; omega
      have b1 : ¬ sM x < (bs (x)).size := by rw [bs_size]; omega
      have e2 : s2 x = x := by rw [s2, e1]; exact List.take_of_length_le (by omega)
      have eB : decide (sM x < (s1 x).length) = false := by rw [e1]; exact decide_eq_false hB
      have eM : bs (sMa x) = noS := by rw [sMa, e1, List.drop_eq_nil_of_le (by omega)]; rfl
      rw [e2] at C4
      by_cases hC : sQ x < (x).length
      · have c1 : (sQ x : Int) + 1 ≤ ((bs (x)).size : Int) := by rw [bs_size]; omega
        have c3 : (bs (x)).extract 0 (sQ x) = bs (s3 x) := by rw [ex_take, s3, e2]
        have c2 : (bs (x)).extract (sQ x + 1) (bs (x)).size = bs (sQu x) := by rw [ex_drop, sQu, e2]
        have eC : decide (sQ x < (s2 x).length) = true := by rw [e2]; exact decide_eq_true hC
        have eQ : True := trivial
        have e3 : s3 x = s3 x := rfl
        cases hD : hstB (s3 x) with
        | true =>
          obtain ⟨t1, t2⟩ := (hst_iff _).1 hD
          have d1 : (1 : Int) < ((bs (s3 x)).size : Int) := by rw [bs_size]; omega
          have d3 : ((bs ((s3 x).take 2)).toList == [47, 47]) = true := by rw [t2, Lib.toList_data, bs_toList]; rfl
          have d5 : (2 : Int) + (tkN (nfN 47 92) ((s3 x).drop 2) : Int) ≤ ((bs (s3 x)).size : Int) := by rw [bs_size]; omega
          have d6 : (bs (s3 x)).extract 2 (2 + tkN (nfN 47 92) ((s3 x).drop 2)) = bs (hoL (s3 x)) := by rw [ex_mid, hoL, e3, if_pos hD]
          have d7 : (bs (s3 x)).extract (2 + tkN (nfN 47 92) ((s3 x).drop 2)) (bs (s3 x)).size = bs (paL (s3 x)) := by rw [ex_drop, paL, e3, if_pos hD, List.drop_drop]
          have eD : hstB (s3 x) = true := by rw [e3]; exact hD
          have fin := rsp_0012 s (bs x) (bs x) (bs x) (bs (s3 x)) (bs (x.take (schN x))) (bs (sSc x)) (bs (sMa x)) (bs (sQu x)) (bs (hoL (s3 x))) (bs (paL (s3 x))) (bs ((s3 x).take 2)) (bs ((s3 x).drop 2)) (schN x) (sM x) (sQ x) (tkN (nfN 47 92) ((s3 x).drop 2)) w z0 z3 C0 C1 C3 b1 C4 c1 c2 c3 d1 (ex_take (s3 x) 2) d3 (ex_drop (s3 x) 2) C5 d5 d6 d7
          unfold spC ptC
          rw [eA, eB, eC, eD]
          first | exact fin | (simp only [eS, eM] ; exact fin)
        | false =>
          have eD : hstB (s3 x) = false := by rw [e3]; exact hD
          have eH : bs (hoL (s3 x)) = noS := by rw [hoL, eD]; rfl
          have eP : paL (s3 x) = s3 x := by rw [paL, eD, if_neg (by decide), e3]
          by_cases hsz : 1 < (s3 x).length
          · have d1 : (1 : Int) < ((bs (s3 x)).size : Int) := by rw [bs_size]; omega
            have d3 : ((bs ((s3 x).take 2)).toList == [47, 47]) = false := by
              apply beq_eq_false_iff_ne.2
              intro h9
              rw [Lib.toList_data, bs_toList] at h9
              rw [(hst_iff _).2 ⟨by omega, h9⟩] at hD
              cases hD
            have fin := rsp_0011 s (bs x) (bs x) (bs x) (bs (s3 x)) (bs (x.take (schN x))) (bs (sSc x)) (bs (sMa x)) (bs (sQu x)) (bs (hoL (s3 x))) (bs (paL (s3 x))) (bs ((s3 x).take 2)) (bs ((s3 x).drop 2)) (schN x) (sM x) (sQ x) (tkN (nfN 47 92) ((s3 x).drop 2)) w z0 z3 C0 C1 C3 b1 C4 c1 c2 c3 d1 (ex_take (s3 x) 2) d3
            unfold spC ptC
            rw [eA, eB, eC, eD, eH, eP]
            first | exact fin | (simp only [eS, eM] ; exact fin)
          · have d1 : ¬ 1 < (bs (s3 x)).size := by rw [bs_size]; omega
            have fin := rsp_0010 s (bs x) (bs x) (bs x) (bs (s3 x)) (bs (x.take (schN x))) (bs (sSc x)) (bs (sMa x)) (bs (sQu x)) (bs (hoL (s3 x))) (bs (paL (s3 x))) (bs ((s3 x).take 2)) (bs ((s3 x).drop 2)) (schN x) (sM x) (sQ x) (tkN (nfN 47 92) ((s3 x).drop 2)) w z0 z3 C0 C1 C3 b1 C4 c1 c2 c3 d1
            unfold spC ptC
            rw [eA, eB, eC, eD, eH, eP]
            first | exact fin | (simp only [eS, eM] ; exact fin)
      · have hqq : sQ x = (x).length := by have h9 : sQ x ≤ (s2 x).length := hq; rw [e2] at h9; omega
        have c1 : ¬ sQ x < (bs (x)).size := by rw [bs_size]; omega
        have e3 : s3 x = x := by rw [s3, e2]; exact List.take_of_length_le (by omega)
        have eC : decide (sQ x < (s2 x).length) = false := by rw [e2]; exact decide_eq_false hC
        have eQ : bs (sQu x) = noS := by rw [sQu, e2, List.drop_eq_nil_of_le (by omega)]; rfl
        rw [e3] at C5 hh
        cases hD : hstB (x) with
        | true =>
          obtain ⟨t1, t2⟩ := (hst_iff _).1 hD
          have d1 : (1 : Int) < ((bs (x)).size : Int) := by rw [bs_size]; omega
          have d3 : ((bs ((x).take 2)).toList == [47, 47]) = true := by rw [t2, Lib.toList_data, bs_toList]; rfl
          have d5 : (2 : Int) + (tkN (nfN 47 92) ((x).drop 2) : Int) ≤ ((bs (x)).size : Int) := by rw [bs_size]; omega
          have d6 : (bs (x)).extract 2 (2 + tkN (nfN 47 92) ((x).drop 2)) = bs (hoL (s3 x)) := by rw [ex_mid, hoL, e3, if_pos hD]
          have d7 : (bs (x)).extract (2 + tkN (nfN 47 92) ((x).drop 2)) (bs (x)).size = bs (paL (s3 x)) := by rw [ex_drop, paL, e3, if_pos hD, List.drop_drop]
          have eD : hstB (s3 x) = true := by rw [e3]; exact hD
          have fin := rsp_0002 s (bs x) (bs x) (bs x) (bs x) (bs (x.take (schN x))) (bs (sSc x)) (bs (sMa x)) (bs (sQu x)) (bs (hoL (s3 x))) (bs (paL (s3 x))) (bs ((x).take 2)) (bs ((x).drop 2)) (schN x) (sM x) (sQ x) (tkN (nfN 47 92) ((x).drop 2)) w z0 C0 C1 C3 b1 C4 c1 d1 (ex_take (x) 2) d3 (ex_drop (x) 2) C5 d5 d6 d7
          unfold spC ptC
          rw [eA, eB, eC, eD]
          first | exact fin | (simp only [eS, eM, eQ] ; exact fin)
        | false =>
          have eD : hstB (s3 x) = false := by rw [e3]; exact hD
          have eH : bs (hoL (s3 x)) = noS := by rw [hoL, eD]; rfl
          have eP : paL (s3 x) = x := by rw [paL, eD, if_neg (by decide), e3]
          by_cases hsz : 1 < (x).length
          · have d1 : (1 : Int) < ((bs (x)).size : Int) := by rw [bs_size]; omega
            have d3 : ((bs ((x).take 2)).toList == [47, 47]) = false := by
              apply beq_eq_false_iff_ne.2
              intro h9
              rw [Lib.toList_data, bs_toList] at h9
              rw [(hst_iff _).2 ⟨by omega, h9⟩] at hD
              cases hD
            have fin := rsp_0001 s (bs x) (bs x) (bs x) (bs x) (bs (x.take (schN x))) (bs (sSc x)) (bs (sMa x)) (bs (sQu x)) (bs (hoL (s3 x))) (bs (paL (s3 x))) (bs ((x).take 2)) (bs ((x).drop 2)) (schN x) (sM x) (sQ x) (tkN (nfN 47 92) ((x).drop 2)) w z0 C0 C1 C3 b1 C4 c1 d1 (ex_take (x) 2) d3
            unfold spC ptC
            rw [eA, eB, eC, eD, eH, eP]
            first | exact fin | (simp only [eS, eM, eQ] ; exact fin)
          · have d1 : ¬ 1 < (bs (x)).size := by rw [bs_size]; omega
            have fin := rsp_0000 s (bs x) (bs x) (bs x) (bs x) (bs (x.take (schN x))) (bs (sSc x)) (bs (sMa x)) (bs (sQu x)) (bs (hoL (s3 x))) (bs (paL (s3 x))) (bs ((x).take 2)) (bs ((x).drop 2)) (schN x) (sM x) (sQ x) (tkN (nfN 47 92) ((x).drop 2)) w z0 C0 C1 C3 b1 C4 c1 d1
            unfold spC ptC
            rw [eA, eB, eC, eD, eH, eP]
            first | exact fin | (simp only [eS, eM, eQ] ; exact fin)
end Go.Proofs.YtfdhmhdemfbfeaaGreatDoor
