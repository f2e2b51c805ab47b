/-
  What 'refs.numberAt' does: the number of the reference with which a text begins, and how many bytes that has.
-/
import Derived.Test.YtakjlolmmoladaaGreatDoorENd
namespace Go.Proofs.YtakjlolmmoladaaGreatDoor
open Go.RowKit
set_option linter.unusedVariables false

set_option maxHeartbeats 10000000 in
theorem num_ten (s : ByteArray) (w : World) (hs : s.size ≤ 9223372036854775000) (hpre : [38, 35].isPrefixOf s.data.toList = true) (h2 : 2 < s.size) (n1 : ¬ dgt s.data.toList 2 = 120) (n2 : ¬ dgt s.data.toList 2 = 88) :
    Calls Tryz.prog 70 #[.string s] w fun e w' => e = .returned (.tuple #[.int .i64 (numEnd s.data.toList 2 (numG 10 0 (s.data.toList.drop 2))).1, .int .i64 (numEnd s.data.toList 2 (numG 10 0 (s.data.toList.drop 2))).2]) ∧ w' = w := by
  have C := hide (pre2 s)
  rw [hpre] at C
  have hl2 := pre2_len hpre
  rw [data_len] at hl2
  have hi : (2 : Int) < (s.size : Int) := by omega
  have e0 := dgt_at s 2 h2
  generalize dgt s.data.toList 2 = b0 at *
  have m1 : ((b0 : Int) == 120) = false := bneI (by omega)
  have m2 : ((b0 : Int) == 88) = false := bneI (by omega)
  clear n1 n2
  clear hpre
  go_enter Tryz.func70, Tryz.ntmps70
  go_wp2_with fail
  refine (unhide C _).mono ?_
  rintro e w1 ⟨rfl, rfl⟩
  go_wp2
  clear e0 m1 m2 hi h2
  go_loopw [6, 7] (fun vn va wr => ∃ (k n : Nat), 2 + k ≤ s.size ∧ n ≤ 1114112 ∧ vn = .int .i64 (n : Int) ∧ va = .int .i64 ((2 : Int) + (k : Int)) ∧ wr = w1 ∧
      numG 10 0 (s.data.toList.drop 2) = ((numG 10 n (s.data.toList.drop (2 + k))).1, k + (numG 10 n (s.data.toList.drop (2 + k))).2)) (fun _ va _ => s.size + 20 - (intOf va).toNat)
  case atStart => exact ⟨0, 0, by omega, by omega, rfl, rfl, rfl, by simp⟩
  case round =>
    obtain ⟨k, n, hk, hn, rfl, rfl, rfl, hr⟩ := hrel
    have HR := hide hr
    clear hr
    have C2 := hide (semi_any (bs (s.data.toList.drop (2 + k))))
    rw [bs_toList] at C2
    have HX := hide (rest_of s (2 + k))
    have hxx := rest_of s (2 + k)
    have hsm := semi_le (s.data.toList.drop (2 + k))
    by_cases hp : 2 + k < s.size
    · have hpi : (2 : Int) + (k : Int) < (s.size : Int) := by omega
      have hle : (2 : Int) + (k : Int) ≤ (s.size : Int) := by omega
      have e := dgt_at s (2 + k) hp
      have hblt := dgt_lt s.data.toList (2 + k)
      have hkl : 2 + k < s.data.toList.length := by rw [data_len]; exact hp
      have g1 := @numG_yes 10 n (2 + k) s.data.toList hkl
      have g2 := @numG_no 10 n (2 + k) s.data.toList hkl
      have CD := hide (fun w => digitOf_any (dgt s.data.toList (2 + k)) w hblt)
      have hdl := digV_le (dgt s.data.toList (2 + k))
      generalize dgt s.data.toList (2 + k) = b at *
      cases hok : digOk 10 b with
      | true =>
        have hd : 0 ≤ digV b ∧ digV b < (10 : Int) := by simpa [digOk] using hok
        have G := hide (g1 hok)
        obtain ⟨d, hdd⟩ : ∃ d : Nat, digV b = (d : Int) := ⟨(digV b).toNat, by omega⟩
        rw [hdd] at CD hd
        rw [hdd, Int.toNat_natCast] at G
        have d0 : (0 : Int) ≤ (d : Int) := by omega
        have d1 : (d : Int) < 10 := by omega
        have d2 : ¬ (10 : Int) ≤ (d : Int) := by omega
        have d3 : decide ((10 : Int) ≤ (d : Int)) = false := decide_eq_false (by omega)
        have d4 : decide ((d : Int) < 0) = false := decide_eq_false (by omega)
        have hmn : min ((n : Int) * 10 + (d : Int)) 1114112 = ((min (n * 10 + d) 1114112 : Nat) : Int) := by omega
        have HM := hide hmn
        have hbd : min (n * 10 + d) 1114112 ≤ 1114112 := by omega
        have hnn : (n : Int) ≤ 1114112 := by omega
        clear g1 g2 hok hdl hdd hmn hsm hxx
        go_wp2_with (go_at_call 89; refine (unhide CD _).mono ?_; rintro e1 w1 ⟨rfl, rfl⟩)
        go_roundw
        case rel => exact ⟨k + 1, min (n * 10 + d) 1114112, by omega, hbd, by rw [← unhide HM], by go_num, by first | exact rfl | trivial, by
          rw [unhide HR, unhide G, show 2 + k + 1 = 2 + (k + 1) from rfl, Nat.add_assoc k 1, Nat.add_comm 1]⟩
        case measure => simp [intOf]; omega
      | false =>
        have hd : ¬ (0 ≤ digV b ∧ digV b < (10 : Int)) := by simpa [digOk] using hok
        have G := g2 hok
        have hfin : numG 10 0 (s.data.toList.drop 2) = (n, k) := by rw [unhide HR, G]; simp
        have HF := hide hfin
        generalize digV b = d at *
        clear g1 g2 hok G hfin
        by_cases hneg : d < 0
        · clear hd hdl
          by_cases hk0 : k = 0
          · subst hk0
            have E := (by rw [unhide HF]; exact numEnd_0 _ _ _ : numEnd s.data.toList 2 (numG 10 0 (s.data.toList.drop 2)) = (0, 0))
            have E1 : Hid ((numEnd s.data.toList 2 (numG 10 0 (s.data.toList.drop 2))).1 = 0) := hide (by rw [E])
            have E2 : Hid ((numEnd s.data.toList 2 (numG 10 0 (s.data.toList.drop 2))).2 = 0) := hide (by rw [E])
            clear E
            go_wp2_with (go_at_call 89; refine (unhide CD _).mono ?_; rintro e1 w1 ⟨rfl, rfl⟩)
            go_ret2
            exact ⟨by rw [unhide E1, unhide E2]; rfl, rfl⟩
          · have E := (by rw [unhide HF]; exact numEnd_1 _ _ _ _ (by omega) : numEnd s.data.toList 2 (numG 10 0 (s.data.toList.drop 2)) = ((n : Int), ((2 + k + semiN (s.data.toList.drop (2 + k)) : Nat) : Int)))
            have E1 : Hid ((numEnd s.data.toList 2 (numG 10 0 (s.data.toList.drop 2))).1 = (n : Int)) := hide (by rw [E])
            have E2 : Hid ((numEnd s.data.toList 2 (numG 10 0 (s.data.toList.drop 2))).2 = (2 : Int) + (k : Int) + (semiN (s.data.toList.drop (2 + k)) : Int)) := hide (by rw [E]; show ((_ : Nat) : Int) = _; omega)
            clear E
            have nk : ((2 : Int) + (k : Int) == 2) = false := beq_eq_false_iff_ne.2 (by omega)
            have nk2 : ¬ k = 0 := hk0
            have nk3 : ¬ (k : Int) = 0 := by omega
            generalize semiN (s.data.toList.drop (2 + k)) = sn at *
            clear hk0
            go_wp2_with (first | (go_at_call 89; refine (unhide CD _).mono ?_; rintro e1 w1 ⟨rfl, rfl⟩) | (go_at_call 90; refine (unhide C2 _).mono ?_; rintro e1 w2 ⟨rfl, rfl⟩))
            go_ret2
            exact ⟨by rw [unhide E1, unhide E2]; rfl, rfl⟩
        have e1 : ¬ d < 0 := hneg
        have e2 : (10 : Int) ≤ d := by omega
        have e3 : d < 16 := by omega
        clear hd hdl hneg
        by_cases hk0 : k = 0
        · subst hk0
          have E := (by rw [unhide HF]; exact numEnd_0 _ _ _ : numEnd s.data.toList 2 (numG 10 0 (s.data.toList.drop 2)) = (0, 0))
          have E1 : Hid ((numEnd s.data.toList 2 (numG 10 0 (s.data.toList.drop 2))).1 = 0) := hide (by rw [E])
          have E2 : Hid ((numEnd s.data.toList 2 (numG 10 0 (s.data.toList.drop 2))).2 = 0) := hide (by rw [E])
          clear E
          go_wp2_with (go_at_call 89; refine (unhide CD _).mono ?_; rintro e1 w1 ⟨rfl, rfl⟩)
          go_ret2
          exact ⟨by rw [unhide E1, unhide E2]; rfl, rfl⟩
        · have E := (by rw [unhide HF]; exact numEnd_1 _ _ _ _ (by omega) : numEnd s.data.toList 2 (numG 10 0 (s.data.toList.drop 2)) = ((n : Int), ((2 + k + semiN (s.data.toList.drop (2 + k)) : Nat) : Int)))
          have E1 : Hid ((numEnd s.data.toList 2 (numG 10 0 (s.data.toList.drop 2))).1 = (n : Int)) := hide (by rw [E])
          have E2 : Hid ((numEnd s.data.toList 2 (numG 10 0 (s.data.toList.drop 2))).2 = (2 : Int) + (k : Int) + (semiN (s.data.toList.drop (2 + k)) : Int)) := hide (by rw [E]; show ((_ : Nat) : Int) = _; omega)
          clear E
          have nk : ((2 : Int) + (k : Int) == 2) = false := beq_eq_false_iff_ne.2 (by omega)
          have nk2 : ¬ k = 0 := hk0
          have nk3 : ¬ (k : Int) = 0 := by omega
          generalize semiN (s.data.toList.drop (2 + k)) = sn at *
          clear hk0
          go_wp2_with (first | (go_at_call 89; refine (unhide CD _).mono ?_; rintro e1 w1 ⟨rfl, rfl⟩) | (go_at_call 90; refine (unhide C2 _).mono ?_; rintro e1 w2 ⟨rfl, rfl⟩))
          go_ret2
          exact ⟨by rw [unhide E1, unhide E2]; rfl, rfl⟩
    · have hpi : ¬ (2 : Int) + (k : Int) < (s.size : Int) := by omega
      have hle : (2 : Int) + (k : Int) ≤ (s.size : Int) := by omega
      have hfin : numG 10 0 (s.data.toList.drop 2) = (n, k) := by rw [unhide HR, numG_end (by rw [data_len]; omega)]; simp
      have HF := hide hfin
      clear hfin
      by_cases hk0 : k = 0
      · subst hk0
        have E := (by rw [unhide HF]; exact numEnd_0 _ _ _ : numEnd s.data.toList 2 (numG 10 0 (s.data.toList.drop 2)) = (0, 0))
        have E1 : Hid ((numEnd s.data.toList 2 (numG 10 0 (s.data.toList.drop 2))).1 = 0) := hide (by rw [E])
        have E2 : Hid ((numEnd s.data.toList 2 (numG 10 0 (s.data.toList.drop 2))).2 = 0) := hide (by rw [E])
        clear E
        go_wp2
        go_ret2
        exact ⟨by rw [unhide E1, unhide E2]; rfl, rfl⟩
      · have E := (by rw [unhide HF]; exact numEnd_1 _ _ _ _ (by omega) : numEnd s.data.toList 2 (numG 10 0 (s.data.toList.drop 2)) = ((n : Int), ((2 + k + semiN (s.data.toList.drop (2 + k)) : Nat) : Int)))
        have E1 : Hid ((numEnd s.data.toList 2 (numG 10 0 (s.data.toList.drop 2))).1 = (n : Int)) := hide (by rw [E])
        have E2 : Hid ((numEnd s.data.toList 2 (numG 10 0 (s.data.toList.drop 2))).2 = (2 : Int) + (k : Int) + (semiN (s.data.toList.drop (2 + k)) : Int)) := hide (by rw [E]; show ((_ : Nat) : Int) = _; omega)
        clear E
        have nk : ((2 : Int) + (k : Int) == 2) = false := beq_eq_false_iff_ne.2 (by omega)
        have nk2 : ¬ k = 0 := hk0
        have nk3 : ¬ (k : Int) = 0 := by omega
        generalize semiN (s.data.toList.drop (2 + k)) = sn at *
        clear hk0
        go_wp2_with (go_at_call 90; refine (unhide C2 _).mono ?_; rintro e1 w2 ⟨rfl, rfl⟩)
        go_ret2
        exact ⟨by rw [unhide E1, unhide E2]; rfl, rfl⟩

end Go.Proofs.YtakjlolmmoladaaGreatDoor
