/-
  What the reference's 'named' does: a reference by a name, as long as it may be.
-/
import Derived.Test.YtmiehnknnkcdlaaDoorFLo
import Derived.Test.YtmiehnknnkcdlaaDoorEEp
namespace Go.Proofs.YtmiehnknnkcdlaaDoor
open Go.RowKit
set_option linter.unusedVariables false

def refV (i : Nat) (r : Option (Int × Nat)) : Value := match r with | none => gotR [] (-1) | some (c, n) => gotR (ub c) ((i : Int) + (n : Int))
theorem onB_at (l : List UInt8) (q : Nat) : onB (l.drop q) = (decide (atB l q = 61) || (ltN (atB l q) || dgN (atB l q))) := by
  unfold onB atB
  rw [dgt_drop, Nat.add_zero, List.length_drop]
  by_cases h : q < l.length
  · rw [if_pos h, decide_eq_true (show 0 < l.length - q by omega), Bool.true_and]
    cases ltN (dgt l q) <;> cases dgN (dgt l q) <;> cases decide (dgt l q = 61) <;> rfl
  · rw [if_neg h, decide_eq_false (show ¬ 0 < l.length - q by omega)]; rfl
theorem hit_short {m : List UInt8} {v : Bool} {n : Nat} (h : m.length < n + 1) : refF m v (n + 1) = refF m v n := by
  rw [refF]
  have h1 : hitS m (n + 1) = false := decide_eq_false (fun x => by have := x.1; omega)
  have h2 : hitB m v (n + 1) = false := decide_eq_false (fun x => by have := x.1; omega)
  rw [h1, h2]; rfl
theorem hit_S {m : List UInt8} {v : Bool} {n : Nat} (h : n + 1 ≤ m.length) (h1 : dgt m n = 59) (h2 : nameC (m.take n) ≠ 0) : refF m v (n + 1) = some (nameC (m.take n), n + 1) := by
  rw [refF]
  have : hitS m (n + 1) = true := decide_eq_true ⟨h, h1, h2⟩
  rw [this]; rfl
theorem hit_B {m : List UInt8} {v : Bool} {n : Nat} (h : n + 1 ≤ m.length) (h1 : ¬ (dgt m n = 59 ∧ nameC (m.take n) ≠ 0)) (h2 : looseB (m.take (n + 1)) = true) (h3 : (v && onB (m.drop (n + 1))) = false) : refF m v (n + 1) = some (nameC (m.take (n + 1)), n + 1) := by
  rw [refF]
  have e1 : hitS m (n + 1) = false := decide_eq_false (fun x => h1 x.2)
  have e2 : hitB m v (n + 1) = true := decide_eq_true ⟨h, h2, by rw [← Bool.and_eq_true, h3]; decide⟩
  rw [e1, e2]; rfl
theorem hit_no {m : List UInt8} {v : Bool} {n : Nat} (h1 : ¬ (dgt m n = 59 ∧ nameC (m.take n) ≠ 0)) (h2 : looseB (m.take (n + 1)) = false ∨ (v && onB (m.drop (n + 1))) = true) : refF m v (n + 1) = refF m v n := by
  rw [refF]
  have e1 : hitS m (n + 1) = false := decide_eq_false (fun x => h1 x.2)
  have e2 : hitB m v (n + 1) = false := decide_eq_false (fun x => by
    rcases h2 with h2 | h2
    · rw [h2] at x; exact absurd x.2.1 (by decide)
    · rw [Bool.and_eq_true] at h2; exact x.2.2 h2)
  rw [e1, e2]; rfl

set_option maxHeartbeats 8000000 in
set_option maxRecDepth 100000 in
theorem named_is (s : ByteArray) (i : Nat) (v : Bool) (m : List UInt8) (hm : s.data.toList.drop i = m) (w : World) (hs : s.size ≤ 100000) (hi : i ≤ s.size) :
    Calls Tryd.prog 29 #[.string s, .int .i64 (i : Int), .bool v] w fun e w' => e = .returned (refV i (refL m v)) ∧ Below w.heap.size w w' := by
  have HM := hide hm
  clear hm
  go_enter Tryd.func29, Tryd.ntmps29
  go_wp2
  go_loopw [7] (fun a wr => ∃ k : Nat, k ≤ 7 ∧ a = .int .i64 (k : Int) ∧ refL m v = refF m v k ∧ Below (w.alloc (.cells #[.string ⟨#[]⟩, .int .i64 0] 26)).heap.size (w.alloc (.cells #[.string ⟨#[]⟩, .int .i64 0] 26)) wr) (fun a _ => (intOf a).toNat)
  case atStart => exact ⟨7, Nat.le_refl _, rfl, rfl, Below.refl _ _⟩
  case round =>
    obtain ⟨k, hk, rfl, hr, hbw⟩ := hrel
    have hzw : w.heap.size < wr.heap.size := by have := hbw.size; simp at this; omega
    cases k with
    | zero =>
      have HR := hide hr
      obtain ⟨hc, hf⟩ := bcell hbw
      clear hr
      go_wp2
      exact bodyPost_ret (v := gotR [] (-1)) (by simp [results, Tryd.results29, go_sem, gotR, bs, hc]) rfl ⟨by rw [unhide HR]; rfl, ((bel_of hbw).setCell (by simp) _).setCell (by simp) _⟩
    | succ j =>
      have hml : m.length = s.size - i := by rw [← unhide HM, List.length_drop, data_len]
      by_cases hlen : s.size - i < j + 1
      · have hsh := hit_short (v := v) (m := m) (n := j) (by omega)
        rw [hsh] at hr
        have HR := hide hr
        have hli : (s.size : Int) - (i : Int) < (j : Int) + 1 := by omega
        clear hr hsh
        go_wp2
        go_roundw
        case rel => exact ⟨j, by omega, by first | rfl | (congr 1; omega) | go_num, unhide HR, hbw⟩
        case measure => simp [intOf]
      · have hli : ¬ (s.size : Int) - (i : Int) < (j : Int) + 1 := by omega
        have hlo : (i : Int) + ((j : Int) + 1) ≤ (s.size : Int) := by omega
        obtain ⟨y, hy⟩ : ∃ y, s.extract i (i + (j + 1)) = y := ⟨_, rfl⟩
        have hyl : y.data.toList = m.take (j + 1) := by rw [← hy, extract_take, bs_toList, unhide HM]
        have hyz : y.size = j + 1 := by rw [← data_len, hyl, List.length_take, hml]; omega
        have hy0 : (y.extract 0 j).data.toList = m.take j := by
          rw [cut_ex, bs_toList, hyl, List.drop_zero, List.take_take]; congr 1; omega
        have e0 := dgt_at y j (by omega)
        have hdm : dgt y.data.toList j = dgt m j := by
          rw [hyl]; unfold dgt; rw [List.getD, List.getD, List.getElem?_take, if_pos (by omega)]
        rw [hdm] at e0
        have CA := hide (fun w => rat_at s (i + (j + 1)) w (by omega) (by omega))
        have hon := onB_at s.data.toList (i + (j + 1))
        rw [← List.drop_drop, unhide HM] at hon
        have CN1 := hide (fun w => rname_any (y.extract 0 j) w)
        rw [hy0] at CN1
        have CN2 := hide (fun w => rname_any y w)
        have CO := hide (fun w => rloose_any y w)
        rw [hyl] at CN2 CO
        have CB1 := hide (fun w h => rbytes_char (nameC (m.take j)) w (name_char h))
        have CB2 := hide (fun w h => rbytes_char (nameC (m.take (j + 1))) w (loose_char h))
        have hS := hit_S (v := v) (m := m) (n := j) (by omega)
        have hB := hit_B (v := v) (m := m) (n := j) (by omega)
        have hN := hit_no (v := v) (m := m) (n := j)
        have CL := hide (rletter_any (atB s.data.toList (i + (j + 1))))
        have CD := hide (rdigit_any (atB s.data.toList (i + (j + 1))))
        rw [hon] at hB hN
        have HR := hide hr
        clear hr hon hdm hyl hy0 hml
        generalize dgt m j = b at *
        generalize nameC (m.take j) = c1 at *
        generalize nameC (m.take (j + 1)) = c2 at *
        generalize looseB (m.take (j + 1)) = ob at *
        generalize atB s.data.toList (i + (j + 1)) = ab at *
        generalize ltN ab = lb at *
        generalize dgN ab = db at *
        have hy' : s.extract i (i + j + 1) = y := hy
        rw [Int.natCast_add, Int.natCast_add] at CA
        by_cases hA : b = 59 ∧ c1 ≠ 0
        · obtain ⟨hb59, hc1⟩ := hA
          subst hb59
          have HV := hide (hS rfl hc1)
          have CB := hide (fun w => unhide CB1 w hc1)
          have nc1 : (c1 != 0) = true := by simpa using hc1
          have nc1' : (c1 == 0) = false := by simpa using hc1
          clear hS hB hN CB1 CB2 CO CA CL CD CN2 hc1
          go_wp2_with fail
          refine (unhide CN1 _).mono ?_
          rintro e1 w2 ⟨rfl, hb_w2⟩
          go_wp2_with fail
          refine (unhide CN1 _).mono ?_
          rintro e1 w3 ⟨rfl, hb_w3⟩
          go_wp2_with fail
          refine (unhide CB _).mono ?_
          rintro e1 w4 ⟨rfl, hb_w4⟩
          have hbz := hbw
          have hbz := tr2 hbz hb_w2
          have hbz := tr2 hbz hb_w3
          have hbz := tr2 hbz hb_w4
          have hz : w.heap.size < w4.heap.size := by have := hbz.size; simp at this; omega
          obtain ⟨hc, hf⟩ := bcell hbz
          go_wp2
          exact bodyPost_ret (v := gotR (ub c1) ((i : Int) + ((j : Int) + 1))) (by simp [results, Tryd.results29, go_sem, gotR, hc, str_ub]) rfl ⟨by rw [unhide HR, unhide HV]; rfl, ((bel_of hbz).setCell (by simp) _).setCell (by simp) _⟩
        have hN' := hN hA
        have hB' := hB hA
        clear hS hB hN CB1
        by_cases h59 : ¬ b = 59
        · have n59 : ((b : Int) == 59) = false := bneI (by omega)
          clear hA h59 CN1
          cases v with
          | false =>
            rw [Bool.false_and] at hN' hB'
            clear CL CD
            cases ob with
            | false =>
              have HV := hide (hN' (.inl rfl))
              clear hN' hB' CB2 CN2
              go_wp2_with fail
              refine (unhide CA _).mono ?_
              rintro e1 w5 ⟨rfl, rfl⟩
              go_wp2_with fail
              refine (unhide CO _).mono ?_
              rintro e1 w7 ⟨rfl, hb_w7⟩
              have hbz := hbw
              have hbz := tr2 hbz hb_w7
              go_wp2
              go_roundw
              case rel => exact ⟨j, by omega, by first | rfl | (congr 1; omega) | go_num, by rw [unhide HR, unhide HV], hbz⟩
              case measure => simp [intOf]
            | true =>
              have HV := hide (hB' rfl rfl)
              have CB := hide (fun w => unhide CB2 w rfl)
              clear hN' hB' CB2
              go_wp2_with fail
              refine (unhide CA _).mono ?_
              rintro e1 w5 ⟨rfl, rfl⟩
              go_wp2_with fail
              refine (unhide CO _).mono ?_
              rintro e1 w7 ⟨rfl, hb_w7⟩
              go_wp2_with fail
              refine (unhide CN2 _).mono ?_
              rintro e1 w8 ⟨rfl, hb_w8⟩
              go_wp2_with fail
              refine (unhide CB _).mono ?_
              rintro e1 w9 ⟨rfl, hb_w9⟩
              have hbz := hbw
              have hbz := tr2 hbz hb_w7
              have hbz := tr2 hbz hb_w8
              have hbz := tr2 hbz hb_w9
              have hz : w.heap.size < w9.heap.size := by have := hbz.size; simp at this; omega
              obtain ⟨hc, hf⟩ := bcell hbz
              go_wp2
              exact bodyPost_ret (v := gotR (ub c2) ((i : Int) + ((j : Int) + 1))) (by simp [results, Tryd.results29, go_sem, gotR, hc, str_ub]) rfl ⟨by rw [unhide HR, unhide HV]; rfl, ((bel_of hbz).setCell (by simp) _).setCell (by simp) _⟩
          | true =>
            rw [Bool.true_and] at hN' hB'
            by_cases h61 : ab = 61
            · subst h61
              rw [decide_eq_true rfl, Bool.true_or] at hN' hB'
              clear CL CD
              cases ob with
              | false =>
                have HV := hide (hN' (.inl rfl))
                clear hN' hB' CB2 CN2
                go_wp2_with fail
                refine (unhide CA _).mono ?_
                rintro e1 w5 ⟨rfl, rfl⟩
                go_wp2_with fail
                refine (unhide CO _).mono ?_
                rintro e1 w7 ⟨rfl, hb_w7⟩
                have hbz := hbw
                have hbz := tr2 hbz hb_w7
                go_wp2
                go_roundw
                case rel => exact ⟨j, by omega, by first | rfl | (congr 1; omega) | go_num, by rw [unhide HR, unhide HV], hbz⟩
                case measure => simp [intOf]
              | true =>
                have HV := hide (hN' (.inr rfl))
                clear hN' hB' CB2 CN2
                go_wp2_with fail
                refine (unhide CA _).mono ?_
                rintro e1 w5 ⟨rfl, rfl⟩
                go_wp2_with fail
                refine (unhide CO _).mono ?_
                rintro e1 w7 ⟨rfl, hb_w7⟩
                have hbz := hbw
                have hbz := tr2 hbz hb_w7
                go_wp2
                go_roundw
                case rel => exact ⟨j, by omega, by first | rfl | (congr 1; omega) | go_num, by rw [unhide HR, unhide HV], hbz⟩
                case measure => simp [intOf]
            · have n61 : ((ab : Int) == 61) = false := bneI (by omega)
              rw [decide_eq_false h61, Bool.false_or] at hN' hB'
              clear h61
              cases lb with
              | true =>
                rw [Bool.true_or] at hN' hB'
                clear CD
                cases ob with
                | false =>
                  have HV := hide (hN' (.inl rfl))
                  clear hN' hB' CB2 CN2
                  go_wp2_with fail
                  refine (unhide CA _).mono ?_
                  rintro e1 w5 ⟨rfl, rfl⟩
                  go_wp2_with fail
                  refine (unhide CL _).mono ?_
                  rintro e1 w6 ⟨rfl, rfl⟩
                  go_wp2_with fail
                  refine (unhide CO _).mono ?_
                  rintro e1 w7 ⟨rfl, hb_w7⟩
                  have hbz := hbw
                  have hbz := tr2 hbz hb_w7
                  go_wp2
                  go_roundw
                  case rel => exact ⟨j, by omega, by first | rfl | (congr 1; omega) | go_num, by rw [unhide HR, unhide HV], hbz⟩
                  case measure => simp [intOf]
                | true =>
                  have HV := hide (hN' (.inr rfl))
                  clear hN' hB' CB2 CN2
                  go_wp2_with fail
                  refine (unhide CA _).mono ?_
                  rintro e1 w5 ⟨rfl, rfl⟩
                  go_wp2_with fail
                  refine (unhide CL _).mono ?_
                  rintro e1 w6 ⟨rfl, rfl⟩
                  go_wp2_with fail
                  refine (unhide CO _).mono ?_
                  rintro e1 w7 ⟨rfl, hb_w7⟩
                  have hbz := hbw
                  have hbz := tr2 hbz hb_w7
                  go_wp2
                  go_roundw
                  case rel => exact ⟨j, by omega, by first | rfl | (congr 1; omega) | go_num, by rw [unhide HR, unhide HV], hbz⟩
                  case measure => simp [intOf]
              | false =>
                rw [Bool.false_or] at hN' hB'
                cases db with
                | true =>
                  cases ob with
                  | false =>
                    have HV := hide (hN' (.inl rfl))
                    clear hN' hB' CB2 CN2
                    go_wp2_with fail
                    refine (unhide CA _).mono ?_
                    rintro e1 w5 ⟨rfl, rfl⟩
                    go_wp2_with fail
                    refine (unhide CL _).mono ?_
                    rintro e1 w6 ⟨rfl, rfl⟩
                    go_wp2_with fail
                    refine (unhide CD _).mono ?_
                    rintro e1 w6 ⟨rfl, rfl⟩
                    go_wp2_with fail
                    refine (unhide CO _).mono ?_
                    rintro e1 w7 ⟨rfl, hb_w7⟩
                    have hbz := hbw
                    have hbz := tr2 hbz hb_w7
                    go_wp2
                    go_roundw
                    case rel => exact ⟨j, by omega, by first | rfl | (congr 1; omega) | go_num, by rw [unhide HR, unhide HV], hbz⟩
                    case measure => simp [intOf]
                  | true =>
                    have HV := hide (hN' (.inr rfl))
                    clear hN' hB' CB2 CN2
                    go_wp2_with fail
                    refine (unhide CA _).mono ?_
                    rintro e1 w5 ⟨rfl, rfl⟩
                    go_wp2_with fail
                    refine (unhide CL _).mono ?_
                    rintro e1 w6 ⟨rfl, rfl⟩
                    go_wp2_with fail
                    refine (unhide CD _).mono ?_
                    rintro e1 w6 ⟨rfl, rfl⟩
                    go_wp2_with fail
                    refine (unhide CO _).mono ?_
                    rintro e1 w7 ⟨rfl, hb_w7⟩
                    have hbz := hbw
                    have hbz := tr2 hbz hb_w7
                    go_wp2
                    go_roundw
                    case rel => exact ⟨j, by omega, by first | rfl | (congr 1; omega) | go_num, by rw [unhide HR, unhide HV], hbz⟩
                    case measure => simp [intOf]
                | false =>
                  cases ob with
                  | false =>
                    have HV := hide (hN' (.inl rfl))
                    clear hN' hB' CB2 CN2
                    go_wp2_with fail
                    refine (unhide CA _).mono ?_
                    rintro e1 w5 ⟨rfl, rfl⟩
                    go_wp2_with fail
                    refine (unhide CL _).mono ?_
                    rintro e1 w6 ⟨rfl, rfl⟩
                    go_wp2_with fail
                    refine (unhide CD _).mono ?_
                    rintro e1 w6 ⟨rfl, rfl⟩
                    go_wp2_with fail
                    refine (unhide CO _).mono ?_
                    rintro e1 w7 ⟨rfl, hb_w7⟩
                    have hbz := hbw
                    have hbz := tr2 hbz hb_w7
                    go_wp2
                    go_roundw
                    case rel => exact ⟨j, by omega, by first | rfl | (congr 1; omega) | go_num, by rw [unhide HR, unhide HV], hbz⟩
                    case measure => simp [intOf]
                  | true =>
                    have HV := hide (hB' rfl rfl)
                    have CB := hide (fun w => unhide CB2 w rfl)
                    clear hN' hB' CB2
                    go_wp2_with fail
                    refine (unhide CA _).mono ?_
                    rintro e1 w5 ⟨rfl, rfl⟩
                    go_wp2_with fail
                    refine (unhide CL _).mono ?_
                    rintro e1 w6 ⟨rfl, rfl⟩
                    go_wp2_with fail
                    refine (unhide CD _).mono ?_
                    rintro e1 w6 ⟨rfl, rfl⟩
                    go_wp2_with fail
                    refine (unhide CO _).mono ?_
                    rintro e1 w7 ⟨rfl, hb_w7⟩
                    go_wp2_with fail
                    refine (unhide CN2 _).mono ?_
                    rintro e1 w8 ⟨rfl, hb_w8⟩
                    go_wp2_with fail
                    refine (unhide CB _).mono ?_
                    rintro e1 w9 ⟨rfl, hb_w9⟩
                    have hbz := hbw
                    have hbz := tr2 hbz hb_w7
                    have hbz := tr2 hbz hb_w8
                    have hbz := tr2 hbz hb_w9
                    have hz : w.heap.size < w9.heap.size := by have := hbz.size; simp at this; omega
                    obtain ⟨hc, hf⟩ := bcell hbz
                    go_wp2
                    exact bodyPost_ret (v := gotR (ub c2) ((i : Int) + ((j : Int) + 1))) (by simp [results, Tryd.results29, go_sem, gotR, hc, str_ub]) rfl ⟨by rw [unhide HR, unhide HV]; rfl, ((bel_of hbz).setCell (by simp) _).setCell (by simp) _⟩
        · have h59' : b = 59 := Classical.not_not.1 h59
          subst h59'
          have c10 : c1 = 0 := Classical.not_not.1 (fun h => hA ⟨rfl, h⟩)
          subst c10
          clear hA h59
          cases v with
          | false =>
            rw [Bool.false_and] at hN' hB'
            clear CL CD
            cases ob with
            | false =>
              have HV := hide (hN' (.inl rfl))
              clear hN' hB' CB2 CN2
              go_wp2_with fail
              refine (unhide CN1 _).mono ?_
              rintro e1 w2 ⟨rfl, hb_w2⟩
              go_wp2_with fail
              refine (unhide CA _).mono ?_
              rintro e1 w5 ⟨rfl, rfl⟩
              go_wp2_with fail
              refine (unhide CO _).mono ?_
              rintro e1 w7 ⟨rfl, hb_w7⟩
              have hbz := hbw
              have hbz := tr2 hbz hb_w2
              have hbz := tr2 hbz hb_w7
              go_wp2
              go_roundw
              case rel => exact ⟨j, by omega, by first | rfl | (congr 1; omega) | go_num, by rw [unhide HR, unhide HV], hbz⟩
              case measure => simp [intOf]
            | true =>
              have HV := hide (hB' rfl rfl)
              have CB := hide (fun w => unhide CB2 w rfl)
              clear hN' hB' CB2
              go_wp2_with fail
              refine (unhide CN1 _).mono ?_
              rintro e1 w2 ⟨rfl, hb_w2⟩
              go_wp2_with fail
              refine (unhide CA _).mono ?_
              rintro e1 w5 ⟨rfl, rfl⟩
              go_wp2_with fail
              refine (unhide CO _).mono ?_
              rintro e1 w7 ⟨rfl, hb_w7⟩
              go_wp2_with fail
              refine (unhide CN2 _).mono ?_
              rintro e1 w8 ⟨rfl, hb_w8⟩
              go_wp2_with fail
              refine (unhide CB _).mono ?_
              rintro e1 w9 ⟨rfl, hb_w9⟩
              have hbz := hbw
              have hbz := tr2 hbz hb_w2
              have hbz := tr2 hbz hb_w7
              have hbz := tr2 hbz hb_w8
              have hbz := tr2 hbz hb_w9
              have hz : w.heap.size < w9.heap.size := by have := hbz.size; simp at this; omega
              obtain ⟨hc, hf⟩ := bcell hbz
              go_wp2
              exact bodyPost_ret (v := gotR (ub c2) ((i : Int) + ((j : Int) + 1))) (by simp [results, Tryd.results29, go_sem, gotR, hc, str_ub]) rfl ⟨by rw [unhide HR, unhide HV]; rfl, ((bel_of hbz).setCell (by simp) _).setCell (by simp) _⟩
          | true =>
            rw [Bool.true_and] at hN' hB'
            by_cases h61 : ab = 61
            · subst h61
              rw [decide_eq_true rfl, Bool.true_or] at hN' hB'
              clear CL CD
              cases ob with
              | false =>
                have HV := hide (hN' (.inl rfl))
                clear hN' hB' CB2 CN2
                go_wp2_with fail
                refine (unhide CN1 _).mono ?_
                rintro e1 w2 ⟨rfl, hb_w2⟩
                go_wp2_with fail
                refine (unhide CA _).mono ?_
                rintro e1 w5 ⟨rfl, rfl⟩
                go_wp2_with fail
                refine (unhide CO _).mono ?_
                rintro e1 w7 ⟨rfl, hb_w7⟩
                have hbz := hbw
                have hbz := tr2 hbz hb_w2
                have hbz := tr2 hbz hb_w7
                go_wp2
                go_roundw
                case rel => exact ⟨j, by omega, by first | rfl | (congr 1; omega) | go_num, by rw [unhide HR, unhide HV], hbz⟩
                case measure => simp [intOf]
              | true =>
                have HV := hide (hN' (.inr rfl))
                clear hN' hB' CB2 CN2
                go_wp2_with fail
                refine (unhide CN1 _).mono ?_
                rintro e1 w2 ⟨rfl, hb_w2⟩
                go_wp2_with fail
                refine (unhide CA _).mono ?_
                rintro e1 w5 ⟨rfl, rfl⟩
                go_wp2_with fail
                refine (unhide CO _).mono ?_
                rintro e1 w7 ⟨rfl, hb_w7⟩
                have hbz := hbw
                have hbz := tr2 hbz hb_w2
                have hbz := tr2 hbz hb_w7
                go_wp2
                go_roundw
                case rel => exact ⟨j, by omega, by first | rfl | (congr 1; omega) | go_num, by rw [unhide HR, unhide HV], hbz⟩
                case measure => simp [intOf]
            · have n61 : ((ab : Int) == 61) = false := bneI (by omega)
              rw [decide_eq_false h61, Bool.false_or] at hN' hB'
              clear h61
              cases lb with
              | true =>
                rw [Bool.true_or] at hN' hB'
                clear CD
                cases ob with
                | false =>
                  have HV := hide (hN' (.inl rfl))
                  clear hN' hB' CB2 CN2
                  go_wp2_with fail
                  refine (unhide CN1 _).mono ?_
                  rintro e1 w2 ⟨rfl, hb_w2⟩
                  go_wp2_with fail
                  refine (unhide CA _).mono ?_
                  rintro e1 w5 ⟨rfl, rfl⟩
                  go_wp2_with fail
                  refine (unhide CL _).mono ?_
                  rintro e1 w6 ⟨rfl, rfl⟩
                  go_wp2_with fail
                  refine (unhide CO _).mono ?_
                  rintro e1 w7 ⟨rfl, hb_w7⟩
                  have hbz := hbw
                  have hbz := tr2 hbz hb_w2
                  have hbz := tr2 hbz hb_w7
                  go_wp2
                  go_roundw
                  case rel => exact ⟨j, by omega, by first | rfl | (congr 1; omega) | go_num, by rw [unhide HR, unhide HV], hbz⟩
                  case measure => simp [intOf]
                | true =>
                  have HV := hide (hN' (.inr rfl))
                  clear hN' hB' CB2 CN2
                  go_wp2_with fail
                  refine (unhide CN1 _).mono ?_
                  rintro e1 w2 ⟨rfl, hb_w2⟩
                  go_wp2_with fail
                  refine (unhide CA _).mono ?_
                  rintro e1 w5 ⟨rfl, rfl⟩
                  go_wp2_with fail
                  refine (unhide CL _).mono ?_
                  rintro e1 w6 ⟨rfl, rfl⟩
                  go_wp2_with fail
                  refine (unhide CO _).mono ?_
                  rintro e1 w7 ⟨rfl, hb_w7⟩
                  have hbz := hbw
                  have hbz := tr2 hbz hb_w2
                  have hbz := tr2 hbz hb_w7
                  go_wp2
                  go_roundw
                  case rel => exact ⟨j, by omega, by first | rfl | (congr 1; omega) | go_num, by rw [unhide HR, unhide HV], hbz⟩
                  case measure => simp [intOf]
              | false =>
                rw [Bool.false_or] at hN' hB'
                cases db with
                | true =>
                  cases ob with
                  | false =>
                    have HV := hide (hN' (.inl rfl))
                    clear hN' hB' CB2 CN2
                    go_wp2_with fail
                    refine (unhide CN1 _).mono ?_
                    rintro e1 w2 ⟨rfl, hb_w2⟩
                    go_wp2_with fail
                    refine (unhide CA _).mono ?_
                    rintro e1 w5 ⟨rfl, rfl⟩
                    go_wp2_with fail
                    refine (unhide CL _).mono ?_
                    rintro e1 w6 ⟨rfl, rfl⟩
                    go_wp2_with fail
                    refine (unhide CD _).mono ?_
                    rintro e1 w6 ⟨rfl, rfl⟩
                    go_wp2_with fail
                    refine (unhide CO _).mono ?_
                    rintro e1 w7 ⟨rfl, hb_w7⟩
                    have hbz := hbw
                    have hbz := tr2 hbz hb_w2
                    have hbz := tr2 hbz hb_w7
                    go_wp2
                    go_roundw
                    case rel => exact ⟨j, by omega, by first | rfl | (congr 1; omega) | go_num, by rw [unhide HR, unhide HV], hbz⟩
                    case measure => simp [intOf]
                  | true =>
                    have HV := hide (hN' (.inr rfl))
                    clear hN' hB' CB2 CN2
                    go_wp2_with fail
                    refine (unhide CN1 _).mono ?_
                    rintro e1 w2 ⟨rfl, hb_w2⟩
                    go_wp2_with fail
                    refine (unhide CA _).mono ?_
                    rintro e1 w5 ⟨rfl, rfl⟩
                    go_wp2_with fail
                    refine (unhide CL _).mono ?_
                    rintro e1 w6 ⟨rfl, rfl⟩
                    go_wp2_with fail
                    refine (unhide CD _).mono ?_
                    rintro e1 w6 ⟨rfl, rfl⟩
                    go_wp2_with fail
                    refine (unhide CO _).mono ?_
                    rintro e1 w7 ⟨rfl, hb_w7⟩
                    have hbz := hbw
                    have hbz := tr2 hbz hb_w2
                    have hbz := tr2 hbz hb_w7
                    go_wp2
                    go_roundw
                    case rel => exact ⟨j, by omega, by first | rfl | (congr 1; omega) | go_num, by rw [unhide HR, unhide HV], hbz⟩
                    case measure => simp [intOf]
                | false =>
                  cases ob with
                  | false =>
                    have HV := hide (hN' (.inl rfl))
                    clear hN' hB' CB2 CN2
                    go_wp2_with fail
                    refine (unhide CN1 _).mono ?_
                    rintro e1 w2 ⟨rfl, hb_w2⟩
                    go_wp2_with fail
                    refine (unhide CA _).mono ?_
                    rintro e1 w5 ⟨rfl, rfl⟩
                    go_wp2_with fail
                    refine (unhide CL _).mono ?_
                    rintro e1 w6 ⟨rfl, rfl⟩
                    go_wp2_with fail
                    refine (unhide CD _).mono ?_
                    rintro e1 w6 ⟨rfl, rfl⟩
                    go_wp2_with fail
                    refine (unhide CO _).mono ?_
                    rintro e1 w7 ⟨rfl, hb_w7⟩
                    have hbz := hbw
                    have hbz := tr2 hbz hb_w2
                    have hbz := tr2 hbz hb_w7
                    go_wp2
                    go_roundw
                    case rel => exact ⟨j, by omega, by first | rfl | (congr 1; omega) | go_num, by rw [unhide HR, unhide HV], hbz⟩
                    case measure => simp [intOf]
                  | true =>
                    have HV := hide (hB' rfl rfl)
                    have CB := hide (fun w => unhide CB2 w rfl)
                    clear hN' hB' CB2
                    go_wp2_with fail
                    refine (unhide CN1 _).mono ?_
                    rintro e1 w2 ⟨rfl, hb_w2⟩
                    go_wp2_with fail
                    refine (unhide CA _).mono ?_
                    rintro e1 w5 ⟨rfl, rfl⟩
                    go_wp2_with fail
                    refine (unhide CL _).mono ?_
                    rintro e1 w6 ⟨rfl, rfl⟩
                    go_wp2_with fail
                    refine (unhide CD _).mono ?_
                    rintro e1 w6 ⟨rfl, rfl⟩
                    go_wp2_with fail
                    refine (unhide CO _).mono ?_
                    rintro e1 w7 ⟨rfl, hb_w7⟩
                    go_wp2_with fail
                    refine (unhide CN2 _).mono ?_
                    rintro e1 w8 ⟨rfl, hb_w8⟩
                    go_wp2_with fail
                    refine (unhide CB _).mono ?_
                    rintro e1 w9 ⟨rfl, hb_w9⟩
                    have hbz := hbw
                    have hbz := tr2 hbz hb_w2
                    have hbz := tr2 hbz hb_w7
                    have hbz := tr2 hbz hb_w8
                    have hbz := tr2 hbz hb_w9
                    have hz : w.heap.size < w9.heap.size := by have := hbz.size; simp at this; omega
                    obtain ⟨hc, hf⟩ := bcell hbz
                    go_wp2
                    exact bodyPost_ret (v := gotR (ub c2) ((i : Int) + ((j : Int) + 1))) (by simp [results, Tryd.results29, go_sem, gotR, hc, str_ub]) rfl ⟨by rw [unhide HR, unhide HV]; rfl, ((bel_of hbz).setCell (by simp) _).setCell (by simp) _⟩
theorem named_any (s : ByteArray) (i : Nat) (v : Bool) (w : World) (hs : s.size ≤ 100000) (hi : i ≤ s.size) :
    Calls Tryd.prog 29 #[.string s, .int .i64 (i : Int), .bool v] w fun e w' => e = .returned (refV i (refL (s.data.toList.drop i) v)) ∧ Below w.heap.size w w' := named_is s i v _ rfl w hs hi
end Go.Proofs.YtmiehnknnkcdlaaDoor
