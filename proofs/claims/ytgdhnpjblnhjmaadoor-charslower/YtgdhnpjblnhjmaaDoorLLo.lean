/-
  The law CharsLower walked: the small form of a small form is itself, and whose small forms are the same.
-/
import Derived.Test.YtgdhnpjblnhjmaaDoorLEn
namespace Go.Proofs.YtgdhnpjblnhjmaaDoor
open Go.RowKit
set_option linter.unusedVariables false

theorem low_cases (x : Nat) : (65 ≤ x ∧ x ≤ 90 ∧ lowN x = x + 32) ∨ (¬ (65 ≤ x ∧ x ≤ 90) ∧ lowN x = x) := by
  by_cases h : 65 ≤ x ∧ x ≤ 90
  · exact .inl ⟨h.1, h.2, lowN_up (upN_yes h)⟩
  · exact .inr ⟨h, lowN_no (upN_no h)⟩
def smN (x y : Nat) : Bool := decide (lowN x = lowN y)
theorem sm_yes {x y : Nat} (h : lowN x = lowN y) : smN x y = true := by simp [smN, h]
theorem sm_no {x y : Nat} (h : ¬ lowN x = lowN y) : smN x y = false := by simp [smN, h]

/-- Whether the first k bytes of two texts of one length have the same small forms. -/
def sameK (a b : List UInt8) (k : Nat) : Bool := decide (a.length = b.length ∧ ∀ j, j < k → lowN (dgt a j) = lowN (dgt b j))
theorem sameK_0 (a b : List UInt8) : sameK a b 0 = decide (a.length = b.length) := by simp [sameK]
theorem sameK_next {a b : List UInt8} {k : Nat} (h : sameK a b k = true) : sameK a b (k + 1) = smN (dgt a k) (dgt b k) := by
  have h' : a.length = b.length ∧ ∀ j, j < k → lowN (dgt a j) = lowN (dgt b j) := by simpa [sameK] using h
  by_cases e : lowN (dgt a k) = lowN (dgt b k)
  · rw [sm_yes e]
    simp only [sameK, decide_eq_true_eq]
    refine ⟨h'.1, fun j hj => ?_⟩
    by_cases hjk : j = k
    · rw [hjk]; exact e
    · exact h'.2 j (by omega)
  · rw [sm_no e]
    simp only [sameK, decide_eq_false_iff_not]
    exact fun h => e (h.2 k (by omega))
theorem sameK_len {a b : List UInt8} {k : Nat} (h : sameK a b k = true) : a.length = b.length := by
  have h' : a.length = b.length ∧ ∀ j, j < k → lowN (dgt a j) = lowN (dgt b j) := by simpa [sameK] using h
  exact h'.1
theorem lowL_at (l : List UInt8) (j : Nat) (h : j < l.length) : dgt (lowL l) j = lowN (dgt l j) := by
  have h2 : j < (lowL l).length := by rw [lowL_len]; exact h
  unfold dgt
  rw [List.getD, List.getElem?_eq_getElem h2]
  show ((lowL l)[j]).toNat = _
  rw [lowL_dgt l j h, UInt8.toNat_ofNat']
  have := lowN_lt l j
  unfold dgt at this ⊢
  omega
theorem same_true {a b : List UInt8} (h : sameK a b a.length = true) : lowL a = lowL b := by
  have h' : a.length = b.length ∧ ∀ j, j < a.length → lowN (dgt a j) = lowN (dgt b j) := by simpa [sameK] using h
  have := take_ext (lowL a) (lowL b) a.length (by rw [lowL_len]; omega) (by rw [lowL_len]; exact Nat.le_refl _) (fun i hi => by rw [lowL_at a i hi, lowL_at b i (by omega)]; exact h'.2 i hi)
  rw [List.take_of_length_le (by rw [lowL_len]; exact Nat.le_refl _)] at this
  exact this
theorem same_false {a b : List UInt8} {k : Nat} (hk : k ≤ a.length) (h : sameK a b k = false) : ¬ lowL a = lowL b := by
  intro e
  have hl : a.length = b.length := by have := congrArg List.length e; rw [lowL_len, lowL_len] at this; exact this
  have : sameK a b k = true := by
    simp only [sameK, decide_eq_true_eq]
    exact ⟨hl, fun j hj => by rw [← lowL_at a j (by omega), ← lowL_at b j (by omega), e]⟩
  rw [h] at this; cases this


set_option maxHeartbeats 4000000 in
theorem charsLower_walk (s t : ByteArray) (w : World) (ht : Tabs w) (hs : s.size ≤ 9223372036854775807) (hs2 : t.size ≤ 9223372036854775807) :
    Calls Tryd.prog 7 #[.string s, .string t] w fun e w' => e = .returned (.bool true) ∧ Below w.heap.size w w' := by
  have HT := hide ht
  have E := hide ends_any
  clear ht
  by_cases h1 : 2000 < s.size
  · have hi : (2000 : Int) < (s.size : Int) := by omega
    go_enter Tryd.func7, Tryd.ntmps7
    go_wp2_with fail
    refine (unhide E _ (unhide HT)).mono ?_
    rintro e w2 ⟨rfl, hb2⟩
    go_wp2
    go_ret
    exact ⟨rfl, hb2⟩
  have hi : ¬ (2000 : Int) < (s.size : Int) := by omega
  by_cases h2 : 2000 < t.size
  · have hi2 : (2000 : Int) < (t.size : Int) := by omega
    go_enter Tryd.func7, Tryd.ntmps7
    go_wp2_with fail
    refine (unhide E _ (unhide HT)).mono ?_
    rintro e w2 ⟨rfl, hb2⟩
    go_wp2
    go_ret
    exact ⟨rfl, hb2⟩
  have hi2 : ¬ (2000 : Int) < (t.size : Int) := by omega
  have C1 := hide (fun w => lower_any s w hs)
  have C2 := hide (fun w => lower_any t w hs2)
  have C3 := hide (fun w => lower_any (bs (lowL s.data.toList)) w (by rw [bs_size, lowL_len, data_len]; exact hs))
  rw [bs_toList, lowL_low] at C3
  have CL := hide letter_any
  have hsa : (bs (lowL s.data.toList)).size = s.size := by rw [bs_size, lowL_len, data_len]
  have hya := ssame (bs (lowL s.data.toList))
  have T := hide (fun h => congrArg bs (@same_true s.data.toList t.data.toList h))
  have FF := hide (fun k hk h => show ¬ bs (lowL s.data.toList) = bs (lowL t.data.toList) from fun e => @same_false s.data.toList t.data.toList k hk h (bs_inj e))
  rw [data_len] at T
  generalize bs (lowL s.data.toList) = a at *
  generalize bs (lowL t.data.toList) = b at *
  have h00 : sameK s.data.toList t.data.toList 0 = ((s.size : Int) == (t.size : Int)) := by
    rw [sameK_0, data_len, data_len]
    by_cases e : s.size = t.size
    · rw [e]; simp
    · rw [beq_eq_false_iff_ne.2 (by omega)]; simp [e]
  have H0 := hide h00
  clear h00
  go_enter Tryd.func7, Tryd.ntmps7
  go_wp2_with fail
  refine (unhide C1 _).mono ?_
  rintro e w1 ⟨rfl, hb1⟩
  go_wp2_with fail
  refine (unhide C2 _).mono ?_
  rintro e w2 ⟨rfl, hb2⟩
  have hb12 := tr2 hb1 hb2
  clear hb1 hb2
  go_wp2
  go_loopw [7, 8] (fun vs i wr => ∃ k : Nat, k ≤ s.size ∧ i = .int .i64 k ∧ vs = .bool (sameK s.data.toList t.data.toList k) ∧ wr = w2) (fun _ i _ => s.size - (intOf i).toNat)
  case atStart => exact ⟨0, Nat.zero_le _, rfl, by rw [unhide H0], rfl⟩
  case round =>
    obtain ⟨k, hk, rfl, rfl, rfl⟩ := hrel
    cases hsm : sameK s.data.toList t.data.toList k with
    | false =>
      have hne := unhide FF k (by rw [data_len]; exact hk) hsm
      have hbn := beq_no hne
      clear hsm hne
      go_wp2_with fail
      refine (unhide C3 _).mono ?_
      rintro e w3 ⟨rfl, hb3⟩
      go_wp2_with fail
      refine (unhide E _ (((unhide HT).below hb12).below hb3)).mono ?_
      rintro e w4 ⟨rfl, hb4⟩
      go_wp2
      go_ret
      exact ⟨rfl, tr3 hb12 hb3 hb4⟩
    | true =>
      by_cases hp : k < s.size
      · have hpi : (k : Int) < (s.size : Int) := by omega
        have hst : s.size = t.size := by
          have := sameK_len hsm
          rw [data_len, data_len] at this; exact this
        have hp2 : k < t.size := by omega
        have hpi2 : (k : Int) < (t.size : Int) := by omega
        have e := dgt_at s k hp
        have e2 := dgt_at t k hp2
        have hnx := sameK_next hsm
        have C4 := hide (unhide CL (dgt s.data.toList k))
        have C5 := hide (unhide CL (dgt t.data.toList k))
        have b1 := dgt_lt s.data.toList k
        have b2 := dgt_lt t.data.toList k
        generalize dgt s.data.toList k = x at *
        generalize dgt t.data.toList k = y at *
        have lx := low_cases x
        have ly := low_cases y
        clear hsm hst
        by_cases hxy : x = y
        · subst hxy
          rw [sm_yes rfl] at hnx
          have N := hide hnx
          have hbb : ((x : Int) == (x : Int)) = true := by simp
          clear hnx lx ly
          go_wp2
          go_roundw
          case rel => exact ⟨k + 1, by omega, by go_num, by rw [unhide N], by first | exact rfl | trivial⟩
          case measure => simp [intOf]; omega
        have nxy : ((x : Int) == (y : Int)) = false := bneI (by omega)
        cases hlx : ltN x with
        | false =>
          have := ltN_false hlx
          rw [sm_no (by omega)] at hnx
          rw [hlx] at C4
          have N := hide hnx
          clear hnx lx ly this hlx hxy
          go_wp2_with fail
          refine (unhide C4 _).mono ?_
          rintro e w3 ⟨rfl, rfl⟩
          go_wp2
          go_roundw
          case rel => exact ⟨k + 1, by omega, by go_num, by rw [unhide N], by first | exact rfl | trivial⟩
          case measure => simp [intOf]; omega
        | true =>
          rw [hlx] at C4
          have tx := ltN_true hlx
          cases hly : ltN y with
          | false =>
            have := ltN_false hly
            rw [sm_no (by omega)] at hnx
            rw [hly] at C5
            have N := hide hnx
            clear hnx lx ly this hlx hly hxy tx
            go_wp2_with fail
            refine (unhide C4 _).mono ?_
            rintro e w3 ⟨rfl, rfl⟩
            go_wp2_with fail
            refine (unhide C5 _).mono ?_
            rintro e w3 ⟨rfl, rfl⟩
            go_wp2
            go_roundw
            case rel => exact ⟨k + 1, by omega, by go_num, by rw [unhide N], by first | exact rfl | trivial⟩
            case measure => simp [intOf]; omega
          | true =>
            rw [hly] at C5
            have ty := ltN_true hly
            have lex : (x : Int) ≤ 122 := by omega
            have ley : (y : Int) ≤ 122 := by omega
            by_cases h3 : x = y + 32
            · have q1 : ((x : Int) == (y : Int) + 32) = true := by simp; omega
              rw [sm_yes (by omega)] at hnx
              have N := hide hnx
              clear hnx lx ly hlx hly hxy tx ty h3
              go_wp2_with fail
              refine (unhide C4 _).mono ?_
              rintro e w3 ⟨rfl, rfl⟩
              go_wp2_with fail
              refine (unhide C5 _).mono ?_
              rintro e w3 ⟨rfl, rfl⟩
              go_wp2
              go_roundw
              case rel => exact ⟨k + 1, by omega, by go_num, by rw [unhide N], by first | exact rfl | trivial⟩
              case measure => simp [intOf]; omega
            · have q1 : ((x : Int) == (y : Int) + 32) = false := bneI (by omega)
              have q2 : ((y : Int) == (x : Int) + 32) = smN x y := by
                by_cases h4 : y = x + 32
                · rw [sm_yes (by omega)]; simp; omega
                · rw [sm_no (by omega)]; exact bneI (by omega)
              rw [← q2] at hnx
              have N := hide hnx
              clear hnx lx ly hlx hly hxy tx ty h3 q2
              go_wp2_with fail
              refine (unhide C4 _).mono ?_
              rintro e w3 ⟨rfl, rfl⟩
              go_wp2_with fail
              refine (unhide C5 _).mono ?_
              rintro e w3 ⟨rfl, rfl⟩
              go_wp2
              go_roundw
              case rel => exact ⟨k + 1, by omega, by go_num, by rw [unhide N], by first | exact rfl | trivial⟩
              case measure => simp [intOf]; omega
      · have hk2 : k = s.size := by omega
        rw [hk2] at hsm
        have hab := unhide T hsm
        subst hab
        clear hsm hk2
        go_wp2_with fail
        refine (unhide C3 _).mono ?_
        rintro e w3 ⟨rfl, hb3⟩
        go_wp2_with fail
        refine (unhide E _ (((unhide HT).below hb12).below hb3)).mono ?_
        rintro e w4 ⟨rfl, hb4⟩
        go_wp2
        go_ret
        exact ⟨rfl, tr3 hb12 hb3 hb4⟩
end Go.Proofs.YtgdhnpjblnhjmaaDoor
