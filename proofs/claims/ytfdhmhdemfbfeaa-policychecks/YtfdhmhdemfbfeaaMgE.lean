/-
  Several texts in one: what the functions of the program and of the document's answer do.
-/
import Derived.Test.YtfdhmhdemfbfeaaVBd
import Derived.Test.YtfdhmhdemfbfeaaDLo

/-
  What 'urls.Plain' does: of every address, its plain form.
-/
namespace Go.Proofs.Ytfdhmhdemfbfeaa
open Go.RowKit
set_option linter.unusedVariables false

def spB (c : UInt8) : Bool := decide (c.toNat ≤ 32)
def kpB (c : UInt8) : Bool := decide (¬ (c.toNat = 9 ∨ c.toNat = 10 ∨ c.toNat = 13))
def trL (l : List UInt8) : List UInt8 := l.dropWhile spB
def trR (l : List UInt8) : List UInt8 := (l.reverse.dropWhile spB).reverse
def cut2 (l : List UInt8) : List UInt8 := trR (trL l)
def plL (l : List UInt8) : List UInt8 := (cut2 l).filter kpB

theorem cons_of (l : List UInt8) (h : 0 < l.length) : ∃ c t, l = c :: t ∧ dgt l 0 = c.toNat := by
  cases l with
  | nil => simp at h
  | cons c t => exact ⟨c, t, rfl, rfl⟩
theorem snoc_of (l : List UInt8) (h : 0 < l.length) : ∃ t c, l = t ++ [c] ∧ dgt l (l.length - 1) = c.toNat ∧ l.take (l.length - 1) = t := by
  have hne : l ≠ [] := by intro e; rw [e] at h; simp at h
  refine ⟨l.dropLast, l.getLast hne, (List.dropLast_concat_getLast hne).symm, ?_, by rw [List.dropLast_eq_take]⟩
  unfold dgt
  rw [List.getD, List.getElem?_eq_getElem (by omega), List.getLast_eq_getElem]; rfl
theorem trL_next (l : List UInt8) (h : 0 < l.length) (hb : dgt l 0 ≤ 32) : trL l = trL (l.drop 1) := by
  obtain ⟨c, t, rfl, hc⟩ := cons_of l h
  have : spB c = true := by simp [spB]; omega
  simp [trL, this]
theorem trL_done (l : List UInt8) (h : l.length = 0 ∨ 32 < dgt l 0) : trL l = l := by
  cases l with
  | nil => rfl
  | cons c t =>
    have : spB c = false := by
      have hc : dgt (c :: t) 0 = c.toNat := rfl
      rw [hc] at h
      simp at h
      simp [spB]; omega
    simp [trL, this]
theorem trR_next (l : List UInt8) (h : 0 < l.length) (hb : dgt l (l.length - 1) ≤ 32) : trR l = trR (l.take (l.length - 1)) := by
  obtain ⟨t, c, e, hc, ht⟩ := snoc_of l h
  rw [ht]
  have : spB c = true := by simp [spB]; omega
  rw [e]
  simp [trR, this]
theorem trR_done (l : List UInt8) (h : l.length = 0 ∨ 32 < dgt l (l.length - 1)) : trR l = l := by
  by_cases h0 : l.length = 0
  · have : l = [] := List.eq_nil_of_length_eq_zero h0
    rw [this]; rfl
  · obtain ⟨t, c, e, hc, ht⟩ := snoc_of l (by omega)
    have : spB c = false := by simp [spB]; omega
    rw [e]
    simp [trR, this]
theorem trL_first (l : List UInt8) (h : 0 < (trL l).length) : 32 < dgt (trL l) 0 := by
  induction l with
  | nil => simp [trL] at h
  | cons c t ih =>
    cases hc : spB c with
    | true =>
      have e : trL (c :: t) = trL t := by simp [trL, hc]
      rw [e] at h ⊢
      exact ih h
    | false =>
      have e : trL (c :: t) = c :: t := by simp [trL, hc]
      rw [e]
      have : dgt (c :: t) 0 = c.toNat := rfl
      rw [this]
      simp [spB] at hc
      exact hc
theorem trR_pre (l : List UInt8) : ∃ t, l = trR l ++ t := by
  have := List.takeWhile_append_dropWhile (p := spB) (l := l.reverse)
  refine ⟨(l.reverse.takeWhile spB).reverse, ?_⟩
  have h2 := congrArg List.reverse this
  rw [List.reverse_append, List.reverse_reverse] at h2
  exact h2.symm
theorem dgt_pre (a t : List UInt8) (k : Nat) (h : k < a.length) : dgt (a ++ t) k = dgt a k := by
  unfold dgt; rw [List.getD, List.getD, List.getElem?_append_left h]
theorem cut2_first (l : List UInt8) (h : 0 < (cut2 l).length) : 32 < dgt (cut2 l) 0 := by
  obtain ⟨t, e⟩ := trR_pre (trL l)
  have h0 : 0 < (trL l).length := by rw [e, List.length_append]; show 0 < (cut2 l).length + t.length; omega
  have := trL_first l h0
  rw [e] at this
  rw [dgt_pre (trR (trL l)) t 0 h] at this
  exact this
theorem cut2_len (l : List UInt8) : (cut2 l).length ≤ l.length := by
  obtain ⟨t, e⟩ := trR_pre (trL l)
  have h1 : (trL l).length ≤ l.length := (List.dropWhile_sublist _).length_le
  have h2 : (trL l).length = (cut2 l).length + t.length := by rw [e, List.length_append]; show (cut2 l).length + t.length = _; rfl
  omega
theorem kp_yes {b : Nat} (hb : b < 256) (h : ¬ (b = 9 ∨ b = 10 ∨ b = 13)) : kpB (byt b) = true := by
  simp only [kpB, byt_nat b hb, decide_eq_true_eq]; exact h
theorem kp_no {b : Nat} (hb : b < 256) (h : b = 9 ∨ b = 10 ∨ b = 13) : kpB (byt b) = false := by
  simp only [kpB, byt_nat b hb, decide_eq_false_iff_not]; exact fun x => x h

/-- What is written behind the first k bytes. -/
def kpK (l : List UInt8) (k : Nat) : List UInt8 := (l.take k).filter kpB
theorem kpK_yes (l : List UInt8) (k : Nat) (h : k < l.length) (hb : ¬ (dgt l k = 9 ∨ dgt l k = 10 ∨ dgt l k = 13)) : kpK l (k + 1) = kpK l k ++ [byt (dgt l k)] := by
  rw [kpK, take_at l k h, List.filter_append]
  simp [kpK, kp_yes (dgt_lt l k) hb]
theorem kpK_no (l : List UInt8) (k : Nat) (h : k < l.length) (hb : dgt l k = 9 ∨ dgt l k = 10 ∨ dgt l k = 13) : kpK l (k + 1) = kpK l k := by
  rw [kpK, take_at l k h, List.filter_append]
  simp [kpK, kp_no (dgt_lt l k) hb]
theorem kpK_all (l : List UInt8) : kpK l l.length = l.filter kpB := by simp [kpK]
theorem kpK_len (l : List UInt8) (k : Nat) : (kpK l k).length ≤ l.length := by
  have h1 : (kpK l k).length ≤ (l.take k).length := List.length_filter_le _ _
  have h2 : (l.take k).length ≤ l.length := by rw [List.length_take]; omega
  omega
theorem kpK_ne (l : List UInt8) (h : 0 < l.length) (h32 : 32 < dgt l 0) : l.filter kpB ≠ [] := by
  obtain ⟨c, t, rfl, hc⟩ := cons_of l h
  rw [hc] at h32
  have : kpB c = true := by simp only [kpB, decide_eq_true_eq]; omega
  simp [this]
theorem plL_len (l : List UInt8) : (plL l).length ≤ l.length := by
  have h1 : (plL l).length ≤ (cut2 l).length := List.length_filter_le _ _
  have := cut2_len l
  omega
theorem ext_front (x : ByteArray) : (x.extract 0 (x.size - 1)).data.toList = x.data.toList.take (x.data.toList.length - 1) := by
  rw [data_len]; exact Lib.Pa.extract_upto_list x _

theorem take_first (l : List UInt8) (h : 1 < l.length) : dgt (l.take (l.length - 1)) 0 = dgt l 0 := by
  unfold dgt; rw [List.getD, List.getD, List.getElem?_take_of_lt (by omega)]
theorem beqI (a b : Int) (h : ¬ a = b) : (a == b) = false := beq_eq_false_iff_ne.2 h
theorem bneI' (a b : Int) (h : ¬ a = b) : (a != b) = true := by simp [bne, beqI a b h]

set_option maxHeartbeats 2000000 in
theorem plain_any (s : ByteArray) (w : World) (hs : s.size ≤ 100000) :
    Calls Try.prog 73 #[.string s] w fun e w' => e = .returned (.string (bs (plL s.data.toList))) ∧ Below w.heap.size w w' := by
  go_enter Try.func73, Try.ntmps73
  go_wp2
  go_loopw [0] (fun t wr => ∃ x : ByteArray, t = .string x ∧ x.size ≤ s.size ∧ trL s.data.toList = trL x.data.toList ∧ wr = w) (fun t _ => match t with | .string x => x.size | _ => 0)
  case atStart => exact ⟨s, rfl, Nat.le_refl _, rfl, rfl⟩
  case round =>
    obtain ⟨x, rfl, hx, hr, hw⟩ := hrel
    have hw' := hw.symm
    subst hw'
    have HR := hide hr
    clear hr hw
    by_cases h0 : x.size = 0
    · have he := is_empty x h0
      have hp : plL s.data.toList = [] := by
        rw [plL, cut2, unhide HR, List.eq_nil_of_length_eq_zero (l := x.data.toList) (by rw [data_len]; exact h0)]; rfl
      have HP := hide hp
      clear hp
      go_wp2
      refine wp_loop_rounds 1 ?_
      rw [rounds_succ]; go_wp2
      refine wp_loop_rounds 1 ?_
      rw [rounds_succ]; go_wp2_with fail
      refine (string_nil w.heap.size (.pointer none) _ (heap_alloc_new _ _)).mono ?_
      rintro e w2 ⟨rfl, hb2⟩
      go_wp2
      go_ret
      exact ⟨by rw [unhide HP]; rfl, bel_of hb2⟩
    · have hp : 0 < x.size := by omega
      have hpi : (0 : Int) < (x.size : Int) := by omega
      have he := not_empty x hp
      have hl := data_len x
      have e := dgt_at x 0 hp
      have hnx := trL_next x.data.toList (by omega)
      have hdn := trL_done x.data.toList
      have hex := Lib.extract_to_end x 1
      have hb := dgt_lt x.data.toList 0
      by_cases h32 : dgt x.data.toList 0 ≤ 32
      · have hi : ((dgt x.data.toList 0 : Nat) : Int) ≤ 32 := by omega
        have HN := hide (hnx h32)
        have HE := hide hex
        clear hnx hdn hl hex h32
        generalize dgt x.data.toList 0 = b at *
        go_wp2
        go_roundw
        case rel => exact ⟨x.extract 1 x.size, rfl, by simp; omega, by rw [unhide HR, unhide HN, unhide HE], by first | rfl | trivial⟩
        case measure => simp; omega
      · have hi : decide (((dgt x.data.toList 0 : Nat) : Int) ≤ 32) = false := by simp; omega
        have H32 : Hid (32 < dgt x.data.toList 0) := hide (by omega)
        have HD : Hid (trL s.data.toList = x.data.toList) := hide (by rw [unhide HR]; exact hdn (.inr (by omega)))
        clear hnx hdn hl hex h32 HR
        generalize hbb : dgt x.data.toList 0 = b at *
        have HB := hide hbb
        clear hbb
        go_wp2
        go_loopw [0] (fun t wr => ∃ y : ByteArray, t = .string y ∧ 0 < y.size ∧ y.size ≤ s.size ∧ dgt y.data.toList 0 = b ∧ cut2 s.data.toList = trR y.data.toList ∧ wr = w) (fun t _ => match t with | .string x => x.size | _ => 0)
        case atStart => exact ⟨x, rfl, hp, hx, unhide HB, by rw [cut2, unhide HD], rfl⟩
        case round =>
          clear e hi he hpi
          obtain ⟨y, rfl, hy0, hy, hyb, hr, hw⟩ := hrel
          have hw' := hw.symm
          subst hw'
          have HR := hide hr
          have HYB := hide hyb
          clear hr hw hyb
          have hyi : (1 : Int) ≤ (y.size : Int) := by omega
          have he := not_empty y hy0
          have hl := data_len y
          have hk : y.size - 1 < y.size := by omega
          have e := dgt_at y (y.size - 1) hk
          have hnx := trR_next y.data.toList (by omega)
          have hdn := trR_done y.data.toList
          rw [hl] at hnx hdn
          have hex := ext_front y
          rw [hl] at hex
          have hst : dgt y.data.toList (y.size - 1) ≤ 32 → 1 < y.size := by
            intro h
            rcases Nat.lt_or_ge 1 y.size with h1 | h1
            · exact h1
            · have : y.size - 1 = 0 := by omega
              rw [this, unhide HYB] at h
              have := unhide H32
              omega
          have hin : ((y.size : Int) - 1).toNat = y.size - 1 := by omega
          have hin2 : (y.size : Int) - 1 = ((y.size - 1 : Nat) : Int) := by omega
          by_cases h32 : dgt y.data.toList (y.size - 1) ≤ 32
          · have h1 := hst h32
            have hi : ((dgt y.data.toList (y.size - 1) : Nat) : Int) ≤ 32 := by omega
            have HN := hide (hnx h32)
            have HE := hide hex
            have hf := take_first y.data.toList (by omega)
            rw [hl] at hf
            have HF := hide hf
            clear hnx hdn hl hex h32 hst hf
            generalize dgt y.data.toList (y.size - 1) = c at *
            go_wp2
            go_roundw
            case rel => exact ⟨y.extract 0 (y.size - 1), by first | rfl | (congr 1; omega), by simp; omega, by simp; omega, by rw [unhide HE, unhide HF]; exact unhide HYB, by rw [unhide HR, unhide HN, unhide HE], by first | rfl | trivial⟩
            case measure => simp; omega
          · have hi : decide (((dgt y.data.toList (y.size - 1) : Nat) : Int) ≤ 32) = false := by simp; omega
            have HC : Hid (cut2 s.data.toList = y.data.toList) := hide (by rw [unhide HR]; exact hdn (.inr (by omega)))
            have HL := hide hl
            clear hnx hdn hl hex h32 hst HR
            generalize dgt y.data.toList (y.size - 1) = c at *
            go_wp2
            go_loopw [31] (fun i wr => ∃ k : Nat, k ≤ y.size ∧ i = .int .i64 k ∧ Bld w.heap.size w.heap.size (kpK y.data.toList k) wr ∧ Below w.heap.size w wr) (fun i _ => y.size - (intOf i).toNat)
            case atStart => exact ⟨0, Nat.zero_le _, rfl, by have : kpK y.data.toList 0 = [] := by simp [kpK]
                                                             rw [this]; exact bld_new w, (Below.refl _ _).alloc (Nat.le_refl _) _⟩
            case round =>
              clear e hi he
              obtain ⟨k, hk, rfl, hB, hbw⟩ := hrel
              have hzw := hbw.size
              by_cases hp : k < y.size
              · have hpi : (k : Int) < (y.size : Int) := by omega
                have e := dgt_at y k hp
                have hkl : k < y.data.toList.length := by rw [unhide HL]; exact hp
                have hyes := kpK_yes y.data.toList k hkl
                have hno := kpK_no y.data.toList k hkl
                have hlen := kpK_len y.data.toList k
                rw [unhide HL] at hlen
                have hblt := dgt_lt y.data.toList k
                generalize dgt y.data.toList k = d at *
                by_cases h9 : d = 9 ∨ d = 10 ∨ d = 13
                · have HN := hide (hno h9)
                  clear hyes hno hkl
                  rcases h9 with h | h | h
                  all_goals subst h
                  all_goals go_wp2
                  all_goals go_roundw
                  case rel => exact ⟨k + 1, by omega, by go_num, by rw [unhide HN]; exact hB, hbw⟩
                  case measure => simp [intOf]; omega
                  case rel => exact ⟨k + 1, by omega, by go_num, by rw [unhide HN]; exact hB, hbw⟩
                  case measure => simp [intOf]; omega
                  case rel => exact ⟨k + 1, by omega, by go_num, by rw [unhide HN]; exact hB, hbw⟩
                  case measure => simp [intOf]; omega
                · have HY := hide (hyes h9)
                  have i1 : ((d : Int) == 9) = false := beqI _ _ (by omega)
                  have i2 : ((d : Int) == 10) = false := beqI _ _ (by omega)
                  have i3 : ((d : Int) == 13) = false := beqI _ _ (by omega)
                  have j1 : ((d : Int) != 9) = true := bneI' _ _ (by omega)
                  have j2 : ((d : Int) != 10) = true := bneI' _ _ (by omega)
                  have j3 : ((d : Int) != 13) = true := bneI' _ _ (by omega)
                  have HB := hide hB
                  clear hyes hno hkl h9 hB
                  go_wp2_with fail
                  refine (writeByte_any _ _ _ d _ hblt (unhide HB) (by omega) (by omega)).mono ?_
                  rintro e1 w1 ⟨rfl, B1, hb1⟩
                  go_wp2
                  go_roundw
                  case rel => exact ⟨k + 1, by omega, by go_num, by rw [unhide HY]; exact B1, hbw.trans hb1⟩
                  case measure => simp [intOf]; omega
              · have hkn : k = y.size := by omega
                have hall := kpK_all y.data.toList
                rw [unhide HL] at hall
                rw [hkn, hall] at hB
                have hne := kpK_ne y.data.toList (by rw [unhide HL]; exact hy0) (by rw [unhide HYB]; exact unhide H32)
                have hfin : plL s.data.toList = y.data.toList.filter kpB := by rw [plL, unhide HC]
                have HF := hide hfin
                clear hfin hall
                go_wp2_with fail
                refine (string_any _ _ _ _ hB hne).mono ?_
                rintro e1 w2 ⟨rfl, hb2⟩
                go_wp2
                go_ret
                exact ⟨by rw [unhide HF]; rfl, hbw.trans hb2⟩
end Go.Proofs.Ytfdhmhdemfbfeaa

/-
  How far the bytes of a scheme, or of anything else that is asked byte by byte, go: the program's and the reference's.
-/
namespace Go.Proofs.Ytfdhmhdemfbfeaa
open Go.RowKit
set_option linter.unusedVariables false

/-- How many bytes stand ahead of the first one that is not such. -/
def tkN (p : Nat → Bool) (l : List UInt8) : Nat := (l.takeWhile (fun c => p c.toNat)).length
theorem tkN_le (p : Nat → Bool) (l : List UInt8) : tkN p l ≤ l.length := (List.takeWhile_sublist _).length_le
theorem tkN_nil (p : Nat → Bool) : tkN p [] = 0 := rfl
theorem tkN_yes (p : Nat → Bool) (c : UInt8) (l : List UInt8) (h : p c.toNat = true) : tkN p (c :: l) = tkN p l + 1 := by
  simp [tkN, h]
theorem tkN_no (p : Nat → Bool) (c : UInt8) (l : List UInt8) (h : p c.toNat = false) : tkN p (c :: l) = 0 := by
  simp [tkN, h]
theorem dgt_consS (c : UInt8) (l : List UInt8) (j : Nat) : dgt (c :: l) (j + 1) = dgt l j := rfl
theorem dgt_cons0 (c : UInt8) (l : List UInt8) : dgt (c :: l) 0 = c.toNat := rfl
theorem tkN_is (p : Nat → Bool) : ∀ (l : List UInt8) (k : Nat), k ≤ l.length → (∀ j, j < k → p (dgt l j) = true) → (k = l.length ∨ p (dgt l k) = false) → tkN p l = k
  | [], k, hk, _, _ => by simp at hk; rw [hk]; rfl
  | c :: l, 0, hk, h, he => by
    have : p c.toNat = false := by
      rcases he with h | h
      · simp at h
      · exact h
    exact tkN_no p c l this
  | c :: l, k + 1, hk, h, he => by
    have h0 : p c.toNat = true := h 0 (by omega)
    rw [tkN_yes p c l h0, tkN_is p l k (by simp at hk; exact hk) (fun j hj => h (j + 1) (by omega)) (by
      rcases he with h | h
      · left; simp at h; exact h
      · right; exact h)]
theorem tkN_in (p : Nat → Bool) : ∀ (l : List UInt8) (j : Nat), j < tkN p l → p (dgt l j) = true
  | [], j, h => by simp [tkN] at h
  | c :: l, j, h => by
    cases hc : p c.toNat with
    | false => rw [tkN_no p c l hc] at h; omega
    | true =>
      rw [tkN_yes p c l hc] at h
      cases j with
      | zero => exact hc
      | succ j => exact tkN_in p l j (by omega)
theorem tkN_at (p : Nat → Bool) : ∀ (l : List UInt8), tkN p l < l.length → p (dgt l (tkN p l)) = false
  | [], h => by simp at h
  | c :: l, h => by
    cases hc : p c.toNat with
    | false => rw [tkN_no p c l hc]; exact hc
    | true =>
      rw [tkN_yes p c l hc] at h ⊢
      rw [dgt_consS]
      exact tkN_at p l (by simp at h; exact h)

def osN (b : Nat) : Bool := ltN b || (dgN b || decide (b = 43 ∨ b = 45 ∨ b = 46))
theorem os_lt {b : Nat} (h : ltN b = true) : osN b = true := by simp [osN, h]
theorem os_dg {b : Nat} (h : dgN b = true) : osN b = true := by simp [osN, h]
theorem os_sg {b : Nat} (h : b = 43 ∨ b = 45 ∨ b = 46) : osN b = true := by simp [osN, h]
theorem os_no {b : Nat} (h1 : ltN b = false) (h2 : dgN b = false) (h3 : ¬ (b = 43 ∨ b = 45 ∨ b = 46)) : osN b = false := by
  simp [osN, h1, h2]; omega
/-- How many bytes a scheme would have. -/
def szN (l : List UInt8) : Nat := if 0 < l.length ∧ ltN (dgt l 0) = true then tkN osN l else 0
/-- How many it has; 0: there is none. -/
def schN (l : List UInt8) : Nat := if 0 < szN l ∧ szN l < l.length ∧ dgt l (szN l) = 58 then szN l else 0
theorem szN_no {l : List UInt8} (h : ¬ (0 < l.length ∧ ltN (dgt l 0) = true)) : szN l = 0 := if_neg h
theorem szN_yes {l : List UInt8} (h : 0 < l.length) (h2 : ltN (dgt l 0) = true) : szN l = tkN osN l := if_pos ⟨h, h2⟩
theorem szN_le (l : List UInt8) : szN l ≤ l.length := by
  unfold szN; split
  · exact tkN_le _ _
  · omega
theorem schN_yes {l : List UInt8} (h : 0 < szN l) (h1 : szN l < l.length) (h2 : dgt l (szN l) = 58) : schN l = szN l := if_pos ⟨h, h1, h2⟩
theorem schN_no {l : List UInt8} (h : ¬ (0 < szN l ∧ szN l < l.length ∧ dgt l (szN l) = 58)) : schN l = 0 := if_neg h

set_option maxHeartbeats 1000000 in
theorem ofs_any : ByteIs 95 osN := by
  intro b w
  have C1 := hide (letter_any b)
  have C2 := hide (digit_any b)
  cases h1 : ltN b with
  | true =>
    rw [os_lt h1]
    rw [h1] at C1
    clear h1
    go_enter Try.func95, Try.ntmps95
    go_wp2_with fail
    refine (unhide C1 _).mono ?_
    rintro e1 w1 ⟨rfl, rfl⟩
    go_wp2
    go_ret
    exact ⟨rfl, rfl⟩
  | false =>
    rw [h1] at C1
    cases h2 : dgN b with
    | true =>
      rw [os_dg h2]
      rw [h2] at C2
      clear h1 h2
      go_enter Try.func95, Try.ntmps95
      go_wp2_with fail
      refine (unhide C1 _).mono ?_
      rintro e1 w1 ⟨rfl, rfl⟩
      go_wp2_with fail
      refine (unhide C2 _).mono ?_
      rintro e1 w1 ⟨rfl, rfl⟩
      go_wp2
      go_ret
      exact ⟨rfl, rfl⟩
    | false =>
      rw [h2] at C2
      by_cases h3 : b = 43 ∨ b = 45 ∨ b = 46
      · rw [os_sg h3]
        clear h1 h2
        rcases h3 with h | h | h
        all_goals subst h
        all_goals go_enter Try.func95, Try.ntmps95
        all_goals go_wp2_with fail
        all_goals refine (unhide C1 _).mono ?_
        all_goals rintro e1 w1 ⟨rfl, rfl⟩
        all_goals go_wp2_with fail
        all_goals refine (unhide C2 _).mono ?_
        all_goals rintro e1 w1 ⟨rfl, rfl⟩
        all_goals go_wp2
        all_goals go_ret
        all_goals exact ⟨rfl, rfl⟩
      · rw [os_no h1 h2 h3]
        have i1 : ((b : Int) == 43) = false := bneI (by omega)
        have i2 : ((b : Int) == 45) = false := bneI (by omega)
        have i3 : ((b : Int) == 46) = false := bneI (by omega)
        clear h1 h2 h3
        go_enter Try.func95, Try.ntmps95
        go_wp2_with fail
        refine (unhide C1 _).mono ?_
        rintro e1 w1 ⟨rfl, rfl⟩
        go_wp2_with fail
        refine (unhide C2 _).mono ?_
        rintro e1 w1 ⟨rfl, rfl⟩
        go_wp2
        go_ret
        exact ⟨rfl, rfl⟩

set_option maxHeartbeats 1000000 in
theorem vsize_any (s : ByteArray) (w : World) (hs : s.size ≤ 9223372036854775807) :
    Calls Try.prog 89 #[.string s] w fun e w' => e = .returned (.int .i64 (szN s.data.toList : Int)) ∧ w' = w := by
  by_cases h0 : s.size = 0
  · have he := is_empty s h0
    rw [szN_no (by rw [data_len]; omega)]
    go_enter Try.func89, Try.ntmps89
    go_wp2
    go_ret
    exact ⟨rfl, rfl⟩
  have hp : 0 < s.size := by omega
  have hpi : (0 : Int) < (s.size : Int) := by omega
  have he := not_empty s hp
  have e := dgt_at s 0 hp
  have C1 := hide (letter_any (dgt s.data.toList 0))
  cases h1 : ltN (dgt s.data.toList 0) with
  | false =>
    rw [szN_no (by rw [h1]; simp)]
    rw [h1] at C1
    clear h1
    generalize dgt s.data.toList 0 = b at *
    go_enter Try.func89, Try.ntmps89
    go_wp2_with fail
    refine (unhide C1 _).mono ?_
    rintro e1 w1 ⟨rfl, rfl⟩
    go_wp2
    go_ret
    exact ⟨rfl, rfl⟩
  | true =>
    have HZ := hide (tkN_is osN s.data.toList)
    have hz := szN_yes (l := s.data.toList) (by rw [data_len]; exact hp) h1
    rw [data_len] at HZ
    rw [hz]
    rw [h1] at C1
    have CO := hide ofs_any
    clear h1 hz
    generalize dgt s.data.toList 0 = b at *
    go_enter Try.func89, Try.ntmps89
    go_wp2_with fail
    refine (unhide C1 _).mono ?_
    rintro e1 w1 ⟨rfl, hw1⟩
    obtain rfl : w = w1 := hw1.symm
    clear hw1
    go_wp2
    go_loopw [14] (fun i wr => ∃ k : Nat, k ≤ s.size ∧ i = .int .i64 k ∧ (∀ j, j < k → osN (dgt s.data.toList j) = true) ∧ wr = w) (fun i _ => s.size - (intOf i).toNat)
    case atStart => exact ⟨0, Nat.zero_le _, rfl, fun j hj => absurd hj (Nat.not_lt_zero _), rfl⟩
    case round =>
      clear e
      obtain ⟨k, hk, rfl, hr, hw⟩ := hrel
      have hw' := hw.symm
      subst hw'
      have HR := hide hr
      clear hr hw
      by_cases hp : k < s.size
      · have hpi : (k : Int) < (s.size : Int) := by omega
        have e := dgt_at s k hp
        have CB := hide (unhide CO (dgt s.data.toList k))
        cases ho : osN (dgt s.data.toList k) with
        | true =>
          have HR2 : Hid (∀ j, j < k + 1 → osN (dgt s.data.toList j) = true) := hide (fun j hj => by
            by_cases ej : j = k
            · rw [ej]; exact ho
            · exact unhide HR j (by omega))
          rw [ho] at CB
          clear ho
          generalize dgt s.data.toList k = d at *
          go_wp2_with fail
          refine (unhide CB _).mono ?_
          rintro e1 w1 ⟨rfl, hw1⟩
          obtain rfl : w = w1 := hw1.symm
          go_wp2
          go_roundw
          case rel => exact ⟨k + 1, by omega, by go_num, unhide HR2, by first | rfl | trivial⟩
          case measure => simp [intOf]; omega
        | false =>
          have ht := unhide HZ k hk (unhide HR) (.inr ho)
          rw [ho] at CB
          have HT := hide ht
          clear ho ht
          generalize dgt s.data.toList k = d at *
          go_wp2_with fail
          refine (unhide CB _).mono ?_
          rintro e1 w1 ⟨rfl, hw1⟩
          obtain rfl : w = w1 := hw1.symm
          go_wp2
          go_ret
          exact ⟨by rw [unhide HT]; rfl, rfl⟩
      · have hkn : k = s.size := by omega
        have ht := unhide HZ k hk (unhide HR) (.inl hkn)
        rw [hkn] at ht
        have HT := hide ht
        clear ht
        go_wp2
        go_ret
        exact ⟨by rw [unhide HT]; rfl, rfl⟩
end Go.Proofs.Ytfdhmhdemfbfeaa

/-
  The reference's Plain, scheme and first of layer 15.
-/
namespace Go.Proofs.Ytfdhmhdemfbfeaa
open Go.RowKit
set_option linter.unusedVariables false

/-- Where what is left begins, and where it ends. -/
theorem trL_drop (l : List UInt8) (k : Nat) (hk : k ≤ l.length) (h : ∀ j, j < k → dgt l j ≤ 32) (he : k = l.length ∨ 32 < dgt l k) : trL l = l.drop k := by
  induction k generalizing l with
  | zero =>
    rw [List.drop_zero]
    exact trL_done l (by rcases he with h | h; exact .inl h.symm; exact .inr h)
  | succ k ih =>
    rw [trL_next l (by omega) (h 0 (by omega)), ih (l.drop 1) (by rw [List.length_drop]; omega) (fun j hj => by rw [dgt_drop]; exact h (1 + j) (by omega)) (by
      rw [dgt_drop, List.length_drop, Nat.add_comm 1 k]
      rcases he with h | h
      · left; omega
      · exact .inr h), List.drop_drop, Nat.add_comm 1 k]
theorem trR_take (l : List UInt8) : ∀ (n k : Nat), k + n = l.length → (∀ j, k ≤ j → j < l.length → dgt l j ≤ 32) → (k = 0 ∨ 32 < dgt l (k - 1)) → trR l = l.take k
  := by
  intro n
  induction n generalizing l with
  | zero =>
    intro k hk h he
    have hkl : k = l.length := by omega
    rw [hkl, List.take_length]
    refine trR_done l ?_
    rcases he with h | h
    · left; omega
    · right; rw [← hkl]; exact h
  | succ n ih =>
    intro k hk h he
    rw [trR_next l (by omega) (h _ (by omega) (by omega))]
    have hl : (l.take (l.length - 1)).length = l.length - 1 := by rw [List.length_take]; omega
    have hd : ∀ j, j < l.length - 1 → dgt (l.take (l.length - 1)) j = dgt l j := fun j hj => by
      unfold dgt; rw [List.getD, List.getD, List.getElem?_take_of_lt hj]
    rw [ih (l.take (l.length - 1)) k (by omega) (fun j h1 h2 => by rw [hl] at h2; rw [hd j h2]; exact h j h1 (by omega)) (by
      rcases he with h0 | h0
      · exact .inl h0
      · by_cases hk0 : k = 0
        · exact .inl hk0
        · right; rw [hd (k - 1) (by omega)]; exact h0), List.take_take, Nat.min_eq_left (by omega)]

/-- What the reference has put together, when it stands at place i. -/
def rpK (l : List UInt8) (a i : Nat) : List UInt8 := ((l.drop a).take (i - a)).filter kpB
theorem rpK_0 (l : List UInt8) (a : Nat) : rpK l a a = [] := by simp [rpK]
theorem rp_at (l : List UInt8) (a i : Nat) (h : i < l.length) (ha : a ≤ i) : (l.drop a).take (i + 1 - a) = (l.drop a).take (i - a) ++ [byt (dgt l i)] := by
  have := take_at (l.drop a) (i - a) (by rw [List.length_drop]; omega)
  rw [dgt_drop, show a + (i - a) = i by omega] at this
  rw [show i + 1 - a = i - a + 1 by omega, this]
theorem rpK_yes (l : List UInt8) (a i : Nat) (h : i < l.length) (ha : a ≤ i) (hb : ¬ (dgt l i = 9 ∨ dgt l i = 10 ∨ dgt l i = 13)) : rpK l a (i + 1) = rpK l a i ++ [byt (dgt l i)] := by
  rw [rpK, rp_at l a i h ha, List.filter_append]
  simp [rpK, kp_yes (dgt_lt l i) hb]
theorem rpK_no (l : List UInt8) (a i : Nat) (h : i < l.length) (ha : a ≤ i) (hb : dgt l i = 9 ∨ dgt l i = 10 ∨ dgt l i = 13) : rpK l a (i + 1) = rpK l a i := by
  rw [rpK, rp_at l a i h ha, List.filter_append]
  simp [rpK, kp_no (dgt_lt l i) hb]
theorem rpK_len (l : List UInt8) (a i : Nat) : (rpK l a i).length ≤ l.length := by
  have h1 : (rpK l a i).length ≤ ((l.drop a).take (i - a)).length := List.length_filter_le _ _
  rw [List.length_take, List.length_drop] at h1
  omega
theorem rpK_all (l : List UInt8) (a z : Nat) (haz : a ≤ z) (hz : z ≤ l.length) (h1 : ∀ j, j < a → dgt l j ≤ 32) (h2 : a = l.length ∨ 32 < dgt l a) (h3 : ∀ j, z ≤ j → j < l.length → dgt l j ≤ 32) (h4 : z = a ∨ 32 < dgt l (z - 1)) : plL l = rpK l a z := by
  rw [plL, rpK, cut2, trL_drop l a (by omega) h1 h2]
  rw [trR_take (l.drop a) (l.length - z) (z - a) (by rw [List.length_drop]; omega) (fun j hj hj2 => by rw [List.length_drop] at hj2; rw [dgt_drop]; exact h3 _ (by omega) (by omega)) (by
    rw [dgt_drop]
    rcases h4 with h | h
    · left; omega
    · by_cases e : z = a
      · left; omega
      · right; rw [show a + (z - a - 1) = z - 1 by omega]; exact h)]

set_option maxHeartbeats 2000000 in
theorem rplain_any (s : ByteArray) (w : World) (hs : s.size ≤ 100000) :
    Calls Try.prog 68 #[.string s] w fun e w' => e = .returned (.string (bs (plL s.data.toList))) ∧ Below w.heap.size w w' := by
  have HF := hide (rpK_all s.data.toList)
  rw [data_len] at HF
  go_enter Try.func68, Try.ntmps68
  go_wp2
  go_loopw [3] (fun i wr => ∃ k : Nat, k ≤ s.size ∧ i = .int .i64 k ∧ (∀ j, j < k → dgt s.data.toList j ≤ 32) ∧ wr = w) (fun i _ => s.size - (intOf i).toNat)
  case atStart => exact ⟨0, Nat.zero_le _, rfl, fun j hj => absurd hj (Nat.not_lt_zero _), rfl⟩
  case round =>
    obtain ⟨a, hk, rfl, hr, hw⟩ := hrel
    have hw' := hw.symm
    subst hw'
    have HR := hide hr
    clear hr hw
    by_cases hgo : a < s.size ∧ dgt s.data.toList a ≤ 32
    · obtain ⟨hp, h32⟩ := hgo
      have hpi : (a : Int) < (s.size : Int) := by omega
      have e := dgt_at s a hp
      have HR2 : Hid (∀ j, j < a + 1 → dgt s.data.toList j ≤ 32) := hide (fun j hj => by
        by_cases ej : j = a
        · rw [ej]; exact h32
        · exact unhide HR j (by omega))
      have hi : ((dgt s.data.toList a : Nat) : Int) < 33 := by omega
      generalize dgt s.data.toList a = d at *
      go_wp2
      go_roundw
      case rel => exact ⟨a + 1, by omega, by go_num, unhide HR2, by first | rfl | trivial⟩
      case measure => simp [intOf]; omega
    · have hst : Hid (a = s.size ∨ 32 < dgt s.data.toList a) := hide (by
        by_cases h : a < s.size
        · right; have : ¬ dgt s.data.toList a ≤ 32 := fun x => hgo ⟨h, x⟩
          omega
        · left; omega)
      by_cases hp : a < s.size
      · have hpi : (a : Int) < (s.size : Int) := by omega
        have e := dgt_at s a hp
        have hi : decide (((dgt s.data.toList a : Nat) : Int) < 33) = false := by
          have : ¬ dgt s.data.toList a ≤ 32 := fun x => hgo ⟨hp, x⟩
          simp; omega
        clear hgo
        generalize hdd : dgt s.data.toList a = d at *
        have HDD := hide hdd
        clear hdd
        go_wp2
        clear e hi
        go_loopw [4] (fun i wr => ∃ z : Nat, a < z ∧ z ≤ s.size ∧ i = .int .i64 z ∧ (∀ j, z ≤ j → j < s.size → dgt s.data.toList j ≤ 32) ∧ wr = w) (fun i _ => (intOf i).toNat)
        case atStart => exact ⟨s.size, hp, Nat.le_refl _, rfl, fun j h1 h2 => by omega, rfl⟩
        case round =>
          obtain ⟨z, haz, hz, rfl, hr, hw⟩ := hrel
          have hw' := hw.symm
          subst hw'
          have HZ := hide hr
          clear hr hw
          have hzi : (a : Int) < (z : Int) := by omega
          have hz1 : (1 : Int) ≤ (z : Int) := by omega
          have hkz : z - 1 < s.size := by omega
          have e := dgt_at s (z - 1) hkz
          have hin : ((z : Int) - 1).toNat = z - 1 := by omega
          have hin2 : (z : Int) - 1 < (s.size : Int) := by omega
          have hin0 : (0 : Int) ≤ (z : Int) - 1 := by omega
          by_cases h32 : dgt s.data.toList (z - 1) ≤ 32
          · have hza : a < z - 1 := by
              by_cases ez : z - 1 = a
              · rw [ez] at h32
                have h9 := unhide hst
                rw [unhide HDD] at h32
                omega
              · omega
            have HZ2 : Hid (∀ j, z - 1 ≤ j → j < s.size → dgt s.data.toList j ≤ 32) := hide (fun j h1 h2 => by
              by_cases ej : j = z - 1
              · rw [ej]; exact h32
              · exact unhide HZ j (by omega) h2)
            have hi : ((dgt s.data.toList (z - 1) : Nat) : Int) < 33 := by omega
            generalize dgt s.data.toList (z - 1) = c at *
            go_wp2
            go_roundw
            case rel => exact ⟨z - 1, hza, by omega, by first | go_num | (congr 1; omega), unhide HZ2, by first | rfl | trivial⟩
            case measure => simp [intOf]; omega
          · have hi : decide (((dgt s.data.toList (z - 1) : Nat) : Int) < 33) = false := by simp; omega
            have HL : Hid (z = a ∨ 32 < dgt s.data.toList (z - 1)) := hide (.inr (by omega))
            clear h32
            generalize hcc : dgt s.data.toList (z - 1) = c at *
            have HCC := hide hcc
            clear hcc
            go_wp2
            clear e hi hin hin2 hin0
            go_loopw [5, 6] (fun o i wr => ∃ k : Nat, a ≤ k ∧ k ≤ z ∧ i = .int .i64 k ∧ o = .string (bs (rpK s.data.toList a k)) ∧ Below w.heap.size w wr) (fun _ i _ => z - (intOf i).toNat)
            case atStart => exact ⟨a, Nat.le_refl _, by omega, rfl, by rw [rpK_0]; rfl, Below.refl _ _⟩
            case round =>
              obtain ⟨k, hak, hk, rfl, rfl, hbw⟩ := hrel
              by_cases hp : k < z
              · have hpi : (k : Int) < (z : Int) := by omega
                have hps : k < s.size := by omega
                have hpsi : (k : Int) < (s.size : Int) := by omega
                have e := dgt_at s k hps
                have hkl : k < s.data.toList.length := by rw [data_len]; exact hps
                have hyes := rpK_yes s.data.toList a k hkl hak
                have hno := rpK_no s.data.toList a k hkl hak
                have hlen := rpK_len s.data.toList a k
                rw [data_len, ← bs_size] at hlen
                have hone := one_at s k hps
                have hone' := congrArg ByteArray.size hone
                rw [bs_size] at hone'
                have hblt := dgt_lt s.data.toList k
                generalize dgt s.data.toList k = d at *
                generalize hx : bs (rpK s.data.toList a k) = x at *
                have HX := hide hx
                have HO := hide hone
                clear hx hone
                by_cases h9 : d = 9 ∨ d = 10 ∨ d = 13
                · have HN := hide (hno h9)
                  clear hyes hno hkl
                  rcases h9 with h | h | h
                  all_goals subst h
                  all_goals go_wp2
                  all_goals go_roundw
                  case rel => exact ⟨k + 1, by omega, by omega, by go_num, by rw [unhide HN, unhide HX], hbw⟩
                  case measure => simp [intOf]; omega
                  case rel => exact ⟨k + 1, by omega, by omega, by go_num, by rw [unhide HN, unhide HX], hbw⟩
                  case measure => simp [intOf]; omega
                  case rel => exact ⟨k + 1, by omega, by omega, by go_num, by rw [unhide HN, unhide HX], hbw⟩
                  case measure => simp [intOf]; omega
                · have HY := hide (hyes h9)
                  have i1 : ((d : Int) == 9) = false := beqI _ _ (by omega)
                  have i2 : ((d : Int) == 10) = false := beqI _ _ (by omega)
                  have i3 : ((d : Int) == 13) = false := beqI _ _ (by omega)
                  have j1 : ((d : Int) != 9) = true := bneI' _ _ (by omega)
                  have j2 : ((d : Int) != 10) = true := bneI' _ _ (by omega)
                  have j3 : ((d : Int) != 13) = true := bneI' _ _ (by omega)
                  clear hyes hno hkl h9
                  go_wp2
                  go_roundw
                  case rel => exact ⟨k + 1, by omega, by omega, by go_num, by rw [unhide HY, ← bs_bs, unhide HX, ← unhide HO], by first | exact hbw | exact _root_.Go.below_drewN hbw _⟩
                  case measure => simp [intOf]; omega
              · have hkn : k = z := by omega
                have hf := unhide HF a z (by omega) hz (unhide HR) (by rw [unhide HDD]; exact unhide hst) (unhide HZ) (by rw [unhide HCC]; exact unhide HL)
                rw [← hkn] at hf
                have HE := hide hf
                clear hf
                go_wp2
                go_ret
                exact ⟨by rw [unhide HE]; rfl, hbw⟩
      · have hpi : ¬ (a : Int) < (s.size : Int) := by omega
        have han : a = s.size := by omega
        have hf := unhide HF a a (Nat.le_refl _) hk (unhide HR) (unhide hst) (fun j h1 h2 => by omega) (.inl rfl)
        rw [rpK_0] at hf
        have HE := hide hf
        clear hf hgo
        subst han
        go_wp2
        refine wp_loop_rounds 1 ?_
        rw [rounds_succ]; go_wp2
        refine wp_loop_rounds 1 ?_
        rw [rounds_succ]; go_wp2
        go_ret
        exact ⟨by rw [unhide HE]; rfl, Below.refl _ _⟩

def nfN (a b : Nat) (x : Nat) : Bool := decide (¬ x = a) && decide (¬ x = b)
theorem nf_yes {a b x : Nat} (h1 : ¬ x = a) (h2 : ¬ x = b) : nfN a b x = true := by simp [nfN, h1, h2]
theorem nf_no {a b x : Nat} (h : x = a ∨ x = b) : nfN a b x = false := by
  rcases h with h | h <;> simp [nfN, h]

set_option maxHeartbeats 1000000 in
theorem vfirst_any (s : ByteArray) (a b : Nat) (w : World) (hs : s.size ≤ 9223372036854775807) :
    Calls Try.prog 70 #[.string s, .int .u8 (a : Int), .int .u8 (b : Int)] w fun e w' => e = .returned (.int .i64 (tkN (nfN a b) s.data.toList : Int)) ∧ w' = w := by
  have HZ := hide (tkN_is (nfN a b) s.data.toList)
  rw [data_len] at HZ
  go_enter Try.func70, Try.ntmps70
  go_wp2
  go_loopw [7] (fun i wr => ∃ k : Nat, k ≤ s.size ∧ i = .int .i64 k ∧ (∀ j, j < k → nfN a b (dgt s.data.toList j) = true) ∧ wr = w) (fun i _ => s.size - (intOf i).toNat)
  case atStart => exact ⟨0, Nat.zero_le _, rfl, fun j hj => absurd hj (Nat.not_lt_zero _), rfl⟩
  case round =>
    obtain ⟨k, hk, rfl, hr, hw⟩ := hrel
    have hw' := hw.symm
    subst hw'
    have HR := hide hr
    clear hr hw
    by_cases hp : k < s.size
    · have hpi : (k : Int) < (s.size : Int) := by omega
      have e := dgt_at s k hp
      cases ho : nfN a b (dgt s.data.toList k) with
      | true =>
        have HR2 : Hid (∀ j, j < k + 1 → nfN a b (dgt s.data.toList j) = true) := hide (fun j hj => by
          by_cases ej : j = k
          · rw [ej]; exact ho
          · exact unhide HR j (by omega))
        have h12 : ¬ dgt s.data.toList k = a ∧ ¬ dgt s.data.toList k = b := by simpa [nfN] using ho
        have i1 : (((dgt s.data.toList k : Nat) : Int) == (a : Int)) = false := bneI (by omega)
        have i2 : (((dgt s.data.toList k : Nat) : Int) == (b : Int)) = false := bneI (by omega)
        have j1 : (((dgt s.data.toList k : Nat) : Int) != (a : Int)) = true := bneI' _ _ (by omega)
        have j2 : (((dgt s.data.toList k : Nat) : Int) != (b : Int)) = true := bneI' _ _ (by omega)
        clear ho h12
        generalize dgt s.data.toList k = d at *
        go_wp2
        go_roundw
        case rel => exact ⟨k + 1, by omega, by go_num, unhide HR2, by first | rfl | trivial⟩
        case measure => simp [intOf]; omega
      | false =>
        have ht := unhide HZ k hk (unhide HR) (.inr ho)
        have HT := hide ht
        have h12 : dgt s.data.toList k = a ∨ dgt s.data.toList k = b := by
          by_cases h1 : dgt s.data.toList k = a
          · exact .inl h1
          · by_cases h2 : dgt s.data.toList k = b
            · exact .inr h2
            · rw [nf_yes h1 h2] at ho; cases ho
        clear ho ht
        by_cases h1 : dgt s.data.toList k = a
        · have i1 : (((dgt s.data.toList k : Nat) : Int) == (a : Int)) = true := by rw [h1]; simp
          have j1 : (((dgt s.data.toList k : Nat) : Int) != (a : Int)) = false := by simp [bne, h1]
          clear h12 h1
          generalize dgt s.data.toList k = d at *
          go_wp2
          go_ret
          exact ⟨by rw [unhide HT]; rfl, rfl⟩
        · have h2 : dgt s.data.toList k = b := by rcases h12 with h | h; exact absurd h h1; exact h
          have i1 : (((dgt s.data.toList k : Nat) : Int) == (a : Int)) = false := bneI (by omega)
          have j1 : (((dgt s.data.toList k : Nat) : Int) != (a : Int)) = true := bneI' _ _ (by omega)
          have i2 : (((dgt s.data.toList k : Nat) : Int) == (b : Int)) = true := by rw [h2]; simp
          have j2 : (((dgt s.data.toList k : Nat) : Int) != (b : Int)) = false := by simp [bne, h2]
          clear h12 h1 h2
          generalize dgt s.data.toList k = d at *
          go_wp2
          go_ret
          exact ⟨by rw [unhide HT]; rfl, rfl⟩
    · have hkn : k = s.size := by omega
      have ht := unhide HZ k hk (unhide HR) (.inl hkn)
      have HT := hide ht
      clear ht
      go_wp2
      go_ret
      exact ⟨by rw [unhide HT]; rfl, rfl⟩

theorem dg_not {d : Nat} (h : ltN d = true) : dgN d = false ∧ ¬ d = 43 ∧ ¬ d = 45 ∧ ¬ d = 46 ∧ ¬ d = 58 := by
  have := ltN_true h
  refine ⟨?_, by omega, by omega, by omega, by omega⟩
  cases hd : dgN d with
  | false => rfl
  | true => simp [dgN] at hd; omega

set_option maxHeartbeats 2000000 in
theorem rscheme_any (s : ByteArray) (w : World) (hs : s.size ≤ 9223372036854775807) :
    Calls Try.prog 69 #[.string s] w fun e w' => e = .returned (.int .i64 (schN s.data.toList : Int)) ∧ w' = w := by
  have hl := data_len s
  have CL := hide rletter_any
  have CD := hide rdigit_any
  -- how it ends
  have hstop : ∀ k, k ≤ s.size → (∀ j, j < k → osN (dgt s.data.toList j) = true) → (0 < k → ltN (dgt s.data.toList 0) = true) → (k = s.size ∨ osN (dgt s.data.toList k) = false) →
      schN s.data.toList = if k < s.size ∧ dgt s.data.toList k = 58 then k else 0 := by
    intro k hk h1 h2 h3
    by_cases hk0 : k = 0
    · have hz : szN s.data.toList = 0 := by
        refine szN_no ?_
        rintro ⟨p1, p2⟩
        rw [hk0] at h3
        rcases h3 with h3 | h3
        · omega
        · rw [os_lt p2] at h3; cases h3
      rw [schN_no (by rw [hz]; omega), hk0]
      split <;> rfl
    · have hz : szN s.data.toList = k := by
        rw [szN_yes (by omega) (h2 (by omega))]
        exact tkN_is osN s.data.toList k (by omega) h1 (by rw [hl]; exact h3)
      by_cases hy : k < s.size ∧ dgt s.data.toList k = 58
      · rw [if_pos hy, schN_yes (by omega) (by omega) (by rw [hz]; exact hy.2), hz]
      · rw [if_neg hy, schN_no (by rw [hz, hl]; exact fun h => hy h.2)]
  have HS := hide hstop
  clear hstop hl
  go_enter Try.func69, Try.ntmps69
  go_wp2
  go_loopw [3] (fun i wr => ∃ k : Nat, k ≤ s.size ∧ i = .int .i64 k ∧ (∀ j, j < k → osN (dgt s.data.toList j) = true) ∧ (0 < k → ltN (dgt s.data.toList 0) = true) ∧ wr = w) (fun i _ => s.size - (intOf i).toNat)
  case atStart => exact ⟨0, Nat.zero_le _, rfl, fun j hj => absurd hj (Nat.not_lt_zero _), fun h => absurd h (Nat.lt_irrefl _), rfl⟩
  case round =>
    obtain ⟨k, hk, rfl, hr, hf, hw⟩ := hrel
    have hw' := hw.symm
    subst hw'
    have HR := hide hr
    have HF := hide hf
    clear hr hw hf
    by_cases hp : k < s.size
    · have hpi : (k : Int) < (s.size : Int) := by omega
      have e := dgt_at s k hp
      have hst := unhide HS k hk (unhide HR) (unhide HF)
      by_cases h58 : dgt s.data.toList k = 58
      · have ht := hst (.inr (by rw [h58]; rfl))
        rw [if_pos ⟨hp, h58⟩] at ht
        have HT := hide ht
        have i1 : (((dgt s.data.toList k : Nat) : Int) == 58) = true := by rw [h58]; rfl
        clear hst ht h58
        generalize dgt s.data.toList k = d at *
        go_wp2
        go_ret
        exact ⟨by rw [unhide HT]; rfl, rfl⟩
      have i58 : (((dgt s.data.toList k : Nat) : Int) == 58) = false := bneI (by omega)
      have HR2 : Hid (osN (dgt s.data.toList k) = true → ∀ j, j < k + 1 → osN (dgt s.data.toList j) = true) := hide (fun ho j hj => by
        by_cases ej : j = k
        · rw [ej]; exact ho
        · exact unhide HR j (by omega))
      have HT : Hid (osN (dgt s.data.toList k) = false → schN s.data.toList = 0) := hide (fun ho => by
        rw [hst (.inr ho), if_neg (fun h => h58 h.2)])
      have HK : Hid (k = 0 → ltN (dgt s.data.toList k) = false → schN s.data.toList = 0) := hide (fun h0 hlt => by
        refine schN_no ?_
        rw [szN_no (by rw [← h0, hlt]; simp)]; omega)
      have HF2 : Hid (k = 0 → ltN (dgt s.data.toList k) = true → ltN (dgt s.data.toList 0) = true) := hide (fun h0 hlt => by rw [h0] at hlt; exact hlt)
      have C1 := hide (unhide CL (dgt s.data.toList k))
      have C2 := hide (unhide CD (dgt s.data.toList k))
      clear hst h58
      generalize dgt s.data.toList k = d at *
      cases h1 : ltN d with
      | true =>
        obtain ⟨g1, g2, g3, g4, g5⟩ := dg_not h1
        have i1 : ((d : Int) == 43) = false := bneI (by omega)
        have i2 : ((d : Int) == 45) = false := bneI (by omega)
        have i3 : ((d : Int) == 46) = false := bneI (by omega)
        have HF3 : Hid (ltN (dgt s.data.toList 0) = true) := hide (by
          by_cases h0 : k = 0
          · exact unhide HF2 h0 h1
          · exact unhide HF (by omega))
        have HR3 := hide (unhide HR2 (os_lt h1))
        rw [h1] at C1
        rw [g1] at C2
        clear h1 g1 g2 g3 g4 g5 HT HK HR2 HF2
        go_wp2_with fail
        refine (unhide C1 _).mono ?_
        rintro e1 w1 ⟨rfl, hw1⟩
        obtain rfl : w = w1 := hw1.symm
        clear hw1
        go_wp2_with fail
        refine (unhide C2 _).mono ?_
        rintro e1 w1 ⟨rfl, hw1⟩
        obtain rfl : w = w1 := hw1.symm
        go_wp2
        go_roundw
        case rel => exact ⟨k + 1, by omega, by go_num, unhide HR3, fun _ => unhide HF3, by first | rfl | trivial⟩
        case measure => simp [intOf]; omega
      | false =>
        rw [h1] at C1
        cases h2 : dgN d with
        | true =>
          rw [h2] at C2
          by_cases h0 : k = 0
          · have HE := hide (unhide HK h0 h1)
            clear HK HT HR2 HF2 h1 h2
            subst h0
            go_wp2_with fail
            refine (unhide C1 _).mono ?_
            rintro e1 w1 ⟨rfl, hw1⟩
            obtain rfl : w = w1 := hw1.symm
            clear hw1
            go_wp2_with fail
            refine (unhide C2 _).mono ?_
            rintro e1 w1 ⟨rfl, hw1⟩
            obtain rfl : w = w1 := hw1.symm
            go_wp2
            go_ret
            exact ⟨by rw [unhide HE]; rfl, rfl⟩
          · have HR3 := hide (unhide HR2 (os_dg h2))
            have HF3 := hide (unhide HF (by omega))
            have i0 : ((k : Int) == 0) = false := bneI (by omega)
            clear HK HT HR2 HF2 h1 h2 h0
            go_wp2_with fail
            refine (unhide C1 _).mono ?_
            rintro e1 w1 ⟨rfl, hw1⟩
            obtain rfl : w = w1 := hw1.symm
            clear hw1
            go_wp2_with fail
            refine (unhide C2 _).mono ?_
            rintro e1 w1 ⟨rfl, hw1⟩
            obtain rfl : w = w1 := hw1.symm
            go_wp2
            go_roundw
            case rel => exact ⟨k + 1, by omega, by go_num, unhide HR3, fun _ => unhide HF3, by first | rfl | trivial⟩
            case measure => simp [intOf]; omega
        | false =>
          rw [h2] at C2
          by_cases h3 : d = 43 ∨ d = 45 ∨ d = 46
          · by_cases h0 : k = 0
            · have HE := hide (unhide HK h0 h1)
              clear HK HT HR2 HF2 h1 h2
              subst h0
              rcases h3 with h | h | h
              all_goals subst h
              all_goals go_wp2_with fail
              all_goals refine (unhide C1 _).mono ?_
              all_goals rintro e1 w1 ⟨rfl, hw1⟩
              all_goals obtain rfl : w = w1 := hw1.symm
              all_goals clear hw1
              all_goals go_wp2_with fail
              all_goals refine (unhide C2 _).mono ?_
              all_goals rintro e1 w1 ⟨rfl, hw1⟩
              all_goals obtain rfl : w = w1 := hw1.symm
              all_goals go_wp2
              all_goals go_ret
              all_goals exact ⟨by rw [unhide HE]; rfl, rfl⟩
            · have HR3 := hide (unhide HR2 (os_sg h3))
              have HF3 := hide (unhide HF (by omega))
              have i0 : ((k : Int) == 0) = false := bneI (by omega)
              clear HK HT HR2 HF2 h1 h2 h0
              rcases h3 with h | h | h
              all_goals subst h
              all_goals go_wp2_with fail
              all_goals refine (unhide C1 _).mono ?_
              all_goals rintro e1 w1 ⟨rfl, hw1⟩
              all_goals obtain rfl : w = w1 := hw1.symm
              all_goals clear hw1
              all_goals go_wp2_with fail
              all_goals refine (unhide C2 _).mono ?_
              all_goals rintro e1 w1 ⟨rfl, hw1⟩
              all_goals obtain rfl : w = w1 := hw1.symm
              all_goals go_wp2
              all_goals go_roundw
              case rel => exact ⟨k + 1, by omega, by go_num, unhide HR3, fun _ => unhide HF3, by first | rfl | trivial⟩
              case measure => simp [intOf]; omega
              case rel => exact ⟨k + 1, by omega, by go_num, unhide HR3, fun _ => unhide HF3, by first | rfl | trivial⟩
              case measure => simp [intOf]; omega
              case rel => exact ⟨k + 1, by omega, by go_num, unhide HR3, fun _ => unhide HF3, by first | rfl | trivial⟩
              case measure => simp [intOf]; omega
          · have HE := hide (unhide HT (os_no h1 h2 h3))
            have i1 : ((d : Int) == 43) = false := bneI (by omega)
            have i2 : ((d : Int) == 45) = false := bneI (by omega)
            have i3 : ((d : Int) == 46) = false := bneI (by omega)
            clear HK HT HR2 HF2 h1 h2 h3
            by_cases h0 : k = 0
            · subst h0
              go_wp2_with fail
              refine (unhide C1 _).mono ?_
              rintro e1 w1 ⟨rfl, hw1⟩
              obtain rfl : w = w1 := hw1.symm
              clear hw1
              go_wp2_with fail
              refine (unhide C2 _).mono ?_
              rintro e1 w1 ⟨rfl, hw1⟩
              obtain rfl : w = w1 := hw1.symm
              go_wp2
              go_ret
              exact ⟨by rw [unhide HE]; rfl, rfl⟩
            · have i0 : ((k : Int) == 0) = false := bneI (by omega)
              clear h0
              go_wp2_with fail
              refine (unhide C1 _).mono ?_
              rintro e1 w1 ⟨rfl, hw1⟩
              obtain rfl : w = w1 := hw1.symm
              clear hw1
              go_wp2_with fail
              refine (unhide C2 _).mono ?_
              rintro e1 w1 ⟨rfl, hw1⟩
              obtain rfl : w = w1 := hw1.symm
              go_wp2
              go_ret
              exact ⟨by rw [unhide HE]; rfl, rfl⟩
    · have hkn : k = s.size := by omega
      have ht := unhide HS k hk (unhide HR) (unhide HF) (.inl hkn)
      rw [if_neg (by omega)] at ht
      have HT := hide ht
      clear ht
      go_wp2
      go_ret
      exact ⟨by rw [unhide HT]; rfl, rfl⟩
end Go.Proofs.Ytfdhmhdemfbfeaa
