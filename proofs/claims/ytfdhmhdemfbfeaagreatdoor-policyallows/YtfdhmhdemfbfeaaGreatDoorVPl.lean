/-
  What 'urls.Plain' does: of every address, its plain form.
-/
import Derived.Test.YtfdhmhdemfbfeaaGreatDoorMgAA
import Derived.Test.YtfdhmhdemfbfeaaGreatDoorDLo
namespace Go.Proofs.YtfdhmhdemfbfeaaGreatDoor
open Go.RowKit
set_option linter.unusedVariables false

def spB (c : UInt8) : Bool := decide (c.toNat ≤ 32)
def kpB (c : UInt8) : Bool := decide (¬ (c.toNat = 9 ∨ c.toNat = 10 ∨ c.toNat = 13))
def trL (l : List UInt8) : List UInt8 := l.dropWhile spB
def trR (l : List UInt8) : List UInt8 := (l.reverse.dropWhile spB).reverse
def cut2 (l : List UInt8) : List UInt8 := trR (trL l)
def plL (l : List UInt8) : List UInt8 := (cut2 l).filter kpB

theorem cons_of (l : List UInt8) (h : 0 < l.length) : ∃ c t, l = c :: t ∧ dgt l 0 = c.toNat := by
  cases l with
  | nil => simp at h
  | cons c t => exact ⟨c, t, rfl, rfl⟩
theorem snoc_of (l : List UInt8) (h : 0 < l.length) : ∃ t c, l = t ++ [c] ∧ dgt l (l.length - 1) = c.toNat ∧ l.take (l.length - 1) = t := by
  have hne : l ≠ [] := by intro e; rw [e] at h; simp at h
  refine ⟨l.dropLast, l.getLast hne, (List.dropLast_concat_getLast hne).symm, ?_, by rw [List.dropLast_eq_take]⟩
  unfold dgt
  rw [List.getD, List.getElem?_eq_getElem (by omega), List.getLast_eq_getElem]; rfl
theorem trL_next (l : List UInt8) (h : 0 < l.length) (hb : dgt l 0 ≤ 32) : trL l = trL (l.drop 1) := by
  obtain ⟨c, t, rfl, hc⟩ := cons_of l h
  have : spB c = true := by simp [spB]; omega
  simp [trL, this]
theorem trL_done (l : List UInt8) (h : l.length = 0 ∨ 32 < dgt l 0) : trL l = l := by
  cases l with
  | nil => rfl
  | cons c t =>
    have : spB c = false := by
      have hc : dgt (c :: t) 0 = c.toNat := rfl
      rw [hc] at h
      simp at h
      simp [spB]; omega
    simp [trL, this]
theorem trR_next (l : List UInt8) (h : 0 < l.length) (hb : dgt l (l.length - 1) ≤ 32) : trR l = trR (l.take (l.length - 1)) := by
  obtain ⟨t, c, e, hc, ht⟩ := snoc_of l h
  rw [ht]
  have : spB c = true := by simp [spB]; omega
  rw [e]
  simp [trR, this]
theorem trR_done (l : List UInt8) (h : l.length = 0 ∨ 32 < dgt l (l.length - 1)) : trR l = l := by
  by_cases h0 : l.length = 0
  · have : l = [] := List.eq_nil_of_length_eq_zero h0
    rw [this]; rfl
  · obtain ⟨t, c, e, hc, ht⟩ := snoc_of l (by omega)
    have : spB c = false := by simp [spB]; omega
    rw [e]
    simp [trR, this]
theorem trL_first (l : List UInt8) (h : 0 < (trL l).length) : 32 < dgt (trL l) 0 := by
  induction l with
  | nil => simp [trL] at h
  | cons c t ih =>
    cases hc : spB c with
    | true =>
      have e : trL (c :: t) = trL t := by simp [trL, hc]
      rw [e] at h ⊢
      exact ih h
    | false =>
      have e : trL (c :: t) = c :: t := by simp [trL, hc]
      rw [e]
      have : dgt (c :: t) 0 = c.toNat := rfl
      rw [this]
      simp [spB] at hc
      exact hc
theorem trR_pre (l : List UInt8) : ∃ t, l = trR l ++ t := by
  have := List.takeWhile_append_dropWhile (p := spB) (l := l.reverse)
  refine ⟨(l.reverse.takeWhile spB).reverse, ?_⟩
  have h2 := congrArg List.reverse this
  rw [List.reverse_append, List.reverse_reverse] at h2
  exact h2.symm
theorem dgt_pre (a t : List UInt8) (k : Nat) (h : k < a.length) : dgt (a ++ t) k = dgt a k := by
  unfold dgt; rw [List.getD, List.getD, List.getElem?_append_left h]
theorem cut2_first (l : List UInt8) (h : 0 < (cut2 l).length) : 32 < dgt (cut2 l) 0 := by
  obtain ⟨t, e⟩ := trR_pre (trL l)
  have h0 : 0 < (trL l).length := by rw [e, List.length_append]; show 0 < (cut2 l).length + t.length; omega
  have := trL_first l h0
  rw [e] at this
  rw [dgt_pre (trR (trL l)) t 0 h] at this
  exact this
theorem cut2_len (l : List UInt8) : (cut2 l).length ≤ l.length := by
  obtain ⟨t, e⟩ := trR_pre (trL l)
  have h1 : (trL l).length ≤ l.length := (List.dropWhile_sublist _).length_le
  have h2 : (trL l).length = (cut2 l).length + t.length := by rw [e, List.length_append]; show (cut2 l).length + t.length = _; rfl
  omega
theorem kp_yes {b : Nat} (hb : b < 256) (h : ¬ (b = 9 ∨ b = 10 ∨ b = 13)) : kpB (byt b) = true := by
  simp only [kpB, byt_nat b hb, decide_eq_true_eq]; exact h
theorem kp_no {b : Nat} (hb : b < 256) (h : b = 9 ∨ b = 10 ∨ b = 13) : kpB (byt b) = false := by
  simp only [kpB, byt_nat b hb, decide_eq_false_iff_not]; exact fun x => x h

/-- What is written behind the first k bytes. -/
def kpK (l : List UInt8) (k : Nat) : List UInt8 := (l.take k).filter kpB
theorem kpK_yes (l : List UInt8) (k : Nat) (h : k < l.length) (hb : ¬ (dgt l k = 9 ∨ dgt l k = 10 ∨ dgt l k = 13)) : kpK l (k + 1) = kpK l k ++ [byt (dgt l k)] := by
  rw [kpK, take_at l k h, List.filter_append]
  simp [kpK, kp_yes (dgt_lt l k) hb]
theorem kpK_no (l : List UInt8) (k : Nat) (h : k < l.length) (hb : dgt l k = 9 ∨ dgt l k = 10 ∨ dgt l k = 13) : kpK l (k + 1) = kpK l k := by
  rw [kpK, take_at l k h, List.filter_append]
  simp [kpK, kp_no (dgt_lt l k) hb]
theorem kpK_all (l : List UInt8) : kpK l l.length = l.filter kpB := by simp [kpK]
theorem kpK_len (l : List UInt8) (k : Nat) : (kpK l k).length ≤ l.length := by
  have h1 : (kpK l k).length ≤ (l.take k).length := List.length_filter_le _ _
  have h2 : (l.take k).length ≤ l.length := by rw [List.length_take]; omega
  omega
theorem kpK_ne (l : List UInt8) (h : 0 < l.length) (h32 : 32 < dgt l 0) : l.filter kpB ≠ [] := by
  obtain ⟨c, t, rfl, hc⟩ := cons_of l h
  rw [hc] at h32
  have : kpB c = true := by simp only [kpB, decide_eq_true_eq]; omega
  simp [this]
theorem plL_len (l : List UInt8) : (plL l).length ≤ l.length := by
  have h1 : (plL l).length ≤ (cut2 l).length := List.length_filter_le _ _
  have := cut2_len l
  omega
theorem ext_front (x : ByteArray) : (x.extract 0 (x.size - 1)).data.toList = x.data.toList.take (x.data.toList.length - 1) := by
  rw [data_len]; exact Lib.Pa.extract_upto_list x _

theorem take_first (l : List UInt8) (h : 1 < l.length) : dgt (l.take (l.length - 1)) 0 = dgt l 0 := by
  unfold dgt; rw [List.getD, List.getD, List.getElem?_take_of_lt (by omega)]
theorem beqI (a b : Int) (h : ¬ a = b) : (a == b) = false := beq_eq_false_iff_ne.2 h
theorem bneI' (a b : Int) (h : ¬ a = b) : (a != b) = true := by simp [bne, beqI a b h]

set_option maxHeartbeats 2000000 in
theorem plain_any (s : ByteArray) (w : World) (hs : s.size ≤ 100000) :
    Calls Tryz.prog 90 #[.string s] w fun e w' => e = .returned (.string (bs (plL s.data.toList))) ∧ Below w.heap.size w w' := by
  go_enter Tryz.func90, Tryz.ntmps90
  go_wp2
  go_loopw [0] (fun t wr => ∃ x : ByteArray, t = .string x ∧ x.size ≤ s.size ∧ trL s.data.toList = trL x.data.toList ∧ wr = w) (fun t _ => match t with | .string x => x.size | _ => 0)
  case atStart => exact ⟨s, rfl, Nat.le_refl _, rfl, rfl⟩
  case round =>
    obtain ⟨x, rfl, hx, hr, hw⟩ := hrel
    have hw' := hw.symm
    subst hw'
    have HR := hide hr
    clear hr hw
    by_cases h0 : x.size = 0
    · have he := is_empty x h0
      have hp : plL s.data.toList = [] := by
        rw [plL, cut2, unhide HR, List.eq_nil_of_length_eq_zero (l := x.data.toList) (by rw [data_len]; exact h0)]; rfl
      have HP := hide hp
      clear hp
      go_wp2
      refine wp_loop_rounds 1 ?_
      rw [rounds_succ]; go_wp2
      refine wp_loop_rounds 1 ?_
      rw [rounds_succ]; go_wp2_with fail
      refine (vstring_nil w.heap.size (.pointer none) _ (heap_alloc_new _ _)).mono ?_
      rintro e w2 ⟨rfl, hb2⟩
      go_wp2
      go_ret
      exact ⟨by rw [unhide HP]; rfl, bel_of hb2⟩
    · have hp : 0 < x.size := by omega
      have hpi : (0 : Int) < (x.size : Int) := by omega
      have he := not_empty x hp
      have hl := data_len x
      have e := dgt_at x 0 hp
      have hnx := trL_next x.data.toList (by omega)
      have hdn := trL_done x.data.toList
      have hex := Lib.extract_to_end x 1
      have hb := dgt_lt x.data.toList 0
      by_cases h32 : dgt x.data.toList 0 ≤ 32
      · have hi : ((dgt x.data.toList 0 : Nat) : Int) ≤ 32 := by omega
        have HN := hide (hnx h32)
        have HE := hide hex
        clear hnx hdn hl hex h32
        generalize dgt x.data.toList 0 = b at *
        go_wp2
        go_roundw
        case rel => exact ⟨x.extract 1 x.size, rfl, by simp; omega, by rw [unhide HR, unhide HN, unhide HE], by first | rfl | trivial⟩
        case measure => simp; omega
      · have hi : decide (((dgt x.data.toList 0 : Nat) : Int) ≤ 32) = false := by simp; omega
        have H32 : Hid (32 < dgt x.data.toList 0) := hide (by omega)
        have HD : Hid (trL s.data.toList = x.data.toList) := hide (by rw [unhide HR]; exact hdn (.inr (by omega)))
        clear hnx hdn hl hex h32 HR
        generalize hbb : dgt x.data.toList 0 = b at *
        have HB := hide hbb
        clear hbb
        go_wp2
        go_loopw [0] (fun t wr => ∃ y : ByteArray, t = .string y ∧ 0 < y.size ∧ y.size ≤ s.size ∧ dgt y.data.toList 0 = b ∧ cut2 s.data.toList = trR y.data.toList ∧ wr = w) (fun t _ => match t with | .string x => x.size | _ => 0)
        case atStart => exact ⟨x, rfl, hp, hx, unhide HB, by rw [cut2, unhide HD], rfl⟩
        case round =>
          clear e hi he hpi
          obtain ⟨y, rfl, hy0, hy, hyb, hr, hw⟩ := hrel
          have hw' := hw.symm
          subst hw'
          have HR := hide hr
          have HYB := hide hyb
          clear hr hw hyb
          have hyi : (1 : Int) ≤ (y.size : Int) := by omega
          have he := not_empty y hy0
          have hl := data_len y
          have hk : y.size - 1 < y.size := by omega
          have e := dgt_at y (y.size - 1) hk
          have hnx := trR_next y.data.toList (by omega)
          have hdn := trR_done y.data.toList
          rw [hl] at hnx hdn
          have hex := ext_front y
          rw [hl] at hex
          have hst : dgt y.data.toList (y.size - 1) ≤ 32 → 1 < y.size := by
            intro h
            rcases Nat.lt_or_ge 1 y.size with h1 | h1
            · exact h1
            · have : y.size - 1 = 0 := by omega
              rw [this, unhide HYB] at h
              have := unhide H32
              omega
          have hin : ((y.size : Int) - 1).toNat = y.size - 1 := by omega
          have hin2 : (y.size : Int) - 1 = ((y.size - 1 : Nat) : Int) := by omega
          by_cases h32 : dgt y.data.toList (y.size - 1) ≤ 32
          · have h1 := hst h32
            have hi : ((dgt y.data.toList (y.size - 1) : Nat) : Int) ≤ 32 := by omega
            have HN := hide (hnx h32)
            have HE := hide hex
            have hf := take_first y.data.toList (by omega)
            rw [hl] at hf
            have HF := hide hf
            clear hnx hdn hl hex h32 hst hf
            generalize dgt y.data.toList (y.size - 1) = c at *
            go_wp2
            go_roundw
            case rel => exact ⟨y.extract 0 (y.size - 1), by first | rfl | (congr 1; omega), by simp; omega, by simp; omega, by rw [unhide HE, unhide HF]; exact unhide HYB, by rw [unhide HR, unhide HN, unhide HE], by first | rfl | trivial⟩
            case measure => simp; omega
          · have hi : decide (((dgt y.data.toList (y.size - 1) : Nat) : Int) ≤ 32) = false := by simp; omega
            have HC : Hid (cut2 s.data.toList = y.data.toList) := hide (by rw [unhide HR]; exact hdn (.inr (by omega)))
            have HL := hide hl
            clear hnx hdn hl hex h32 hst HR
            generalize dgt y.data.toList (y.size - 1) = c at *
            go_wp2
            go_loopw [31] (fun i wr => ∃ k : Nat, k ≤ y.size ∧ i = .int .i64 k ∧ vBld w.heap.size w.heap.size (kpK y.data.toList k) wr ∧ Below w.heap.size w wr) (fun i _ => y.size - (intOf i).toNat)
            case atStart => exact ⟨0, Nat.zero_le _, rfl, by have : kpK y.data.toList 0 = [] := by simp [kpK]
                                                             rw [this]; exact vbld_new w, (Below.refl _ _).alloc (Nat.le_refl _) _⟩
            case round =>
              clear e hi he
              obtain ⟨k, hk, rfl, hB, hbw⟩ := hrel
              have hzw := hbw.size
              by_cases hp : k < y.size
              · have hpi : (k : Int) < (y.size : Int) := by omega
                have e := dgt_at y k hp
                have hkl : k < y.data.toList.length := by rw [unhide HL]; exact hp
                have hyes := kpK_yes y.data.toList k hkl
                have hno := kpK_no y.data.toList k hkl
                have hlen := kpK_len y.data.toList k
                rw [unhide HL] at hlen
                have hblt := dgt_lt y.data.toList k
                generalize dgt y.data.toList k = d at *
                by_cases h9 : d = 9 ∨ d = 10 ∨ d = 13
                · have HN := hide (hno h9)
                  clear hyes hno hkl
                  rcases h9 with h | h | h
                  all_goals subst h
                  all_goals go_wp2
                  all_goals go_roundw
                  case rel => exact ⟨k + 1, by omega, by go_num, by rw [unhide HN]; exact hB, hbw⟩
                  case measure => simp [intOf]; omega
                  case rel => exact ⟨k + 1, by omega, by go_num, by rw [unhide HN]; exact hB, hbw⟩
                  case measure => simp [intOf]; omega
                  case rel => exact ⟨k + 1, by omega, by go_num, by rw [unhide HN]; exact hB, hbw⟩
                  case measure => simp [intOf]; omega
                · have HY := hide (hyes h9)
                  have i1 : ((d : Int) == 9) = false := beqI _ _ (by omega)
                  have i2 : ((d : Int) == 10) = false := beqI _ _ (by omega)
                  have i3 : ((d : Int) == 13) = false := beqI _ _ (by omega)
                  have j1 : ((d : Int) != 9) = true := bneI' _ _ (by omega)
                  have j2 : ((d : Int) != 10) = true := bneI' _ _ (by omega)
                  have j3 : ((d : Int) != 13) = true := bneI' _ _ (by omega)
                  have HB := hide hB
                  clear hyes hno hkl h9 hB
                  go_wp2_with fail
                  refine (writeByte_any _ _ _ d _ hblt (unhide HB) (by omega) (by omega)).mono ?_
                  rintro e1 w1 ⟨rfl, B1, hb1⟩
                  go_wp2
                  go_roundw
                  case rel => exact ⟨k + 1, by omega, by go_num, by rw [unhide HY]; exact B1, hbw.trans hb1⟩
                  case measure => simp [intOf]; omega
              · have hkn : k = y.size := by omega
                have hall := kpK_all y.data.toList
                rw [unhide HL] at hall
                rw [hkn, hall] at hB
                have hne := kpK_ne y.data.toList (by rw [unhide HL]; exact hy0) (by rw [unhide HYB]; exact unhide H32)
                have hfin : plL s.data.toList = y.data.toList.filter kpB := by rw [plL, unhide HC]
                have HF := hide hfin
                clear hfin hall
                go_wp2_with fail
                refine (vstring_any _ _ _ _ hB hne).mono ?_
                rintro e1 w2 ⟨rfl, hb2⟩
                go_wp2
                go_ret
                exact ⟨by rw [unhide HF]; rfl, hbw.trans hb2⟩
end Go.Proofs.YtfdhmhdemfbfeaaGreatDoor
