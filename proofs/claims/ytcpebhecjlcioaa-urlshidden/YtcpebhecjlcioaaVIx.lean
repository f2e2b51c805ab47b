/-
  What strings.Cut does at one byte, and strings.IndexAny at / and \.
-/
import Derived.Test.YtcpebhecjlcioaaSh
import Derived.Test.YtcpebhecjlcioaaVRf
import Derived.Laws.RangeAny
import Derived.Lib.DecodeN
import Derived.Laws.Runes
namespace Go.Proofs.Ytcpebhecjlcioaa
open Go.RowKit
set_option linter.unusedVariables false

theorem idx_one (c : UInt8) : ∀ l : List UInt8, Lib.indexByte l c = if tkN (nfN c.toNat c.toNat) l < l.length then (tkN (nfN c.toNat c.toNat) l : Int) else -1
  | [] => by simp [Lib.indexByte]
  | b :: l => by
    have ih := idx_one c l
    by_cases h : b = c
    · subst h
      rw [tkN_no _ _ _ (nf_no (.inl rfl))]
      simp [Lib.indexByte]
    · have hne : ¬ b.toNat = c.toNat := fun e => h (UInt8.toNat.inj e)
      rw [tkN_yes _ _ _ (nf_yes hne hne)]
      have hb : (b == c) = false := beq_eq_false_iff_ne.2 h
      rw [Lib.indexByte, hb, List.length_cons]
      by_cases h2 : tkN (nfN c.toNat c.toNat) l < l.length
      · rw [if_pos h2] at ih
        have hm : ((tkN (nfN c.toNat c.toNat) l : Int) == -1) = false := beq_eq_false_iff_ne.2 (by omega)
        rw [ih, hm, if_pos (show tkN (nfN c.toNat c.toNat) l + 1 < l.length + 1 by omega)]
        simp
      · rw [if_neg h2] at ih
        rw [ih, if_neg (show ¬ tkN (nfN c.toNat c.toNat) l + 1 < l.length + 1 by omega)]
        simp
theorem idx_any (x y : UInt8) : ∀ l : List UInt8, Lib.indexAny l [x, y] = if tkN (nfN x.toNat y.toNat) l < l.length then (tkN (nfN x.toNat y.toNat) l : Int) else -1
  | [] => by simp [Lib.indexAny]
  | b :: l => by
    have ih := idx_any x y l
    by_cases h : b = x ∨ b = y
    · rw [tkN_no _ _ _ (nf_no (by rcases h with h | h; exact .inl (by rw [h]); exact .inr (by rw [h])))]
      have : ([x, y] : List UInt8).contains b = true := by simpa using h
      simp [Lib.indexAny, h]
    · have h1 : ¬ b.toNat = x.toNat := fun e => h (.inl (UInt8.toNat.inj e))
      have h2 : ¬ b.toNat = y.toNat := fun e => h (.inr (UInt8.toNat.inj e))
      rw [tkN_yes _ _ _ (nf_yes h1 h2)]
      have hb : ([x, y] : List UInt8).contains b = false := by
        simp only [List.contains_cons, List.contains_nil, Bool.or_false, Bool.or_eq_false_iff, beq_eq_false_iff_ne]
        exact ⟨fun e => h (.inl e), fun e => h (.inr e)⟩
      rw [Lib.indexAny, hb, List.length_cons]
      by_cases h2 : tkN (nfN x.toNat y.toNat) l < l.length
      · rw [if_pos h2] at ih
        have hm : ((tkN (nfN x.toNat y.toNat) l : Int) == -1) = false := beq_eq_false_iff_ne.2 (by omega)
        rw [ih, hm, if_pos (show tkN (nfN x.toNat y.toNat) l + 1 < l.length + 1 by omega)]
        simp
      · rw [if_neg h2] at ih
        rw [ih, if_neg (show ¬ tkN (nfN x.toNat y.toNat) l + 1 < l.length + 1 by omega)]
        simp

set_option maxHeartbeats 1000000 in
theorem lcut_any (s : ByteArray) (c : UInt8) (n : Nat) (w : World) (hs : s.size ≤ 100000) (hn : tkN (nfN c.toNat c.toNat) s.data.toList = n) :
    Calls Try.prog 43 #[.string s, .string ⟨#[c]⟩] w fun e w' => e = .returned (.tuple #[.string (bs (s.data.toList.take n)), .string (bs (s.data.toList.drop (n + 1))), .bool (decide (n < s.size))]) ∧ Below w.heap.size w w' := by
  have C := hide (fun w => Try.stringslite_Index_one s c w)
  have hi := idx_one c s.data.toList
  have hle := tkN_le (nfN c.toNat c.toNat) s.data.toList
  rw [hn, data_len] at hi
  rw [hn, data_len] at hle
  have h1 : (⟨#[c]⟩ : ByteArray).size = 1 := rfl
  by_cases hlt : n < s.size
  · rw [if_pos hlt] at hi
    rw [hi] at C
    have hd : decide (n < s.size) = true := by simp [hlt]
    rw [hd]
    have E1 := hide (Lib.Pa.extract_upto s n)
    have E2 := hide (Lib.extract_to_end s (n + 1))
    have hni : (n : Int) ≤ (s.size : Int) := by omega
    have hni1 : (n : Int) + 1 ≤ (s.size : Int) := by omega
    have hn0 : (0 : Int) ≤ (n : Int) := by omega
    clear hd hi hn
    go_enter Try.func43, Try.ntmps43
    go_wp2_with fail
    refine (unhide C _).mono ?_
    rintro e1 w1 ⟨rfl, hw1⟩
    obtain rfl : w = w1 := hw1.symm
    clear hw1
    go_wp2
    go_quiet (fail)
    go_wp2
    go_ret3
    refine ⟨ret3 (congrArg Value.string ?_) (congrArg Value.string ?_) rfl, below_draws _ _⟩
    · exact unhide E1
    · rw [← bs_self (s.extract _ _)]
      exact congrArg bs (unhide E2)
  · have hnn : n = s.size := by omega
    rw [if_neg hlt] at hi
    rw [hi] at C
    have hd : decide (n < s.size) = false := by simp; omega
    have ht : s.data.toList.take n = s.data.toList := List.take_of_length_le (by rw [data_len]; omega)
    have hdr : s.data.toList.drop (n + 1) = [] := List.drop_eq_nil_of_le (by rw [data_len]; omega)
    rw [hd, ht, hdr, bs_self]
    clear hd hi hn ht hdr
    go_enter Try.func43, Try.ntmps43
    go_wp2_with fail
    refine (unhide C _).mono ?_
    rintro e1 w1 ⟨rfl, hw1⟩
    obtain rfl : w = w1 := hw1.symm
    clear hw1
    go_wp2
    go_ret3
    exact ⟨rfl, Below.refl _ _⟩
set_option maxHeartbeats 1000000 in
theorem cut_any (s : ByteArray) (c : UInt8) (n : Nat) (w : World) (hs : s.size ≤ 100000) (hn : tkN (nfN c.toNat c.toNat) s.data.toList = n) :
    Calls Try.prog 34 #[.string s, .string ⟨#[c]⟩] w fun e w' => e = .returned (.tuple #[.string (bs (s.data.toList.take n)), .string (bs (s.data.toList.drop (n + 1))), .bool (decide (n < s.size))]) ∧ Below w.heap.size w w' := by
  have C := hide (fun w => lcut_any s c n w hs hn)
  generalize bs (s.data.toList.take n) = A at *
  generalize bs (s.data.toList.drop (n + 1)) = B at *
  generalize decide (n < s.size) = D at *
  clear hn
  go_enter Try.func34, Try.ntmps34
  go_wp2_with fail
  refine (unhide C _).mono ?_
  rintro e1 w1 ⟨rfl, hb⟩
  go_wp2
  go_ret3
  exact ⟨rfl, hb⟩

/-- A range over a text: what it meets at a byte that is not plain. -/
theorem dec_high (s : ByteArray) (k : Nat) (hk : k < s.size) (h : 128 ≤ dgt s.data.toList k) :
    128 ≤ (Utf8.decode s k).1 ∧ (Utf8.decode s k).1 ≤ 1114111 ∧ 1 ≤ (Utf8.decode s k).2 ∧ k + (Utf8.decode s k).2 ≤ s.size ∧ ∀ j, k ≤ j → j < k + (Utf8.decode s k).2 → 128 ≤ dgt s.data.toList j := by
  have hg : ∀ i, (s.get! i).toNat = dgt s.data.toList i := by
    intro i
    unfold dgt
    rw [List.getD]
    rcases Nat.lt_or_ge i s.data.toList.length with h | h
    · have h2 : i < s.data.size := by simpa using h
      rw [List.getElem?_eq_getElem h]
      show (s.data[i]!).toNat = _
      rw [getElem!_pos s.data i h2]; rfl
    · have h2 : ¬ i < s.data.size := by simp at h ⊢; omega
      rw [List.getElem?_eq_none h]
      show (s.data[i]!).toNat = _
      rw [getElem!_neg s.data i h2]; rfl
  rw [Lib.decode_at s k, hg, hg, hg, hg]
  have hb := dgt_lt s.data.toList
  have b0 := hb k
  have b1 := hb (k + 1)
  have b2 := hb (k + 2)
  have b3 := hb (k + 3)
  have key : ∀ (n x0 x1 x2 x3 : Nat), 128 ≤ x0 → x0 < 256 → x1 < 256 → x2 < 256 → x3 < 256 → 1 ≤ n →
      128 ≤ (Lib.decodeN n x0 x1 x2 x3).1 ∧ (Lib.decodeN n x0 x1 x2 x3).1 ≤ 1114111 ∧ 1 ≤ (Lib.decodeN n x0 x1 x2 x3).2 ∧ (Lib.decodeN n x0 x1 x2 x3).2 ≤ n ∧ (Lib.decodeN n x0 x1 x2 x3).2 ≤ 4
      ∧ (1 < (Lib.decodeN n x0 x1 x2 x3).2 → 128 ≤ x1) ∧ (2 < (Lib.decodeN n x0 x1 x2 x3).2 → 128 ≤ x2) ∧ (3 < (Lib.decodeN n x0 x1 x2 x3).2 → 128 ≤ x3) := by
    intro n x0 x1 x2 x3 h0 _ _ _ _ _
    unfold Lib.decodeN
    repeat' split
    all_goals simp only []
    all_goals first | omega | (simp only [and_true]; omega)
  obtain ⟨k1, k2, k3, k4, k5, k6, k7, k8⟩ := key (s.size - k) _ _ _ _ h b0 b1 b2 b3 (by omega)
  refine ⟨k1, k2, k3, by omega, fun j h1 h2 => ?_⟩
  generalize Lib.decodeN _ _ _ _ _ = q at *
  have : j = k ∨ j = k + 1 ∨ j = k + 2 ∨ j = k + 3 := by omega
  rcases this with e | e | e | e
  · rw [e]; exact h
  · rw [e]; exact k6 (by omega)
  · rw [e]; exact k7 (by omega)
  · rw [e]; exact k8 (by omega)
end Go.Proofs.Ytcpebhecjlcioaa
