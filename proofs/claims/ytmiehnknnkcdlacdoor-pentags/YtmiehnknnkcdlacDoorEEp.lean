/-
  A text with references: how its bytes and the characters that a range over it meets hang together.
-/
import Derived.Test.YtmiehnknnkcdlacDoorFEs
import Derived.Test.YtmiehnknnkcdlacDoorUPl
import Derived.Lib.DecodeN
namespace Go.Proofs.YtmiehnknnkcdlacDoor
open Go.RowKit
set_option linter.unusedVariables false

theorem cut_ex (s : ByteArray) (a b : Nat) : s.extract a b = bs ((s.data.toList.drop a).take (b - a)) := by
  rw [Lib.extract_eq]; rfl
theorem get_dgt (s : ByteArray) (k : Nat) : (s.get! k).toNat = dgt s.data.toList k := by
  unfold dgt
  by_cases h : k < s.size
  · have h' : k < s.data.toList.length := by simpa using h
    rw [List.getD, List.getElem?_eq_getElem h']
    simp [ByteArray.get!, getElem!_pos, h]
  · have h' : ¬ k < s.data.toList.length := by simpa using h
    rw [List.getD, List.getElem?_eq_none (by omega)]
    simp only [ByteArray.get!]
    rw [getElem!_neg _ _ (by simpa using h)]
    rfl
theorem atB_dgt (l : List UInt8) (k : Nat) : atB l k = dgt l k := by
  unfold atB
  split
  · rfl
  · rename_i h
    unfold dgt
    rw [List.getD, List.getElem?_eq_none (by omega)]; rfl

theorem decN_low {n b0 b1 b2 b3 : Nat} (h : b0 < 128) : Lib.decodeN n b0 b1 b2 b3 = (b0, 1) := by
  unfold Lib.decodeN; rw [if_pos h]
theorem decN_nb {n b0 b1 b2 b3 : Nat} (h0 : b0 = 194) (h1 : b1 = 160) (hn : 1 < n) : Lib.decodeN n b0 b1 b2 b3 = (160, 2) := by
  subst h0; subst h1
  unfold Lib.decodeN
  rw [if_neg (by omega), if_pos (by omega), if_pos (by omega)]
theorem decN_high {n b0 b1 b2 b3 : Nat} (h : 128 ≤ b0) (h' : b0 < 256) (hn : 1 ≤ n) :
    128 ≤ (Lib.decodeN n b0 b1 b2 b3).1 ∧ 1 ≤ (Lib.decodeN n b0 b1 b2 b3).2 ∧ (Lib.decodeN n b0 b1 b2 b3).2 ≤ n ∧ (Lib.decodeN n b0 b1 b2 b3).2 ≤ 4
    ∧ ((Lib.decodeN n b0 b1 b2 b3).1 = 160 → b0 = 194 ∧ b1 = 160 ∧ 1 < n ∧ (Lib.decodeN n b0 b1 b2 b3).2 = 2)
    ∧ (1 < (Lib.decodeN n b0 b1 b2 b3).2 → 128 ≤ b1 ∧ b1 < 192) ∧ (2 < (Lib.decodeN n b0 b1 b2 b3).2 → 128 ≤ b2 ∧ b2 < 192) ∧ (3 < (Lib.decodeN n b0 b1 b2 b3).2 → 128 ≤ b3 ∧ b3 < 192) := by
  unfold Lib.decodeN
  repeat' split
  all_goals simp only []
  all_goals first | omega | (simp only [and_true]; omega)

theorem esc_run (v : Bool) (l : List UInt8) : ∀ (n k : Nat), k + n ≤ l.length → (∀ j, j < n → 128 ≤ dgt l (k + j) ∧ ¬ (dgt l (k + j) = 194 ∧ atB l (k + j + 1) = 160)) →
    escL v (l.drop k) = (l.drop k).take n ++ escL v (l.drop (k + n))
  | 0, k, _, _ => by simp
  | n + 1, k, hl, h => by
    have h0 := h 0 (by omega)
    rw [Nat.add_zero] at h0
    have hk : k < l.length := by omega
    obtain ⟨c, hc, hn⟩ := drop_at l k hk
    rw [esc_other hk (by omega) (by omega) (by omega) (by omega) h0.2, ← hn, byt_self, hc, List.take_succ_cons, List.cons_append]
    have := esc_run v l n (k + 1) (by omega) (fun j hj => by have := h (j + 1) (by omega); rw [show k + (j + 1) = k + 1 + j by omega] at this; exact this)
    rw [this, show k + 1 + n = k + (n + 1) by omega]

/-- What the range meets at a place, and what is made of it. -/
theorem esc_at (v : Bool) (s : ByteArray) (k : Nat) (hk : k < s.size) :
    (forN ((Utf8.decode s k).1 : Int) v = [] ∧ 1 ≤ (Utf8.decode s k).2 ∧ k + (Utf8.decode s k).2 ≤ s.size ∧ escL v (s.data.toList.drop k) = (s.data.toList.drop k).take (Utf8.decode s k).2 ++ escL v (s.data.toList.drop (k + (Utf8.decode s k).2)))
    ∨ (forN ((Utf8.decode s k).1 : Int) v ≠ [] ∧ (forN ((Utf8.decode s k).1 : Int) v).length ≤ 4 ∧ isC ((Utf8.decode s k).1 : Int) = true ∧ (ub ((Utf8.decode s k).1 : Int)).length = (Utf8.decode s k).2 ∧ 1 ≤ (Utf8.decode s k).2 ∧ k + (Utf8.decode s k).2 ≤ s.size
      ∧ escL v (s.data.toList.drop k) = ([38] ++ forN ((Utf8.decode s k).1 : Int) v ++ [59]) ++ escL v (s.data.toList.drop (k + (Utf8.decode s k).2))) := by
  have hkl : k < s.data.toList.length := by rw [data_len]; exact hk
  have e := Lib.decode_at s k
  rw [get_dgt, get_dgt, get_dgt, get_dgt] at e
  by_cases hlow : dgt s.data.toList k < 128
  · rw [decN_low hlow] at e
    rw [e]
    have hkl2 : k + 1 ≤ s.size := by omega
    simp only
    by_cases h38 : dgt s.data.toList k = 38
    · rw [h38, esc_38 hkl h38]
      exact .inr ⟨by decide +revert, by decide +revert, by decide, by decide, by omega, by omega, by cases v <;> rfl⟩
    by_cases h60 : dgt s.data.toList k = 60
    · rw [h60, esc_60 hkl h60]
      exact .inr ⟨by decide +revert, by decide +revert, by decide, by decide, by omega, by omega, by cases v <;> rfl⟩
    by_cases h62 : dgt s.data.toList k = 62
    · rw [h62, esc_62 hkl h62]
      exact .inr ⟨by decide +revert, by decide +revert, by decide, by decide, by omega, by omega, by cases v <;> rfl⟩
    have hone : (s.data.toList.drop k).take 1 = [byt (dgt s.data.toList k : Int)] := by
      obtain ⟨c, hc, hn⟩ := drop_at s.data.toList k hkl
      rw [hc, ← hn, byt_self]; rfl
    by_cases h34 : dgt s.data.toList k = 34
    · cases v with
      | true =>
        rw [h34, esc_34 hkl h34]
        exact .inr ⟨by decide, by decide, by decide, by decide, by omega, by omega, rfl⟩
      | false =>
        rw [hone, h34, esc_34 hkl h34]
        exact .inl ⟨by decide, by omega, by omega, rfl⟩
    · rw [hone, esc_other hkl h38 h60 h62 h34 (by omega)]
      refine .inl ⟨?_, by omega, by omega, rfl⟩
      unfold forN
      rw [if_neg (by omega), if_neg (by omega), if_neg (by omega), if_neg (by omega), if_neg (by omega)]
  · have hd := decN_high (n := s.size - k) (b0 := dgt s.data.toList k) (b1 := dgt s.data.toList (k + 1)) (b2 := dgt s.data.toList (k + 2)) (b3 := dgt s.data.toList (k + 3)) (by omega) (dgt_lt _ _) (by omega)
    have hnb := decN_nb (n := s.size - k) (b0 := dgt s.data.toList k) (b1 := dgt s.data.toList (k + 1)) (b2 := dgt s.data.toList (k + 2)) (b3 := dgt s.data.toList (k + 3))
    rw [← e] at hd hnb
    obtain ⟨d1, d2, d3, d4, d5, d6, d7, d8⟩ := hd
    by_cases h160 : (Utf8.decode s k).1 = 160
    · obtain ⟨q1, q2, q3, q4⟩ := d5 h160
      rw [h160, q4, esc_160 (by rw [data_len]; omega) q1 (by rw [atB_dgt]; exact q2)]
      exact .inr ⟨by decide +revert, by decide +revert, by decide, by decide, by omega, by omega, by cases v <;> rfl⟩
    · have hf : forN ((Utf8.decode s k).1 : Int) v = [] := by
        unfold forN
        rw [if_neg (by omega), if_neg (by omega), if_neg (by omega), if_neg (by omega), if_neg (by omega)]
      refine .inl ⟨hf, d2, by omega, esc_run v s.data.toList _ k (by rw [data_len]; omega) (fun j hj => ?_)⟩
      rw [atB_dgt]
      have hj4 : j = 0 ∨ j = 1 ∨ j = 2 ∨ j = 3 := by omega
      rcases hj4 with rfl | rfl | rfl | rfl
      · refine ⟨by rw [Nat.add_zero]; omega, fun h => ?_⟩
        rw [Nat.add_zero] at h
        by_cases hn : 1 < s.size - k
        · exact h160 (by rw [hnb h.1 h.2 hn])
        · have : dgt s.data.toList (k + 1) = 0 := by
            unfold dgt; rw [List.getD, List.getElem?_eq_none (by rw [data_len]; omega)]; rfl
          omega
      · have := d6 hj; exact ⟨by omega, by omega⟩
      · have := d7 hj; exact ⟨by omega, by omega⟩
      · have := d8 hj; exact ⟨by omega, by omega⟩
end Go.Proofs.YtmiehnknnkcdlacDoor
