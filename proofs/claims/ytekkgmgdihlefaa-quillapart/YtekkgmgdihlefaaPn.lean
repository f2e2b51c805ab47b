/-
  Plain laws: what was written is read, whatever is behind it: of numbers, of texts, of lists.
-/
import Derived.Test.YtekkgmgdihlefaaPm
import Derived.Test.YtekkgmgdihlefaaTl
import Derived.Test.YtekkgmgdihlefaaLb
namespace Go.Proofs.Ytekkgmgdihlefaa
set_option linter.unusedVariables false

theorem dgs_head : ∀ (f : Nat) (n : Int), 0 < n → n < 256 ^ f → ∃ x r, dgs f n = x :: r ∧ 0 < x ∧ x < 256
  | 0, n, h0, h1 => by simp at h1; omega
  | f + 1, n, h0, h1 => by
    rw [dgs_succ f n h0]
    by_cases hq : n / 256 ≤ 0
    · rw [dgs_zero f _ hq]
      exact ⟨n % 256, [], rfl, by omega, by omega⟩
    · obtain ⟨x, r, e, h2, h3⟩ := dgs_head f (n / 256) (by omega) (div_lt_pow f n h1)
      exact ⟨x, r ++ [n % 256], by rw [e]; rfl, h2, h3⟩

theorem byt_nat (k : Nat) (h : k < 256) : (byt (k : Int)).toNat = k := by
  have := byt_toNat (k : Int) (by omega) (by omega)
  omega

theorem takeN_nb (n : Int) (b : List UInt8) (h0 : 0 ≤ n) (h1 : n ≤ 1099511627776) : takeN (nb n ++ b) = some (n, (nb n).length) := by
  have p := pow6
  have ln := dgs_len 6 n
  have hv := vl_dgs 6 n h0 (by omega)
  have hd0 : dgt (nb n ++ b) 0 = (dgs 6 n).length := by
    rw [nb_cons]; simp only [dgt, List.cons_append, List.getD_cons_zero]; exact byt_nat _ (by omega)
  have hlen : (nb n ++ b).length = (dgs 6 n).length + 1 + b.length := by rw [List.length_append, nb_len]
  have hdrop : ((nb n ++ b).drop 1).take (dgs 6 n).length = (dgs 6 n).map byt := by
    rw [nb_cons]
    simp only [List.cons_append, List.drop_succ_cons, List.drop_zero]
    rw [List.take_append_of_le_length (by simp), List.take_of_length_le (by simp)]
  unfold takeN
  rw [hd0, hdrop, hv, hlen, if_neg (by omega), if_neg (by omega), if_neg (by omega), if_neg, if_neg (by omega), nb_len]
  · congr 2; omega
  · rintro ⟨hp, hz⟩
    have hn : 0 < n := by
      rcases Int.lt_or_le 0 n with h | h
      · exact h
      · rw [dgs_zero 6 n h] at hp; simp at hp
    obtain ⟨x, r, e, h2, h3⟩ := dgs_head 6 n hn (by omega)
    rw [nb_cons, e] at hz
    simp only [dgt, List.map_cons, List.cons_append, List.getD_cons_succ, List.getD_cons_zero] at hz
    have := byt_toNat x (by omega) h3
    omega

theorem takeT_tb (s : ByteArray) (b : List UInt8) (h : s.size ≤ 65536) : takeT (tb s ++ b) = some ((nb s.size).length, s.size) := by
  have e : tb s ++ b = nb s.size ++ (s.data.toList ++ b) := by simp [tb]
  have hl : s.data.toList.length = s.size := by simp
  unfold takeT
  rw [e, takeN_nb _ _ (by omega) (by omega)]
  have hc : ¬ ((65536 : Int) < (s.size : Int) ∨ (((nb s.size ++ (s.data.toList ++ b)).length - (nb s.size).length : Nat) : Int) < (s.size : Int)) := by
    simp only [List.length_append, hl]
    omega
  simp only [hc, if_false, Int.toNat_natCast]

theorem takeTs_lb : ∀ (ss : List ByteArray) (b : List UInt8), (∀ s ∈ ss, s.size ≤ 65536) → takeTs ss.length ((ss.map tb).flatten ++ b) = some (ss, b)
  | [], b, _ => by simp [takeTs]
  | s :: r, b, h => by
    have hs := h s (by simp)
    have hl : s.data.toList.length = s.size := by simp
    have ih := takeTs_lb r b (fun t ht => h t (by simp [ht]))
    have e : (((s :: r).map tb).flatten ++ b) = tb s ++ ((r.map tb).flatten ++ b) := by simp
    have e1 : (tb s ++ ((r.map tb).flatten ++ b)).drop (nb s.size).length = s.data.toList ++ ((r.map tb).flatten ++ b) := by
      rw [tb, List.append_assoc, List.drop_left]
    rw [List.length_cons, takeTs, e, takeT_tb s _ hs]
    simp only [e1]
    rw [← hl, List.drop_left, List.take_left, ih, bs_self]

theorem takeL_lb (ss : List ByteArray) (b : List UInt8) (hn : ss.length ≤ 1000) (h : ∀ s ∈ ss, s.size ≤ 65536) : takeL (lb ss.length ss ++ b) = some (ss, b) := by
  have e : lb ss.length ss ++ b = nb ss.length ++ ((ss.map tb).flatten ++ b) := by simp [lb]
  unfold takeL
  rw [e, takeN_nb _ _ (by omega) (by omega)]
  have hc : ¬ ((1000 : Int) < (ss.length : Int)) := by omega
  simp only [hc, if_false, Int.toNat_natCast, List.drop_left]
  exact takeTs_lb ss b h
end Go.Proofs.Ytekkgmgdihlefaa
