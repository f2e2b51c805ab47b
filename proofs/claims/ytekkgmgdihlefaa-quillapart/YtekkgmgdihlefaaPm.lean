/-
  Plain laws on a number's bytes: how many they are, that greater numbers stand behind lesser ones, and that the number is read again, whatever is behind. No Go in sight.
-/
import Derived.Test.YtekkgmgdihlefaaPl
import GoSem.Op.String
namespace Go.Proofs.Ytekkgmgdihlefaa

def byt (x : Int) : UInt8 := UInt8.ofNat x.toNat
theorem byt_toNat (x : Int) (h0 : 0 ≤ x) (h1 : x < 256) : ((byt x).toNat : Int) = x := by
  have : x.toNat < 256 := by omega
  unfold byt
  rw [UInt8.toNat_ofNat']
  omega

theorem dgs_succ (f : Nat) (n : Int) (h : 0 < n) : dgs (f + 1) n = dgs f (n / 256) ++ [n % 256] := by
  have : ¬ n ≤ 0 := by omega
  simp [dgs, this]
theorem dgs_zero (f : Nat) (n : Int) (h : n ≤ 0) : dgs f n = [] := by
  cases f with
  | zero => rfl
  | succ f => simp [dgs, h]

theorem div_lt_pow (f : Nat) (n : Int) (h : n < 256 ^ (f + 1)) : n / 256 < 256 ^ f := by
  rw [Int.pow_succ] at h
  omega

theorem dgs_mono : ∀ (f : Nat) (n m : Int), n ≤ m → (dgs f n).length ≤ (dgs f m).length
  | 0, n, m, _ => by simp [dgs]
  | f + 1, n, m, h => by
    by_cases hn : n ≤ 0
    · rw [dgs_zero _ n hn]; simp
    · have ih := dgs_mono f (n / 256) (m / 256) (by omega)
      rw [dgs_succ f n (by omega), dgs_succ f m (by omega)]
      simp; exact ih

theorem dgs_bd : ∀ (f : Nat) (n : Int), ∀ x ∈ dgs f n, 0 ≤ x ∧ x < 256
  | 0, n, x, h => by simp [dgs] at h
  | f + 1, n, x, h => by
    by_cases hn : n ≤ 0
    · rw [dgs_zero _ n hn] at h; simp at h
    · rw [dgs_succ f n (by omega)] at h
      rcases List.mem_append.1 h with h | h
      · exact dgs_bd f _ x h
      · simp at h; omega

theorem vl_append_one (l : List UInt8) (c : UInt8) : vl (l ++ [c]) = vl l * 256 + (c.toNat : Int) := vl_snoc l c

theorem vl_dgs : ∀ (f : Nat) (n : Int), 0 ≤ n → n < 256 ^ f → vl ((dgs f n).map byt) = n
  | 0, n, h0, h1 => by simp at h1; have : n = 0 := by omega
                       subst this; rfl
  | f + 1, n, h0, h1 => by
    by_cases hn : n ≤ 0
    · have : n = 0 := by omega
      subst this; rw [dgs_zero _ _ (Int.le_refl 0)]; rfl
    · have ih := vl_dgs f (n / 256) (by omega) (div_lt_pow f n h1)
      rw [dgs_succ f n (by omega), List.map_append, List.map_cons, List.map_nil, vl_append_one, ih, byt_toNat _ (by omega) (by omega)]
      omega

theorem dgs_inj (f : Nat) (n m : Int) (hn : 0 ≤ n) (hm : 0 ≤ m) (hn1 : n < 256 ^ f) (hm1 : m < 256 ^ f) (h : (dgs f n).map byt = (dgs f m).map byt) : n = m := by
  rw [← vl_dgs f n hn hn1, ← vl_dgs f m hm hm1, h]

theorem bytesLess_irrefl : ∀ l : List UInt8, Op.bytesLess l l = false
  | [] => rfl
  | a :: l => by simp [Op.bytesLess, bytesLess_irrefl l, UInt8.lt_irrefl]

theorem bytesLess_snoc : ∀ (a b : List UInt8) (x y : UInt8), a.length = b.length →
    Op.bytesLess (a ++ [x]) (b ++ [y]) = if a = b then decide (x < y) else Op.bytesLess a b
  | [], [], x, y, _ => by simp [Op.bytesLess]
  | [], _ :: _, x, y, h => by simp at h
  | _ :: _, [], x, y, h => by simp at h
  | c :: a, d :: b, x, y, h => by
    have ih := bytesLess_snoc a b x y (by simpa using h)
    simp only [List.cons_append, Op.bytesLess, ih]
    by_cases hcd : c = d
    · subst hcd
      by_cases hab : a = b
      · simp [hab]
      · simp [hab]
    · have : ¬ (c :: a = d :: b) := by simp [hcd]
      have hb : (c == d) = false := beq_eq_false_iff_ne.2 hcd
      simp [this, hb]

theorem less_dgs : ∀ (f : Nat) (n m : Int), 0 ≤ n → 0 ≤ m → n < 256 ^ f → m < 256 ^ f → (dgs f n).length = (dgs f m).length →
    Op.bytesLess ((dgs f n).map byt) ((dgs f m).map byt) = decide (n < m)
  | 0, n, m, h0, h1, h2, h3, _ => by
    simp at h2 h3
    have e1 : n = 0 := by omega
    have e2 : m = 0 := by omega
    subst e1; subst e2; rfl
  | f + 1, n, m, h0, h1, h2, h3, hl => by
    by_cases hn : n ≤ 0
    · have e1 : n = 0 := by omega
      subst e1
      by_cases hm : m ≤ 0
      · have e2 : m = 0 := by omega
        subst e2; rw [dgs_zero _ _ (Int.le_refl 0)]; rfl
      · rw [dgs_zero _ 0 (Int.le_refl 0), dgs_succ f m (by omega)] at hl
        simp at hl
    · by_cases hm : m ≤ 0
      · rw [dgs_zero _ m hm, dgs_succ f n (by omega)] at hl
        simp at hl
      · rw [dgs_succ f n (by omega), dgs_succ f m (by omega)] at hl ⊢
        have hl' : (dgs f (n / 256)).length = (dgs f (m / 256)).length := by simpa using hl
        have ih := less_dgs f (n / 256) (m / 256) (by omega) (by omega) (div_lt_pow f n h2) (div_lt_pow f m h3) hl'
        simp only [List.map_append, List.map_cons, List.map_nil]
        rw [bytesLess_snoc _ _ _ _ (by simpa using hl')]
        by_cases he : (dgs f (n / 256)).map byt = (dgs f (m / 256)).map byt
        · have hd := dgs_inj f _ _ (by omega) (by omega) (div_lt_pow f n h2) (div_lt_pow f m h3) he
          rw [if_pos he]
          have b1 := byt_toNat (n % 256) (by omega) (by omega)
          have b2 := byt_toNat (m % 256) (by omega) (by omega)
          have : (byt (n % 256) < byt (m % 256)) ↔ n < m := by
            rw [UInt8.lt_iff_toNat_lt]; omega
          simp [this]
        · rw [if_neg he, ih]
          have : n / 256 ≠ m / 256 := by intro e; rw [e] at he; exact he rfl
          have : (n / 256 < m / 256) ↔ n < m := by omega
          simp [this]

theorem pow6 : (256 : Int) ^ 6 = 281474976710656 := by decide

theorem nb_cons (n : Int) : nb n = byt ((dgs 6 n).length : Int) :: (dgs 6 n).map byt := rfl

theorem nb_mono (n m : Int) (h : n ≤ m) : (nb n).length ≤ (nb m).length := by
  rw [nb_len, nb_len]; have := dgs_mono 6 n m h; omega

theorem nb_less (n m : Int) (h0 : 0 ≤ n) (h1 : 0 ≤ m) (h2 : n ≤ 1099511627776) (h3 : m ≤ 1099511627776) :
    Op.bytesLess (nb n) (nb m) = decide (n < m) := by
  have p := pow6
  have ln := dgs_len 6 n
  have lm := dgs_len 6 m
  have b1 := byt_toNat ((dgs 6 n).length : Int) (by omega) (by omega)
  have b2 := byt_toNat ((dgs 6 m).length : Int) (by omega) (by omega)
  rw [nb_cons, nb_cons]
  simp only [Op.bytesLess]
  by_cases hl : (dgs 6 n).length = (dgs 6 m).length
  · rw [less_dgs 6 n m h0 h1 (by omega) (by omega) hl, hl]
    simp [UInt8.lt_irrefl]
  · have hne : (byt ((dgs 6 n).length : Int) == byt ((dgs 6 m).length : Int)) = false := by
      apply beq_eq_false_iff_ne.2
      intro e; rw [e] at b1; omega
    rw [hne, Bool.false_and, Bool.or_false]
    have : (byt ((dgs 6 n).length : Int) < byt ((dgs 6 m).length : Int)) ↔ n < m := by
      rw [UInt8.lt_iff_toNat_lt]
      have m1 := dgs_mono 6 n m
      have m2 := dgs_mono 6 m n
      by_cases hnm : n ≤ m
      · have := m1 hnm; omega
      · have := m2 (by omega); omega
    simp [this]
end Go.Proofs.Ytekkgmgdihlefaa
