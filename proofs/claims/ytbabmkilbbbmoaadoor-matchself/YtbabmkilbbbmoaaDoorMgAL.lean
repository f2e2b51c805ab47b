/-
  Several texts in one: what the functions of the program and of the document's answer do.
-/
import Derived.Test.YtbabmkilbbbmoaaDoorMgAA
import GoSem.Op.String
import Derived.Test.YtbabmkilbbbmoaaDoorMgAK
import Derived.Shelf.Strings.BuilderK

/-
  Plain laws on numbers, texts and lists as bytes: what they are, and that what was written is read, whatever is behind it. No Go in sight.
-/
namespace Go.Proofs.YtbabmkilbbbmoaaDoor
set_option linter.unusedVariables false

def vl (l : List UInt8) : Int := l.foldl (fun a c => a * 256 + (c.toNat : Int)) 0
theorem vl_snoc (l : List UInt8) (c : UInt8) : vl (l ++ [c]) = vl l * 256 + (c.toNat : Int) := by
  simp [vl, List.foldl_append]
theorem vl_nonneg : ∀ (l : List UInt8) (a : Int), 0 ≤ a → 0 ≤ l.foldl (fun a c => a * 256 + (c.toNat : Int)) a
  | [], a, h => h
  | c :: l, a, h => vl_nonneg l _ (by show 0 ≤ a * 256 + (c.toNat : Int); omega)
theorem vl_pos (l : List UInt8) : 0 ≤ vl l := vl_nonneg l 0 (Int.le_refl 0)
theorem vl_take (l : List UInt8) (k : Nat) (h : k < l.length) : vl (l.take (k + 1)) = vl (l.take k) * 256 + (dgt l k : Int) := by
  rw [List.take_succ_eq_append_getElem h, vl_snoc]
  unfold dgt
  rw [List.getD, List.getElem?_eq_getElem h]
  rfl
theorem vl_bd (l : List UInt8) : ∀ k, k ≤ l.length → vl (l.take k) < 256 ^ k
  | 0, _ => by simp [vl]
  | k + 1, h => by
    have ih := vl_bd l k (by omega)
    have hd := dgt_lt l k
    rw [vl_take l k (by omega), Int.pow_succ]
    omega
theorem vl_bd5 (l : List UInt8) (k : Nat) (h : k ≤ l.length) (h5 : k ≤ 5) : vl (l.take k) < 1099511627776 := by
  have := vl_bd l k h
  have h2 : (256 : Int) ^ k ≤ 256 ^ 5 := by
    have : k = 0 ∨ k = 1 ∨ k = 2 ∨ k = 3 ∨ k = 4 ∨ k = 5 := by omega
    rcases this with rfl | rfl | rfl | rfl | rfl | rfl <;> decide
  have h3 : (256 : Int) ^ 5 = 1099511627776 := by decide
  omega
theorem vl_bd6 (l : List UInt8) (k : Nat) (h : k ≤ l.length) (h5 : k ≤ 6) : vl (l.take k) < 281474976710656 := by
  have := vl_bd l k h
  have h2 : (256 : Int) ^ k ≤ 256 ^ 6 := by
    have : k = 0 ∨ k = 1 ∨ k = 2 ∨ k = 3 ∨ k = 4 ∨ k = 5 ∨ k = 6 := by omega
    rcases this with rfl | rfl | rfl | rfl | rfl | rfl | rfl <;> decide
  have h3 : (256 : Int) ^ 6 = 281474976710656 := by decide
  omega

/-- The digits of a number, to the base 256, the greatest first; its bytes: how many digits it has, and these. -/
def dgs : Nat → Int → List Int
  | 0, _ => []
  | f + 1, n => if n ≤ 0 then [] else dgs f (n / 256) ++ [n % 256]
def numL (n : Int) : List Int := ((dgs 6 n).length : Int) :: dgs 6 n
def nb (n : Int) : List UInt8 := (numL n).map fun x => UInt8.ofNat x.toNat

theorem dgs_len : ∀ (f : Nat) (n : Int), (dgs f n).length ≤ f
  | 0, n => by simp [dgs]
  | f + 1, n => by
    have := dgs_len f (n / 256)
    unfold dgs
    split
    · simp
    · simp; exact this
theorem nb_len (n : Int) : (nb n).length = (dgs 6 n).length + 1 := by simp [nb, numL]
theorem nb_size (n : Int) : (bs (nb n)).size ≤ 7 := by
  rw [bs_size, nb_len]
  have := dgs_len 6 n
  omega
/-- The number with which bytes begin, and how many bytes it takes; none: they begin with none. -/
def takeN (l : List UInt8) : Option (Int × Nat) :=
  if l.length = 0 then none
  else if 6 < dgt l 0 then none
  else if l.length - 1 < dgt l 0 then none
  else if 0 < dgt l 0 ∧ dgt l 1 = 0 then none
  else if 1099511627776 < vl ((l.drop 1).take (dgt l 0)) then none
  else some (vl ((l.drop 1).take (dgt l 0)), 1 + dgt l 0)

/-- The text with which bytes begin: where it begins, and how long it is. -/
def takeT (l : List UInt8) : Option (Nat × Nat) :=
  match takeN l with
  | none => none
  | some (v, k) => if 65536 < v ∨ ((l.length - k : Nat) : Int) < v then none else some (k, v.toNat)

theorem takeN_some {l : List UInt8} {v : Int} {k : Nat} (h : takeN l = some (v, k)) : 0 ≤ v ∧ v ≤ 1099511627776 ∧ k ≤ l.length ∧ 1 ≤ k := by
  unfold takeN at h
  by_cases h1 : l.length = 0
  · rw [if_pos h1] at h; cases h
  rw [if_neg h1] at h
  by_cases h2 : 6 < dgt l 0
  · rw [if_pos h2] at h; cases h
  rw [if_neg h2] at h
  by_cases h3 : l.length - 1 < dgt l 0
  · rw [if_pos h3] at h; cases h
  rw [if_neg h3] at h
  by_cases h4 : 0 < dgt l 0 ∧ dgt l 1 = 0
  · rw [if_pos h4] at h; cases h
  rw [if_neg h4] at h
  by_cases h5 : 1099511627776 < vl ((l.drop 1).take (dgt l 0))
  · rw [if_pos h5] at h; cases h
  rw [if_neg h5] at h
  have hp := vl_pos ((l.drop 1).take (dgt l 0))
  simp only [Option.some.injEq, Prod.mk.injEq] at h
  omega

theorem dgs_succ (f : Nat) (n : Int) (h : 0 < n) : dgs (f + 1) n = dgs f (n / 256) ++ [n % 256] := by
  have : ¬ n ≤ 0 := by omega
  simp [dgs, this]
theorem dgs_zero (f : Nat) (n : Int) (h : n ≤ 0) : dgs f n = [] := by
  cases f with
  | zero => rfl
  | succ f => simp [dgs, h]

theorem div_lt_pow (f : Nat) (n : Int) (h : n < 256 ^ (f + 1)) : n / 256 < 256 ^ f := by
  rw [Int.pow_succ] at h
  omega

theorem dgs_mono : ∀ (f : Nat) (n m : Int), n ≤ m → (dgs f n).length ≤ (dgs f m).length
  | 0, n, m, _ => by simp [dgs]
  | f + 1, n, m, h => by
    by_cases hn : n ≤ 0
    · rw [dgs_zero _ n hn]; simp
    · have ih := dgs_mono f (n / 256) (m / 256) (by omega)
      rw [dgs_succ f n (by omega), dgs_succ f m (by omega)]
      simp; exact ih

theorem dgs_bd : ∀ (f : Nat) (n : Int), ∀ x ∈ dgs f n, 0 ≤ x ∧ x < 256
  | 0, n, x, h => by simp [dgs] at h
  | f + 1, n, x, h => by
    by_cases hn : n ≤ 0
    · rw [dgs_zero _ n hn] at h; simp at h
    · rw [dgs_succ f n (by omega)] at h
      rcases List.mem_append.1 h with h | h
      · exact dgs_bd f _ x h
      · simp at h; omega

theorem vl_append_one (l : List UInt8) (c : UInt8) : vl (l ++ [c]) = vl l * 256 + (c.toNat : Int) := vl_snoc l c

theorem vl_dgs : ∀ (f : Nat) (n : Int), 0 ≤ n → n < 256 ^ f → vl ((dgs f n).map byt) = n
  | 0, n, h0, h1 => by simp at h1; have : n = 0 := by omega
                       subst this; rfl
  | f + 1, n, h0, h1 => by
    by_cases hn : n ≤ 0
    · have : n = 0 := by omega
      subst this; rw [dgs_zero _ _ (Int.le_refl 0)]; rfl
    · have ih := vl_dgs f (n / 256) (by omega) (div_lt_pow f n h1)
      rw [dgs_succ f n (by omega), List.map_append, List.map_cons, List.map_nil, vl_append_one, ih, byt_toNat _ (by omega) (by omega)]
      omega

theorem dgs_inj (f : Nat) (n m : Int) (hn : 0 ≤ n) (hm : 0 ≤ m) (hn1 : n < 256 ^ f) (hm1 : m < 256 ^ f) (h : (dgs f n).map byt = (dgs f m).map byt) : n = m := by
  rw [← vl_dgs f n hn hn1, ← vl_dgs f m hm hm1, h]

theorem bytesLess_irrefl : ∀ l : List UInt8, Op.bytesLess l l = false
  | [] => rfl
  | a :: l => by simp [Op.bytesLess, bytesLess_irrefl l, UInt8.lt_irrefl]

theorem bytesLess_snoc : ∀ (a b : List UInt8) (x y : UInt8), a.length = b.length →
    Op.bytesLess (a ++ [x]) (b ++ [y]) = if a = b then decide (x < y) else Op.bytesLess a b
  | [], [], x, y, _ => by simp [Op.bytesLess]
  | [], _ :: _, x, y, h => by simp at h
  | _ :: _, [], x, y, h => by simp at h
  | c :: a, d :: b, x, y, h => by
    have ih := bytesLess_snoc a b x y (by simpa using h)
    simp only [List.cons_append, Op.bytesLess, ih]
    by_cases hcd : c = d
    · subst hcd
      by_cases hab : a = b
      · simp [hab]
      · simp [hab]
    · have : ¬ (c :: a = d :: b) := by simp [hcd]
      have hb : (c == d) = false := beq_eq_false_iff_ne.2 hcd
      simp [this, hb]

theorem less_dgs : ∀ (f : Nat) (n m : Int), 0 ≤ n → 0 ≤ m → n < 256 ^ f → m < 256 ^ f → (dgs f n).length = (dgs f m).length →
    Op.bytesLess ((dgs f n).map byt) ((dgs f m).map byt) = decide (n < m)
  | 0, n, m, h0, h1, h2, h3, _ => by
    simp at h2 h3
    have e1 : n = 0 := by omega
    have e2 : m = 0 := by omega
    subst e1; subst e2; rfl
  | f + 1, n, m, h0, h1, h2, h3, hl => by
    by_cases hn : n ≤ 0
    · have e1 : n = 0 := by omega
      subst e1
      by_cases hm : m ≤ 0
      · have e2 : m = 0 := by omega
        subst e2; rw [dgs_zero _ _ (Int.le_refl 0)]; rfl
      · rw [dgs_zero _ 0 (Int.le_refl 0), dgs_succ f m (by omega)] at hl
        simp at hl
    · by_cases hm : m ≤ 0
      · rw [dgs_zero _ m hm, dgs_succ f n (by omega)] at hl
        simp at hl
      · rw [dgs_succ f n (by omega), dgs_succ f m (by omega)] at hl ⊢
        have hl' : (dgs f (n / 256)).length = (dgs f (m / 256)).length := by simpa using hl
        have ih := less_dgs f (n / 256) (m / 256) (by omega) (by omega) (div_lt_pow f n h2) (div_lt_pow f m h3) hl'
        simp only [List.map_append, List.map_cons, List.map_nil]
        rw [bytesLess_snoc _ _ _ _ (by simpa using hl')]
        by_cases he : (dgs f (n / 256)).map byt = (dgs f (m / 256)).map byt
        · have hd := dgs_inj f _ _ (by omega) (by omega) (div_lt_pow f n h2) (div_lt_pow f m h3) he
          rw [if_pos he]
          have b1 := byt_toNat (n % 256) (by omega) (by omega)
          have b2 := byt_toNat (m % 256) (by omega) (by omega)
          have : (byt (n % 256) < byt (m % 256)) ↔ n < m := by
            rw [UInt8.lt_iff_toNat_lt]; omega
          simp [this]
        · rw [if_neg he, ih]
          have : n / 256 ≠ m / 256 := by intro e; rw [e] at he; exact he rfl
          have : (n / 256 < m / 256) ↔ n < m := by omega
          simp [this]

theorem pow6 : (256 : Int) ^ 6 = 281474976710656 := by decide

theorem nb_cons (n : Int) : nb n = byt ((dgs 6 n).length : Int) :: (dgs 6 n).map byt := rfl

theorem nb_mono (n m : Int) (h : n ≤ m) : (nb n).length ≤ (nb m).length := by
  rw [nb_len, nb_len]; have := dgs_mono 6 n m h; omega

theorem nb_less (n m : Int) (h0 : 0 ≤ n) (h1 : 0 ≤ m) (h2 : n ≤ 1099511627776) (h3 : m ≤ 1099511627776) :
    Op.bytesLess (nb n) (nb m) = decide (n < m) := by
  have p := pow6
  have ln := dgs_len 6 n
  have lm := dgs_len 6 m
  have b1 := byt_toNat ((dgs 6 n).length : Int) (by omega) (by omega)
  have b2 := byt_toNat ((dgs 6 m).length : Int) (by omega) (by omega)
  rw [nb_cons, nb_cons]
  simp only [Op.bytesLess]
  by_cases hl : (dgs 6 n).length = (dgs 6 m).length
  · rw [less_dgs 6 n m h0 h1 (by omega) (by omega) hl, hl]
    simp [UInt8.lt_irrefl]
  · have hne : (byt ((dgs 6 n).length : Int) == byt ((dgs 6 m).length : Int)) = false := by
      apply beq_eq_false_iff_ne.2
      intro e; rw [e] at b1; omega
    rw [hne, Bool.false_and, Bool.or_false]
    have : (byt ((dgs 6 n).length : Int) < byt ((dgs 6 m).length : Int)) ↔ n < m := by
      rw [UInt8.lt_iff_toNat_lt]
      have m1 := dgs_mono 6 n m
      have m2 := dgs_mono 6 m n
      by_cases hnm : n ≤ m
      · have := m1 hnm; omega
      · have := m2 (by omega); omega
    simp [this]

def takeTs : Nat → List UInt8 → Option (List ByteArray × List UInt8)
  | 0, l => some ([], l)
  | n + 1, l =>
    match takeT l with
    | none => none
    | some (k, m) =>
      match takeTs n ((l.drop k).drop m) with
      | none => none
      | some (ts, r) => some (bs ((l.drop k).take m) :: ts, r)

def takeL (l : List UInt8) : Option (List ByteArray × List UInt8) :=
  match takeN l with
  | none => none
  | some (v, k) => if 1000 < v then none else takeTs v.toNat (l.drop k)

/-- With texts that were read ahead. -/
def ahead (ts : List ByteArray) : Option (List ByteArray × List UInt8) → Option (List ByteArray × List UInt8)
  | none => none
  | some (a, r) => some (ts ++ a, r)

theorem ahead_nil (o : Option (List ByteArray × List UInt8)) : ahead [] o = o := by
  cases o with
  | none => rfl
  | some p => simp [ahead]
theorem ahead_step (ts : List ByteArray) (n : Nat) (l : List UInt8) (k m : Nat) (h : takeT l = some (k, m)) :
    ahead ts (takeTs (n + 1) l) = ahead (ts ++ [bs ((l.drop k).take m)]) (takeTs n ((l.drop k).drop m)) := by
  simp only [takeTs, h]
  cases takeTs n ((l.drop k).drop m) with
  | none => rfl
  | some p => simp [ahead]
theorem ahead_none (ts : List ByteArray) (n : Nat) (l : List UInt8) (h : takeT l = none) : ahead ts (takeTs (n + 1) l) = none := by
  simp only [takeTs, h]; rfl

theorem takeT_some {l : List UInt8} {k m : Nat} (h : takeT l = some (k, m)) : k + m ≤ l.length ∧ 1 ≤ k ∧ m ≤ 65536 := by
  unfold takeT at h
  cases hn : takeN l with
  | none => rw [hn] at h; cases h
  | some x =>
    obtain ⟨v, k'⟩ := x
    rw [hn] at h
    have hb := takeN_some hn
    by_cases hc : 65536 < v ∨ ((l.length - k' : Nat) : Int) < v
    · simp only [hc, if_true] at h; cases h
    · simp only [hc, if_false, Option.some.injEq, Prod.mk.injEq] at h
      omega


def tb (s : ByteArray) : List UInt8 := nb s.size ++ s.data.toList
def lb (n : Nat) (ss : List ByteArray) : List UInt8 := nb n ++ (ss.map tb).flatten
theorem tb_len (s : ByteArray) : (tb s).length ≤ 7 + s.size := by
  have := nb_size s.size
  rw [bs_size] at this
  simp [tb]; omega
theorem lb_zero (n : Nat) : lb n [] = nb n := by simp [lb]
theorem lb_take (n : Nat) (ss : List ByteArray) (k : Nat) (h : k < ss.length) : lb n (ss.take (k + 1)) = lb n (ss.take k) ++ tb (ss.getD k ByteArray.empty) := by
  have e : ss.getD k ByteArray.empty = ss[k] := by rw [List.getD, List.getElem?_eq_getElem h]; rfl
  rw [e, lb, lb, List.take_succ_eq_append_getElem h, List.map_append, List.flatten_append]
  simp only [List.map_cons, List.map_nil, List.flatten_cons, List.flatten_nil, List.append_nil, List.append_assoc]
theorem lb_len (n : Nat) (ss : List ByteArray) (h : ∀ s ∈ ss, s.size ≤ 65536) : ∀ k, k ≤ ss.length → (lb n (ss.take k)).length ≤ 7 + k * 65543
  | 0, _ => by
    have := nb_size n
    rw [bs_size] at this
    simp [lb]; omega
  | k + 1, hk => by
    have ih := lb_len n ss h k (by omega)
    rw [lb_take n ss k (by omega), List.length_append]
    have h1 := tb_len (ss.getD k ByteArray.empty)
    have h2 : (ss.getD k ByteArray.empty).size ≤ 65536 := by
      have hlt : k < ss.length := by omega
      have e : ss.getD k ByteArray.empty = ss[k] := by rw [List.getD, List.getElem?_eq_getElem hlt]; rfl
      rw [e]; exact h _ (List.getElem_mem hlt)
    omega
theorem lb_ne (n : Nat) (ss : List ByteArray) : lb n ss ≠ [] := by simp [lb, nb, numL]
theorem bs_tb (s : ByteArray) : bs (nb s.size ++ s.data.toList) = bs (tb s) := rfl

theorem fin_eq (l : List UInt8) : (⟨l.toArray⟩ : ByteArray) = bs l := rfl


/-- Whether each text may be written. -/
def fits (ss : List ByteArray) : Bool := ss.all fun s => decide (s.size ≤ 65536)
theorem fits_iff (ss : List ByteArray) : fits ss = true ↔ ∀ s ∈ ss, s.size ≤ 65536 := by simp [fits]


theorem lb_prefix (n : Nat) (ss : List ByteArray) (k : Nat) (hk : k ≤ ss.length) (h : ∀ j, j < k → (ss.getD j ByteArray.empty).size ≤ 65536) : (lb n (ss.take k)).length ≤ 7 + k * 65543 := by
  have := lb_len n (ss.take k) (by
    intro s hs
    obtain ⟨i, hi, rfl⟩ := List.mem_iff_getElem.1 hs
    simp at hi
    have := h i (by omega)
    rw [List.getD, List.getElem?_eq_getElem (by omega)] at this
    simpa using this) k (by simp; omega)
  rwa [List.take_take, Nat.min_self] at this


theorem dgs_head : ∀ (f : Nat) (n : Int), 0 < n → n < 256 ^ f → ∃ x r, dgs f n = x :: r ∧ 0 < x ∧ x < 256
  | 0, n, h0, h1 => by simp at h1; omega
  | f + 1, n, h0, h1 => by
    rw [dgs_succ f n h0]
    by_cases hq : n / 256 ≤ 0
    · rw [dgs_zero f _ hq]
      exact ⟨n % 256, [], rfl, by omega, by omega⟩
    · obtain ⟨x, r, e, h2, h3⟩ := dgs_head f (n / 256) (by omega) (div_lt_pow f n h1)
      exact ⟨x, r ++ [n % 256], by rw [e]; rfl, h2, h3⟩

theorem takeN_nb (n : Int) (b : List UInt8) (h0 : 0 ≤ n) (h1 : n ≤ 1099511627776) : takeN (nb n ++ b) = some (n, (nb n).length) := by
  have p := pow6
  have ln := dgs_len 6 n
  have hv := vl_dgs 6 n h0 (by omega)
  have hd0 : dgt (nb n ++ b) 0 = (dgs 6 n).length := by
    rw [nb_cons]; simp only [dgt, List.cons_append, List.getD_cons_zero]; exact byt_nat _ (by omega)
  have hlen : (nb n ++ b).length = (dgs 6 n).length + 1 + b.length := by rw [List.length_append, nb_len]
  have hdrop : ((nb n ++ b).drop 1).take (dgs 6 n).length = (dgs 6 n).map byt := by
    rw [nb_cons]
    simp only [List.cons_append, List.drop_succ_cons, List.drop_zero]
    rw [List.take_append_of_le_length (by simp), List.take_of_length_le (by simp)]
  unfold takeN
  rw [hd0, hdrop, hv, hlen, if_neg (by omega), if_neg (by omega), if_neg (by omega), if_neg, if_neg (by omega), nb_len]
  · congr 2; omega
  · rintro ⟨hp, hz⟩
    have hn : 0 < n := by
      rcases Int.lt_or_le 0 n with h | h
      · exact h
      · rw [dgs_zero 6 n h] at hp; simp at hp
    obtain ⟨x, r, e, h2, h3⟩ := dgs_head 6 n hn (by omega)
    rw [nb_cons, e] at hz
    simp only [dgt, List.map_cons, List.cons_append, List.getD_cons_succ, List.getD_cons_zero] at hz
    have := byt_toNat x (by omega) h3
    omega

theorem takeT_tb (s : ByteArray) (b : List UInt8) (h : s.size ≤ 65536) : takeT (tb s ++ b) = some ((nb s.size).length, s.size) := by
  have e : tb s ++ b = nb s.size ++ (s.data.toList ++ b) := by simp [tb]
  have hl : s.data.toList.length = s.size := by simp
  unfold takeT
  rw [e, takeN_nb _ _ (by omega) (by omega)]
  have hc : ¬ ((65536 : Int) < (s.size : Int) ∨ (((nb s.size ++ (s.data.toList ++ b)).length - (nb s.size).length : Nat) : Int) < (s.size : Int)) := by
    simp only [List.length_append, hl]
    omega
  simp only [hc, if_false, Int.toNat_natCast]

theorem takeTs_lb : ∀ (ss : List ByteArray) (b : List UInt8), (∀ s ∈ ss, s.size ≤ 65536) → takeTs ss.length ((ss.map tb).flatten ++ b) = some (ss, b)
  | [], b, _ => by simp [takeTs]
  | s :: r, b, h => by
    have hs := h s (by simp)
    have hl : s.data.toList.length = s.size := by simp
    have ih := takeTs_lb r b (fun t ht => h t (by simp [ht]))
    have e : (((s :: r).map tb).flatten ++ b) = tb s ++ ((r.map tb).flatten ++ b) := by simp
    have e1 : (tb s ++ ((r.map tb).flatten ++ b)).drop (nb s.size).length = s.data.toList ++ ((r.map tb).flatten ++ b) := by
      rw [tb, List.append_assoc, List.drop_left]
    rw [List.length_cons, takeTs, e, takeT_tb s _ hs]
    simp only [e1]
    rw [← hl, List.drop_left, List.take_left, ih, bs_self]

theorem takeL_lb (ss : List ByteArray) (b : List UInt8) (hn : ss.length ≤ 1000) (h : ∀ s ∈ ss, s.size ≤ 65536) : takeL (lb ss.length ss ++ b) = some (ss, b) := by
  have e : lb ss.length ss ++ b = nb ss.length ++ ((ss.map tb).flatten ++ b) := by simp [lb]
  unfold takeL
  rw [e, takeN_nb _ _ (by omega) (by omega)]
  have hc : ¬ ((1000 : Int) < (ss.length : Int)) := by omega
  simp only [hc, if_false, Int.toNat_natCast, List.drop_left]
  exact takeTs_lb ss b h

theorem app_size (l : List UInt8) (b : ByteArray) : (bs l ++ b).size = l.length + b.size := by
  rw [bs_add, bs_size, List.length_append]; simp
theorem app_toList (l : List UInt8) (b : ByteArray) : (bs l ++ b).data.toList = l ++ b.data.toList := by rw [bs_add, bs_toList]


theorem apart (sa sb : List ByteArray) (ha : sa.length ≤ 1000) (hb : sb.length ≤ 1000) (fa : ∀ s ∈ sa, s.size ≤ 65536) (fb : ∀ s ∈ sb, s.size ≤ 65536) (hne : ¬ sa = sb) (z : List UInt8) : ¬ lb sa.length sa = lb sb.length sb ++ z := by
  intro e
  have h1 := takeL_lb sa [] ha fa
  have h2 := takeL_lb sb z hb fb
  rw [List.append_nil, e, h2] at h1
  simp only [Option.some.injEq, Prod.mk.injEq] at h1
  exact hne h1.1.symm


/-- What List answers of texts that are not too many. -/
def listV (n : Nat) (ss : List ByteArray) : Value := if fits ss = true then .tuple #[.string (bs (lb n ss)), .int .i64 0] else .tuple #[.string ⟨#[]⟩, .int .i64 2]


theorem numL_0 (n : Int) (h : n = 0) : numL n = [0] := by
  subst h; rfl

theorem numL_1 (n : Int) (h1 : 1 ≤ n) (h2 : n < 256) : numL n = [1, n % 256] := by
  have p0 : ¬ (n ≤ 0) := by omega
  have q : n / 256 ≤ 0 := by omega
  simp [numL, dgs, p0, q]

theorem numL_2 (n : Int) (h1 : 256 ≤ n) (h2 : n < 65536) : numL n = [2, n / 256 % 256, n % 256] := by
  have p0 : ¬ (n ≤ 0) := by omega
  have p1 : ¬ (n / 256 ≤ 0) := by omega
  have q : n / 256 / 256 ≤ 0 := by omega
  simp [numL, dgs, p0, p1, q]

theorem numL_3 (n : Int) (h1 : 65536 ≤ n) (h2 : n < 16777216) : numL n = [3, n / 256 / 256 % 256, n / 256 % 256, n % 256] := by
  have p0 : ¬ (n ≤ 0) := by omega
  have p1 : ¬ (n / 256 ≤ 0) := by omega
  have p2 : ¬ (n / 256 / 256 ≤ 0) := by omega
  have q : n / 256 / 256 / 256 ≤ 0 := by omega
  simp [numL, dgs, p0, p1, p2, q]

theorem numL_4 (n : Int) (h1 : 16777216 ≤ n) (h2 : n < 4294967296) : numL n = [4, n / 256 / 256 / 256 % 256, n / 256 / 256 % 256, n / 256 % 256, n % 256] := by
  have p0 : ¬ (n ≤ 0) := by omega
  have p1 : ¬ (n / 256 ≤ 0) := by omega
  have p2 : ¬ (n / 256 / 256 ≤ 0) := by omega
  have p3 : ¬ (n / 256 / 256 / 256 ≤ 0) := by omega
  have q : n / 256 / 256 / 256 / 256 ≤ 0 := by omega
  simp [numL, dgs, p0, p1, p2, p3, q]

theorem numL_5 (n : Int) (h1 : 4294967296 ≤ n) (h2 : n < 1099511627776) : numL n = [5, n / 256 / 256 / 256 / 256 % 256, n / 256 / 256 / 256 % 256, n / 256 / 256 % 256, n / 256 % 256, n % 256] := by
  have p0 : ¬ (n ≤ 0) := by omega
  have p1 : ¬ (n / 256 ≤ 0) := by omega
  have p2 : ¬ (n / 256 / 256 ≤ 0) := by omega
  have p3 : ¬ (n / 256 / 256 / 256 ≤ 0) := by omega
  have p4 : ¬ (n / 256 / 256 / 256 / 256 ≤ 0) := by omega
  have q : n / 256 / 256 / 256 / 256 / 256 ≤ 0 := by omega
  simp [numL, dgs, p0, p1, p2, p3, p4, q]

theorem numL_6 (n : Int) (h1 : 1099511627776 ≤ n) (h2 : n ≤ 1099511627776) : numL n = [6, n / 256 / 256 / 256 / 256 / 256 % 256, n / 256 / 256 / 256 / 256 % 256, n / 256 / 256 / 256 % 256, n / 256 / 256 % 256, n / 256 % 256, n % 256] := by
  have p0 : ¬ (n ≤ 0) := by omega
  have p1 : ¬ (n / 256 ≤ 0) := by omega
  have p2 : ¬ (n / 256 / 256 ≤ 0) := by omega
  have p3 : ¬ (n / 256 / 256 / 256 ≤ 0) := by omega
  have p4 : ¬ (n / 256 / 256 / 256 / 256 ≤ 0) := by omega
  have p5 : ¬ (n / 256 / 256 / 256 / 256 / 256 ≤ 0) := by omega
  simp [numL, dgs, p0, p1, p2, p3, p4, p5]
end Go.Proofs.YtbabmkilbbbmoaaDoor

/-
  What 'quill.numBytes' and 'quill.Num' do: of every number its bytes, or the error, in new memory alone.
-/
namespace Go.Proofs.YtbabmkilbbbmoaaDoor
open Go.RowKit
set_option linter.unusedVariables false
set_option maxRecDepth 100000

end Go.Proofs.YtbabmkilbbbmoaaDoor

/-
  What 'quill.textBytes' and 'quill.Text' do.
-/
namespace Go.Proofs.YtbabmkilbbbmoaaDoor
open Go.RowKit
set_option linter.unusedVariables false

end Go.Proofs.YtbabmkilbbbmoaaDoor

/-
  A strings.Builder that lies in a tree.writer, ahead of its error: what WriteString and String do there; the writer's num and text.
-/
namespace Go.Proofs.YtbabmkilbbbmoaaDoor
open Go.RowKit
set_option linter.unusedVariables false
set_option linter.unusedSimpArgs false

theorem oth_of_below {b : Nat} {w w' : World} (h : Below w.heap.size w w') : Oth b w w' := fun k o hk _ _ => (h.block k (Array.getElem?_eq_some_iff.1 hk).1).trans hk
theorem sizeBld : (Tryd.prog.info? 122).map (fun i => i.size) = some 2 := by kernel_rfl

set_option maxHeartbeats 1000000 in
set_option maxRecDepth 100000 in
theorem wcopy_used (b : Nat) (w : World) (h0 : w.cell? ⟨b, 0, none⟩ = some (.pointer (some ⟨b, 0, none⟩))) :
    Calls Tryd.prog 121 #[.pointer (some ⟨b, 0, none⟩)] w fun e w' => e = .returned (.tuple #[]) ∧ w' = w := by
  obtain ⟨j, hj, _⟩ := Option.map_eq_some_iff.1 sizeBld
  go_enter Tryd.func121, Tryd.ntmps121
  go_wp2
  rw [Lib.run_neq_ptr_same w _ Tryd.underlying119 hj]
  go_wp2
  refine bodyPost_end (v := .tuple #[]) (results_none Tryd.results121 _ _ _) rfl ?_
  exact ⟨rfl, rfl⟩
theorem infoByteW : (Tryd.prog.info? 5).map (fun i => (i.zero, i.size, i.bytes)) = some (some (.int .u8 0), 1, 1) := by kernel_rfl
end Go.Proofs.YtbabmkilbbbmoaaDoor

/-
  What a tree.writer's num, text and node write (made by mk_ybn.py).
-/
namespace Go.Proofs.YtbabmkilbbbmoaaDoor
open Go.RowKit
set_option linter.unusedVariables false
set_option linter.unusedSimpArgs false

def OthS (b : Nat) (w w' : World) : Prop := Oth b w w' ∧ w.heap.size ≤ w'.heap.size
theorem OthS.trans {b : Nat} {w w1 w2 : World} (h : OthS b w w1) (h' : OthS b w1 w2) : OthS b w w2 := ⟨Lib.OthersKept.trans h.1 h'.1, Nat.le_trans h.2 h'.2⟩
theorem OthS.alloc {b : Nat} {w w1 : World} (h : OthS b w w1) (o : Obj) : OthS b w (w1.alloc o) := ⟨Lib.OthersKept.alloc h.1 o, by have := h.2; simp; omega⟩
theorem othS_of_below {b : Nat} {w w' : World} (h : Below w.heap.size w w') : OthS b w w' := ⟨oth_of_below h, h.size⟩
def numW (n : Int) : List UInt8 := if 0 ≤ n ∧ n ≤ 1099511627776 then nb n else []
theorem numW_len (n : Int) : (numW n).length ≤ 7 := by
  unfold numW
  split
  · have := nb_size n; rw [bs_size] at this; exact this
  · exact Nat.zero_le _
/-- The bytes of attributes, of a node without its kids. -/
def atW : List (ByteArray × ByteArray) → List UInt8
  | [] => []
  | a :: r => tb a.1 ++ (tb a.2 ++ atW r)
def nodeL (k sp : Int) (n : ByteArray) (ats : List (ByteArray × ByteArray)) (tx : ByteArray) (kl : Nat) : List UInt8 :=
  if k = 1 then numW k ++ (numW sp ++ (tb n ++ (numW ats.length ++ (atW ats ++ numW kl)))) else numW k ++ tb tx
theorem atW_drop (ats : List (ByteArray × ByteArray)) (j : Nat) (hj : j < ats.length) : atW (ats.drop j) = tb (an ats j) ++ (tb (av ats j) ++ atW (ats.drop (j + 1))) := by
  rw [List.drop_eq_getElem_cons hj, atW]
  have h3 : ats.getD j (ByteArray.empty, ByteArray.empty) = ats[j] := by simp [List.getD, List.getElem?_eq_getElem hj]
  unfold an av
  rw [h3]
end Go.Proofs.YtbabmkilbbbmoaaDoor

/-
  'tree.Bytes': 'tree.walk' under its closure, which writes each node (made by mk_yby.py).
-/
namespace Go.Proofs.YtbabmkilbbbmoaaDoor
open Go.RowKit
set_option linter.unusedVariables false
set_option linter.unusedSimpArgs false

/-! ### tree.Bytes -/
def byStep (l : List UInt8) (it : Item) : List UInt8 × Bool := (l ++ nodeL it.k it.sp it.n it.ats it.tx it.kids.len, true)
def byF : Forest → List UInt8
  | .nil => []
  | .cons k sp n ats tx kids rest => nodeL k sp n ats tx kids.len ++ (byF kids ++ byF rest)
theorem tell_by_app : ∀ (l1 l2 : List Item) (s : List UInt8), tell byStep s (l1 ++ l2) = tell byStep (tell byStep s l1) l2
  | [], l2, s => rfl
  | it :: l1, l2, s => by
    show tell byStep (byStep s it).1 (l1 ++ l2) = tell byStep (tell byStep (byStep s it).1 l1) l2
    exact tell_by_app l1 l2 _
theorem tell_by : ∀ (f : Forest) (d : Nat) (s : List UInt8), tell byStep s (items f d) = s ++ byF f
  | .nil, d, s => by show s = s ++ []; simp
  | .cons k sp n ats tx kids rest, d, s => by
    show tell byStep (s ++ nodeL k sp n ats tx kids.len) (items kids (d + 1) ++ items rest d) = _
    rw [tell_by_app, tell_by kids, tell_by rest, byF]
    simp only [List.append_assoc]
theorem tell_by_len : ∀ (l : List Item) (s : List UInt8), s.length ≤ (tell byStep s l).length
  | [], s => Nat.le_refl _
  | it :: l, s => by
    show s.length ≤ (tell byStep (byStep s it).1 l).length
    refine Nat.le_trans ?_ (tell_by_len l _)
    show s.length ≤ (s ++ nodeL it.k it.sp it.n it.ats it.tx it.kids.len).length
    rw [List.length_append]; omega
theorem atW_len (ats : List (ByteArray × ByteArray)) (hf : Fits ats) : ∀ (m j : Nat), ats.length - j = m → (atW (ats.drop j)).length ≤ 20014 * m
  | 0, j, h => by rw [List.drop_eq_nil_of_le (by omega)]; exact Nat.zero_le _
  | m + 1, j, h => by
    have h1 := atW_len ats hf m (j + 1) (by omega)
    rw [atW_drop ats j (by omega), List.length_append, List.length_append]
    have h2 := hf.2 j (by omega)
    have h3 := tb_len (an ats j)
    have h4 := tb_len (av ats j)
    omega
theorem node_len (k sp : Int) (n : ByteArray) (ats : List (ByteArray × ByteArray)) (tx : ByteArray) (kl : Nat) (ht : tx.size ≤ 5000) (hn : n.size ≤ 5000) (hf : Fits ats) : (nodeL k sp n ats tx kl).length ≤ 21000000 := by
  unfold nodeL
  have h1 := numW_len k
  have h2 := numW_len sp
  have h3 := numW_len ats.length
  have h4 := numW_len kl
  have h5 := tb_len n
  have h6 := tb_len tx
  have h7 := atW_len ats hf _ 0 rfl
  have h8 := hf.1
  rw [List.drop_zero] at h7
  split
  · simp only [List.length_append]; omega
  · simp only [List.length_append]; omega
theorem by_len : ∀ (f : Forest), SmF f → (byF f).length ≤ 21000000 * f.count
  | .nil, _ => Nat.zero_le _
  | .cons k sp n ats tx kids rest, h => by
    have h1 := by_len kids h.2.1
    have h2 := by_len rest h.2.2
    have h3 := node_len k sp n ats tx kids.len h.1.1 h.1.2.1 h.1.2.2.1
    rw [byF, List.length_append, List.length_append]
    simp only [Forest.count]
    omega
theorem num_ne (n : Nat) (h : n ≤ 1099511627776) (l : List UInt8) : numW n ++ l ≠ [] := by
  unfold numW
  rw [if_pos (by omega), nb_cons]
  simp
def bytesL (f : Forest) : List UInt8 := numW f.len ++ byF f
def bytesV (f : Forest) : List UInt8 := if checkN f = 0 then bytesL f else []
end Go.Proofs.YtbabmkilbbbmoaaDoor

/-
  What 'quill.TakeNum' does: of every text the number with which it begins and what is behind, or the error.
-/
namespace Go.Proofs.YtbabmkilbbbmoaaDoor
open Go.RowKit
set_option linter.unusedVariables false

def numErr : Value := .tuple #[.int .i64 0, .string ⟨#[]⟩, .int .i64 4]
def takeNV (l : List UInt8) : Value :=
  match takeN l with
  | none => numErr
  | some (v, k) => .tuple #[.int .i64 v, .string (bs (l.drop k)), .int .i64 0]

theorem rest_eq (s : ByteArray) (c : Nat) (n : Nat) (hn : n = s.size - 1) : (s.extract 1 s.size).extract c n = bs (s.data.toList.drop (1 + c)) := by
  have e : (s.extract 1 s.size).size = s.size - 1 := by simp
  rw [hn, ← e, Lib.Pa.extract_from, Lib.extract_to_end, List.drop_drop]
  rfl

end Go.Proofs.YtbabmkilbbbmoaaDoor

/-
  What 'quill.TakeText' does.
-/
namespace Go.Proofs.YtbabmkilbbbmoaaDoor
open Go.RowKit
set_option linter.unusedVariables false

def textErr : Value := .tuple #[.string ⟨#[]⟩, .string ⟨#[]⟩, .int .i64 4]
def takeTV (l : List UInt8) : Value :=
  match takeT l with
  | none => textErr
  | some (k, n) => .tuple #[.string (bs ((l.drop k).take n)), .string (bs ((l.drop k).drop n)), .int .i64 0]

end Go.Proofs.YtbabmkilbbbmoaaDoor

/-
  What a tree.reader's num and text take off, where there is such a one.
-/
namespace Go.Proofs.YtbabmkilbbbmoaaDoor
open Go.RowKit
set_option linter.unusedVariables false
set_option linter.unusedSimpArgs false

/-- All but block R stands as it stood. -/
structure KpR (R : Nat) (w w' : World) : Prop where
  os : w'.os = w.os
  tape : w'.tape = w.tape
  output : w'.output = w.output
  size : w.heap.size ≤ w'.heap.size
  block : ∀ k, k < w.heap.size → k ≠ R → w'.heap[k]? = w.heap[k]?
theorem KpR.refl (R : Nat) (w : World) : KpR R w w := ⟨rfl, rfl, rfl, Nat.le_refl _, fun _ _ _ => rfl⟩
theorem KpR.trans {R : Nat} {w w1 w2 : World} (h : KpR R w w1) (h' : KpR R w1 w2) : KpR R w w2 :=
  ⟨h'.os.trans h.os, h'.tape.trans h.tape, h'.output.trans h.output, Nat.le_trans h.size h'.size, fun k hk hr => (h'.block k (by have := h.size; omega) hr).trans (h.block k hk hr)⟩
theorem KpR.of {R : Nat} {w w1 : World} (h : Below w.heap.size w w1) : KpR R w w1 := ⟨h.os, h.tape, h.output, h.size, fun k hk _ => h.block k hk⟩
theorem KpR.set {R : Nat} {w w1 : World} (h : KpR R w w1) (o : Nat) (v : Value) : KpR R w (w1.setCell ⟨R, o, none⟩ v) :=
  ⟨h.os, h.tape, h.output, by have := h.size; simp; omega, fun k hk hr => (Below.heap_setCell w1 ⟨R, o, none⟩ v k (by show k ≠ R; exact hr)).trans (h.block k hk hr)⟩
theorem KpR.setAt {R b : Nat} {w w1 : World} (h : KpR R w w1) (hb : w.heap.size ≤ b) (o : Nat) (v : Value) : KpR R w (w1.setCell ⟨b, o, none⟩ v) :=
  ⟨h.os, h.tape, h.output, by have := h.size; simp; omega, fun k hk hr => (Below.heap_setCell w1 ⟨b, o, none⟩ v k (by show k ≠ b; omega)).trans (h.block k hk hr)⟩
theorem KpR.alloc {R : Nat} {w w1 : World} (h : KpR R w w1) (o : Obj) : KpR R w (w1.alloc o) :=
  h.trans (KpR.of ((Below.refl _ _).alloc (Nat.le_refl _) o))
theorem KpR.below {R B : Nat} {w w1 : World} (h : KpR R w w1) (hB : B ≤ w.heap.size) (hR : B ≤ R) : Below B w w1 := ⟨h.os, h.tape, h.output, h.size, fun k hk => h.block k (by omega) (by omega)⟩
theorem KpR.blk {R b : Nat} {w w1 : World} {vs : Array Value} {t : TypeId} (h : KpR R w w1) (hb : Blk w b vs t) (hr : b ≠ R) : Blk w1 b vs t := (h.block b hb.lt hr).trans hb

end Go.Proofs.YtbabmkilbbbmoaaDoor
