/-
  Plain lists of bytes: the number that digits tell, and what the bytes of a number that stand at the head of a text tell. No Go in sight.
-/
import Derived.Lib.PathFns
import Derived.Lib.IndexBytes
namespace Go.Proofs.Ytekkgmgdihlefaa

def bs (l : List UInt8) : ByteArray := ⟨l.toArray⟩
def dgt (l : List UInt8) (k : Nat) : Nat := (l.getD k 0).toNat
def vl (l : List UInt8) : Int := l.foldl (fun a c => a * 256 + (c.toNat : Int)) 0

theorem bs_toList (l : List UInt8) : (bs l).data.toList = l := by simp [bs]
theorem bs_size (l : List UInt8) : (bs l).size = l.length := by simp [bs, ByteArray.size]
theorem bs_self (s : ByteArray) : bs s.data.toList = s := by simp [bs]
theorem bs_inj {a b : List UInt8} (h : bs a = bs b) : a = b := by
  have := congrArg (fun x : ByteArray => x.data.toList) h
  simpa [bs_toList] using this

theorem dgt_lt (l : List UInt8) (k : Nat) : dgt l k < 256 := by
  unfold dgt; exact UInt8.toNat_lt _
theorem dgt_at (s : ByteArray) (k : Nat) (h : k < s.size) : (s[k]).toNat = dgt s.data.toList k := by
  have h' : k < s.data.toList.length := by simpa using h
  unfold dgt
  rw [List.getD, List.getElem?_eq_getElem h']
  rfl
theorem dgt_from (s : ByteArray) (a k : Nat) (h : k < (s.extract a s.size).size) : ((s.extract a s.size)[k]).toNat = dgt s.data.toList (a + k) := by
  rw [dgt_at]
  unfold dgt
  rw [Lib.extract_to_end]
  simp [List.getD, List.getElem?_drop]

theorem vl_snoc (l : List UInt8) (c : UInt8) : vl (l ++ [c]) = vl l * 256 + (c.toNat : Int) := by
  simp [vl, List.foldl_append]
theorem vl_nonneg : ∀ (l : List UInt8) (a : Int), 0 ≤ a → 0 ≤ l.foldl (fun a c => a * 256 + (c.toNat : Int)) a
  | [], a, h => h
  | c :: l, a, h => vl_nonneg l _ (by show 0 ≤ a * 256 + (c.toNat : Int); omega)
theorem vl_pos (l : List UInt8) : 0 ≤ vl l := vl_nonneg l 0 (Int.le_refl 0)
theorem vl_take (l : List UInt8) (k : Nat) (h : k < l.length) : vl (l.take (k + 1)) = vl (l.take k) * 256 + (dgt l k : Int) := by
  rw [List.take_succ_eq_append_getElem h, vl_snoc]
  unfold dgt
  rw [List.getD, List.getElem?_eq_getElem h]
  rfl
theorem vl_bd (l : List UInt8) : ∀ k, k ≤ l.length → vl (l.take k) < 256 ^ k
  | 0, _ => by simp [vl]
  | k + 1, h => by
    have ih := vl_bd l k (by omega)
    have hd := dgt_lt l k
    rw [vl_take l k (by omega), Int.pow_succ]
    omega
theorem vl_bd5 (l : List UInt8) (k : Nat) (h : k ≤ l.length) (h5 : k ≤ 5) : vl (l.take k) < 1099511627776 := by
  have := vl_bd l k h
  have h2 : (256 : Int) ^ k ≤ 256 ^ 5 := by
    have : k = 0 ∨ k = 1 ∨ k = 2 ∨ k = 3 ∨ k = 4 ∨ k = 5 := by omega
    rcases this with rfl | rfl | rfl | rfl | rfl | rfl <;> decide
  have h3 : (256 : Int) ^ 5 = 1099511627776 := by decide
  omega
theorem vl_bd6 (l : List UInt8) (k : Nat) (h : k ≤ l.length) (h5 : k ≤ 6) : vl (l.take k) < 281474976710656 := by
  have := vl_bd l k h
  have h2 : (256 : Int) ^ k ≤ 256 ^ 6 := by
    have : k = 0 ∨ k = 1 ∨ k = 2 ∨ k = 3 ∨ k = 4 ∨ k = 5 ∨ k = 6 := by omega
    rcases this with rfl | rfl | rfl | rfl | rfl | rfl | rfl <;> decide
  have h3 : (256 : Int) ^ 6 = 281474976710656 := by decide
  omega

/-- The digits of a number, to the base 256, the greatest first; its bytes: how many digits it has, and these. -/
def dgs : Nat → Int → List Int
  | 0, _ => []
  | f + 1, n => if n ≤ 0 then [] else dgs f (n / 256) ++ [n % 256]
def numL (n : Int) : List Int := ((dgs 6 n).length : Int) :: dgs 6 n
def nb (n : Int) : List UInt8 := (numL n).map fun x => UInt8.ofNat x.toNat

theorem dgs_len : ∀ (f : Nat) (n : Int), (dgs f n).length ≤ f
  | 0, n => by simp [dgs]
  | f + 1, n => by
    have := dgs_len f (n / 256)
    unfold dgs
    split
    · simp
    · simp; exact this
theorem nb_len (n : Int) : (nb n).length = (dgs 6 n).length + 1 := by simp [nb, numL]
theorem nb_size (n : Int) : (bs (nb n)).size ≤ 7 := by
  rw [bs_size, nb_len]
  have := dgs_len 6 n
  omega
theorem add_bs (a b : ByteArray) : a ++ b = bs (a.data.toList ++ b.data.toList) := by
  apply ByteArray.ext
  simp [bs]
theorem bs_add (a : List UInt8) (b : ByteArray) : bs a ++ b = bs (a ++ b.data.toList) := by rw [add_bs, bs_toList]

/-- The number with which bytes begin, and how many bytes it takes; none: they begin with none. -/
def takeN (l : List UInt8) : Option (Int × Nat) :=
  if l.length = 0 then none
  else if 6 < dgt l 0 then none
  else if l.length - 1 < dgt l 0 then none
  else if 0 < dgt l 0 ∧ dgt l 1 = 0 then none
  else if 1099511627776 < vl ((l.drop 1).take (dgt l 0)) then none
  else some (vl ((l.drop 1).take (dgt l 0)), 1 + dgt l 0)

/-- The text with which bytes begin: where it begins, and how long it is. -/
def takeT (l : List UInt8) : Option (Nat × Nat) :=
  match takeN l with
  | none => none
  | some (v, k) => if 65536 < v ∨ ((l.length - k : Nat) : Int) < v then none else some (k, v.toNat)

theorem takeN_some {l : List UInt8} {v : Int} {k : Nat} (h : takeN l = some (v, k)) : 0 ≤ v ∧ v ≤ 1099511627776 ∧ k ≤ l.length ∧ 1 ≤ k := by
  unfold takeN at h
  by_cases h1 : l.length = 0
  · rw [if_pos h1] at h; cases h
  rw [if_neg h1] at h
  by_cases h2 : 6 < dgt l 0
  · rw [if_pos h2] at h; cases h
  rw [if_neg h2] at h
  by_cases h3 : l.length - 1 < dgt l 0
  · rw [if_pos h3] at h; cases h
  rw [if_neg h3] at h
  by_cases h4 : 0 < dgt l 0 ∧ dgt l 1 = 0
  · rw [if_pos h4] at h; cases h
  rw [if_neg h4] at h
  by_cases h5 : 1099511627776 < vl ((l.drop 1).take (dgt l 0))
  · rw [if_pos h5] at h; cases h
  rw [if_neg h5] at h
  have hp := vl_pos ((l.drop 1).take (dgt l 0))
  simp only [Option.some.injEq, Prod.mk.injEq] at h
  omega
end Go.Proofs.Ytekkgmgdihlefaa
