/-
  Several texts in one: what the functions of the program and of the document's answer do.
-/
import Derived.Test.YtbabmkilbbbmoaaDoorMgAS
import Derived.Laws.IdiomStrings
import Derived.Test.YtbabmkilbbbmoaaDoorUPl
import Derived.Lib.DecodeN
import Derived.Test.YtbabmkilbbbmoaaDoorMgAP
import Derived.Test.YtbabmkilbbbmoaaDoorMgAM
import Derived.Maps.OwnSet
import Derived.Maps.Views

/-
  What the reference's Escape does: any text with references.
-/
namespace Go.Proofs.YtbabmkilbbbmoaaDoor
open Go.RowKit
set_option linter.unusedVariables false

def ampL : List UInt8 := [38, 97, 109, 112, 59]
def ltL : List UInt8 := [38, 108, 116, 59]
def gtL : List UInt8 := [38, 103, 116, 59]
def quotL : List UInt8 := [38, 113, 117, 111, 116, 59]
def nbspL : List UInt8 := [38, 110, 98, 115, 112, 59]
def hd160 : List UInt8 → Bool
  | [] => false
  | c :: _ => decide (c.toNat = 160)
/-- The text with references; the flag: the first byte is passed over. -/
def escS (v : Bool) : Bool → List UInt8 → List UInt8
  | _, [] => []
  | true, _ :: l => escS v false l
  | false, c :: l =>
    if c.toNat = 38 then ampL ++ escS v false l else if c.toNat = 60 then ltL ++ escS v false l else if c.toNat = 62 then gtL ++ escS v false l
    else if c.toNat = 34 then (if v = true then quotL else [34]) ++ escS v false l
    else if c.toNat = 194 ∧ hd160 l = true then nbspL ++ escS v true l else c :: escS v false l
def escL (v : Bool) (l : List UInt8) : List UInt8 := escS v false l
theorem hd160_at (l : List UInt8) (k : Nat) : hd160 (l.drop k) = decide (atB l k = 160) := by
  unfold atB
  by_cases h : k < l.length
  · obtain ⟨c, hc, hn⟩ := drop_at l k h
    rw [if_pos h, hc, hd160, hn]
  · rw [if_neg h, List.drop_eq_nil_of_le (by omega)]; rfl
theorem esc_38 {v : Bool} {l : List UInt8} {k : Nat} (hk : k < l.length) (h : dgt l k = 38) : escL v (l.drop k) = ampL ++ escL v (l.drop (k + 1)) := by
  obtain ⟨c, hc, hn⟩ := drop_at l k hk
  rw [escL, hc, escS, if_pos (by omega)]; rfl
theorem esc_60 {v : Bool} {l : List UInt8} {k : Nat} (hk : k < l.length) (h : dgt l k = 60) : escL v (l.drop k) = ltL ++ escL v (l.drop (k + 1)) := by
  obtain ⟨c, hc, hn⟩ := drop_at l k hk
  rw [escL, hc, escS, if_neg (by omega), if_pos (by omega)]; rfl
theorem esc_62 {v : Bool} {l : List UInt8} {k : Nat} (hk : k < l.length) (h : dgt l k = 62) : escL v (l.drop k) = gtL ++ escL v (l.drop (k + 1)) := by
  obtain ⟨c, hc, hn⟩ := drop_at l k hk
  rw [escL, hc, escS, if_neg (by omega), if_neg (by omega), if_pos (by omega)]; rfl
theorem esc_34 {v : Bool} {l : List UInt8} {k : Nat} (hk : k < l.length) (h : dgt l k = 34) : escL v (l.drop k) = (if v = true then quotL else [34]) ++ escL v (l.drop (k + 1)) := by
  obtain ⟨c, hc, hn⟩ := drop_at l k hk
  rw [escL, hc, escS, if_neg (by omega), if_neg (by omega), if_neg (by omega), if_pos (by omega)]; rfl
theorem esc_160 {v : Bool} {l : List UInt8} {k : Nat} (hk : k + 1 < l.length) (h : dgt l k = 194) (h2 : atB l (k + 1) = 160) : escL v (l.drop k) = nbspL ++ escL v (l.drop (k + 2)) := by
  obtain ⟨c, hc, hn⟩ := drop_at l k (by omega)
  obtain ⟨c2, hc2, _⟩ := drop_at l (k + 1) hk
  have h3 : hd160 (l.drop (k + 1)) = true := by rw [hd160_at, h2]; rfl
  rw [escL, hc, escS, if_neg (by omega), if_neg (by omega), if_neg (by omega), if_neg (by omega), if_pos ⟨by omega, h3⟩, hc2, escS]; rfl
theorem esc_other {v : Bool} {l : List UInt8} {k : Nat} (hk : k < l.length) (h0 : ¬ dgt l k = 38) (h1 : ¬ dgt l k = 60) (h2 : ¬ dgt l k = 62) (h3 : ¬ dgt l k = 34) (h4 : ¬ (dgt l k = 194 ∧ atB l (k + 1) = 160)) :
    escL v (l.drop k) = byt (dgt l k : Int) :: escL v (l.drop (k + 1)) := by
  obtain ⟨c, hc, hn⟩ := drop_at l k hk
  have h5 : ¬ (c.toNat = 194 ∧ hd160 (l.drop (k + 1)) = true) := by rw [hd160_at]; simp; omega
  rw [escL, hc, escS, if_neg (by omega), if_neg (by omega), if_neg (by omega), if_neg (by omega), if_neg h5, ← hn, byt_self]; rfl
theorem at_lt {l : List UInt8} {k : Nat} (h : atB l k = 160) : k < l.length := by
  unfold atB at h; split at h
  · assumption
  · omega
theorem one_atE (s : ByteArray) (k : Nat) (h : k < s.size) : s.extract k (k + 1) = bs [byt (dgt s.data.toList k)] := by
  obtain ⟨c, hc, hn⟩ := drop_at s.data.toList k (by rw [data_len]; exact h)
  rw [extract_take, hc, ← hn, byt_self]; rfl
theorem bsArr (l : List UInt8) : (⟨l.toArray⟩ : ByteArray) = bs l := rfl

end Go.Proofs.YtbabmkilbbbmoaaDoor

/-
  A text with references: how its bytes and the characters that a range over it meets hang together.
-/
namespace Go.Proofs.YtbabmkilbbbmoaaDoor
open Go.RowKit
set_option linter.unusedVariables false

theorem cut_ex (s : ByteArray) (a b : Nat) : s.extract a b = bs ((s.data.toList.drop a).take (b - a)) := by
  rw [Lib.extract_eq]; rfl
theorem get_dgt (s : ByteArray) (k : Nat) : (s.get! k).toNat = dgt s.data.toList k := by
  unfold dgt
  by_cases h : k < s.size
  · have h' : k < s.data.toList.length := by simpa using h
    rw [List.getD, List.getElem?_eq_getElem h']
    simp [ByteArray.get!, getElem!_pos, h]
  · have h' : ¬ k < s.data.toList.length := by simpa using h
    rw [List.getD, List.getElem?_eq_none (by omega)]
    simp only [ByteArray.get!]
    rw [getElem!_neg _ _ (by simpa using h)]
    rfl
theorem atB_dgt (l : List UInt8) (k : Nat) : atB l k = dgt l k := by
  unfold atB
  split
  · rfl
  · rename_i h
    unfold dgt
    rw [List.getD, List.getElem?_eq_none (by omega)]; rfl

theorem decN_low {n b0 b1 b2 b3 : Nat} (h : b0 < 128) : Lib.decodeN n b0 b1 b2 b3 = (b0, 1) := by
  unfold Lib.decodeN; rw [if_pos h]
theorem decN_nb {n b0 b1 b2 b3 : Nat} (h0 : b0 = 194) (h1 : b1 = 160) (hn : 1 < n) : Lib.decodeN n b0 b1 b2 b3 = (160, 2) := by
  subst h0; subst h1
  unfold Lib.decodeN
  rw [if_neg (by omega), if_pos (by omega), if_pos (by omega)]
theorem decN_high {n b0 b1 b2 b3 : Nat} (h : 128 ≤ b0) (h' : b0 < 256) (hn : 1 ≤ n) :
    128 ≤ (Lib.decodeN n b0 b1 b2 b3).1 ∧ 1 ≤ (Lib.decodeN n b0 b1 b2 b3).2 ∧ (Lib.decodeN n b0 b1 b2 b3).2 ≤ n ∧ (Lib.decodeN n b0 b1 b2 b3).2 ≤ 4
    ∧ ((Lib.decodeN n b0 b1 b2 b3).1 = 160 → b0 = 194 ∧ b1 = 160 ∧ 1 < n ∧ (Lib.decodeN n b0 b1 b2 b3).2 = 2)
    ∧ (1 < (Lib.decodeN n b0 b1 b2 b3).2 → 128 ≤ b1 ∧ b1 < 192) ∧ (2 < (Lib.decodeN n b0 b1 b2 b3).2 → 128 ≤ b2 ∧ b2 < 192) ∧ (3 < (Lib.decodeN n b0 b1 b2 b3).2 → 128 ≤ b3 ∧ b3 < 192) := by
  unfold Lib.decodeN
  repeat' split
  all_goals simp only []
  all_goals first | omega | (simp only [and_true]; omega)

theorem esc_run (v : Bool) (l : List UInt8) : ∀ (n k : Nat), k + n ≤ l.length → (∀ j, j < n → 128 ≤ dgt l (k + j) ∧ ¬ (dgt l (k + j) = 194 ∧ atB l (k + j + 1) = 160)) →
    escL v (l.drop k) = (l.drop k).take n ++ escL v (l.drop (k + n))
  | 0, k, _, _ => by simp
  | n + 1, k, hl, h => by
    have h0 := h 0 (by omega)
    rw [Nat.add_zero] at h0
    have hk : k < l.length := by omega
    obtain ⟨c, hc, hn⟩ := drop_at l k hk
    rw [esc_other hk (by omega) (by omega) (by omega) (by omega) h0.2, ← hn, byt_self, hc, List.take_succ_cons, List.cons_append]
    have := esc_run v l n (k + 1) (by omega) (fun j hj => by have := h (j + 1) (by omega); rw [show k + (j + 1) = k + 1 + j by omega] at this; exact this)
    rw [this, show k + 1 + n = k + (n + 1) by omega]

/-- What the range meets at a place, and what is made of it. -/
theorem esc_at (v : Bool) (s : ByteArray) (k : Nat) (hk : k < s.size) :
    (forN ((Utf8.decode s k).1 : Int) v = [] ∧ 1 ≤ (Utf8.decode s k).2 ∧ k + (Utf8.decode s k).2 ≤ s.size ∧ escL v (s.data.toList.drop k) = (s.data.toList.drop k).take (Utf8.decode s k).2 ++ escL v (s.data.toList.drop (k + (Utf8.decode s k).2)))
    ∨ (forN ((Utf8.decode s k).1 : Int) v ≠ [] ∧ (forN ((Utf8.decode s k).1 : Int) v).length ≤ 4 ∧ isC ((Utf8.decode s k).1 : Int) = true ∧ (ub ((Utf8.decode s k).1 : Int)).length = (Utf8.decode s k).2 ∧ 1 ≤ (Utf8.decode s k).2 ∧ k + (Utf8.decode s k).2 ≤ s.size
      ∧ escL v (s.data.toList.drop k) = ([38] ++ forN ((Utf8.decode s k).1 : Int) v ++ [59]) ++ escL v (s.data.toList.drop (k + (Utf8.decode s k).2))) := by
  have hkl : k < s.data.toList.length := by rw [data_len]; exact hk
  have e := Lib.decode_at s k
  rw [get_dgt, get_dgt, get_dgt, get_dgt] at e
  by_cases hlow : dgt s.data.toList k < 128
  · rw [decN_low hlow] at e
    rw [e]
    have hkl2 : k + 1 ≤ s.size := by omega
    simp only
    by_cases h38 : dgt s.data.toList k = 38
    · rw [h38, esc_38 hkl h38]
      exact .inr ⟨by decide +revert, by decide +revert, by decide, by decide, by omega, by omega, by cases v <;> rfl⟩
    by_cases h60 : dgt s.data.toList k = 60
    · rw [h60, esc_60 hkl h60]
      exact .inr ⟨by decide +revert, by decide +revert, by decide, by decide, by omega, by omega, by cases v <;> rfl⟩
    by_cases h62 : dgt s.data.toList k = 62
    · rw [h62, esc_62 hkl h62]
      exact .inr ⟨by decide +revert, by decide +revert, by decide, by decide, by omega, by omega, by cases v <;> rfl⟩
    have hone : (s.data.toList.drop k).take 1 = [byt (dgt s.data.toList k : Int)] := by
      obtain ⟨c, hc, hn⟩ := drop_at s.data.toList k hkl
      rw [hc, ← hn, byt_self]; rfl
    by_cases h34 : dgt s.data.toList k = 34
    · cases v with
      | true =>
        rw [h34, esc_34 hkl h34]
        exact .inr ⟨by decide, by decide, by decide, by decide, by omega, by omega, rfl⟩
      | false =>
        rw [hone, h34, esc_34 hkl h34]
        exact .inl ⟨by decide, by omega, by omega, rfl⟩
    · rw [hone, esc_other hkl h38 h60 h62 h34 (by omega)]
      refine .inl ⟨?_, by omega, by omega, rfl⟩
      unfold forN
      rw [if_neg (by omega), if_neg (by omega), if_neg (by omega), if_neg (by omega), if_neg (by omega)]
  · have hd := decN_high (n := s.size - k) (b0 := dgt s.data.toList k) (b1 := dgt s.data.toList (k + 1)) (b2 := dgt s.data.toList (k + 2)) (b3 := dgt s.data.toList (k + 3)) (by omega) (dgt_lt _ _) (by omega)
    have hnb := decN_nb (n := s.size - k) (b0 := dgt s.data.toList k) (b1 := dgt s.data.toList (k + 1)) (b2 := dgt s.data.toList (k + 2)) (b3 := dgt s.data.toList (k + 3))
    rw [← e] at hd hnb
    obtain ⟨d1, d2, d3, d4, d5, d6, d7, d8⟩ := hd
    by_cases h160 : (Utf8.decode s k).1 = 160
    · obtain ⟨q1, q2, q3, q4⟩ := d5 h160
      rw [h160, q4, esc_160 (by rw [data_len]; omega) q1 (by rw [atB_dgt]; exact q2)]
      exact .inr ⟨by decide +revert, by decide +revert, by decide, by decide, by omega, by omega, by cases v <;> rfl⟩
    · have hf : forN ((Utf8.decode s k).1 : Int) v = [] := by
        unfold forN
        rw [if_neg (by omega), if_neg (by omega), if_neg (by omega), if_neg (by omega), if_neg (by omega)]
      refine .inl ⟨hf, d2, by omega, esc_run v s.data.toList _ k (by rw [data_len]; omega) (fun j hj => ?_)⟩
      rw [atB_dgt]
      have hj4 : j = 0 ∨ j = 1 ∨ j = 2 ∨ j = 3 := by omega
      rcases hj4 with rfl | rfl | rfl | rfl
      · refine ⟨by rw [Nat.add_zero]; omega, fun h => ?_⟩
        rw [Nat.add_zero] at h
        by_cases hn : 1 < s.size - k
        · exact h160 (by rw [hnb h.1 h.2 hn])
        · have : dgt s.data.toList (k + 1) = 0 := by
            unfold dgt; rw [List.getD, List.getElem?_eq_none (by rw [data_len]; omega)]; rfl
          omega
      · have := d6 hj; exact ⟨by omega, by omega⟩
      · have := d7 hj; exact ⟨by omega, by omega⟩
      · have := d8 hj; exact ⟨by omega, by omega⟩
end Go.Proofs.YtbabmkilbbbmoaaDoor

/-
  What 'refs.numberAt' does: the number of the reference with which a text begins, and how many bytes that has.
-/
namespace Go.Proofs.YtbabmkilbbbmoaaDoor
open Go.RowKit
set_option linter.unusedVariables false

def digOk (base : Nat) (b : Nat) : Bool := decide (0 ≤ digV b ∧ digV b < (base : Int))
def numG (base : Nat) : Nat → List UInt8 → Nat × Nat
  | n, [] => (n, 0)
  | n, c :: l => if digOk base c.toNat = true then ((numG base (min (n * base + (digV c.toNat).toNat) 1114112) l).1, (numG base (min (n * base + (digV c.toNat).toNat) 1114112) l).2 + 1) else (n, 0)
theorem numG_yes {base n k : Nat} {l : List UInt8} (hk : k < l.length) (h : digOk base (dgt l k) = true) : numG base n (l.drop k) = ((numG base (min (n * base + (digV (dgt l k)).toNat) 1114112) (l.drop (k + 1))).1, (numG base (min (n * base + (digV (dgt l k)).toNat) 1114112) (l.drop (k + 1))).2 + 1) := by
  obtain ⟨c, hc, hn⟩ := drop_at l k hk
  rw [hc, numG, hn, if_pos h]
theorem numG_no {base n k : Nat} {l : List UInt8} (hk : k < l.length) (h : digOk base (dgt l k) = false) : numG base n (l.drop k) = (n, 0) := by
  obtain ⟨c, hc, hn⟩ := drop_at l k hk
  rw [hc, numG, hn, if_neg (by rw [h]; decide)]
theorem numG_end {base n k : Nat} {l : List UInt8} (hk : l.length ≤ k) : numG base n (l.drop k) = (n, 0) := by
  rw [List.drop_eq_nil_of_le hk, numG]

/-- What numberAt answers, of the base and the place of the first digit. -/
def numEnd (l : List UInt8) (fr : Nat) (r : Nat × Nat) : Int × Int := if r.2 = 0 then (0, 0) else ((r.1 : Int), ((fr + r.2 + semiN (l.drop (fr + r.2)) : Nat) : Int))
def isHex (l : List UInt8) : Bool := decide (2 < l.length ∧ (dgt l 2 = 120 ∨ dgt l 2 = 88))
def numAt (l : List UInt8) : Int × Int :=
  if [38, 35].isPrefixOf l = true then (if isHex l = true then numEnd l 3 (numG 16 0 (l.drop 3)) else numEnd l 2 (numG 10 0 (l.drop 2))) else (0, 0)
def numV (l : List UInt8) : Value := .tuple #[.int .i64 (numAt l).1, .int .i64 (numAt l).2]
theorem numEnd_0 (l : List UInt8) (fr n : Nat) : numEnd l fr (n, 0) = (0, 0) := by simp [numEnd]
theorem numEnd_1 (l : List UInt8) (fr n k : Nat) (h : 0 < k) : numEnd l fr (n, k) = ((n : Int), ((fr + k + semiN (l.drop (fr + k)) : Nat) : Int)) := by
  unfold numEnd; rw [if_neg (by simp; omega)]

theorem pre2_len {l : List UInt8} (h : [38, 35].isPrefixOf l = true) : 2 ≤ l.length := by
  have := (List.isPrefixOf_iff_prefix.1 h).length_le
  simpa using this

end Go.Proofs.YtbabmkilbbbmoaaDoor

/-
  What 'refs.numberAt' does: the number of the reference with which a text begins, and how many bytes that has.
-/
namespace Go.Proofs.YtbabmkilbbbmoaaDoor
open Go.RowKit
set_option linter.unusedVariables false

end Go.Proofs.YtbabmkilbbbmoaaDoor

/-
  What 'refs.numberAt' does: the number of the reference with which a text begins, and how many bytes that has.
-/
namespace Go.Proofs.YtbabmkilbbbmoaaDoor
open Go.RowKit
set_option linter.unusedVariables false

end Go.Proofs.YtbabmkilbbbmoaaDoor

/-
  What 'refs.numberAt' does: the number of the reference with which a text begins, and how many bytes that has.
-/
namespace Go.Proofs.YtbabmkilbbbmoaaDoor
open Go.RowKit
set_option linter.unusedVariables false

end Go.Proofs.YtbabmkilbbbmoaaDoor

/-
  What 'refs.numberAt' does: the number of the reference with which a text begins, and how many bytes that has.
-/
namespace Go.Proofs.YtbabmkilbbbmoaaDoor
open Go.RowKit
set_option linter.unusedVariables false

end Go.Proofs.YtbabmkilbbbmoaaDoor

/-
  What 'refs.bytesOf' and 'refs.nameAt' do: the longest reference by a name with which a text begins.
-/
namespace Go.Proofs.YtbabmkilbbbmoaaDoor
open Go.RowKit
set_option linter.unusedVariables false

def entry (k : Nat) : Value := .agg #[.string (bs (nmName k)), .int .i64 (nmChar k), .bool (nmBare k)]
/-- What the first k names give: the character and the bytes of the longest reference so far. -/
def Best (m : List UInt8) (v : Bool) (k : Nat) (c : Int) (n : Nat) : Prop :=
  (n = 0 ∧ c = 0 ∧ ∀ j, j < k → candN j m v = 0) ∨ (0 < n ∧ ∃ i, i < k ∧ candN i m v = n ∧ c = nmChar i ∧ ∀ j, j < k → candN j m v ≤ n)
theorem best_more {m : List UInt8} {v : Bool} {k : Nat} {c : Int} {n : Nat} (h : Best m v k c n) (hn : n < candN k m v) : Best m v (k + 1) (nmChar k) (candN k m v) := by
  refine .inr ⟨by omega, k, by omega, rfl, rfl, fun j hj => ?_⟩
  by_cases e : j = k
  · rw [e]; exact Nat.le_refl _
  · rcases h with ⟨_, _, h⟩ | ⟨_, i, _, _, _, h⟩
    · have := h j (by omega); omega
    · have := h j (by omega); omega
theorem best_same {m : List UInt8} {v : Bool} {k : Nat} {c : Int} {n : Nat} (h : Best m v k c n) (hn : ¬ n < candN k m v) : Best m v (k + 1) c n := by
  rcases h with ⟨h1, h2, h⟩ | ⟨h0, i, h1, h2, h3, h⟩
  · refine .inl ⟨h1, h2, fun j hj => ?_⟩
    by_cases e : j = k
    · rw [e]; omega
    · exact h j (by omega)
  · refine .inr ⟨h0, i, by omega, h2, h3, fun j hj => ?_⟩
    by_cases e : j = k
    · rw [e]; omega
    · exact h j (by omega)
theorem cand_le (k : Nat) (m : List UInt8) (v : Bool) (h : k < 28) : candN k m v ≤ 8 := by
  have := (nm_facts k h).2.1
  unfold candN
  repeat' split
  all_goals omega
theorem best_le {m : List UInt8} {v : Bool} {k : Nat} {c : Int} {n : Nat} (hk : k ≤ 28) (h : Best m v k c n) : n ≤ 8 := by
  rcases h with ⟨h1, _⟩ | ⟨_, i, h1, h2, _⟩
  · omega
  · have := cand_le i m v (by omega); omega

def bestF (m : List UInt8) (v : Bool) : Nat → Int × Nat
  | 0 => (0, 0)
  | k + 1 => if (bestF m v k).2 < candN k m v then (nmChar k, candN k m v) else bestF m v k
/-- The longest reference by the first k names, and that it is the longest. -/
def BF (m : List UInt8) (v : Bool) (k : Nat) (c : Int) (n : Nat) : Prop := Best m v k c n ∧ bestF m v k = (c, n)
theorem bf_more {m : List UInt8} {v : Bool} {k : Nat} {c : Int} {n : Nat} (h : BF m v k c n) (hn : n < candN k m v) : BF m v (k + 1) (nmChar k) (candN k m v) :=
  ⟨best_more h.1 hn, by rw [bestF, h.2, if_pos hn]⟩
theorem bf_same {m : List UInt8} {v : Bool} {k : Nat} {c : Int} {n : Nat} (h : BF m v k c n) (hn : ¬ n < candN k m v) : BF m v (k + 1) c n :=
  ⟨best_same h.1 hn, by rw [bestF, h.2, if_neg hn]⟩

end Go.Proofs.YtbabmkilbbbmoaaDoor

/-
  What 'utf.Bytes' does: of every number its bytes, where the two tables hold what their text says.
-/
namespace Go.Proofs.YtbabmkilbbbmoaaDoor
open Go.RowKit
set_option linter.unusedVariables false

theorem make_1 (w : World) : (Instr.makeSlice 120 (.int .i64 1) (.int .i64 1)).run Tryd.prog w = .ok (.slice (some ⟨w.heap.size, 0, none⟩) 1 1) (w.alloc (.cells #[.int .u8 0] 5)) := by kernel_rfl

theorem make_2 (w : World) : (Instr.makeSlice 120 (.int .i64 2) (.int .i64 2)).run Tryd.prog w = .ok (.slice (some ⟨w.heap.size, 0, none⟩) 2 2) (w.alloc (.cells #[.int .u8 0, .int .u8 0] 5)) := by kernel_rfl

theorem make_3 (w : World) : (Instr.makeSlice 120 (.int .i64 3) (.int .i64 3)).run Tryd.prog w = .ok (.slice (some ⟨w.heap.size, 0, none⟩) 3 3) (w.alloc (.cells #[.int .u8 0, .int .u8 0, .int .u8 0] 5)) := by kernel_rfl

theorem make_4 (w : World) : (Instr.makeSlice 120 (.int .i64 4) (.int .i64 4)).run Tryd.prog w = .ok (.slice (some ⟨w.heap.size, 0, none⟩) 4 4) (w.alloc (.cells #[.int .u8 0, .int .u8 0, .int .u8 0, .int .u8 0] 5)) := by kernel_rfl

theorem ubx_1 {c : Int} (hp : 0 ≤ c) (h1 : c < 128) : [c] = ubI c := by rw [ubI_1 h1]

theorem ubx_2 {c : Int} (hp : 0 ≤ c) (h0 : 128 ≤ c) (h1 : c < 2048) : [192 + c / 64, 128 + c % 64] = ubI c := by
  rw [ubI_2 h0 h1]

theorem ubx_3 {c : Int} (hp : 0 ≤ c) (h0 : 2048 ≤ c) (h1 : c < 65536) : [224 + c / 64 / 64, 128 + c / 64 % 64, 128 + c % 64] = ubI c := by
  rw [ubI_3 h0 h1]
  simp only [List.cons.injEq, and_true]
  omega

theorem ubx_4 {c : Int} (hp : 0 ≤ c) (h0 : 65536 ≤ c) : [240 + c / 64 / 64 / 64, 128 + c / 64 / 64 % 64, 128 + c / 64 % 64, 128 + c % 64] = ubI c := by
  rw [ubI_4 h0]
  simp only [List.cons.injEq, and_true]
  omega

end Go.Proofs.YtbabmkilbbbmoaaDoor

/-
  What 'refs.At' does: what stands at a place of a text, and the place behind it.
-/
namespace Go.Proofs.YtbabmkilbbbmoaaDoor
open Go.RowKit
set_option linter.unusedVariables false

/-- What stands at the beginning of a text that isn't empty, and how many bytes it has; the longest name's character and bytes are handed in. -/
def atWith (l : List UInt8) (c : Int) (n : Nat) : List UInt8 × Int :=
  if ¬ dgt l 0 = 38 then (ub (step l).1, ((step l).2.1 : Int))
  else if 0 < (numAt l).2 then (ub (numC (numAt l).1), (numAt l).2)
  else if 0 < n then (ub c, (n : Int)) else ([38], 1)
/-- Some character and some number of bytes are the longest name's, and the answer is of these. -/
def AtIs (l : List UInt8) (v : Bool) (x : List UInt8) (m : Int) : Prop := ∃ c n, BF (l.drop 1) v 28 c n ∧ atWith l c n = (x, m)

theorem best_ex (m : List UInt8) (v : Bool) : ∀ k, ∃ c n, BF m v k c n
  | 0 => ⟨0, 0, .inl ⟨rfl, rfl, fun j hj => by omega⟩, rfl⟩
  | k + 1 => by
    obtain ⟨c, n, h⟩ := best_ex m v k
    by_cases hn : n < candN k m v
    · exact ⟨_, _, bf_more h hn⟩
    · exact ⟨_, _, bf_same h hn⟩
theorem numG_len (base : Nat) : ∀ (l : List UInt8) (n : Nat), (numG base n l).2 ≤ l.length
  | [], n => by simp [numG]
  | c :: l, n => by
    rw [numG]
    split
    · have := numG_len base l (min (n * base + (digV c.toNat).toNat) 1114112); simp; omega
    · simp
theorem numAt_le (l : List UInt8) : (numAt l).2 ≤ l.length + 4 := by
  unfold numAt
  split
  · split
    · have h1 := numG_len 16 (l.drop 3) 0
      have h2 := semi_le (l.drop (3 + (numG 16 0 (l.drop 3)).2))
      rw [List.length_drop] at h1
      unfold numEnd; split
      · simp; omega
      · simp only []; omega
    · have h1 := numG_len 10 (l.drop 2) 0
      have h2 := semi_le (l.drop (2 + (numG 10 0 (l.drop 2)).2))
      rw [List.length_drop] at h1
      unfold numEnd; split
      · simp; omega
      · simp only []; omega
  · simp; omega
theorem best_isC {m : List UInt8} {v : Bool} {c : Int} {n : Nat} (h : BF m v 28 c n) (hn : 0 < n) : isC c = true := by
  rcases h.1 with ⟨h1, _⟩ | ⟨_, i, hi, _, hc, _⟩
  · omega
  · rw [hc]; exact (nm_facts i hi).2.2.2.2
def atL (l : List UInt8) (v : Bool) : List UInt8 × Int := atWith l (bestF (l.drop 1) v 28).1 (bestF (l.drop 1) v 28).2
theorem atIs_eq {l : List UInt8} {v : Bool} {x : List UInt8} {m : Int} (h : AtIs l v x m) : atL l v = (x, m) := by
  obtain ⟨c, n, hb, h⟩ := h
  rw [atL, hb.2]; exact h
/-! ### how far it goes -/
theorem pre_len {a b : List UInt8} (h : a.isPrefixOf b = true) : a.length ≤ b.length := (List.isPrefixOf_iff_prefix.1 h).length_le
theorem semi_len (l : List UInt8) : semiN l ≤ l.length := by
  unfold semiN
  split
  · rename_i h; have := pre_len h; simpa using this
  · omega
theorem cand_len (k : Nat) (m : List UInt8) (v : Bool) : candN k m v ≤ m.length + 1 := by
  unfold candN
  split
  · rename_i h
    have h1 := pre_len h
    split
    · rename_i h2
      have h3 := semi_len (m.drop (nmName k).length)
      rw [List.length_drop] at h3; omega
    · split <;> omega
  · omega
theorem numAt_len (l : List UInt8) : (numAt l).2 ≤ l.length := by
  unfold numAt
  split
  · rename_i hp
    have hl := pre_len hp
    simp at hl
    split
    · rename_i hx
      have hx' : 2 < l.length ∧ (dgt l 2 = 120 ∨ dgt l 2 = 88) := by simpa [isHex] using hx
      have h1 := numG_len 16 (l.drop 3) 0
      have h2 := semi_len (l.drop (3 + (numG 16 0 (l.drop 3)).2))
      rw [List.length_drop] at h1 h2
      unfold numEnd; split
      · simp
      · simp only []; omega
    · have h1 := numG_len 10 (l.drop 2) 0
      have h2 := semi_len (l.drop (2 + (numG 10 0 (l.drop 2)).2))
      rw [List.length_drop] at h1 h2
      unfold numEnd; split
      · simp
      · simp only []; omega
  · simp
theorem at_bd {l : List UInt8} (v : Bool) (h : l ≠ []) : 1 ≤ (atL l v).2 ∧ (atL l v).2 ≤ l.length ∧ (atL l v).1.length ≤ 4 := by
  have hok := step_ok h
  have hl : 0 < l.length := List.length_pos_iff.2 h
  obtain ⟨c, n, hb⟩ := best_ex (l.drop 1) v 28
  rw [atL, hb.2]
  have hn : n ≤ l.length := by
    rcases hb.1 with ⟨h1, _⟩ | ⟨_, i, hi, hc, _⟩
    · omega
    · have := cand_len i (l.drop 1) v; rw [List.length_drop] at this; omega
  unfold atWith
  split
  · have := sz_le (step l).1
    simp only []; rw [ub_len]; omega
  · split
    · have := numAt_len l
      have := sz_le (numC (numAt l).1)
      simp only []; rw [ub_len]; omega
    · split
      · have := sz_le c
        simp only []; rw [ub_len]; omega
      · simp; omega
theorem at_ne {l : List UInt8} (v : Bool) (h : l ≠ []) : (atL l v).1 ≠ [] := by
  rw [atL]; unfold atWith
  have hu : ∀ c, ub c ≠ [] := fun c => by have := ub_ne c []; simpa using this
  split
  · exact hu _
  · split
    · exact hu _
    · split
      · exact hu _
      · simp

def allF (v : Bool) : Nat → List UInt8 → List UInt8
  | 0, _ => []
  | f + 1, l => if l = [] then [] else (atL l v).1 ++ allF v f (l.drop (atL l v).2.toNat)
def allL (v : Bool) (l : List UInt8) : List UInt8 := allF v l.length l
theorem allF_fuel (v : Bool) : ∀ (f g : Nat) (l : List UInt8), l.length ≤ f → l.length ≤ g → allF v f l = allF v g l
  | 0, 0, l, _, _ => rfl
  | 0, g + 1, l, h, _ => by
    have : l = [] := List.eq_nil_of_length_eq_zero (by omega)
    subst this; simp [allF]
  | f + 1, 0, l, _, h => by
    have : l = [] := List.eq_nil_of_length_eq_zero (by omega)
    subst this; simp [allF]
  | f + 1, g + 1, l, h1, h2 => by
    rw [allF, allF]
    by_cases e : l = []
    · rw [if_pos e, if_pos e]
    · have hb := at_bd v e
      rw [if_neg e, if_neg e, allF_fuel v f g _ (by rw [List.length_drop]; omega) (by rw [List.length_drop]; omega)]
theorem allL_nil (v : Bool) : allL v [] = [] := rfl
theorem allL_cons (v : Bool) {l : List UInt8} (h : l ≠ []) : allL v l = (atL l v).1 ++ allL v (l.drop (atL l v).2.toNat) := by
  have hb := at_bd v h
  have hl : 0 < l.length := List.length_pos_iff.2 h
  rw [allL, show l.length = (l.length - 1) + 1 from by omega, allF, if_neg h, allL]
  congr 1
  exact allF_fuel v _ _ _ (by rw [List.length_drop]; omega) (Nat.le_refl _)
end Go.Proofs.YtbabmkilbbbmoaaDoor

/-
  What 'refs.Escape' does: any text with references.
-/
namespace Go.Proofs.YtbabmkilbbbmoaaDoor
open Go.RowKit
set_option linter.unusedVariables false

theorem cut_cut (l : List UInt8) (a b n : Nat) (h : a ≤ b) : (l.drop a).take (b - a) ++ (l.drop b).take n = (l.drop a).take (b + n - a) := by
  have e : l.drop b = (l.drop a).drop (b - a) := by rw [List.drop_drop]; congr 1; omega
  rw [e, show b + n - a = (b - a) + n by omega, List.take_add]
theorem bs_ne {l : List UInt8} (h : l ≠ []) : ¬ bs l = ByteArray.empty := by
  intro e; apply h; have := congrArg (fun x : ByteArray => x.data.toList) e; simpa [bs_toList] using this
theorem amp_bs : (⟨#[38]⟩ : ByteArray) = bs [38] := rfl
theorem semi_bs : (⟨#[59]⟩ : ByteArray) = bs [59] := rfl

end Go.Proofs.YtbabmkilbbbmoaaDoor

/-
  What 'pen.Close' and 'pen.Chars' do, and the reference's.
-/
namespace Go.Proofs.YtbabmkilbbbmoaaDoor
open Go.RowKit
set_option linter.unusedVariables false

/-- What is told: a text, or that its form is wrong. -/
def toldV (b : Bool) (x : ByteArray) : Value := .tuple #[.string (if b = true then x else ⟨#[]⟩), .int .i64 (if b = true then 0 else 4)]
def closeL (l : List UInt8) : List UInt8 := [60, 47] ++ (l ++ [62])
theorem close_bs (s : ByteArray) : (⟨#[60, 47]⟩ : ByteArray) ++ s ++ ⟨#[62]⟩ = bs (closeL s.data.toList) := by
  have h1 : (⟨#[60, 47]⟩ : ByteArray) = bs [60, 47] := rfl
  have h2 : (⟨#[62]⟩ : ByteArray) = bs [62] := rfl
  rw [h1, h2, bs_add, bs_bs]; unfold closeL; simp

def charsB (l : List UInt8) : Bool := decide (l ≠ []) && goodB l
theorem charsB_no {l : List UInt8} (h : l = []) : charsB l = false := by subst h; rfl
theorem charsB_ok {l : List UInt8} (h : l ≠ []) : charsB l = goodB l := by unfold charsB; rw [decide_eq_true h]; rfl
theorem ne_size {s : ByteArray} (h : 0 < s.size) : s.data.toList ≠ [] := by
  intro e; have := congrArg List.length e; rw [data_len] at this; simp only [List.length_nil] at this; omega
theorem nil_size {s : ByteArray} (h : s.size = 0) : s.data.toList = [] := List.eq_nil_of_length_eq_zero (by rw [data_len]; exact h)

end Go.Proofs.YtbabmkilbbbmoaaDoor

/-
  What 'pen.allRight' and 'pen.hasTwice' do.
-/
namespace Go.Proofs.YtbabmkilbbbmoaaDoor
open Go.RowKit Go.Maps Go.WideMaps
set_option linter.unusedVariables false

/-- How long they may be. -/
def Fits (ats : List (ByteArray × ByteArray)) : Prop := ats.length ≤ 1000 ∧ ∀ k, k < ats.length → (an ats k).size ≤ 10000 ∧ (av ats k).size ≤ 10000
def rightAt (ats : List (ByteArray × ByteArray)) (k : Nat) : Bool := nameB (an ats k).data.toList && goodB (av ats k).data.toList
def rightF (ats : List (ByteArray × ByteArray)) : Nat → Bool
  | 0 => true
  | k + 1 => rightF ats k && rightAt ats k
def rightAs (ats : List (ByteArray × ByteArray)) : Bool := rightF ats ats.length
theorem rightF_no (ats : List (ByteArray × ByteArray)) {k : Nat} (h : rightAt ats k = false) : ∀ n, k < n → rightF ats n = false
  | 0, hn => by omega
  | n + 1, hn => by
    rw [rightF]
    by_cases e : k = n
    · subst e; rw [h]; simp
    · rw [rightF_no ats h n (by omega)]; rfl

/-! ### whether two have one name -/
def keyA (ats : List (ByteArray × ByteArray)) (k : Nat) : Lit := .string (an ats k).data.toList
def putA {H : Type} (ats : List (ByteArray × ByteArray)) : Nat → DataW H
  | 0 => .map []
  | k + 1 => (putA ats k).put (keyA ats k) (.lit (.int .i64 k))
def diffN (ats : List (ByteArray × ByteArray)) : Nat := Maps.size (putA (H := Unit) ats ats.length)
theorem keyA_ok {ats : List (ByteArray × ByteArray)} (hf : Fits ats) {k : Nat} (hk : k < ats.length) : keyOf Tryd.prog 9 (.string (an ats k)) = some (keyA ats k) := by
  refine keyOf_string_mk Tryd.underlying9 ?_
  have := (hf.2 k hk).1
  unfold maxLen; omega

end Go.Proofs.YtbabmkilbbbmoaaDoor
