/-
  The statement ToksNames: what all tokens of a text keep.
-/
import Derived.Test.YtakjlolmmoladaaDoorTTs
namespace Go.Proofs.YtakjlolmmoladaaDoor
open Go.RowKit
set_option linter.unusedVariables false

def LowS (n : ByteArray) : Prop := bs (lowL n.data.toList) = n
theorem lowS_bs (l : List UInt8) : LowS (bs (lowL l)) := by unfold LowS; rw [bs_toList, lowL_low]
theorem lowS_nil : LowS ⟨#[]⟩ := rfl
/-- Names are small, none is empty, none stands twice. -/
def AtsFine (Z : Nat) (ats : List (ByteArray × ByteArray)) : Prop := (∀ i, i < ats.length → LowS (an ats i) ∧ 0 < (an ats i).size ∧ (an ats i).size ≤ Z) ∧ ∀ i j, j < i → i < ats.length → ¬ an ats i = an ats j
theorem atsFine_nil (Z : Nat) : AtsFine Z [] := ⟨fun i h => by simp at h, fun i j _ h => by simp at h⟩
theorem hasN_no {ats : List (ByteArray × ByteArray)} {n : ByteArray} (h : hasN ats n = false) (j : Nat) (hj : j < ats.length) : ¬ an ats j = n := by
  intro e
  unfold hasN at h
  rw [List.any_eq_false] at h
  have hm : ats[j] ∈ ats := List.getElem_mem hj
  have := h _ hm
  unfold an at e
  rw [List.getD, List.getElem?_eq_getElem hj] at e
  simp at this
  exact this e
theorem an_left {ats : List (ByteArray × ByteArray)} {a : ByteArray × ByteArray} {i : Nat} (h : i < ats.length) : an (ats ++ [a]) i = an ats i := by
  unfold an; rw [List.getD, List.getD, List.getElem?_append_left h]
theorem an_last {ats : List (ByteArray × ByteArray)} {a : ByteArray × ByteArray} : an (ats ++ [a]) ats.length = a.1 := by
  unfold an; rw [List.getD, List.getElem?_append_right (Nat.le_refl _)]; simp
theorem atsFine_snoc {Z : Nat} {ats : List (ByteArray × ByteArray)} {n v : ByteArray} (h : AtsFine Z ats) (h1 : LowS n) (h2 : 0 < n.size) (h4 : n.size ≤ Z) (h3 : hasN ats n = false) : AtsFine Z (ats ++ [(n, v)]) := by
  constructor
  · intro i hi
    by_cases hl : i < ats.length
    · rw [an_left hl]; exact h.1 i hl
    · have : i = ats.length := by simp at hi; omega
      subst this
      rw [an_last]; exact ⟨h1, h2, h4⟩
  · intro i j hj hi
    by_cases hl : i < ats.length
    · rw [an_left hl, an_left (by omega)]; exact h.2 i j hj hl
    · have : i = ats.length := by simp at hi; omega
      subst this
      rw [an_last, an_left hj]
      exact fun e => hasN_no h3 j hj e.symm
theorem naN_pos (s : ByteArray) (i : Nat) (hi : i < s.size) : 0 < (naN s i).size := by
  have h := seekN_le (eaP s) (n := s.size) (k := i + 1) (by omega)
  unfold naN naE
  rw [bs_size, lowL_len, List.length_take, List.length_drop, data_len]
  omega
theorem partsF_fine (s : ByteArray) : ∀ (k i : Nat) (ats : List (ByteArray × ByteArray)) (f : Bool), AtsFine s.size ats → AtsFine s.size (partsF s k i ats f).2.1
  | 0, i, ats, f, h => h
  | k + 1, i, ats, f, h => by
    rw [partsF]
    split
    · rename_i hi
      split
      · exact partsF_fine s k _ _ _ h
      split
      · exact partsF_fine s k _ _ _ h
      split
      · exact h
      split
      · exact partsF_fine s k _ _ _ h
      · rename_i hh
        exact partsF_fine s k _ _ _ (atsFine_snoc h (lowS_bs _) (naN_pos s i hi) (naN_size s i hi) (Bool.eq_false_iff.2 hh))
    · exact h

theorem partsF_len (s : ByteArray) : ∀ (k i : Nat) (ats : List (ByteArray × ByteArray)) (f : Bool), i ≤ s.size → ats.length ≤ i → (partsF s k i ats f).2.1.length ≤ s.size
  | 0, i, ats, f, hi, h => by show ats.length ≤ s.size; omega
  | k + 1, i, ats, f, hi, h => by
    rw [partsF]
    split
    · rename_i hl
      have hq := aqB_le s i hl
      split
      · exact partsF_len s k _ _ _ (by omega) (by omega)
      split
      · exact partsF_len s k _ _ _ (by omega) (by omega)
      split
      · show ats.length ≤ s.size; omega
      split
      · exact partsF_len s k _ _ _ hq.1 (by omega)
      · exact partsF_len s k _ _ _ hq.1 (by rw [List.length_append, List.length_singleton]; omega)
    · show ats.length ≤ s.size; omega
def Fine (Z : Nat) (t : PTok) : Prop := (LowS t.2.1 ∧ t.2.1.size ≤ Z) ∧ (2 ≤ t.1 → t.2.2.1 = []) ∧ (t.1 = 2 → t.2.2.2.1 = false) ∧ (2 < t.1 → t.2.1 = ⟨#[]⟩) ∧ AtsFine Z t.2.2.1 ∧ t.2.2.1.length ≤ Z
theorem fine_bare (Z : Nat) (k : Int) (x : ByteArray) (f : Bool) (hf : k = 2 → f = false) : Fine Z (k, ⟨#[]⟩, [], f, x) := ⟨⟨lowS_nil, Nat.zero_le _⟩, fun _ => rfl, hf, fun _ => rfl, atsFine_nil Z, Nat.zero_le _⟩
theorem tagN_size (s : ByteArray) (i : Nat) : (tagN s i).size ≤ s.size := by
  unfold tagN
  rw [bs_size, lowL_len, List.length_take, List.length_drop, data_len]
  omega
theorem tagZ_le' (s : ByteArray) (i : Nat) (hi : i + 1 < s.size) : tagZ s i ≤ s.size := (tagZ_le s i hi).1
theorem tagT_fine (s : ByteArray) (i : Nat) (hi : i + 1 < s.size) : Fine s.size (tagT s i) := by
  unfold tagT
  split
  · split
    · exact ⟨⟨lowS_bs _, tagN_size s i⟩, fun _ => rfl, fun _ => rfl, fun h => absurd (show (2 : Int) < 2 from h) (by decide), atsFine_nil _, Nat.zero_le _⟩
    · exact ⟨⟨lowS_bs _, tagN_size s i⟩, fun h => absurd (show (2 : Int) ≤ 1 from h) (by decide), fun h => absurd (show (1 : Int) = 2 from h) (by decide), fun h => absurd (show (2 : Int) < 1 from h) (by decide), partsF_fine s _ _ _ _ (atsFine_nil _), partsF_len s _ _ _ _ (tagZ_le' s i hi) (Nat.zero_le _)⟩
  · exact fine_bare _ _ _ _ (fun _ => rfl)
theorem markT_fine (s : ByteArray) (i : Nat) (cd : Bool) (hi : i + 1 < s.size) : Fine s.size (markT s i cd) := by
  unfold markT
  split
  · exact fine_bare _ _ _ _ (fun _ => rfl)
  split
  · exact fine_bare _ _ _ _ (fun _ => rfl)
  split
  · exact fine_bare _ _ _ _ (fun _ => rfl)
  split
  · exact fine_bare _ _ _ _ (fun _ => rfl)
  · exact tagT_fine s i hi
theorem dataF_fine (s : ByteArray) (cd : Bool) : ∀ (k i : Nat), Fine s.size (dataF s cd k i).1
  | 0, i => fine_bare _ _ _ _ (fun _ => rfl)
  | k + 1, i => by
    rw [dataF]
    split
    · split
      · exact fine_bare _ _ _ _ (fun _ => rfl)
      rename_i hb
      split
      · exact dataF_fine s cd k _
      · exact markT_fine s i cd (beg_bounds (by simpa using hb)).1
    · exact fine_bare _ _ _ _ (fun _ => rfl)
theorem allTF_fine (s : ByteArray) : ∀ (k i : Nat) (acc : List PTok), (∀ t ∈ acc, Fine s.size t) → ∀ t ∈ allTF s k i acc, Fine s.size t
  | 0, i, acc, h => h
  | k + 1, i, acc, h => by
    rw [allTF]
    split
    · refine allTF_fine s k _ _ ?_
      split
      · exact h
      · intro t ht
        rcases List.mem_append.1 ht with h1 | h1
        · exact h t h1
        · rw [List.mem_singleton.1 h1]; exact dataF_fine s false _ _
    · exact h
theorem allTF_len (s : ByteArray) : ∀ (k i : Nat) (acc : List PTok), i ≤ s.size → acc.length ≤ i → (allTF s k i acc).length ≤ s.size
  | 0, i, acc, hi, h => by show acc.length ≤ s.size; omega
  | k + 1, i, acc, hi, h => by
    rw [allTF]
    split
    · rename_i hl
      have ho := oneT_le s i hl
      refine allTF_len s k _ _ ho.1 ?_
      split
      · omega
      · rw [List.length_append, List.length_singleton]; omega
    · show acc.length ≤ s.size; omega
theorem allT_len (s : ByteArray) : (allT s).length ≤ s.size := allTF_len s _ _ _ (Nat.zero_le _) (Nat.zero_le _)
theorem allT_fine (s : ByteArray) : ∀ t ∈ allT s, Fine s.size t := allTF_fine s _ _ _ (fun t h => by cases h)
end Go.Proofs.YtakjlolmmoladaaDoor
