/-
  The last part of a list; never more than three that are alike.
-/
import Derived.Test.YtabajhbghjfhoaaBCo
namespace Go.Proofs.Ytabajhbghjfhoaa
open Go.RowKit
set_option linter.unusedVariables false
set_option linter.unusedSimpArgs false

theorem snocInd {motive : List PEnt → Prop} (h0 : motive []) (h1 : ∀ a e, motive a → motive (a ++ [e])) : ∀ P, motive P := by
  intro P
  rw [← List.reverse_reverse P]
  generalize P.reverse = R
  induction R with
  | nil => exact h0
  | cons e r ih => rw [List.reverse_cons]; exact h1 _ _ ih
/-- What is behind the last mark. -/
def lp (P : List PEnt) : List PEnt := (P.reverse.takeWhile (fun e => !e.mr)).reverse
theorem lp_snoc (a : List PEnt) (e : PEnt) : lp (a ++ [e]) = if e.mr then [] else lp a ++ [e] := by
  unfold lp
  rw [List.reverse_append, List.reverse_singleton, List.singleton_append, List.takeWhile_cons]
  cases e.mr <;> simp
theorem firstP_snoc (a : List PEnt) (e : PEnt) : firstP (a ++ [e]) = if e.mr then a.length + 1 else firstP a := by
  unfold firstP
  rw [lastP_app]
  cases e.mr <;> simp <;> omega
theorem lp_nil : lp [] = [] := rfl
theorem lp_len (P : List PEnt) : firstP P + (lp P).length = P.length := by
  induction P using snocInd with
  | h0 => rfl
  | h1 a e ih =>
    rw [lp_snoc, firstP_snoc, List.length_append, List.length_singleton]
    cases e.mr <;> simp <;> omega
theorem lp_drop (P : List PEnt) : P.drop (firstP P) = lp P := by
  induction P using snocInd with
  | h0 => rfl
  | h1 a e ih =>
    have hl := lp_len a
    rw [lp_snoc, firstP_snoc]
    cases e.mr with
    | true => simp
    | false =>
      simp only [Bool.false_eq_true, if_false]
      rw [List.drop_append_of_le_length (by omega), ih]
theorem lp_clean (P : List PEnt) : ∀ e ∈ lp P, e.mr = false := by
  induction P using snocInd with
  | h0 => intro e h; cases h
  | h1 a x ih =>
    intro e h
    rw [lp_snoc] at h
    cases hx : x.mr with
    | true => rw [hx] at h; simp at h
    | false =>
      rw [hx] at h
      simp only [Bool.false_eq_true, if_false, List.mem_append, List.mem_singleton] at h
      rcases h with h | rfl
      · exact ih e h
      · exact hx
theorem lp_app (A : List PEnt) : ∀ B : List PEnt, (∀ e ∈ B, e.mr = false) → lp (A ++ B) = lp A ++ B := by
  intro B
  induction B using snocInd with
  | h0 => intro _; simp
  | h1 b x ih =>
    intro h
    rw [← List.append_assoc, lp_snoc, ih (fun e he => h e (by simp [he])), h x (by simp)]
    simp
theorem lp_head (P : List PEnt) : lp (P.take (firstP P)) = [] := by
  have h1 : P.take (firstP P) ++ lp P = P := by rw [← lp_drop]; exact List.take_append_drop _ _
  have h2 := lp_app (P.take (firstP P)) (lp P) (lp_clean P)
  rw [h1] at h2
  have h3 := congrArg List.length h2
  rw [List.length_append] at h3
  exact List.eq_nil_of_length_eq_zero (by omega)
theorem lp_erase (P : List PEnt) (i : Nat) (hi : firstP P ≤ i) : lp (P.eraseIdx i) = (lp P).eraseIdx (i - firstP P) := by
  have h1 : P.take (firstP P) ++ lp P = P := by rw [← lp_drop]; exact List.take_append_drop _ _
  have hl := lp_len P
  have ht : (P.take (firstP P)).length = firstP P := by rw [List.length_take]; omega
  have h2 : P.eraseIdx i = P.take (firstP P) ++ (lp P).eraseIdx (i - firstP P) := by
    have := List.eraseIdx_append_of_length_le (l := P.take (firstP P)) (k := i) (by omega) (lp P)
    rw [h1, ht] at this
    exact this
  rw [h2, lp_app _ _ (fun e he => lp_clean P e (List.mem_of_mem_eraseIdx he)), lp_head, List.nil_append]
theorem count_erase (g : PEnt → Bool) (B : List PEnt) (j : Nat) (hj : j < B.length) : (B.eraseIdx j).countP g + (if g (B.getD j p0) then 1 else 0) = B.countP g := by
  have hb : B = B.take j ++ B[j] :: B.drop (j + 1) := by rw [← List.drop_eq_getElem_cons hj, List.take_append_drop]
  have hg : B.getD j p0 = B[j] := by rw [List.getD, List.getElem?_eq_getElem hj]; rfl
  rw [List.eraseIdx_eq_take_drop_succ, hg]
  conv => rhs; rw [hb]
  rw [List.countP_append, List.countP_append, List.countP_cons]
  omega
theorem plcK_len (g : PEnt → Bool) (P : List PEnt) : ∀ m i, i + m = P.length → (plcK (fun k => g (P.getD k p0)) m i).length = (P.drop i).countP g
  | 0, i, h => by rw [List.drop_eq_nil_of_le (by omega)]; rfl
  | m + 1, i, h => by
    have hi : i < P.length := by omega
    have hg : P.getD i p0 = P[i] := by rw [List.getD, List.getElem?_eq_getElem hi]; rfl
    unfold plcK
    rw [List.drop_eq_getElem_cons hi, List.countP_cons, hg]
    cases hq : g P[i] with
    | true => rw [if_pos rfl, if_pos rfl, List.length_cons, plcK_len g P m (i + 1) (by omega)]
    | false => rw [if_neg (by decide), if_neg (by decide), plcK_len g P m (i + 1) (by omega)]; rfl
theorem plcK_fst (fb : Nat → Bool) : ∀ m i, 0 < (plcK fb m i).length → fb ((plcK fb m i).getD 0 0) = true
  | 0, i, h => by simp [plcK] at h
  | m + 1, i, h => by
    unfold plcK at h ⊢
    cases hq : fb i with
    | true => simp [hq]
    | false =>
      rw [hq] at h
      simp only [Bool.false_eq_true, if_false] at h ⊢
      exact plcK_fst fb m (i + 1) h
theorem sames_len (x : PEnt) (P : List PEnt) : (samesP x P).length = (lp P).countP (al x) := by
  have hl := lp_len P
  unfold samesP
  rw [← lp_drop]
  exact plcK_len (al x) P _ _ (by omega)
/-- Never more than three that are alike stand in the last part. -/
def Ark (P : List PEnt) : Prop := ∀ y, (lp P).countP (al y) ≤ 3
theorem ark_nil : Ark [] := fun y => by rw [lp_nil]; simp
theorem ark_mark (P : List PEnt) : Ark (P ++ [pMk]) := fun y => by rw [lp_snoc]; simp [pMk]
theorem ark_add (x : PEnt) (P : List PEnt) (h : Ark P) : Ark (addP x P) := by
  unfold addP
  split
  · exact h
  · rename_i hel
    split
    · exact h
    · have hx : x.mr = false := by
        cases hm : x.mr with
        | false => rfl
        | true => unfold isElP at hel; rw [hm] at hel; simp at hel
      have key : ∀ P1, (lp P1).countP (al x) ≤ 2 → (∀ y, (lp P1).countP (al y) ≤ 3) → Ark (P1 ++ [x]) := by
        intro P1 h2 h3 y
        rw [lp_snoc, hx]
        simp only [Bool.false_eq_true, if_false, List.countP_append, List.countP_singleton]
        cases hy : al y x with
        | true =>
          have he : al y = al x := funext fun e => al_eq hy e
          rw [he]; simp; omega
        | false => simp; exact h3 y
      split
      · rename_i hs
        rw [sames_len] at hs
        exact key P (by omega) h
      · rename_i hs
        have hs2 := hs
        rw [sames_len] at hs2
        have hlen := lp_len P
        have hmem : firstP P ≤ (samesP x P).getD 0 0 ∧ (samesP x P).getD 0 0 < firstP P + (P.length - firstP P) := by
          have hm : (samesP x P).getD 0 0 ∈ samesP x P := by
            rw [List.getD, List.getElem?_eq_getElem (by omega)]
            exact List.getElem_mem _
          exact plcK_mem _ _ _ _ hm
        have hfst : al x (P.getD ((samesP x P).getD 0 0) p0) = true := plcK_fst _ _ _ (by
          have : 0 < (samesP x P).length := by omega
          exact this)
        generalize (samesP x P).getD 0 0 = i at *
        have hget : (lp P).getD (i - firstP P) p0 = P.getD i p0 := by
          rw [← lp_drop]
          simp only [List.getD, List.getElem?_drop]
          rw [show firstP P + (i - firstP P) = i by omega]
        have hce := fun g => count_erase g (lp P) (i - firstP P) (by omega)
        have h3 := h x
        refine key _ ?_ (fun y => ?_)
        · rw [lp_erase P i hmem.1]
          have := hce (al x)
          rw [hget, hfst] at this
          simp at this
          omega
        · rw [lp_erase P i hmem.1]
          have := hce (al y)
          have := h y
          split at * <;> omega
/-- What the statement counts. -/
def tellN (x : PEnt) (P : List PEnt) : Nat → Nat
  | 0 => 0
  | k + 1 => if (P.getD k p0).mr then 0 else if al (P.getD k p0) x then tellN x P k + 1 else tellN x P k
theorem tellN_le (x : PEnt) (P : List PEnt) (k : Nat) : tellN x P k ≤ k := by
  induction k with
  | zero => exact Nat.le_refl _
  | succ k ih => unfold tellN; split; omega; split <;> omega
theorem tellN_take (x : PEnt) (P : List PEnt) : ∀ k, k ≤ P.length → tellN x P k = (lp (P.take k)).countP (al x)
  | 0, _ => by simp [tellN, lp_nil]
  | k + 1, h => by
    have hk : k < P.length := by omega
    have ht : P.take (k + 1) = P.take k ++ [P.getD k p0] := takeP_push P k hk
    unfold tellN
    rw [ht, lp_snoc, tellN_take x P k (by omega)]
    cases (P.getD k p0).mr with
    | true => simp
    | false =>
      simp only [Bool.false_eq_true, if_false, List.countP_append, List.countP_singleton]
      rw [al_symm (P.getD k p0) x]
      split <;> simp
theorem tellN_three (x : PEnt) (P : List PEnt) (h : Ark P) : tellN x P P.length ≤ 3 := by
  rw [tellN_take x P _ (Nat.le_refl _), List.take_length]
  exact h x
end Go.Proofs.Ytabajhbghjfhoaa
