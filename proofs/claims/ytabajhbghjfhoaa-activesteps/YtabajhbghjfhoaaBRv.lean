/-
  The reference's Last is the program's.
-/
import Derived.Test.YtabajhbghjfhoaaBRt
namespace Go.Proofs.Ytabajhbghjfhoaa
open Go.RowKit
set_option linter.unusedVariables false
set_option linter.unusedSimpArgs false

theorem plI_snoc (f : Nat → AEnt → Bool) (L : List AEnt) (x : AEnt) (k : Nat) (a : Int) : plI f (L ++ [x]) k a = if f (k + L.length) x = true then ((k + L.length : Nat) : Int) else plI f L k a := by
  induction L generalizing k a with
  | nil => simp [plI]
  | cons y r ih =>
    rw [List.cons_append, plI, plI, ih, List.length_cons, show k + 1 + r.length = k + (r.length + 1) by omega]
theorem plI_none (nm : ByteArray) (pt : Int) (L : List AEnt) (k : Nat) (a : Int) (h : (k : Int) + L.length ≤ pt) : plI (rlB nm pt) L k a = a := by
  induction L generalizing k a with
  | nil => rfl
  | cons y r ih =>
    rw [List.length_cons] at h
    have hk : ¬ pt ≤ (k : Int) := by omega
    rw [plI, ih _ _ (by omega)]
    simp [rlB, hk]
/-- The last one of a name, as the program and as the reference tell it. -/
theorem last_tie (nm : ByteArray) (L : List AEnt) :
    plI (rlB nm (lastE (fun x => x.mr) L + 1)) L 0 (-1) = if 0 ≤ lastE (nameB nm) L ∧ (L.getD (lastE (nameB nm) L).toNat e0).mr = false then lastE (nameB nm) L else -1 := by
  induction h : L.length generalizing L with
  | zero => obtain rfl := List.eq_nil_of_length_eq_zero h; rfl
  | succ n ih =>
    obtain ⟨a, x, rfl⟩ := snoc_of L (by omega)
    have hl : a.length = n := by simp at h; exact h
    have ih := ih a hl
    have h1 := lastE_lt (fun x => x.mr) a
    have h2 := lastE_lt (nameB nm) a
    rw [plI_snoc, lastE_app, lastE_app, Nat.zero_add]
    have hg : (a ++ [x]).getD a.length e0 = x := by simp [List.getD]
    cases hm : x.mr with
    | true =>
      have hb : nameB nm x = true := by simp [nameB, hm]
      rw [if_pos rfl, if_pos hb, Int.toNat_natCast, hg, hm]
      rw [plI_none nm _ a 0 (-1) (by omega)]
      have hr : rlB nm ((a.length : Int) + 1) a.length x = false := by
        have : ¬ (a.length : Int) + 1 ≤ (a.length : Int) := by omega
        simp [rlB, this]
      rw [hr]
      simp
    | false =>
      have ht : ¬ (false = true) := by simp
      rw [if_neg ht]
      cases hb : (x.nm.toList == nm.toList) with
      | true =>
        have hn : nameB nm x = true := by simp [nameB, hm, hb]
        have hr : rlB nm (lastE (fun x => x.mr) a + 1) a.length x = true := by
          have : lastE (fun x => x.mr) a + 1 ≤ (a.length : Int) := by omega
          simp [rlB, hb, this]
        rw [if_pos hr, if_pos hn, Int.toNat_natCast, hg, hm, if_pos ⟨by omega, rfl⟩]
      | false =>
        have hn : nameB nm x = false := by simp [nameB, hm, hb]
        have hr : rlB nm (lastE (fun x => x.mr) a + 1) a.length x = false := by simp [rlB, hb]
        rw [hr, hn, if_neg ht, if_neg ht, ih]
        by_cases h0 : 0 ≤ lastE (nameB nm) a
        · have hlt : (lastE (nameB nm) a).toNat < a.length := by omega
          rw [show (a ++ [x]).getD (lastE (nameB nm) a).toNat e0 = a.getD (lastE (nameB nm) a).toNat e0 by simp [List.getD, List.getElem?_append_left hlt]]
        · rw [if_neg (fun h => h0 h.1), if_neg (fun h => h0 h.1)]
end Go.Proofs.Ytabajhbghjfhoaa
