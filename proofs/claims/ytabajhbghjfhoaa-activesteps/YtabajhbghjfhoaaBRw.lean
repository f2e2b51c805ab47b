/-
  What the reference's Add counts, by places.
-/
import Derived.Test.YtabajhbghjfhoaaBRv
namespace Go.Proofs.Ytabajhbghjfhoaa
open Go.RowKit
set_option linter.unusedVariables false
set_option linter.unusedSimpArgs false

def headI (l : List Nat) (d : Int) : Int := match l with
  | [] => d
  | i :: _ => (i : Int)
theorem adN_plc (f : Nat → Bool) (pt : Nat) (L : List AEnt) : ∀ (m k : Nat) (a : Int × Int), k + m = L.length → pt ≤ k →
    adN f pt (L.drop k) k a = (a.1 + ((plcK (fun i => f i) m k).length : Int), if a.2 < 0 then headI (plcK (fun i => f i) m k) a.2 else a.2)
  | 0, k, a, hk, hp => by
    rw [List.drop_eq_nil_of_le (by omega), adN, plcK]
    simp [headI]
  | m + 1, k, a, hk, hp => by
    have hpi : (pt : Int) ≤ (k : Int) := by omega
    rw [adN_step f pt L k a (by omega), decide_eq_true hpi, Bool.true_and, plcK, adN_plc f pt L m (k + 1) _ (by omega) (by omega)]
    cases hf : f k with
    | true =>
      simp only [if_true]
      have hk0 : ¬ (k : Int) < 0 := by omega
      by_cases h2 : a.2 < 0
      · simp only [h2, if_true, hk0, if_false, headI, List.length_cons]
        refine Prod.ext ?_ rfl
        simp only [Int.natCast_add, Int.natCast_one]; omega
      · simp only [h2, if_false, List.length_cons]
        refine Prod.ext ?_ rfl
        simp only [Int.natCast_add, Int.natCast_one]; omega
    | false => simp
theorem adN_skip (f : Nat → Bool) (pt : Nat) (L : List AEnt) (a : Int × Int) (hp : pt ≤ L.length) : ∀ (d k : Nat), k + d = pt → adN f pt (L.drop k) k a = adN f pt (L.drop pt) pt a
  | 0, k, h => by rw [show k = pt by omega]
  | d + 1, k, h => by
    have hpi : ¬ (pt : Int) ≤ (k : Int) := by omega
    rw [adN_step f pt L k a (by omega), decide_eq_false hpi, Bool.false_and, if_neg (by simp), adN_skip f pt L a hp d (k + 1) (by omega)]
theorem adN_eq (f : Nat → Bool) (pt : Nat) (L : List AEnt) (hp : pt ≤ L.length) : adN f pt L 0 (0, -1) = (((plcK (fun i => f i) (L.length - pt) pt).length : Int), headI (plcK (fun i => f i) (L.length - pt) pt) (-1)) := by
  have h1 := adN_skip f pt L (0, -1) hp pt 0 (by omega)
  rw [List.drop_zero] at h1
  rw [h1, adN_plc f pt L (L.length - pt) pt (0, -1) (by omega) (Nat.le_refl _)]
  simp
/-- The reference's Add leaves what the program's leaves. -/
theorem addG_eq (f : Nat → Bool) (pt : Nat) (L : List AEnt) (x : AEnt) (hp : pt ≤ L.length) (l : List Nat) (hl : plcK (fun i => f i) (L.length - pt) pt = l) : addG f pt L x = (if l.length < 3 then L else L.eraseIdx (l.getD 0 0)) ++ [x] := by
  unfold addG
  rw [adN_eq f pt L hp, hl]
  dsimp only
  by_cases h : l.length < 3
  · rw [if_neg (by omega), if_pos h]
  · rw [if_pos (by omega), if_neg h]
    cases l with
    | nil => simp at h
    | cons i r => simp [headI]
end Go.Proofs.Ytabajhbghjfhoaa
