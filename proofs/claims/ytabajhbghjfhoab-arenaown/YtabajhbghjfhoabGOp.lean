/-
  What an arena's New, element, loose, Parent and inside do.
-/
import Derived.Test.YtabajhbghjfhoabGPl
namespace Go.Proofs.Ytabajhbghjfhoab
open Go.RowKit
set_option linter.unusedVariables false
set_option linter.unusedSimpArgs false

def rootN : NEnt := ⟨1, 0, ⟨#[]⟩, s0, s0, -1, s0⟩
set_option maxHeartbeats 1000000 in
set_option maxRecDepth 100000 in
theorem anew_any (base : Nat) (w : World) (hb : base ≤ w.heap.size) : Calls Try.prog 9 #[] w fun e w' => ∃ v, e = .returned (ptr (w.heap.size + 1)) ∧ Arn base (w.heap.size + 1) v [rootN] w' ∧ Below w.heap.size w w' := by
  have b1 : Below w.heap.size w (w.alloc (Obj.cells #[.int .i64 1, .int .i64 0, .string ⟨#[]⟩, .slice none 0 0, .slice none 0 0, .int .i64 (-1), .slice none 0 0] 65)) := (Below.refl _ _).alloc (Nat.le_refl _) _
  have hrow : (w.alloc (Obj.cells #[.int .i64 1, .int .i64 0, .string ⟨#[]⟩, .slice none 0 0, .slice none 0 0, .int .i64 (-1), .slice none 0 0] 65)).ownsRow base 65 7 (.slice (some ⟨w.heap.size, 0, none⟩) 1 1) 1 (flatN [rootN]) := by
    refine ⟨rfl, .inr ⟨w.heap.size, 1, _, rfl, hb, Blk.new w _ _, by omega, by simp [maxLen], rfl, rfl⟩⟩
  have HR := hide hrow
  have HB := hide b1
  clear hrow b1
  go_enter Try.func9, Try.ntmps9
  go_wp2
  go_ret
  refine ⟨.slice (some ⟨w.heap.size, 0, none⟩) 1 1, by simp [ptr], ⟨?_, ?_, by simp [Value.ownBlock]⟩, ?_⟩
  · exact Eq.mp (by simp) (Blk.new (w.alloc (Obj.cells #[.int .i64 1, .int .i64 0, .string ⟨#[]⟩, .slice none 0 0, .slice none 0 0, .int .i64 (-1), .slice none 0 0] 65)) #[.slice (some ⟨w.heap.size, 0, none⟩) 1 1] 68)
  · exact ownsRow_below (unhide HR) ((Below.refl _ _).alloc (Nat.le_refl _) _)
  · exact (unhide HB).alloc (by simp) _

def elemB (L : List NEnt) (id : Int) : Bool := hasB id L.length && ((L.getD id.toNat n0).kd == 1)
set_option maxHeartbeats 1000000 in
theorem element_any (base p : Nat) (v : Value) (L : List NEnt) (id : Int) (w : World) (h : Arn base p v L w) :
    Calls Try.prog 45 #[ptr p, .int .i64 id] w fun e w' => e = .returned (.bool (elemB L id)) ∧ w' = w := by
  have C := hide (has_any base p v L id w h)
  unfold elemB
  cases hh : hasB id L.length with
  | false =>
    rw [hh] at C
    rw [Bool.false_and]
    clear h hh
    unfold ptr at *
    go_enter Try.func45, Try.ntmps45
    go_wp2_with fail
    refine (unhide C).mono ?_
    rintro e w1 ⟨rfl, hw1⟩
    obtain rfl : w = w1 := hw1.symm
    go_wp2
    go_ret
    exact ⟨rfl, rfl⟩
  | true =>
    rw [hh] at C
    rw [Bool.true_and]
    obtain ⟨i, rfl, hi⟩ := hasB_of hh
    obtain ⟨g, cap, rfl, hc, hm, hgl, _, c0, hn⟩ := h.open (by omega)
    have c1 := (hn i hi).kd
    have hii : (i : Int) < (L.length : Int) := by omega
    rw [Int.toNat_natCast]
    generalize (L.getD i n0).kd = kd at *
    generalize L.length = n at *
    clear h hh hn
    unfold ptr at *
    go_enter Try.func45, Try.ntmps45
    go_wp2_with fail
    refine (unhide C).mono ?_
    rintro e w1 ⟨rfl, hw1⟩
    obtain rfl : w = w1 := hw1.symm
    go_wp2
    go_ret
    exact ⟨rfl, rfl⟩
theorem element_nil (id : Int) (w : World) : Calls Try.prog 45 #[.pointer none, .int .i64 id] w fun e w' => e = .returned (.bool false) ∧ w' = w := by
  have C := hide (has_nil id w)
  go_enter Try.func45, Try.ntmps45
  go_wp2_with fail
  refine (unhide C).mono ?_
  rintro e w1 ⟨rfl, hw1⟩
  obtain rfl : w = w1 := hw1.symm
  go_wp2
  go_ret
  exact ⟨rfl, rfl⟩

set_option maxHeartbeats 1000000 in
theorem loose_any (base p i : Nat) (v : Value) (L : List NEnt) (w : World) (h : Arn base p v L w) (hi : i < L.length) :
    Calls Try.prog 46 #[ptr p, .int .i64 (i : Int)] w fun e w' => e = .returned (.bool (decide (i ≠ 0) && ((L.getD i n0).pr == -1))) ∧ w' = w := by
  obtain ⟨g, cap, rfl, hc, hm, hgl, _, c0, hn⟩ := h.open (by omega)
  have c1 := (hn i hi).pr
  have hii : (i : Int) < (L.length : Int) := by omega
  generalize (L.getD i n0).pr = pr at *
  generalize L.length = n at *
  clear h hn
  unfold ptr at *
  by_cases h0 : i = 0
  · subst h0
    rw [decide_eq_false (by simp), Bool.false_and]
    go_enter Try.func46, Try.ntmps46
    go_wp2
    go_ret
    exact ⟨rfl, rfl⟩
  · have h1 : ((i : Int) == 0) = false := by apply beq_eq_false_iff_ne.2; omega
    have h2 : ((i : Int) != 0) = true := by simp; exact h0
    rw [decide_eq_true h0, Bool.true_and]
    go_enter Try.func46, Try.ntmps46
    go_wp2
    go_ret
    exact ⟨rfl, rfl⟩

def hasPr (L : List NEnt) (id : Int) : Bool := hasB id L.length && !((L.getD id.toNat n0).pr == -1)
def prOf (L : List NEnt) (id : Int) : Int := if hasPr L id then (L.getD id.toNat n0).pr else 0
set_option maxHeartbeats 1000000 in
theorem parent_no (q : Value) (id : Int) (w : World) (C : Hid (Calls Try.prog 39 #[q, .int .i64 id] w fun e w' => e = .returned (.bool false) ∧ w' = w)) :
    Calls Try.prog 15 #[q, .int .i64 id] w fun e w' => e = .returned (.tuple #[.int .i64 0, .bool false]) ∧ w' = w := by
  go_enter Try.func15, Try.ntmps15
  go_wp2_with fail
  refine (unhide C).mono ?_
  rintro e w1 ⟨rfl, hw1⟩
  obtain rfl : w = w1 := hw1.symm
  go_wp2
  go_ret2
  exact ⟨rfl, rfl⟩
set_option maxHeartbeats 1000000 in
theorem parent_any (base p : Nat) (v : Value) (L : List NEnt) (id : Int) (w : World) (h : Arn base p v L w) :
    Calls Try.prog 15 #[ptr p, .int .i64 id] w fun e w' => e = .returned (.tuple #[.int .i64 (prOf L id), .bool (hasPr L id)]) ∧ w' = w := by
  have C := hide (has_any base p v L id w h)
  cases hh : hasB id L.length with
  | false =>
    rw [hh] at C
    have e1 : hasPr L id = false := by unfold hasPr; rw [hh, Bool.false_and]
    have e2 : prOf L id = 0 := by unfold prOf; rw [e1]; rfl
    rw [e1, e2]
    exact parent_no _ id w C
  | true =>
    rw [hh] at C
    obtain ⟨i, rfl, hi⟩ := hasB_of hh
    obtain ⟨g, cap, rfl, hc, hm, hgl, _, c0, hn⟩ := h.open (by omega)
    have c1 := (hn i hi).pr
    have hii : (i : Int) < (L.length : Int) := by omega
    unfold prOf hasPr
    rw [hh, Bool.true_and, Int.toNat_natCast]
    generalize (L.getD i n0).pr = pr at *
    generalize L.length = n at *
    clear h hh hn
    unfold ptr at *
    cases hp : (pr == -1) with
    | true =>
      rw [Bool.not_true, if_neg (by simp)]
      go_enter Try.func15, Try.ntmps15
      go_wp2_with fail
      refine (unhide C).mono ?_
      rintro e w1 ⟨rfl, hw1⟩
      obtain rfl : w = w1 := hw1.symm
      go_wp2
      go_ret2
      exact ⟨rfl, rfl⟩
    | false =>
      rw [Bool.not_false, if_pos rfl]
      go_enter Try.func15, Try.ntmps15
      go_wp2_with fail
      refine (unhide C).mono ?_
      rintro e w1 ⟨rfl, hw1⟩
      obtain rfl : w = w1 := hw1.symm
      go_wp2
      go_ret2
      exact ⟨rfl, rfl⟩
theorem parent_nil (id : Int) (w : World) : Calls Try.prog 15 #[.pointer none, .int .i64 id] w fun e w' => e = .returned (.tuple #[.int .i64 0, .bool false]) ∧ w' = w := parent_no _ id w (hide (has_nil id w))
end Go.Proofs.Ytabajhbghjfhoab
