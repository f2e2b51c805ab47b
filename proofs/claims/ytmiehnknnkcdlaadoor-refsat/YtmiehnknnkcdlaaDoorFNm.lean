/-
  What the reference's Number does.
-/
import Derived.Test.YtmiehnknnkcdlaaDoorENm
import Derived.Test.YtmiehnknnkcdlaaDoorRChr
import Derived.Laws.IdiomStrings
namespace Go.Proofs.YtmiehnknnkcdlaaDoor
open Go.RowKit
set_option linter.unusedVariables false

def toT : List Int := [8364, 129, 8218, 402, 8222, 8230, 8224, 8225, 710, 8240, 352, 8249, 338, 141, 381, 143, 144, 8216, 8217, 8220, 8221, 8226, 8211, 8212, 732, 8482, 353, 8250, 339, 157, 382, 376]
theorem to_num : ∀ k, k < 32 → toT.getD k 0 = numC ((128 + k : Nat) : Int) := by decide

set_option maxHeartbeats 1000000 in
theorem rnumber_any (n : Int) (w : World) :
    Calls Tryd.prog 17 #[.int .i64 n] w fun e w' => e = .returned (.int .i64 (numC n)) ∧ Below w.heap.size w w' := by
  have C := hide (rIs_any n)
  by_cases h0 : n < 1
  · rw [numC_no (.inl (by omega))]
    go_enter Tryd.func17, Tryd.ntmps17
    go_wp2
    go_ret
    exact ⟨rfl, Below.refl _ _⟩
  cases hc : isC n with
  | false =>
    rw [numC_no (.inr hc)]
    rw [hc] at C
    clear hc
    go_enter Tryd.func17, Tryd.ntmps17
    go_wp2_with fail
    refine (unhide C _).mono ?_
    rintro e w1 ⟨rfl, rfl⟩
    go_wp2
    go_ret
    exact ⟨rfl, Below.refl _ _⟩
  | true =>
    rw [hc] at C
    by_cases h1 : n < 128
    · rw [numC_self (by omega) hc (by omega)]
      clear hc
      go_enter Tryd.func17, Tryd.ntmps17
      go_wp2_with fail
      refine (unhide C _).mono ?_
      rintro e w1 ⟨rfl, rfl⟩
      go_wp2
      go_ret
      exact ⟨rfl, Below.refl _ _⟩
    by_cases h2 : 159 < n
    · rw [numC_self (by omega) hc (by omega)]
      clear hc
      go_enter Tryd.func17, Tryd.ntmps17
      go_wp2_with fail
      refine (unhide C _).mono ?_
      rintro e w1 ⟨rfl, rfl⟩
      go_wp2
      go_ret
      exact ⟨rfl, Below.refl _ _⟩
    · obtain ⟨j, hj⟩ : ∃ j : Nat, n = ((128 + j : Nat) : Int) := ⟨(n - 128).toNat, by omega⟩
      have hj32 : j < 32 := by omega
      have ht := to_num j hj32
      rw [← hj] at ht
      rw [← ht]
      have hjn : (n - 128).toNat = j := by omega
      have i0 : 0 ≤ n - 128 := by omega
      have i1 : n - 128 < 32 := by omega
      have cc : ∀ w : World, (w.alloc (.cells (toT.map (Value.int .i64)).toArray 3)).cell? ⟨w.heap.size, j, none⟩ = some (.int .i64 (toT.getD j 0)) := by
        intro w
        rw [World.cell?_alloc_mark]
        have hl : j < toT.length := hj32
        simp [List.getD, List.getElem?_eq_getElem hl]
      have hr2 : toT[j]'hj32 = toT.getD j 0 := by
        have hl : j < toT.length := hj32
        rw [List.getD, List.getElem?_eq_getElem hl]; rfl
      have HR := hide hr2
      have c1 := cc w
      simp only [toT, List.map_cons, List.map_nil] at c1
      clear hc ht hj cc h1 h2 h0 hr2
      go_enter Tryd.func17, Tryd.ntmps17
      go_wp2_with fail
      refine (unhide C _).mono ?_
      rintro e w1 ⟨rfl, rfl⟩
      go_wp2
      go_ret
      exact ⟨congrArg (fun x => Ending.returned (.int .i64 x)) (unhide HR), (Below.refl _ _).alloc (Nat.le_refl _) _⟩
end Go.Proofs.YtmiehnknnkcdlaaDoor
