/-
  Equal entries, as the statement asks: rectolaw10.alike; equal numbers: rectoplain.Ints.
-/
import Derived.Test.YtabajhbghjfhoaaAOw
import Derived.Test.YtabajhbghjfhoaaACv
import Derived.Test.YtabajhbghjfhoaaPAt
namespace Go.Proofs.Ytabajhbghjfhoaa
open Go.RowKit
set_option linter.unusedVariables false
set_option linter.unusedSimpArgs false

theorem AtsV.sl {q : Option Addr} {n : Nat} {ats : List (ByteArray × ByteArray)} {w : World} (h : AtsV q n ats w) : Sl q ats w := by
  obtain ⟨h1, h2, h3, h4⟩ := h
  rcases h4 with h0 | h
  · exact Or.inl (List.eq_nil_of_length_eq_zero (by omega))
  · exact Or.inr h
theorem attrs_same (qa qb : Option Addr) (na nb ca cb : Nat) (ats : List (ByteArray × ByteArray)) (w : World) (ha : AtsV qa na ats w) (hb : AtsV qb nb ats w) :
    Calls Try.prog 69 #[.slice qa na ca, .slice qb nb cb] w fun e w' => e = .returned (.bool true) ∧ Below w.heap.size w w' := by
  have h := attrs_any qa qb ca cb ats ats w ha.sl hb.sl (by have := ha.1; have := ha.2.1; omega) (by have := ha.1; have := ha.2.1; omega)
  rw [show sameA ats ats = true from decide_eq_true rfl] at h
  rw [ha.1, hb.1]
  exact h
set_option maxHeartbeats 2000000 in
set_option maxRecDepth 100000 in
theorem same_entry (xm : Bool) (xi : Int) (xn : ByteArray) (qa qb : Option Addr) (na nb ca cb : Nat) (ats : List (ByteArray × ByteArray)) (w : World) (ha : AtsV qa na ats w) (hb : AtsV qb nb ats w) :
    Calls Try.prog 26 #[.agg #[.bool xm, .int .i64 xi, .string xn, .slice qa na ca], .agg #[.bool xm, .int .i64 xi, .string xn, .slice qb nb cb]] w fun e w' => e = .returned (.bool true) ∧ Below w.heap.size w w' := by
  have CA := hide (fun W hx hy => attrs_same qa qb na nb ca cb ats W hx hy)
  have HA := hide ha
  have HB := hide hb
  have e1 : (xm == xm) = true := by simp
  have e2 : (xi == xi) = true := by simp
  have e3 : (xn.toList == xn.toList) = true := by simp
  have b2 : Below w.heap.size w ((w.alloc (Obj.cells #[.bool xm, .int .i64 xi, .string xn, .slice qa na ca] 58)).alloc (Obj.cells #[.bool xm, .int .i64 xi, .string xn, .slice qb nb cb] 65)) := ((Below.refl _ _).alloc (Nat.le_refl _) _).alloc (by simp) _
  have HB2 := hide b2
  clear ha hb b2
  go_enter Try.func26, Try.ntmps26
  go_wp2_with fail
  refine (unhide CA _ ((unhide HA).below (unhide HB2)) ((unhide HB).below (unhide HB2))).mono ?_
  rintro e w1 ⟨rfl, hb1⟩
  have HB3 := hide (tr2 (unhide HB2) hb1)
  clear hb1
  go_wp2
  go_ret
  exact ⟨rfl, unhide HB3⟩

set_option maxHeartbeats 2000000 in
set_option maxRecDepth 100000 in
theorem ints_loop (x y n ca cb f : Nat) (w : World) (h0 : 0 < n) (hn : n ≤ 1000000) (hx : ∀ k, k < n → w.cell? ⟨x, k, none⟩ = some (.int .i64 ((f + k : Nat) : Int))) (hy : ∀ k, k < n → w.cell? ⟨y, k, none⟩ = some (.int .i64 ((f + k : Nat) : Int))) :
    Calls Try.prog 29 #[.slice (some ⟨x, 0, none⟩) n ca, .slice (some ⟨y, 0, none⟩) n cb] w fun e w' => e = .returned (.bool true) ∧ Below w.heap.size w w' := by
  have HX := hide hx
  have HY := hide hy
  clear hx hy
  go_enter Try.func29, Try.ntmps29
  go_wp2
  go_loopw [8] (fun i wr => ∃ k : Nat, k ≤ n ∧ i = .int .i64 k ∧ Below w.heap.size w wr) (fun i _ => n - (intOf i).toNat)
  case atStart => exact ⟨0, Nat.zero_le _, rfl, Below.refl _ _⟩
  case round =>
    obtain ⟨k, hk, rfl, hbw⟩ := hrel
    have HB := hide hbw
    by_cases hlt : k < n
    · have hlti : (k : Int) < (n : Int) := by omega
      have hg : decide ((n : Int) ≤ (k : Int)) = false := by simp; omega
      have c1 := cell_later hbw (unhide HX k hlt)
      have c2 := cell_later hbw (unhide HY k hlt)
      generalize ((f + k : Nat) : Int) = z at c1 c2
      have e1 : (z == z) = true := by simp
      have e2 : (z != z) = false := by simp
      clear hbw
      go_wp2
      go_quiet (fail)
      go_wp2
      refine ⟨⟨k + 1, by omega, by go_num, _root_.Go.below_drewN (unhide HB) _⟩, by simp [intOf]; omega⟩
    · have hkn : n = k := by omega
      subst hkn
      have hlti : ¬ (n : Int) < (n : Int) := by omega
      have e1 : ((n : Int) == (n : Int)) = true := by simp
      clear hlt hbw
      go_wp2
      go_ret
      exact ⟨rfl, unhide HB⟩
set_option maxHeartbeats 1000000 in
theorem ints_zero (q q2 : Option Addr) (ca cb : Nat) (w : World) :
    Calls Try.prog 29 #[.slice q 0 ca, .slice q2 0 cb] w fun e w' => e = .returned (.bool true) ∧ Below w.heap.size w w' := by
  go_enter Try.func29, Try.ntmps29
  go_wp2
  refine wp_loop_rounds 1 ?_
  rw [rounds_succ]; go_wp2
  go_ret
  exact ⟨rfl, Below.refl _ _⟩
theorem row_ints {base g n cap f : Nat} {t : TypeId} {w : World} (h : w.ownsRow base t 1 (.slice (some ⟨g, 0, none⟩) n cap) n (upFrom f n)) (k : Nat) (hk : k < n) : w.cell? ⟨g, k, none⟩ = some (.int .i64 ((f + k : Nat) : Int)) := by
  rcases h.2 with ⟨h1, h2⟩ | ⟨g', cap', cur, h1, _, hc, _, _, hsz, ht⟩
  · cases h1
  · injection h1 with h1 _ h3
    injection h1 with h1
    injection h1 with h1 _
    subst h1
    have := upFrom_at f n k hk
    rw [← ht, List.getElem?_take_of_lt (by omega), Array.getElem?_toList] at this
    exact (Joins.cell_of_block hc k).trans this
theorem ints_same (base base2 : Nat) (v u : Value) (t t2 : TypeId) (f n : Nat) (w : World) (hn : n ≤ 1000000) (h : w.ownsRow base t 1 v n (upFrom f n)) (h2 : w.ownsRow base2 t2 1 u n (upFrom f n)) :
    Calls Try.prog 29 #[v, u] w fun e w' => e = .returned (.bool true) ∧ Below w.heap.size w w' := by
  by_cases h0 : n = 0
  · subst h0
    rcases h.2 with ⟨rfl, _⟩ | ⟨g, cap, cur, rfl, _⟩ <;> rcases h2.2 with ⟨rfl, _⟩ | ⟨g2, cap2, cur2, rfl, _⟩ <;> exact ints_zero _ _ _ _ w
  · rcases h.2 with ⟨rfl, hz⟩ | ⟨g, cap, cur, rfl, _⟩
    · omega
    · rcases h2.2 with ⟨rfl, hz⟩ | ⟨g2, cap2, cur2, rfl, _⟩
      · omega
      · exact ints_loop g g2 n cap cap2 f w (by omega) hn (row_ints h) (row_ints h2)
end Go.Proofs.Ytabajhbghjfhoaa
